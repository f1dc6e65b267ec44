/-
  DERIVED. GIVEN WITH THE SEED: THE CARDS: each row of YtdgficnpppilfaaDoorRows.lean that lists a variable, with what it lists TIED to the program's text (the seventh form; the later family's looks); each row that meets fmt, with fmt's text TOLD by the authors' own Lean function (tested against real Go, not proved from fmt's source: count such statements apart). THE CARD IS WHAT COUNTS. Prove the row's statement (the work); the ties are given (YtdgficnpppilfaaDoorTie.lean); close each card by the builder's one call (the guide's Derived/Test/ToyasCard.lean, 'card_holds'). Laid BY PROGRAM, IN A SANDBOX (cutbox-door.mjs). By AI agents, Wed Nov 11 2026. No macro, syntax, notation, axiom, sorry.
-/
import Derived.Test.YtdgficnpppilfaaDoorRows
import GoSem.ClaimSeven
namespace Go.Proofs.YtdgficnpppilfaaDoor
namespace Rows

/-- THE TIED CARD OF 'lotterylaw01.NumAdds'. -/
def numAddsCard : Claim7 := { stood := { row := numAddsRow, standIns := [], harness := (true, "df990982b9941820db2cf60c6bb5f07bb9ba75562e013d07874a283324ab980f"), looks := true }, kinds := [], alts := [], laidByText := true, laidKinds := [.data, .data, .data, .sentinel, .sentinel], laidTests := true, laidLooks := .later }
def NumAddsCardSaid : Prop := Claim7.holds Tryd.pinned (.plain (OpenSpec.ofChange numAddsSpec)) numAddsCard

/-- THE TIED CARD OF 'lotterylaw01.NumInverts'. -/
def numInvertsCard : Claim7 := { stood := { row := numInvertsRow, standIns := [], harness := (true, "df990982b9941820db2cf60c6bb5f07bb9ba75562e013d07874a283324ab980f"), looks := true }, kinds := [], alts := [], laidByText := true, laidKinds := [.data, .data, .data, .sentinel, .sentinel], laidTests := true, laidLooks := .later }
def NumInvertsCardSaid : Prop := Claim7.holds Tryd.pinned (.plain (OpenSpec.ofChange numInvertsSpec)) numInvertsCard

/-- THE TIED CARD OF 'lotterylaw01.NumMulDivs'. -/
def numMulDivsCard : Claim7 := { stood := { row := numMulDivsRow, standIns := [], harness := (true, "df990982b9941820db2cf60c6bb5f07bb9ba75562e013d07874a283324ab980f"), looks := true }, kinds := [], alts := [], laidByText := true, laidKinds := [.data, .data, .data, .sentinel, .sentinel], laidTests := true, laidLooks := .later }
def NumMulDivsCardSaid : Prop := Claim7.holds Tryd.pinned (.plain (OpenSpec.ofChange numMulDivsSpec)) numMulDivsCard

/-- THE TIED CARD OF 'lotterylaw01.NumDivides'. -/
def numDividesCard : Claim7 := { stood := { row := numDividesRow, standIns := [], harness := (true, "df990982b9941820db2cf60c6bb5f07bb9ba75562e013d07874a283324ab980f"), looks := true }, kinds := [], alts := [], laidByText := true, laidKinds := [.data, .data, .data, .sentinel, .sentinel], laidTests := true, laidLooks := .later }
def NumDividesCardSaid : Prop := Claim7.holds Tryd.pinned (.plain (OpenSpec.ofChange numDividesSpec)) numDividesCard

/-- THE TIED CARD OF 'lotterylaw01.NumPowers'. -/
def numPowersCard : Claim7 := { stood := { row := numPowersRow, standIns := [], harness := (true, "df990982b9941820db2cf60c6bb5f07bb9ba75562e013d07874a283324ab980f"), looks := true }, kinds := [], alts := [], laidByText := true, laidKinds := [.data, .data, .data, .sentinel, .sentinel], laidTests := true, laidLooks := .later }
def NumPowersCardSaid : Prop := Claim7.holds Tryd.pinned (.plain (OpenSpec.ofChange numPowersSpec)) numPowersCard

/-- THE TIED CARD OF 'lotterylaw01.NumPowersGrow'. -/
def numPowersGrowCard : Claim7 := { stood := { row := numPowersGrowRow, standIns := [], harness := (true, "df990982b9941820db2cf60c6bb5f07bb9ba75562e013d07874a283324ab980f"), looks := true }, kinds := [], alts := [], laidByText := true, laidKinds := [.data, .data, .data, .sentinel, .sentinel], laidTests := true, laidLooks := .later }
def NumPowersGrowCardSaid : Prop := Claim7.holds Tryd.pinned (.plain (OpenSpec.ofChange numPowersGrowSpec)) numPowersGrowCard

/-- THE TIED CARD OF 'lotterylaw01.NumGCDs'. -/
def numGCDsCard : Claim7 := { stood := { row := numGCDsRow, standIns := [], harness := (true, "df990982b9941820db2cf60c6bb5f07bb9ba75562e013d07874a283324ab980f"), looks := true }, kinds := [], alts := [], laidByText := true, laidKinds := [.data, .data, .data, .sentinel, .sentinel], laidTests := true, laidLooks := .later }
def NumGCDsCardSaid : Prop := Claim7.holds Tryd.pinned (.plain (OpenSpec.ofChange numGCDsSpec)) numGCDsCard

/-- THE TIED CARD OF 'lotterylaw01.NumParses'. -/
def numParsesCard : Claim7 := { stood := { row := numParsesRow, standIns := [], harness := (true, "df990982b9941820db2cf60c6bb5f07bb9ba75562e013d07874a283324ab980f"), looks := true }, kinds := [], alts := [], laidByText := true, laidKinds := [.data, .data, .data, .sentinel, .sentinel], laidTests := true, laidLooks := .later }
def NumParsesCardSaid : Prop := Claim7.holds Tryd.pinned (.plain (OpenSpec.ofChange numParsesSpec)) numParsesCard

/-- THE TIED CARD OF 'lotterylaw01.NumFormats'. -/
def numFormatsCard : Claim7 := { stood := { row := numFormatsRow, standIns := [], harness := (true, "df990982b9941820db2cf60c6bb5f07bb9ba75562e013d07874a283324ab980f"), looks := true }, kinds := [], alts := [], laidByText := true, laidKinds := [.data, .data, .data, .sentinel, .sentinel], laidTests := true, laidLooks := .later }
def NumFormatsCardSaid : Prop := Claim7.holds Tryd.pinned (.plain (OpenSpec.ofChange numFormatsSpec)) numFormatsCard

/-- THE SECOND FORM's CARD OF 'lotterylaw01.NumAdds'. -/
def numAddsUptoCard : Claim7 := { stood := { row := numAddsUptoRow, standIns := [], harness := (true, "df990982b9941820db2cf60c6bb5f07bb9ba75562e013d07874a283324ab980f"), looks := true }, kinds := [], alts := [], laidByText := true, laidKinds := [.data, .data, .data, .sentinel, .sentinel], laidTests := true, laidLooks := .later }
def NumAddsUptoCardSaid : Prop := Claim7.holds Tryd.pinned (.plain (OpenSpec.upto numAddsSpec)) numAddsUptoCard

/-- THE SECOND FORM's CARD OF 'lotterylaw01.NumInverts'. -/
def numInvertsUptoCard : Claim7 := { stood := { row := numInvertsUptoRow, standIns := [], harness := (true, "df990982b9941820db2cf60c6bb5f07bb9ba75562e013d07874a283324ab980f"), looks := true }, kinds := [], alts := [], laidByText := true, laidKinds := [.data, .data, .data, .sentinel, .sentinel], laidTests := true, laidLooks := .later }
def NumInvertsUptoCardSaid : Prop := Claim7.holds Tryd.pinned (.plain (OpenSpec.upto numInvertsSpec)) numInvertsUptoCard

/-- THE SECOND FORM's CARD OF 'lotterylaw01.NumMulDivs'. -/
def numMulDivsUptoCard : Claim7 := { stood := { row := numMulDivsUptoRow, standIns := [], harness := (true, "df990982b9941820db2cf60c6bb5f07bb9ba75562e013d07874a283324ab980f"), looks := true }, kinds := [], alts := [], laidByText := true, laidKinds := [.data, .data, .data, .sentinel, .sentinel], laidTests := true, laidLooks := .later }
def NumMulDivsUptoCardSaid : Prop := Claim7.holds Tryd.pinned (.plain (OpenSpec.upto numMulDivsSpec)) numMulDivsUptoCard

/-- THE SECOND FORM's CARD OF 'lotterylaw01.NumDivides'. -/
def numDividesUptoCard : Claim7 := { stood := { row := numDividesUptoRow, standIns := [], harness := (true, "df990982b9941820db2cf60c6bb5f07bb9ba75562e013d07874a283324ab980f"), looks := true }, kinds := [], alts := [], laidByText := true, laidKinds := [.data, .data, .data, .sentinel, .sentinel], laidTests := true, laidLooks := .later }
def NumDividesUptoCardSaid : Prop := Claim7.holds Tryd.pinned (.plain (OpenSpec.upto numDividesSpec)) numDividesUptoCard

/-- THE SECOND FORM's CARD OF 'lotterylaw01.NumPowers'. -/
def numPowersUptoCard : Claim7 := { stood := { row := numPowersUptoRow, standIns := [], harness := (true, "df990982b9941820db2cf60c6bb5f07bb9ba75562e013d07874a283324ab980f"), looks := true }, kinds := [], alts := [], laidByText := true, laidKinds := [.data, .data, .data, .sentinel, .sentinel], laidTests := true, laidLooks := .later }
def NumPowersUptoCardSaid : Prop := Claim7.holds Tryd.pinned (.plain (OpenSpec.upto numPowersSpec)) numPowersUptoCard

/-- THE SECOND FORM's CARD OF 'lotterylaw01.NumPowersGrow'. -/
def numPowersGrowUptoCard : Claim7 := { stood := { row := numPowersGrowUptoRow, standIns := [], harness := (true, "df990982b9941820db2cf60c6bb5f07bb9ba75562e013d07874a283324ab980f"), looks := true }, kinds := [], alts := [], laidByText := true, laidKinds := [.data, .data, .data, .sentinel, .sentinel], laidTests := true, laidLooks := .later }
def NumPowersGrowUptoCardSaid : Prop := Claim7.holds Tryd.pinned (.plain (OpenSpec.upto numPowersGrowSpec)) numPowersGrowUptoCard

/-- THE SECOND FORM's CARD OF 'lotterylaw01.NumGCDs'. -/
def numGCDsUptoCard : Claim7 := { stood := { row := numGCDsUptoRow, standIns := [], harness := (true, "df990982b9941820db2cf60c6bb5f07bb9ba75562e013d07874a283324ab980f"), looks := true }, kinds := [], alts := [], laidByText := true, laidKinds := [.data, .data, .data, .sentinel, .sentinel], laidTests := true, laidLooks := .later }
def NumGCDsUptoCardSaid : Prop := Claim7.holds Tryd.pinned (.plain (OpenSpec.upto numGCDsSpec)) numGCDsUptoCard

/-- THE SECOND FORM's CARD OF 'lotterylaw01.NumParses'. -/
def numParsesUptoCard : Claim7 := { stood := { row := numParsesUptoRow, standIns := [], harness := (true, "df990982b9941820db2cf60c6bb5f07bb9ba75562e013d07874a283324ab980f"), looks := true }, kinds := [], alts := [], laidByText := true, laidKinds := [.data, .data, .data, .sentinel, .sentinel], laidTests := true, laidLooks := .later }
def NumParsesUptoCardSaid : Prop := Claim7.holds Tryd.pinned (.plain (OpenSpec.upto numParsesSpec)) numParsesUptoCard

/-- THE SECOND FORM's CARD OF 'lotterylaw01.NumFormats'. -/
def numFormatsUptoCard : Claim7 := { stood := { row := numFormatsUptoRow, standIns := [], harness := (true, "df990982b9941820db2cf60c6bb5f07bb9ba75562e013d07874a283324ab980f"), looks := true }, kinds := [], alts := [], laidByText := true, laidKinds := [.data, .data, .data, .sentinel, .sentinel], laidTests := true, laidLooks := .later }
def NumFormatsUptoCardSaid : Prop := Claim7.holds Tryd.pinned (.plain (OpenSpec.upto numFormatsSpec)) numFormatsUptoCard
end Rows
end Go.Proofs.YtdgficnpppilfaaDoor
