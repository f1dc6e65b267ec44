/-
  DERIVED. GIVEN WITH THE SEED: THE CARDS: each row of YtclejcijnfpgaaaGreatDoorRows.lean that lists a variable, with what it lists TIED to the program's text (the seventh form; the later family's looks); each row that meets fmt, with fmt's text TOLD by the authors' own Lean function (tested against real Go, not proved from fmt's source: count such statements apart). THE CARD IS WHAT COUNTS. Prove the row's statement (the work); the ties are given (YtclejcijnfpgaaaGreatDoorTie.lean); close each card by the builder's one call (the guide's Derived/Test/ToyasCard.lean, 'card_holds'). Laid BY PROGRAM, IN A SANDBOX (cutbox-door.mjs). By AI agents, Wed Nov 11 2026. No macro, syntax, notation, axiom, sorry.
-/
import Derived.Test.YtclejcijnfpgaaaGreatDoorRows
import GoSem.ClaimSeven
namespace Go.Proofs.YtclejcijnfpgaaaGreatDoor
namespace Rows

/-- THE TIED CARD OF 'lotterylaw04.FracMakes'. -/
def fracMakesCard : Claim7 := { stood := { row := fracMakesRow, standIns := [], harness := (true, "cd1483d5403a94faea74865ede0a4464e6f00997857286400aca51ae10f1754f"), looks := true }, kinds := [], alts := [], laidByText := true, laidKinds := [.data, .data, .data, .sentinel, .sentinel], laidTests := true, laidLooks := .later }
def FracMakesCardSaid : Prop := Claim7.holds Tryz.pinned (.plain (OpenSpec.ofChange fracMakesSpec)) fracMakesCard

/-- THE TIED CARD OF 'lotterylaw04.FracOf'. -/
def fracOfCard : Claim7 := { stood := { row := fracOfRow, standIns := [], harness := (true, "cd1483d5403a94faea74865ede0a4464e6f00997857286400aca51ae10f1754f"), looks := true }, kinds := [], alts := [], laidByText := true, laidKinds := [.data, .data, .data, .sentinel, .sentinel], laidTests := true, laidLooks := .later }
def FracOfCardSaid : Prop := Claim7.holds Tryz.pinned (.plain (OpenSpec.ofChange fracOfSpec)) fracOfCard

/-- THE TIED CARD OF 'lotterylaw04.FracCompares'. -/
def fracComparesCard : Claim7 := { stood := { row := fracComparesRow, standIns := [], harness := (true, "cd1483d5403a94faea74865ede0a4464e6f00997857286400aca51ae10f1754f"), looks := true }, kinds := [], alts := [], laidByText := true, laidKinds := [.data, .data, .data, .sentinel, .sentinel], laidTests := true, laidLooks := .later }
def FracComparesCardSaid : Prop := Claim7.holds Tryz.pinned (.plain (OpenSpec.ofChange fracComparesSpec)) fracComparesCard

/-- THE TIED CARD OF 'lotterylaw04.FracAdds'. -/
def fracAddsCard : Claim7 := { stood := { row := fracAddsRow, standIns := [], harness := (true, "cd1483d5403a94faea74865ede0a4464e6f00997857286400aca51ae10f1754f"), looks := true }, kinds := [], alts := [], laidByText := true, laidKinds := [.data, .data, .data, .sentinel, .sentinel], laidTests := true, laidLooks := .later }
def FracAddsCardSaid : Prop := Claim7.holds Tryz.pinned (.plain (OpenSpec.ofChange fracAddsSpec)) fracAddsCard

/-- THE TIED CARD OF 'lotterylaw04.FracMuls'. -/
def fracMulsCard : Claim7 := { stood := { row := fracMulsRow, standIns := [], harness := (true, "cd1483d5403a94faea74865ede0a4464e6f00997857286400aca51ae10f1754f"), looks := true }, kinds := [], alts := [], laidByText := true, laidKinds := [.data, .data, .data, .sentinel, .sentinel], laidTests := true, laidLooks := .later }
def FracMulsCardSaid : Prop := Claim7.holds Tryz.pinned (.plain (OpenSpec.ofChange fracMulsSpec)) fracMulsCard

/-- THE TIED CARD OF 'lotterylaw04.FracDecimals'. -/
def fracDecimalsCard : Claim7 := { stood := { row := fracDecimalsRow, standIns := [], harness := (true, "cd1483d5403a94faea74865ede0a4464e6f00997857286400aca51ae10f1754f"), looks := true }, kinds := [], alts := [], laidByText := true, laidKinds := [.data, .data, .data, .sentinel, .sentinel], laidTests := true, laidLooks := .later }
def FracDecimalsCardSaid : Prop := Claim7.holds Tryz.pinned (.plain (OpenSpec.ofChange fracDecimalsSpec)) fracDecimalsCard

/-- THE TIED CARD OF 'lotterylaw04.FracField'. -/
def fracFieldCard : Claim7 := { stood := { row := fracFieldRow, standIns := [], harness := (true, "cd1483d5403a94faea74865ede0a4464e6f00997857286400aca51ae10f1754f"), looks := true }, kinds := [], alts := [], laidByText := true, laidKinds := [.data, .data, .data, .sentinel, .sentinel], laidTests := true, laidLooks := .later }
def FracFieldCardSaid : Prop := Claim7.holds Tryz.pinned (.plain (OpenSpec.ofChange fracFieldSpec)) fracFieldCard

/-- THE TIED CARD OF 'lotterylaw04.FracOrders'. -/
def fracOrdersCard : Claim7 := { stood := { row := fracOrdersRow, standIns := [], harness := (true, "cd1483d5403a94faea74865ede0a4464e6f00997857286400aca51ae10f1754f"), looks := true }, kinds := [], alts := [], laidByText := true, laidKinds := [.data, .data, .data, .sentinel, .sentinel], laidTests := true, laidLooks := .later }
def FracOrdersCardSaid : Prop := Claim7.holds Tryz.pinned (.plain (OpenSpec.ofChange fracOrdersSpec)) fracOrdersCard

/-- THE SECOND FORM's CARD OF 'lotterylaw04.FracMakes'. -/
def fracMakesUptoCard : Claim7 := { stood := { row := fracMakesUptoRow, standIns := [], harness := (true, "cd1483d5403a94faea74865ede0a4464e6f00997857286400aca51ae10f1754f"), looks := true }, kinds := [], alts := [], laidByText := true, laidKinds := [.data, .data, .data, .sentinel, .sentinel], laidTests := true, laidLooks := .later }
def FracMakesUptoCardSaid : Prop := Claim7.holds Tryz.pinned (.plain (OpenSpec.upto fracMakesSpec)) fracMakesUptoCard

/-- THE SECOND FORM's CARD OF 'lotterylaw04.FracOf'. -/
def fracOfUptoCard : Claim7 := { stood := { row := fracOfUptoRow, standIns := [], harness := (true, "cd1483d5403a94faea74865ede0a4464e6f00997857286400aca51ae10f1754f"), looks := true }, kinds := [], alts := [], laidByText := true, laidKinds := [.data, .data, .data, .sentinel, .sentinel], laidTests := true, laidLooks := .later }
def FracOfUptoCardSaid : Prop := Claim7.holds Tryz.pinned (.plain (OpenSpec.upto fracOfSpec)) fracOfUptoCard

/-- THE SECOND FORM's CARD OF 'lotterylaw04.FracCompares'. -/
def fracComparesUptoCard : Claim7 := { stood := { row := fracComparesUptoRow, standIns := [], harness := (true, "cd1483d5403a94faea74865ede0a4464e6f00997857286400aca51ae10f1754f"), looks := true }, kinds := [], alts := [], laidByText := true, laidKinds := [.data, .data, .data, .sentinel, .sentinel], laidTests := true, laidLooks := .later }
def FracComparesUptoCardSaid : Prop := Claim7.holds Tryz.pinned (.plain (OpenSpec.upto fracComparesSpec)) fracComparesUptoCard

/-- THE SECOND FORM's CARD OF 'lotterylaw04.FracAdds'. -/
def fracAddsUptoCard : Claim7 := { stood := { row := fracAddsUptoRow, standIns := [], harness := (true, "cd1483d5403a94faea74865ede0a4464e6f00997857286400aca51ae10f1754f"), looks := true }, kinds := [], alts := [], laidByText := true, laidKinds := [.data, .data, .data, .sentinel, .sentinel], laidTests := true, laidLooks := .later }
def FracAddsUptoCardSaid : Prop := Claim7.holds Tryz.pinned (.plain (OpenSpec.upto fracAddsSpec)) fracAddsUptoCard

/-- THE SECOND FORM's CARD OF 'lotterylaw04.FracMuls'. -/
def fracMulsUptoCard : Claim7 := { stood := { row := fracMulsUptoRow, standIns := [], harness := (true, "cd1483d5403a94faea74865ede0a4464e6f00997857286400aca51ae10f1754f"), looks := true }, kinds := [], alts := [], laidByText := true, laidKinds := [.data, .data, .data, .sentinel, .sentinel], laidTests := true, laidLooks := .later }
def FracMulsUptoCardSaid : Prop := Claim7.holds Tryz.pinned (.plain (OpenSpec.upto fracMulsSpec)) fracMulsUptoCard

/-- THE SECOND FORM's CARD OF 'lotterylaw04.FracDecimals'. -/
def fracDecimalsUptoCard : Claim7 := { stood := { row := fracDecimalsUptoRow, standIns := [], harness := (true, "cd1483d5403a94faea74865ede0a4464e6f00997857286400aca51ae10f1754f"), looks := true }, kinds := [], alts := [], laidByText := true, laidKinds := [.data, .data, .data, .sentinel, .sentinel], laidTests := true, laidLooks := .later }
def FracDecimalsUptoCardSaid : Prop := Claim7.holds Tryz.pinned (.plain (OpenSpec.upto fracDecimalsSpec)) fracDecimalsUptoCard

/-- THE SECOND FORM's CARD OF 'lotterylaw04.FracField'. -/
def fracFieldUptoCard : Claim7 := { stood := { row := fracFieldUptoRow, standIns := [], harness := (true, "cd1483d5403a94faea74865ede0a4464e6f00997857286400aca51ae10f1754f"), looks := true }, kinds := [], alts := [], laidByText := true, laidKinds := [.data, .data, .data, .sentinel, .sentinel], laidTests := true, laidLooks := .later }
def FracFieldUptoCardSaid : Prop := Claim7.holds Tryz.pinned (.plain (OpenSpec.upto fracFieldSpec)) fracFieldUptoCard

/-- THE SECOND FORM's CARD OF 'lotterylaw04.FracOrders'. -/
def fracOrdersUptoCard : Claim7 := { stood := { row := fracOrdersUptoRow, standIns := [], harness := (true, "cd1483d5403a94faea74865ede0a4464e6f00997857286400aca51ae10f1754f"), looks := true }, kinds := [], alts := [], laidByText := true, laidKinds := [.data, .data, .data, .sentinel, .sentinel], laidTests := true, laidLooks := .later }
def FracOrdersUptoCardSaid : Prop := Claim7.holds Tryz.pinned (.plain (OpenSpec.upto fracOrdersSpec)) fracOrdersUptoCard
end Rows
end Go.Proofs.YtclejcijnfpgaaaGreatDoor
