/-
  DERIVED. GIVEN WITH THE SEED: THE CARDS: each row of YtjhkbgdjgiiocaaDoorRows.lean that lists a variable, with what it lists TIED to the program's text (the seventh form; the later family's looks); each row that meets fmt, with fmt's text TOLD by the authors' own Lean function (tested against real Go, not proved from fmt's source: count such statements apart). THE CARD IS WHAT COUNTS. Prove the row's statement (the work); the ties are given (YtjhkbgdjgiiocaaDoorTie.lean); close each card by the builder's one call (the guide's Derived/Test/ToyasCard.lean, 'card_holds'). Laid BY PROGRAM, IN A SANDBOX (cutbox-door.mjs). By AI agents, Wed Nov 11 2026. No macro, syntax, notation, axiom, sorry.
-/
import Derived.Test.YtjhkbgdjgiiocaaDoorRows
import GoSem.ClaimSeven
namespace Go.Proofs.YtjhkbgdjgiiocaaDoor
namespace Rows

/-- THE TIED CARD OF 'lotterylaw06.CalendarDates'. -/
def calendarDatesCard : Claim7 := { stood := { row := calendarDatesRow, standIns := [], harness := (true, "bafb4ae4deb6ef3e6c762387a3daa597c67ed1a82f6f529f941c180c07383e2a"), looks := false }, kinds := [], alts := [], laidByText := true, laidKinds := [.data], laidTests := true, laidLooks := .later }
def CalendarDatesCardSaid : Prop := Claim7.holds Tryd.pinned (.plain (OpenSpec.ofChange calendarDatesSpec)) calendarDatesCard

/-- THE TIED CARD OF 'lotterylaw06.CalendarInverts'. -/
def calendarInvertsCard : Claim7 := { stood := { row := calendarInvertsRow, standIns := [], harness := (true, "bafb4ae4deb6ef3e6c762387a3daa597c67ed1a82f6f529f941c180c07383e2a"), looks := false }, kinds := [], alts := [], laidByText := true, laidKinds := [.data], laidTests := true, laidLooks := .later }
def CalendarInvertsCardSaid : Prop := Claim7.holds Tryd.pinned (.plain (OpenSpec.ofChange calendarInvertsSpec)) calendarInvertsCard

/-- THE TIED CARD OF 'lotterylaw06.CalendarAges'. -/
def calendarAgesCard : Claim7 := { stood := { row := calendarAgesRow, standIns := [], harness := (true, "bafb4ae4deb6ef3e6c762387a3daa597c67ed1a82f6f529f941c180c07383e2a"), looks := false }, kinds := [], alts := [], laidByText := true, laidKinds := [.data], laidTests := true, laidLooks := .later }
def CalendarAgesCardSaid : Prop := Claim7.holds Tryd.pinned (.plain (OpenSpec.ofChange calendarAgesSpec)) calendarAgesCard

/-- THE TIED CARD OF 'lotterylaw06.CalendarPeriods'. -/
def calendarPeriodsCard : Claim7 := { stood := { row := calendarPeriodsRow, standIns := [], harness := (true, "bafb4ae4deb6ef3e6c762387a3daa597c67ed1a82f6f529f941c180c07383e2a"), looks := false }, kinds := [], alts := [], laidByText := true, laidKinds := [.data], laidTests := true, laidLooks := .later }
def CalendarPeriodsCardSaid : Prop := Claim7.holds Tryd.pinned (.plain (OpenSpec.ofChange calendarPeriodsSpec)) calendarPeriodsCard

/-- THE TIED CARD OF 'lotterylaw06.CalendarParts'. -/
def calendarPartsCard : Claim7 := { stood := { row := calendarPartsRow, standIns := [], harness := (true, "bafb4ae4deb6ef3e6c762387a3daa597c67ed1a82f6f529f941c180c07383e2a"), looks := false }, kinds := [], alts := [], laidByText := true, laidKinds := [.data], laidTests := true, laidLooks := .later }
def CalendarPartsCardSaid : Prop := Claim7.holds Tryd.pinned (.plain (OpenSpec.ofChange calendarPartsSpec)) calendarPartsCard

/-- THE TIED CARD OF 'lotterylaw06.CalendarTexts'. -/
def calendarTextsCard : Claim7 := { stood := { row := calendarTextsRow, standIns := [], harness := (true, "bafb4ae4deb6ef3e6c762387a3daa597c67ed1a82f6f529f941c180c07383e2a"), looks := false }, kinds := [], alts := [], laidByText := true, laidKinds := [.data, .data, .data, .data], laidTests := true, laidLooks := .later }
def CalendarTextsCardSaid : Prop := Claim7.holds Tryd.pinned (.plain (OpenSpec.ofChange calendarTextsSpec)) calendarTextsCard

/-- THE SECOND FORM's CARD OF 'lotterylaw06.CalendarDates'. -/
def calendarDatesUptoCard : Claim7 := { stood := { row := calendarDatesUptoRow, standIns := [], harness := (true, "bafb4ae4deb6ef3e6c762387a3daa597c67ed1a82f6f529f941c180c07383e2a"), looks := false }, kinds := [], alts := [], laidByText := true, laidKinds := [.data], laidTests := true, laidLooks := .later }
def CalendarDatesUptoCardSaid : Prop := Claim7.holds Tryd.pinned (.plain (OpenSpec.upto calendarDatesSpec)) calendarDatesUptoCard

/-- THE SECOND FORM's CARD OF 'lotterylaw06.CalendarInverts'. -/
def calendarInvertsUptoCard : Claim7 := { stood := { row := calendarInvertsUptoRow, standIns := [], harness := (true, "bafb4ae4deb6ef3e6c762387a3daa597c67ed1a82f6f529f941c180c07383e2a"), looks := false }, kinds := [], alts := [], laidByText := true, laidKinds := [.data], laidTests := true, laidLooks := .later }
def CalendarInvertsUptoCardSaid : Prop := Claim7.holds Tryd.pinned (.plain (OpenSpec.upto calendarInvertsSpec)) calendarInvertsUptoCard

/-- THE SECOND FORM's CARD OF 'lotterylaw06.CalendarAges'. -/
def calendarAgesUptoCard : Claim7 := { stood := { row := calendarAgesUptoRow, standIns := [], harness := (true, "bafb4ae4deb6ef3e6c762387a3daa597c67ed1a82f6f529f941c180c07383e2a"), looks := false }, kinds := [], alts := [], laidByText := true, laidKinds := [.data], laidTests := true, laidLooks := .later }
def CalendarAgesUptoCardSaid : Prop := Claim7.holds Tryd.pinned (.plain (OpenSpec.upto calendarAgesSpec)) calendarAgesUptoCard

/-- THE SECOND FORM's CARD OF 'lotterylaw06.CalendarPeriods'. -/
def calendarPeriodsUptoCard : Claim7 := { stood := { row := calendarPeriodsUptoRow, standIns := [], harness := (true, "bafb4ae4deb6ef3e6c762387a3daa597c67ed1a82f6f529f941c180c07383e2a"), looks := false }, kinds := [], alts := [], laidByText := true, laidKinds := [.data], laidTests := true, laidLooks := .later }
def CalendarPeriodsUptoCardSaid : Prop := Claim7.holds Tryd.pinned (.plain (OpenSpec.upto calendarPeriodsSpec)) calendarPeriodsUptoCard

/-- THE SECOND FORM's CARD OF 'lotterylaw06.CalendarParts'. -/
def calendarPartsUptoCard : Claim7 := { stood := { row := calendarPartsUptoRow, standIns := [], harness := (true, "bafb4ae4deb6ef3e6c762387a3daa597c67ed1a82f6f529f941c180c07383e2a"), looks := false }, kinds := [], alts := [], laidByText := true, laidKinds := [.data], laidTests := true, laidLooks := .later }
def CalendarPartsUptoCardSaid : Prop := Claim7.holds Tryd.pinned (.plain (OpenSpec.upto calendarPartsSpec)) calendarPartsUptoCard

/-- THE SECOND FORM's CARD OF 'lotterylaw06.CalendarTexts'. -/
def calendarTextsUptoCard : Claim7 := { stood := { row := calendarTextsUptoRow, standIns := [], harness := (true, "bafb4ae4deb6ef3e6c762387a3daa597c67ed1a82f6f529f941c180c07383e2a"), looks := false }, kinds := [], alts := [], laidByText := true, laidKinds := [.data, .data, .data, .data], laidTests := true, laidLooks := .later }
def CalendarTextsUptoCardSaid : Prop := Claim7.holds Tryd.pinned (.plain (OpenSpec.upto calendarTextsSpec)) calendarTextsUptoCard
end Rows
end Go.Proofs.YtjhkbgdjgiiocaaDoor
