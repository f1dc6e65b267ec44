/-
  DERIVED. GIVEN WITH THE SEED: THE CARDS: each row of YtcgbgaljjhopiaaGreatDoorRows.lean that lists a variable, with what it lists TIED to the program's text (the seventh form; the later family's looks); each row that meets fmt, with fmt's text TOLD by the authors' own Lean function (tested against real Go, not proved from fmt's source: count such statements apart). THE CARD IS WHAT COUNTS. Prove the row's statement (the work); the ties are given (YtcgbgaljjhopiaaGreatDoorTie.lean); close each card by the builder's one call (the guide's Derived/Test/ToyasCard.lean, 'card_holds'). Laid BY PROGRAM, IN A SANDBOX (cutbox-door.mjs). By AI agents, Wed Nov 11 2026. No macro, syntax, notation, axiom, sorry.
-/
import Derived.Test.YtcgbgaljjhopiaaGreatDoorRows
import GoSem.ClaimSeven
namespace Go.Proofs.YtcgbgaljjhopiaaGreatDoor
namespace Rows

/-- THE TIED CARD OF 'lotterylaw04.FracDecimals'. -/
def fracDecimalsCard : Claim7 := { stood := { row := fracDecimalsRow, standIns := [], harness := (true, "92fbeed0e36a8e0d613da18ce35fdc670bde698b97b523253615f9e1db9615e2"), looks := true }, kinds := [], alts := [], laidByText := true, laidKinds := [.data, .data, .data, .sentinel, .sentinel], laidTests := true, laidLooks := .later }
def FracDecimalsCardSaid : Prop := Claim7.holds Tryz.pinned (.plain (OpenSpec.ofChange fracDecimalsSpec)) fracDecimalsCard

/-- THE SECOND FORM's CARD OF 'lotterylaw04.FracDecimals'. -/
def fracDecimalsUptoCard : Claim7 := { stood := { row := fracDecimalsUptoRow, standIns := [], harness := (true, "92fbeed0e36a8e0d613da18ce35fdc670bde698b97b523253615f9e1db9615e2"), looks := true }, kinds := [], alts := [], laidByText := true, laidKinds := [.data, .data, .data, .sentinel, .sentinel], laidTests := true, laidLooks := .later }
def FracDecimalsUptoCardSaid : Prop := Claim7.holds Tryz.pinned (.plain (OpenSpec.upto fracDecimalsSpec)) fracDecimalsUptoCard
end Rows
end Go.Proofs.YtcgbgaljjhopiaaGreatDoor
