/- The chapter's examples, as the statements check them. -/
import Derived.Test.YtcgbgaljjhopiaaDoorNatO
namespace Go.Proofs.YtcgbgaljjhopiaaDoor
set_option maxRecDepth 20000
open Go.RowKit
set_option linter.unusedVariables false
set_option linter.unusedSimpArgs false
theorem fits_word {x : Nat} (h : x < 4294967296) : Nt.bv x = x ∧ Nt.be x = 0 := by
  have : Nt.fits x = true := Nt.fits_iff.2 ((Nt.ln_le_iff (by omega)).2 (Nat.lt_of_lt_of_le h (by omega)))
  simp [Nt.bv, Nt.be, this]
end Go.Proofs.YtcgbgaljjhopiaaDoor
