/- The chapter's examples, as the statements check them. -/
import Derived.Test.YtfjnpmkklanopaaNatO
namespace Go.Proofs.Ytfjnpmkklanopaa
set_option maxRecDepth 20000
open Go.RowKit
set_option linter.unusedVariables false
set_option linter.unusedSimpArgs false
theorem fits_word {x : Nat} (h : x < 4294967296) : Nt.bv x = x ∧ Nt.be x = 0 := by
  have : Nt.fits x = true := Nt.fits_iff.2 ((Nt.ln_le_iff (by omega)).2 (Nat.lt_of_lt_of_le h (by omega)))
  simp [Nt.bv, Nt.be, this]
theorem law3_multiplied_op {n n' c c' : Nat} {A A' : Option Addr} (W : World) (h : IsN W W.heap.size A n 3) (h1 : n ≤ 64) (h2 : n ≤ c) (h' : IsN W W.heap.size A' n' 5) (h1' : n' ≤ 64) (h2' : n' ≤ c') :
    Calls Try.prog 36 #[.agg #[.slice A n c], .agg #[.slice A' n' c']] W (NRes 15 0 W) := by
  have := nat_Mul_ok (c := c) (c' := c') W h h' h1 h1'
  rwa [(fits_word (x := 3 * 5) (by omega)).1, (fits_word (x := 3 * 5) (by omega)).2] at this
theorem law3_divided_op {n n' c c' : Nat} {A A' : Option Addr} (W : World) (h : IsN W W.heap.size A n 7) (h1 : n ≤ 64) (h2 : n ≤ c) (h' : IsN W W.heap.size A' n' 2) (h1' : n' ≤ 64) (h2' : n' ≤ c') :
    Calls Try.prog 47 #[.agg #[.slice A n c], .agg #[.slice A' n' c']] W (NRes2 3 1 0 W) := nat_DivMod_ok W h h' h1 h1' h2 (by omega)
end Go.Proofs.Ytfjnpmkklanopaa
