/- The reference of layer 3: Cmp, Sub. -/
import Derived.Test.YtfjnpmkklanopaaNatRE
namespace Go.Proofs.Ytfjnpmkklanopaa
set_option maxRecDepth 20000
open Go.RowKit
set_option linter.unusedVariables false
set_option linter.unusedSimpArgs false

theorem Fr2.alloc {N : Nat} {w W : World} {v1 v2 : Value} (h : Fr2 N w W v1 v2) (o : Obj) : Fr2 N w (W.alloc o) v1 v2 := h.next ((Below.refl _ _).alloc (Nat.le_refl _) _)
theorem kS2 {N : Nat} {w W : World} {v1 v2 : Value} (h : Hid (Fr2 N w W v1 v2)) : W.cell? ⟨N, 0, none⟩ = some v1 ∧ W.cell? ⟨N + 1, 0, none⟩ = some v2 := ⟨h.out.n1.cell, h.out.n2.cell⟩
end Go.Proofs.Ytfjnpmkklanopaa
