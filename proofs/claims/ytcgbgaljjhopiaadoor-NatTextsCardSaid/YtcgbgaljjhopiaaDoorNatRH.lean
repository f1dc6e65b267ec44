/- The reference of layer 3: DivMod, GCD. -/
import Derived.Test.YtcgbgaljjhopiaaDoorNatRG
namespace Go.Proofs.YtcgbgaljjhopiaaDoor
set_option maxRecDepth 20000
open Go.RowKit
set_option linter.unusedVariables false
set_option linter.unusedSimpArgs false

theorem Fr4.alloc {N : Nat} {w W : World} {v1 v2 v3 v4 : Value} (h : Fr4 N w W v1 v2 v3 v4) (o : Obj) : Fr4 N w (W.alloc o) v1 v2 v3 v4 := h.next ((Below.refl _ _).alloc (Nat.le_refl _) _)
theorem kS4 {N : Nat} {w W : World} {v1 v2 v3 v4 : Value} (h : Hid (Fr4 N w W v1 v2 v3 v4)) : W.cell? ⟨N, 0, none⟩ = some v1 ∧ W.cell? ⟨N + 1, 0, none⟩ = some v2 := ⟨h.out.n1.cell, h.out.n2.cell⟩
theorem fits_of_le {x y : Nat} (h : Nt.ln 4294967296 y ≤ 64) (hle : x ≤ y) : Nt.fits x = true := Nt.fits_iff.2 (Nat.le_trans (Nt.ln_mono (by omega) hle) h)
end Go.Proofs.YtcgbgaljjhopiaaDoor
