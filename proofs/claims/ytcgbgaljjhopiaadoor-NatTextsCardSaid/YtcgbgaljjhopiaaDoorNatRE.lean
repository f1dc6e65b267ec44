/- The reference of layer 3: Add, Mul, Sub. -/
import Derived.Test.YtcgbgaljjhopiaaDoorNatRD
namespace Go.Proofs.YtcgbgaljjhopiaaDoor
set_option maxRecDepth 20000
open Go.RowKit
set_option linter.unusedVariables false
set_option linter.unusedSimpArgs false

theorem ref3_Whole_H {n c x : Nat} {A : Option Addr} (w : World) (h : IsH w w.heap.size A n x) (hn : n ≤ c ∧ c ≤ 9223372036854775807) :
    Calls Tryd.prog 17 #[.slice A n c] w (WRes (Nt.bv x) (Nt.fits x) w) := by
  have hv := h.val
  cases hf : Nt.fits x
  · have := ref3_Whole_no w h.d hn.1 hn.2 (fun i _ => Nt.dg_lt (by omega) x i) (by rw [hv]; exact hf)
    rw [show Nt.bv x = 0 by rw [Nt.bv, hf]; rfl]
    exact this
  · have := ref3_Whole_yes w h.d hn.1 hn.2 (fun i _ => Nt.dg_lt (by omega) x i) (by rw [hv]; exact hf)
    rw [hv] at this
    rw [show Nt.bv x = x by rw [Nt.bv, hf]; rfl]
    exact this
theorem Fr3.alloc {N : Nat} {w W : World} {v1 v2 v3 : Value} (h : Fr3 N w W v1 v2 v3) (o : Obj) : Fr3 N w (W.alloc o) v1 v2 v3 := h.next ((Below.refl _ _).alloc (Nat.le_refl _) _)
theorem Fr3.drewN {N : Nat} {w W : World} {v1 v2 v3 : Value} (h : Fr3 N w W v1 v2 v3) (k : Nat) : Fr3 N w (W.drewN k) v1 v2 v3 := h.next (below_dr _ _ _)
theorem Fr3.far {N : Nat} {w W : World} {v1 v2 v3 : Value} (h : Fr3 N w W v1 v2 v3) {p : Addr} (hp : N + 1 + 1 < p.block) (u : Value) : Fr3 N w (W.setCell p u) v1 v2 v3 :=
  ⟨h.n1.far (by omega) _, h.n2.far (by omega) _, h.n3.far (by omega) _, h.bel.setCell (by omega) _⟩
theorem IsN.alloc {w : World} {A : Option Addr} {n x : Nat} (h : IsN w w.heap.size A n x) (o : Obj) : IsN (w.alloc o) (w.alloc o).heap.size A n x := (h.below ((Below.refl _ _).alloc (Nat.le_refl _) _)).more (by simp)
theorem IsH.alloc {w : World} {A : Option Addr} {n x : Nat} (h : IsH w w.heap.size A n x) (o : Obj) : IsH (w.alloc o) (w.alloc o).heap.size A n x := (h.below ((Below.refl _ _).alloc (Nat.le_refl _) _)).more (by simp)
theorem IsN.next {w w' : World} {A : Option Addr} {n x : Nat} (h : IsN w w.heap.size A n x) (hb : Below w.heap.size w w') : IsN w' w'.heap.size A n x := (h.below hb).more hb.size
theorem IsH.next {w w' : World} {A : Option Addr} {n x : Nat} (h : IsH w w.heap.size A n x) (hb : Below w.heap.size w w') : IsH w' w'.heap.size A n x := (h.below hb).more hb.size
section
variable {N : Nat} {w W : World} {v1 v2 v3 : Value}
theorem kS (h : Hid (Fr3 N w W v1 v2 v3)) : W.cell? ⟨N, 0, none⟩ = some v1 ∧ W.cell? ⟨N + 1, 0, none⟩ = some v2 := ⟨h.out.n1.cell, h.out.n2.cell⟩
theorem kS_alloc (h : Hid (Fr3 N w W v1 v2 v3)) (o : Obj) : (W.alloc o).cell? ⟨N, 0, none⟩ = some v1 ∧ (W.alloc o).cell? ⟨N + 1, 0, none⟩ = some v2 := ⟨(h.out.alloc o).n1.cell, (h.out.alloc o).n2.cell⟩
theorem kS_set (h : Hid (Fr3 N w W v1 v2 v3)) {p : Addr} (hp : N + 1 + 1 < p.block) (u : Value) : (W.setCell p u).cell? ⟨N, 0, none⟩ = some v1 ∧ (W.setCell p u).cell? ⟨N + 1, 0, none⟩ = some v2 := ⟨(h.out.far hp u).n1.cell, (h.out.far hp u).n2.cell⟩
theorem kS_alloc_set (h : Hid (Fr3 N w W v1 v2 v3)) (o : Obj) {p : Addr} (hp : N + 1 + 1 < p.block) (u : Value) : ((W.alloc o).setCell p u).cell? ⟨N, 0, none⟩ = some v1 ∧ ((W.alloc o).setCell p u).cell? ⟨N + 1, 0, none⟩ = some v2 := kS_set (h.out.alloc o) hp u
end
/-- What stands when Whole's answer has been stored in its variable. -/
def Fin (N : Nat) (w : World) (v1 v2 : Value) (A : Option Addr) (n x : Nat) (W : World) : Prop := Fr3 N w W v1 v2 (.slice none 0 0) ∧ IsN W W.heap.size A n x
theorem fin_set {N cb : Nat} {w W : World} {v1 v2 : Value} {A : Option Addr} {n x c : Nat} (h : Fr3 N w W v1 v2 (.slice none 0 0)) (hb : NBox W cb (.slice none 0 0)) (hc : N + 1 + 1 < cb) (hn : IsN W W.heap.size A n x) :
    Fin N w v1 v2 A n x (W.setCell ⟨cb, 0, none⟩ (.slice A n c)) := ⟨h.far hc _, (hn.setBox hb.cell _).more (by rw [size_setCell]; exact Nat.le_refl _)⟩
theorem fin_alloc {N : Nat} {w W : World} {v1 v2 : Value} {A : Option Addr} {n x : Nat} (h : Fr3 N w W v1 v2 (.slice none 0 0)) (hn : IsN W W.heap.size A n x) (o : Obj) : Fin N w v1 v2 A n x (W.alloc o) := ⟨h.alloc o, hn.alloc o⟩
end Go.Proofs.YtcgbgaljjhopiaaDoor
