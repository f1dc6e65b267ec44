/- The reference of layer 4: crossed, Add, Sub, Mul, Div for every argument. (Written by tools/frac11.py.) -/
import Derived.Test.YtcgbgaljjhopiaaGreatDoorFracS
namespace Go.Proofs.YtcgbgaljjhopiaaGreatDoor
set_option maxRecDepth 20000
open Go.RowKit
set_option linter.unusedVariables false
set_option linter.unusedSimpArgs false
theorem ref3_Mul_nums {n c m j x y : Nat} {A C : Option Addr} (w : World) (h : NumAt w A n c x) (h' : NumAt w C m j y) :
    Calls Tryz.prog 24 #[.agg #[.slice A n c], .agg #[.slice C m j]] w (NRes (Nt.bv (x * y)) (Nt.be (x * y)) w) := ref3_Mul_ok w h.d h'.d h.h h'.h
/-- Three numbers and an error. -/
def TRes3 (x y z : Nat) (er : Int) (w : World) (e : Ending) (w' : World) : Prop :=
  ∃ A n c B m j C p k, e = .returned (.tuple #[.agg #[.slice A n c], .agg #[.slice B m j], .agg #[.slice C p k], .int .i64 er]) ∧ Below w.heap.size w w' ∧ NumAt w' A n c x ∧ NumAt w' B m j y ∧ NumAt w' C p k z
theorem NumAt.zero {w : World} : NumAt w none 0 0 0 := ⟨IsN.zero, by omega, by omega⟩
theorem put3 {w W : World} {bs : List (Nat × List Value × TypeId)} {ns : List (Option Addr × Nat × Nat)} {R : Nat} {T : TypeId} (K : Ks w W bs ns) (h0 : (R, [.slice none 0 0], T) ∈ bs) (h1 : (R + 1, [.slice none 0 0], T) ∈ bs) (h2 : (R + 1 + 1, [.slice none 0 0], T) ∈ bs) (hw : w.heap.size ≤ R)
    {A B C : Option Addr} {n c x m j y p k z : Nat} {er : Int} (hx : NumAt W A n c x) (hy : NumAt W B m j y) (hz : NumAt W C p k z) {W' : World} (hW : W' = ((W.setCell ⟨R, 0, none⟩ (.slice A n c)).setCell ⟨R + 1, 0, none⟩ (.slice B m j)).setCell ⟨R + 1 + 1, 0, none⟩ (.slice C p k)) :
    W'.cell? ⟨R, 0, none⟩ = some (.slice A n c) ∧ W'.cell? ⟨R + 1, 0, none⟩ = some (.slice B m j) ∧ W'.cell? ⟨R + 1 + 1, 0, none⟩ = some (.slice C p k) ∧ TRes3 x y z er w (.returned (.tuple #[.agg #[.slice A n c], .agg #[.slice B m j], .agg #[.slice C p k], .int .i64 er])) W' := by
  subst hW
  have c0 := K.cell0 h0
  have c1 := K.cell0 h1
  have c2 := K.cell0 h2
  have f1 : ∀ v, (W.setCell ⟨R, 0, none⟩ v).cell? ⟨R + 1, 0, none⟩ = W.cell? ⟨R + 1, 0, none⟩ := fun v => cell_far W v (by show R + 1 ≠ R; omega)
  have f2 : ∀ u v, ((W.setCell ⟨R, 0, none⟩ u).setCell ⟨R + 1, 0, none⟩ v).cell? ⟨R + 1 + 1, 0, none⟩ = W.cell? ⟨R + 1 + 1, 0, none⟩ := fun u v => (cell_far _ v (by show R + 1 + 1 ≠ R + 1; omega)).trans (cell_far W u (by show R + 1 + 1 ≠ R; omega))
  have num : ∀ {A : Option Addr} {n c x : Nat}, NumAt W A n c x → ∀ u0 u1 u2 : Value, NumAt (((W.setCell ⟨R, 0, none⟩ u0).setCell ⟨R + 1, 0, none⟩ u1).setCell ⟨R + 1 + 1, 0, none⟩ u2) A n c x := fun h u0 u1 u2 =>
    ⟨(((h.d.setAt c0 (by intro i h; cases h) u0).setAt ((f1 _).trans c1) (by intro i h; cases h) u1).setAt ((f2 _ _).trans c2) (by intro i h; cases h) u2).more (by rw [size_setCell, size_setCell, size_setCell]; exact Nat.le_refl _), h.h, h.l⟩
  exact ⟨(cell_far _ _ (by show R ≠ R + 1 + 1; omega)).trans ((cell_far _ _ (by show R ≠ R + 1; omega)).trans (cell_put c0)), (cell_far _ _ (by show R + 1 ≠ R + 1 + 1; omega)).trans (cell_put ((f1 _).trans c1)), cell_put ((f2 _ _).trans c2),
    A, n, c, B, m, j, C, p, k, rfl, ((K.bel.setCell hw _).setCell (by show w.heap.size ≤ R + 1; omega) _).setCell (by show w.heap.size ≤ R + 1 + 1; omega) _, num hx _ _ _, num hy _ _ _, num hz _ _ _⟩
section
variable {n c n' c' m j m' j' a b p q : Nat} {A A' C C' : Option Addr} {f f' g g' : Nat → Nat}
end
end Go.Proofs.YtcgbgaljjhopiaaGreatDoor
