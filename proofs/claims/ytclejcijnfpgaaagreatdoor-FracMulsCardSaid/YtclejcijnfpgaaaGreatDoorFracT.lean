/- The reference of layer 4: crossed, Add, Sub, Mul, Div for every argument. (Written by tools/frac11.py.) -/
import Derived.Test.YtclejcijnfpgaaaGreatDoorFracS
namespace Go.Proofs.YtclejcijnfpgaaaGreatDoor
set_option maxRecDepth 20000
open Go.RowKit
set_option linter.unusedVariables false
set_option linter.unusedSimpArgs false
theorem ref3_Mul_nums {n c m j x y : Nat} {A C : Option Addr} (w : World) (h : NumAt w A n c x) (h' : NumAt w C m j y) :
    Calls Tryz.prog 59 #[.agg #[.slice A n c], .agg #[.slice C m j]] w (NRes (Nt.bv (x * y)) (Nt.be (x * y)) w) := ref3_Mul_ok w h.d h'.d h.h h'.h
theorem ref3_Add_nums {n c m j x y : Nat} {A C : Option Addr} (w : World) (h : NumAt w A n c x) (h' : NumAt w C m j y) :
    Calls Tryz.prog 54 #[.agg #[.slice A n c], .agg #[.slice C m j]] w (NRes (Nt.bv (x + y)) (Nt.be (x + y)) w) := ref3_Add_ok w h.d h'.d h.h h'.h
theorem ref3_Sub_nums {n c m j x y : Nat} {A C : Option Addr} (w : World) (h : NumAt w A n c x) (h' : NumAt w C m j y) :
    Calls Tryz.prog 57 #[.agg #[.slice A n c], .agg #[.slice C m j]] w (NRes (x - y) (Nt.se x y) w) := by
  unfold Nt.se
  by_cases hl : x < y
  · rw [if_pos hl, show x - y = 0 by omega]; exact ref3_Sub_less w h.d h'.d h.h h'.h hl
  · rw [if_neg hl]; exact ref3_Sub_ok w h.d h'.d h.h h'.h (by omega)
/-- Three numbers and an error. -/
def TRes3 (x y z : Nat) (er : Int) (w : World) (e : Ending) (w' : World) : Prop :=
  ∃ A n c B m j C p k, e = .returned (.tuple #[.agg #[.slice A n c], .agg #[.slice B m j], .agg #[.slice C p k], .int .i64 er]) ∧ Below w.heap.size w w' ∧ NumAt w' A n c x ∧ NumAt w' B m j y ∧ NumAt w' C p k z
theorem NumAt.zero {w : World} : NumAt w none 0 0 0 := ⟨IsN.zero, by omega, by omega⟩
theorem put3 {w W : World} {bs : List (Nat × List Value × TypeId)} {ns : List (Option Addr × Nat × Nat)} {R : Nat} {T : TypeId} (K : Ks w W bs ns) (h0 : (R, [.slice none 0 0], T) ∈ bs) (h1 : (R + 1, [.slice none 0 0], T) ∈ bs) (h2 : (R + 1 + 1, [.slice none 0 0], T) ∈ bs) (hw : w.heap.size ≤ R)
    {A B C : Option Addr} {n c x m j y p k z : Nat} {er : Int} (hx : NumAt W A n c x) (hy : NumAt W B m j y) (hz : NumAt W C p k z) {W' : World} (hW : W' = ((W.setCell ⟨R, 0, none⟩ (.slice A n c)).setCell ⟨R + 1, 0, none⟩ (.slice B m j)).setCell ⟨R + 1 + 1, 0, none⟩ (.slice C p k)) :
    W'.cell? ⟨R, 0, none⟩ = some (.slice A n c) ∧ W'.cell? ⟨R + 1, 0, none⟩ = some (.slice B m j) ∧ W'.cell? ⟨R + 1 + 1, 0, none⟩ = some (.slice C p k) ∧ TRes3 x y z er w (.returned (.tuple #[.agg #[.slice A n c], .agg #[.slice B m j], .agg #[.slice C p k], .int .i64 er])) W' := by
  subst hW
  have c0 := K.cell0 h0
  have c1 := K.cell0 h1
  have c2 := K.cell0 h2
  have f1 : ∀ v, (W.setCell ⟨R, 0, none⟩ v).cell? ⟨R + 1, 0, none⟩ = W.cell? ⟨R + 1, 0, none⟩ := fun v => cell_far W v (by show R + 1 ≠ R; omega)
  have f2 : ∀ u v, ((W.setCell ⟨R, 0, none⟩ u).setCell ⟨R + 1, 0, none⟩ v).cell? ⟨R + 1 + 1, 0, none⟩ = W.cell? ⟨R + 1 + 1, 0, none⟩ := fun u v => (cell_far _ v (by show R + 1 + 1 ≠ R + 1; omega)).trans (cell_far W u (by show R + 1 + 1 ≠ R; omega))
  have num : ∀ {A : Option Addr} {n c x : Nat}, NumAt W A n c x → ∀ u0 u1 u2 : Value, NumAt (((W.setCell ⟨R, 0, none⟩ u0).setCell ⟨R + 1, 0, none⟩ u1).setCell ⟨R + 1 + 1, 0, none⟩ u2) A n c x := fun h u0 u1 u2 =>
    ⟨(((h.d.setAt c0 (by intro i h; cases h) u0).setAt ((f1 _).trans c1) (by intro i h; cases h) u1).setAt ((f2 _ _).trans c2) (by intro i h; cases h) u2).more (by rw [size_setCell, size_setCell, size_setCell]; exact Nat.le_refl _), h.h, h.l⟩
  exact ⟨(cell_far _ _ (by show R ≠ R + 1 + 1; omega)).trans ((cell_far _ _ (by show R ≠ R + 1; omega)).trans (cell_put c0)), (cell_far _ _ (by show R + 1 ≠ R + 1 + 1; omega)).trans (cell_put ((f1 _).trans c1)), cell_put ((f2 _ _).trans c2),
    A, n, c, B, m, j, C, p, k, rfl, ((K.bel.setCell hw _).setCell (by show w.heap.size ≤ R + 1; omega) _).setCell (by show w.heap.size ≤ R + 1 + 1; omega) _, num hx _ _ _, num hy _ _ _, num hz _ _ _⟩
section
variable {n c n' c' m j m' j' a b p q : Nat} {A A' C C' : Option Addr} {f f' g g' : Nat → Nat}
set_option maxHeartbeats 1000000 in
theorem ref4_crossed_fit (w : World) (h : FIs w A n c A' n' c' a b) (h' : FIs w C m j C' m' j' p q) (h1 : Nt.fits (a * q) = true) (h2 : Nt.fits (p * b) = true) (h3 : Nt.fits (b * q) = true) :
    Calls Tryz.prog 53 #[.agg #[.slice A n c, .slice A' n' c'], .agg #[.slice C m j, .slice C' m' j']] w (TRes3 (a * q) (p * b) (b * q) 0 w) := by
  have c1 := fun W (hb : Below w.heap.size w W) => ref3_Mul_nums W (h.on hb).n (h'.on hb).d
  have c2 := fun W (hb : Below w.heap.size w W) => ref3_Mul_nums W (h'.on hb).n (h.on hb).d
  have c3 := fun W (hb : Below w.heap.size w W) => ref3_Mul_nums W (h.on hb).d (h'.on hb).d
  rw [Fr.bv_yes h1, Fr.be_yes h1] at c1
  rw [Fr.bv_yes h2, Fr.be_yes h2] at c2
  rw [Fr.bv_yes h3, Fr.be_yes h3] at c3
  have C1 := Lib.hid c1
  have C2 := Lib.hid c2
  have C3 := Lib.hid c3
  clear c1 c2 c3 h h' h1 h2 h3
  have k0 := (((((Ks.start w).box [.slice A n c, .slice A' n' c'] 28).box [.slice C m j, .slice C' m' j'] 28).box [.slice none 0 0] 24).box [.slice none 0 0] 24).box [.slice none 0 0] 24
  simp only [size_alloc] at k0
  have K0 := Lib.hid k0
  clear k0
  go_enter Tryz.func53, Tryz.ntmps53
  go_wp2_with fail
  refine (C1.out _ K0.out.bel).mono ?_
  rintro e w1 ⟨A1, n1, c1, rfl, B1, D1, h1, l1⟩
  have hs1 := B1.size
  simp only [size_alloc] at hs1
  have k1 := ((K0.out.call B1).num D1).box [.slice A1 n1 c1] 24
  have K1 := Lib.hid k1
  clear k1 B1 D1
  have x0_0 := K1.out.cell0 at5
  have x0_1 := K1.out.cell1 at5
  have x1_0 := K1.out.cell0 at4
  have x1_1 := K1.out.cell1 at4
  have x2_0 := K1.out.cell0 at3
  have x3_0 := K1.out.cell0 at2
  have x4_0 := K1.out.cell0 at1
  go_wp2_with fail
  refine (C2.out _ K1.out.bel).mono ?_
  rintro e w2 ⟨A2, n2, c2, rfl, B2, D2, h2, l2⟩
  have hs2 := B2.size
  simp only [size_alloc] at hs2
  have k2 := ((K1.out.call B2).num D2).box [.slice A2 n2 c2] 24
  have K2 := Lib.hid k2
  clear k2 B2 D2
  clear x0_0 x0_1 x1_0 x1_1 x2_0 x3_0 x4_0
  have x0_0 := K2.out.cell0 at6
  have x0_1 := K2.out.cell1 at6
  have x1_0 := K2.out.cell0 at5
  have x1_1 := K2.out.cell1 at5
  have x2_0 := K2.out.cell0 at4
  have x3_0 := K2.out.cell0 at3
  have x4_0 := K2.out.cell0 at2
  have x5_0 := K2.out.cell0 at1
  go_wp2_with fail
  refine (C3.out _ K2.out.bel).mono ?_
  rintro e w3 ⟨A3, n3, c3, rfl, B3, D3, h3, l3⟩
  have hs3 := B3.size
  simp only [size_alloc] at hs3
  have k3 := ((K2.out.call B3).num D3).box [.slice A3 n3 c3] 24
  have K3 := Lib.hid k3
  clear k3 B3 D3
  clear x0_0 x0_1 x1_0 x1_1 x2_0 x3_0 x4_0 x5_0
  have x0_0 := K3.out.cell0 at7
  have x0_1 := K3.out.cell1 at7
  have x1_0 := K3.out.cell0 at6
  have x1_1 := K3.out.cell1 at6
  have x2_0 := K3.out.cell0 at5
  have x3_0 := K3.out.cell0 at4
  have x4_0 := K3.out.cell0 at3
  have x5_0 := K3.out.cell0 at2
  have x6_0 := K3.out.cell0 at1
  have z0 := K3.out.free at5 0
  have z1 := K3.out.free at4 0
  have z2 := K3.out.free at3 0
  have g1 : ∀ (W : World) (v : Value), (W.setCell ⟨w.heap.size + 1 + 1, 0, none⟩ v).cell? ⟨w.heap.size + 1 + 1 + 1, 0, none⟩ = W.cell? ⟨w.heap.size + 1 + 1 + 1, 0, none⟩ := fun W v => cell_far W v (by show w.heap.size + 1 + 1 + 1 ≠ w.heap.size + 1 + 1; omega)
  have g2 : ∀ (W : World) (v : Value), (W.setCell ⟨w.heap.size + 1 + 1, 0, none⟩ v).cell? ⟨w.heap.size + 1 + 1 + 1 + 1, 0, none⟩ = W.cell? ⟨w.heap.size + 1 + 1 + 1 + 1, 0, none⟩ := fun W v => cell_far W v (by show w.heap.size + 1 + 1 + 1 + 1 ≠ w.heap.size + 1 + 1; omega)
  have g3 : ∀ (W : World) (v : Value), (W.setCell ⟨w.heap.size + 1 + 1 + 1, 0, none⟩ v).cell? ⟨w.heap.size + 1 + 1 + 1 + 1, 0, none⟩ = W.cell? ⟨w.heap.size + 1 + 1 + 1 + 1, 0, none⟩ := fun W v => cell_far W v (by show w.heap.size + 1 + 1 + 1 + 1 ≠ w.heap.size + 1 + 1 + 1; omega)
  have f01 : ∀ (W : World) (v : Value), (W.setCell ⟨w.heap.size + 1 + 1, 0, none⟩ v).cell? ⟨w1.heap.size, 0, none⟩ = W.cell? ⟨w1.heap.size, 0, none⟩ := fun W v => cell_far W v (by show w1.heap.size ≠ w.heap.size + 1 + 1; omega)
  have f02 : ∀ (W : World) (v : Value), (W.setCell ⟨w.heap.size + 1 + 1, 0, none⟩ v).cell? ⟨w2.heap.size, 0, none⟩ = W.cell? ⟨w2.heap.size, 0, none⟩ := fun W v => cell_far W v (by show w2.heap.size ≠ w.heap.size + 1 + 1; omega)
  have f03 : ∀ (W : World) (v : Value), (W.setCell ⟨w.heap.size + 1 + 1, 0, none⟩ v).cell? ⟨w3.heap.size, 0, none⟩ = W.cell? ⟨w3.heap.size, 0, none⟩ := fun W v => cell_far W v (by show w3.heap.size ≠ w.heap.size + 1 + 1; omega)
  have f11 : ∀ (W : World) (v : Value), (W.setCell ⟨w.heap.size + 1 + 1 + 1, 0, none⟩ v).cell? ⟨w1.heap.size, 0, none⟩ = W.cell? ⟨w1.heap.size, 0, none⟩ := fun W v => cell_far W v (by show w1.heap.size ≠ w.heap.size + 1 + 1 + 1; omega)
  have f12 : ∀ (W : World) (v : Value), (W.setCell ⟨w.heap.size + 1 + 1 + 1, 0, none⟩ v).cell? ⟨w2.heap.size, 0, none⟩ = W.cell? ⟨w2.heap.size, 0, none⟩ := fun W v => cell_far W v (by show w2.heap.size ≠ w.heap.size + 1 + 1 + 1; omega)
  have f13 : ∀ (W : World) (v : Value), (W.setCell ⟨w.heap.size + 1 + 1 + 1, 0, none⟩ v).cell? ⟨w3.heap.size, 0, none⟩ = W.cell? ⟨w3.heap.size, 0, none⟩ := fun W v => cell_far W v (by show w3.heap.size ≠ w.heap.size + 1 + 1 + 1; omega)
  have f21 : ∀ (W : World) (v : Value), (W.setCell ⟨w.heap.size + 1 + 1 + 1 + 1, 0, none⟩ v).cell? ⟨w1.heap.size, 0, none⟩ = W.cell? ⟨w1.heap.size, 0, none⟩ := fun W v => cell_far W v (by show w1.heap.size ≠ w.heap.size + 1 + 1 + 1 + 1; omega)
  have f22 : ∀ (W : World) (v : Value), (W.setCell ⟨w.heap.size + 1 + 1 + 1 + 1, 0, none⟩ v).cell? ⟨w2.heap.size, 0, none⟩ = W.cell? ⟨w2.heap.size, 0, none⟩ := fun W v => cell_far W v (by show w2.heap.size ≠ w.heap.size + 1 + 1 + 1 + 1; omega)
  have f23 : ∀ (W : World) (v : Value), (W.setCell ⟨w.heap.size + 1 + 1 + 1 + 1, 0, none⟩ v).cell? ⟨w3.heap.size, 0, none⟩ = W.cell? ⟨w3.heap.size, 0, none⟩ := fun W v => cell_far W v (by show w3.heap.size ≠ w.heap.size + 1 + 1 + 1 + 1; omega)
  have x7_0 := K3.out.cell0 at0
  go_wp2_with fail
  obtain ⟨q0, q1, q2, hP⟩ := put3 (er := 0) (W' := ((((w3.alloc (.cells #[.slice A3 n3 c3] 24)).setCell ⟨w.heap.size + 1 + 1, 0, none⟩ (.slice A1 n1 c1)).setCell ⟨w.heap.size + 1 + 1 + 1, 0, none⟩ (.slice A2 n2 c2)).setCell ⟨w.heap.size + 1 + 1 + 1 + 1, 0, none⟩ (.slice A3 n3 c3)).drew) (K3.out.call (Below.refl _ _).drew) at5 at4 at3 (by omega) ⟨(K3.out.call (Below.refl _ _).drew).get at2, h1, l1⟩ ⟨(K3.out.call (Below.refl _ _).drew).get at1, h2, l2⟩ ⟨(K3.out.call (Below.refl _ _).drew).get at0, h3, l3⟩ rfl
  have HP := Lib.hid hP
  clear hP
  go_region
  go_wp2_with fail
  refine bodyPost_ret (v := .tuple #[.agg #[.slice A1 n1 c1], .agg #[.slice A2 n2 c2], .agg #[.slice A3 n3 c3], .int .i64 0]) (by simp [results, Tryz.results53, go_sem, q0, q1, q2]) rfl ?_
  exact HP.out
set_option maxHeartbeats 1000000 in
theorem ref4_crossed_no1 (w : World) (h : FIs w A n c A' n' c' a b) (h' : FIs w C m j C' m' j' p q) (h1 : Nt.fits (a * q) = false) :
    Calls Tryz.prog 53 #[.agg #[.slice A n c, .slice A' n' c'], .agg #[.slice C m j, .slice C' m' j']] w (TRes3 0 0 0 9 w) := by
  have c1 := fun W (hb : Below w.heap.size w W) => ref3_Mul_nums W (h.on hb).n (h'.on hb).d
  have c2 := fun W (hb : Below w.heap.size w W) => ref3_Mul_nums W (h'.on hb).n (h.on hb).d
  have c3 := fun W (hb : Below w.heap.size w W) => ref3_Mul_nums W (h.on hb).d (h'.on hb).d
  rw [Fr.be_no h1] at c1
  have C1 := Lib.hid c1
  have C2 := Lib.hid c2
  have C3 := Lib.hid c3
  clear c1 c2 c3 h h' h1
  have k0 := (((((Ks.start w).box [.slice A n c, .slice A' n' c'] 28).box [.slice C m j, .slice C' m' j'] 28).box [.slice none 0 0] 24).box [.slice none 0 0] 24).box [.slice none 0 0] 24
  simp only [size_alloc] at k0
  have K0 := Lib.hid k0
  clear k0
  go_enter Tryz.func53, Tryz.ntmps53
  go_wp2_with fail
  refine (C1.out _ K0.out.bel).mono ?_
  rintro e w1 ⟨A1, n1, c1, rfl, B1, D1, h1, l1⟩
  have hs1 := B1.size
  simp only [size_alloc] at hs1
  have k1 := ((K0.out.call B1).num D1).box [.slice A1 n1 c1] 24
  have K1 := Lib.hid k1
  clear k1 B1 D1
  have x0_0 := K1.out.cell0 at5
  have x0_1 := K1.out.cell1 at5
  have x1_0 := K1.out.cell0 at4
  have x1_1 := K1.out.cell1 at4
  have x2_0 := K1.out.cell0 at3
  have x3_0 := K1.out.cell0 at2
  have x4_0 := K1.out.cell0 at1
  go_wp2_with fail
  refine (C2.out _ K1.out.bel).mono ?_
  rintro e w2 ⟨A2, n2, c2, rfl, B2, D2, h2, l2⟩
  have hs2 := B2.size
  simp only [size_alloc] at hs2
  have k2 := ((K1.out.call B2).num D2).box [.slice A2 n2 c2] 24
  have K2 := Lib.hid k2
  clear k2 B2 D2
  clear x0_0 x0_1 x1_0 x1_1 x2_0 x3_0 x4_0
  have x0_0 := K2.out.cell0 at6
  have x0_1 := K2.out.cell1 at6
  have x1_0 := K2.out.cell0 at5
  have x1_1 := K2.out.cell1 at5
  have x2_0 := K2.out.cell0 at4
  have x3_0 := K2.out.cell0 at3
  have x4_0 := K2.out.cell0 at2
  have x5_0 := K2.out.cell0 at1
  go_wp2_with fail
  refine (C3.out _ K2.out.bel).mono ?_
  rintro e w3 ⟨A3, n3, c3, rfl, B3, D3, h3, l3⟩
  have hs3 := B3.size
  simp only [size_alloc] at hs3
  have k3 := ((K2.out.call B3).num D3).box [.slice A3 n3 c3] 24
  have K3 := Lib.hid k3
  clear k3 B3 D3
  clear x0_0 x0_1 x1_0 x1_1 x2_0 x3_0 x4_0 x5_0
  have x0_0 := K3.out.cell0 at7
  have x0_1 := K3.out.cell1 at7
  have x1_0 := K3.out.cell0 at6
  have x1_1 := K3.out.cell1 at6
  have x2_0 := K3.out.cell0 at5
  have x3_0 := K3.out.cell0 at4
  have x4_0 := K3.out.cell0 at3
  have x5_0 := K3.out.cell0 at2
  have x6_0 := K3.out.cell0 at1
  have z0 := K3.out.free at5 0
  have z1 := K3.out.free at4 0
  have z2 := K3.out.free at3 0
  have g1 : ∀ (W : World) (v : Value), (W.setCell ⟨w.heap.size + 1 + 1, 0, none⟩ v).cell? ⟨w.heap.size + 1 + 1 + 1, 0, none⟩ = W.cell? ⟨w.heap.size + 1 + 1 + 1, 0, none⟩ := fun W v => cell_far W v (by show w.heap.size + 1 + 1 + 1 ≠ w.heap.size + 1 + 1; omega)
  have g2 : ∀ (W : World) (v : Value), (W.setCell ⟨w.heap.size + 1 + 1, 0, none⟩ v).cell? ⟨w.heap.size + 1 + 1 + 1 + 1, 0, none⟩ = W.cell? ⟨w.heap.size + 1 + 1 + 1 + 1, 0, none⟩ := fun W v => cell_far W v (by show w.heap.size + 1 + 1 + 1 + 1 ≠ w.heap.size + 1 + 1; omega)
  have g3 : ∀ (W : World) (v : Value), (W.setCell ⟨w.heap.size + 1 + 1 + 1, 0, none⟩ v).cell? ⟨w.heap.size + 1 + 1 + 1 + 1, 0, none⟩ = W.cell? ⟨w.heap.size + 1 + 1 + 1 + 1, 0, none⟩ := fun W v => cell_far W v (by show w.heap.size + 1 + 1 + 1 + 1 ≠ w.heap.size + 1 + 1 + 1; omega)
  obtain ⟨q0, q1, q2, hP⟩ := put3 (er := 9) (W' := ((((w3.alloc (.cells #[.slice A3 n3 c3] 24)).setCell ⟨w.heap.size + 1 + 1, 0, none⟩ (.slice none 0 0)).setCell ⟨w.heap.size + 1 + 1 + 1, 0, none⟩ (.slice none 0 0)).setCell ⟨w.heap.size + 1 + 1 + 1 + 1, 0, none⟩ (.slice none 0 0))) K3.out at5 at4 at3 (by omega) NumAt.zero NumAt.zero NumAt.zero rfl
  have HP := Lib.hid hP
  clear hP
  go_wp2_with fail
  refine bodyPost_ret (v := .tuple #[.agg #[.slice none 0 0], .agg #[.slice none 0 0], .agg #[.slice none 0 0], .int .i64 9]) (by simp [results, Tryz.results53, go_sem, q0, q1, q2]) rfl ?_
  exact HP.out
set_option maxHeartbeats 1000000 in
theorem ref4_crossed_no2 (w : World) (h : FIs w A n c A' n' c' a b) (h' : FIs w C m j C' m' j' p q) (h1 : Nt.fits (a * q) = true) (h2 : Nt.fits (p * b) = false) :
    Calls Tryz.prog 53 #[.agg #[.slice A n c, .slice A' n' c'], .agg #[.slice C m j, .slice C' m' j']] w (TRes3 0 0 0 9 w) := by
  have c1 := fun W (hb : Below w.heap.size w W) => ref3_Mul_nums W (h.on hb).n (h'.on hb).d
  have c2 := fun W (hb : Below w.heap.size w W) => ref3_Mul_nums W (h'.on hb).n (h.on hb).d
  have c3 := fun W (hb : Below w.heap.size w W) => ref3_Mul_nums W (h.on hb).d (h'.on hb).d
  rw [Fr.be_yes h1] at c1
  rw [Fr.be_no h2] at c2
  have C1 := Lib.hid c1
  have C2 := Lib.hid c2
  have C3 := Lib.hid c3
  clear c1 c2 c3 h h' h1 h2
  have k0 := (((((Ks.start w).box [.slice A n c, .slice A' n' c'] 28).box [.slice C m j, .slice C' m' j'] 28).box [.slice none 0 0] 24).box [.slice none 0 0] 24).box [.slice none 0 0] 24
  simp only [size_alloc] at k0
  have K0 := Lib.hid k0
  clear k0
  go_enter Tryz.func53, Tryz.ntmps53
  go_wp2_with fail
  refine (C1.out _ K0.out.bel).mono ?_
  rintro e w1 ⟨A1, n1, c1, rfl, B1, D1, h1, l1⟩
  have hs1 := B1.size
  simp only [size_alloc] at hs1
  have k1 := ((K0.out.call B1).num D1).box [.slice A1 n1 c1] 24
  have K1 := Lib.hid k1
  clear k1 B1 D1
  have x0_0 := K1.out.cell0 at5
  have x0_1 := K1.out.cell1 at5
  have x1_0 := K1.out.cell0 at4
  have x1_1 := K1.out.cell1 at4
  have x2_0 := K1.out.cell0 at3
  have x3_0 := K1.out.cell0 at2
  have x4_0 := K1.out.cell0 at1
  go_wp2_with fail
  refine (C2.out _ K1.out.bel).mono ?_
  rintro e w2 ⟨A2, n2, c2, rfl, B2, D2, h2, l2⟩
  have hs2 := B2.size
  simp only [size_alloc] at hs2
  have k2 := ((K1.out.call B2).num D2).box [.slice A2 n2 c2] 24
  have K2 := Lib.hid k2
  clear k2 B2 D2
  clear x0_0 x0_1 x1_0 x1_1 x2_0 x3_0 x4_0
  have x0_0 := K2.out.cell0 at6
  have x0_1 := K2.out.cell1 at6
  have x1_0 := K2.out.cell0 at5
  have x1_1 := K2.out.cell1 at5
  have x2_0 := K2.out.cell0 at4
  have x3_0 := K2.out.cell0 at3
  have x4_0 := K2.out.cell0 at2
  have x5_0 := K2.out.cell0 at1
  go_wp2_with fail
  refine (C3.out _ K2.out.bel).mono ?_
  rintro e w3 ⟨A3, n3, c3, rfl, B3, D3, h3, l3⟩
  have hs3 := B3.size
  simp only [size_alloc] at hs3
  have k3 := ((K2.out.call B3).num D3).box [.slice A3 n3 c3] 24
  have K3 := Lib.hid k3
  clear k3 B3 D3
  clear x0_0 x0_1 x1_0 x1_1 x2_0 x3_0 x4_0 x5_0
  have x0_0 := K3.out.cell0 at7
  have x0_1 := K3.out.cell1 at7
  have x1_0 := K3.out.cell0 at6
  have x1_1 := K3.out.cell1 at6
  have x2_0 := K3.out.cell0 at5
  have x3_0 := K3.out.cell0 at4
  have x4_0 := K3.out.cell0 at3
  have x5_0 := K3.out.cell0 at2
  have x6_0 := K3.out.cell0 at1
  have z0 := K3.out.free at5 0
  have z1 := K3.out.free at4 0
  have z2 := K3.out.free at3 0
  have g1 : ∀ (W : World) (v : Value), (W.setCell ⟨w.heap.size + 1 + 1, 0, none⟩ v).cell? ⟨w.heap.size + 1 + 1 + 1, 0, none⟩ = W.cell? ⟨w.heap.size + 1 + 1 + 1, 0, none⟩ := fun W v => cell_far W v (by show w.heap.size + 1 + 1 + 1 ≠ w.heap.size + 1 + 1; omega)
  have g2 : ∀ (W : World) (v : Value), (W.setCell ⟨w.heap.size + 1 + 1, 0, none⟩ v).cell? ⟨w.heap.size + 1 + 1 + 1 + 1, 0, none⟩ = W.cell? ⟨w.heap.size + 1 + 1 + 1 + 1, 0, none⟩ := fun W v => cell_far W v (by show w.heap.size + 1 + 1 + 1 + 1 ≠ w.heap.size + 1 + 1; omega)
  have g3 : ∀ (W : World) (v : Value), (W.setCell ⟨w.heap.size + 1 + 1 + 1, 0, none⟩ v).cell? ⟨w.heap.size + 1 + 1 + 1 + 1, 0, none⟩ = W.cell? ⟨w.heap.size + 1 + 1 + 1 + 1, 0, none⟩ := fun W v => cell_far W v (by show w.heap.size + 1 + 1 + 1 + 1 ≠ w.heap.size + 1 + 1 + 1; omega)
  obtain ⟨q0, q1, q2, hP⟩ := put3 (er := 9) (W' := ((((w3.alloc (.cells #[.slice A3 n3 c3] 24)).setCell ⟨w.heap.size + 1 + 1, 0, none⟩ (.slice none 0 0)).setCell ⟨w.heap.size + 1 + 1 + 1, 0, none⟩ (.slice none 0 0)).setCell ⟨w.heap.size + 1 + 1 + 1 + 1, 0, none⟩ (.slice none 0 0))) K3.out at5 at4 at3 (by omega) NumAt.zero NumAt.zero NumAt.zero rfl
  have HP := Lib.hid hP
  clear hP
  go_wp2_with fail
  refine bodyPost_ret (v := .tuple #[.agg #[.slice none 0 0], .agg #[.slice none 0 0], .agg #[.slice none 0 0], .int .i64 9]) (by simp [results, Tryz.results53, go_sem, q0, q1, q2]) rfl ?_
  exact HP.out
set_option maxHeartbeats 1000000 in
theorem ref4_crossed_no3 (w : World) (h : FIs w A n c A' n' c' a b) (h' : FIs w C m j C' m' j' p q) (h1 : Nt.fits (a * q) = true) (h2 : Nt.fits (p * b) = true) (h3 : Nt.fits (b * q) = false) :
    Calls Tryz.prog 53 #[.agg #[.slice A n c, .slice A' n' c'], .agg #[.slice C m j, .slice C' m' j']] w (TRes3 0 0 0 9 w) := by
  have c1 := fun W (hb : Below w.heap.size w W) => ref3_Mul_nums W (h.on hb).n (h'.on hb).d
  have c2 := fun W (hb : Below w.heap.size w W) => ref3_Mul_nums W (h'.on hb).n (h.on hb).d
  have c3 := fun W (hb : Below w.heap.size w W) => ref3_Mul_nums W (h.on hb).d (h'.on hb).d
  rw [Fr.be_yes h1] at c1
  rw [Fr.be_yes h2] at c2
  rw [Fr.be_no h3] at c3
  have C1 := Lib.hid c1
  have C2 := Lib.hid c2
  have C3 := Lib.hid c3
  clear c1 c2 c3 h h' h1 h2 h3
  have k0 := (((((Ks.start w).box [.slice A n c, .slice A' n' c'] 28).box [.slice C m j, .slice C' m' j'] 28).box [.slice none 0 0] 24).box [.slice none 0 0] 24).box [.slice none 0 0] 24
  simp only [size_alloc] at k0
  have K0 := Lib.hid k0
  clear k0
  go_enter Tryz.func53, Tryz.ntmps53
  go_wp2_with fail
  refine (C1.out _ K0.out.bel).mono ?_
  rintro e w1 ⟨A1, n1, c1, rfl, B1, D1, h1, l1⟩
  have hs1 := B1.size
  simp only [size_alloc] at hs1
  have k1 := ((K0.out.call B1).num D1).box [.slice A1 n1 c1] 24
  have K1 := Lib.hid k1
  clear k1 B1 D1
  have x0_0 := K1.out.cell0 at5
  have x0_1 := K1.out.cell1 at5
  have x1_0 := K1.out.cell0 at4
  have x1_1 := K1.out.cell1 at4
  have x2_0 := K1.out.cell0 at3
  have x3_0 := K1.out.cell0 at2
  have x4_0 := K1.out.cell0 at1
  go_wp2_with fail
  refine (C2.out _ K1.out.bel).mono ?_
  rintro e w2 ⟨A2, n2, c2, rfl, B2, D2, h2, l2⟩
  have hs2 := B2.size
  simp only [size_alloc] at hs2
  have k2 := ((K1.out.call B2).num D2).box [.slice A2 n2 c2] 24
  have K2 := Lib.hid k2
  clear k2 B2 D2
  clear x0_0 x0_1 x1_0 x1_1 x2_0 x3_0 x4_0
  have x0_0 := K2.out.cell0 at6
  have x0_1 := K2.out.cell1 at6
  have x1_0 := K2.out.cell0 at5
  have x1_1 := K2.out.cell1 at5
  have x2_0 := K2.out.cell0 at4
  have x3_0 := K2.out.cell0 at3
  have x4_0 := K2.out.cell0 at2
  have x5_0 := K2.out.cell0 at1
  go_wp2_with fail
  refine (C3.out _ K2.out.bel).mono ?_
  rintro e w3 ⟨A3, n3, c3, rfl, B3, D3, h3, l3⟩
  have hs3 := B3.size
  simp only [size_alloc] at hs3
  have k3 := ((K2.out.call B3).num D3).box [.slice A3 n3 c3] 24
  have K3 := Lib.hid k3
  clear k3 B3 D3
  clear x0_0 x0_1 x1_0 x1_1 x2_0 x3_0 x4_0 x5_0
  have x0_0 := K3.out.cell0 at7
  have x0_1 := K3.out.cell1 at7
  have x1_0 := K3.out.cell0 at6
  have x1_1 := K3.out.cell1 at6
  have x2_0 := K3.out.cell0 at5
  have x3_0 := K3.out.cell0 at4
  have x4_0 := K3.out.cell0 at3
  have x5_0 := K3.out.cell0 at2
  have x6_0 := K3.out.cell0 at1
  have z0 := K3.out.free at5 0
  have z1 := K3.out.free at4 0
  have z2 := K3.out.free at3 0
  have g1 : ∀ (W : World) (v : Value), (W.setCell ⟨w.heap.size + 1 + 1, 0, none⟩ v).cell? ⟨w.heap.size + 1 + 1 + 1, 0, none⟩ = W.cell? ⟨w.heap.size + 1 + 1 + 1, 0, none⟩ := fun W v => cell_far W v (by show w.heap.size + 1 + 1 + 1 ≠ w.heap.size + 1 + 1; omega)
  have g2 : ∀ (W : World) (v : Value), (W.setCell ⟨w.heap.size + 1 + 1, 0, none⟩ v).cell? ⟨w.heap.size + 1 + 1 + 1 + 1, 0, none⟩ = W.cell? ⟨w.heap.size + 1 + 1 + 1 + 1, 0, none⟩ := fun W v => cell_far W v (by show w.heap.size + 1 + 1 + 1 + 1 ≠ w.heap.size + 1 + 1; omega)
  have g3 : ∀ (W : World) (v : Value), (W.setCell ⟨w.heap.size + 1 + 1 + 1, 0, none⟩ v).cell? ⟨w.heap.size + 1 + 1 + 1 + 1, 0, none⟩ = W.cell? ⟨w.heap.size + 1 + 1 + 1 + 1, 0, none⟩ := fun W v => cell_far W v (by show w.heap.size + 1 + 1 + 1 + 1 ≠ w.heap.size + 1 + 1 + 1; omega)
  obtain ⟨q0, q1, q2, hP⟩ := put3 (er := 9) (W' := ((((w3.alloc (.cells #[.slice A3 n3 c3] 24)).setCell ⟨w.heap.size + 1 + 1, 0, none⟩ (.slice none 0 0)).setCell ⟨w.heap.size + 1 + 1 + 1, 0, none⟩ (.slice none 0 0)).setCell ⟨w.heap.size + 1 + 1 + 1 + 1, 0, none⟩ (.slice none 0 0))) K3.out at5 at4 at3 (by omega) NumAt.zero NumAt.zero NumAt.zero rfl
  have HP := Lib.hid hP
  clear hP
  go_wp2_with fail
  refine bodyPost_ret (v := .tuple #[.agg #[.slice none 0 0], .agg #[.slice none 0 0], .agg #[.slice none 0 0], .int .i64 9]) (by simp [results, Tryz.results53, go_sem, q0, q1, q2]) rfl ?_
  exact HP.out
theorem ref4_crossed_no (w : World) (h : FIs w A n c A' n' c' a b) (h' : FIs w C m j C' m' j' p q) (hv : (Nt.fits (a * q) && Nt.fits (p * b) && Nt.fits (b * q)) = false) :
    Calls Tryz.prog 53 #[.agg #[.slice A n c, .slice A' n' c'], .agg #[.slice C m j, .slice C' m' j']] w (TRes3 0 0 0 9 w) := by
  cases h1 : Nt.fits (a * q)
  · exact ref4_crossed_no1 w h h' h1
  · cases h2 : Nt.fits (p * b)
    · exact ref4_crossed_no2 w h h' h1 h2
    · exact ref4_crossed_no3 w h h' h1 h2 (by rw [h1, h2] at hv; simpa using hv)
end
end Go.Proofs.YtclejcijnfpgaaaGreatDoor
