/- The reference of layer 4: Add, Sub, Mul, Div for every argument. (Written by tools/frac11.py.) -/
import Derived.Test.YtclejcijnfpgaaaGreatDoorFracT
import Derived.Test.YtclejcijnfpgaaaGreatDoorFracV
namespace Go.Proofs.YtclejcijnfpgaaaGreatDoor
set_option maxRecDepth 20000
open Go.RowKit
set_option linter.unusedVariables false
set_option linter.unusedSimpArgs false
section
variable {n c n' c' m j m' j' a b p q : Nat} {A A' C C' : Option Addr} {f f' g g' : Nat → Nat}
theorem ref4_Add_bad1 (w : World) (h : FArg w A n c f A' n' c' f') (h' : FArg w C m j g C' m' j' g') (hv : Fr.vld f n f' n' = false) :
    Calls Tryz.prog 24 #[.agg #[.slice A n c, .slice A' n' c'], .agg #[.slice C m j, .slice C' m' j']] w (FRes (0, 0, 2) w) := by
  have v1 := fun W (hb : Below w.heap.size w W) => ref4_Valid_arg W (h.on hb)
  rw [hv] at v1
  have V1 := Lib.hid v1
  clear v1 hv h h'
  have k0 := (((Ks.start w).box [.slice A n c, .slice A' n' c'] 28).box [.slice C m j, .slice C' m' j'] 28).box [.slice none 0 0, .slice none 0 0] 28
  simp only [size_alloc] at k0
  have K0 := Lib.hid k0
  clear k0
  go_enter Tryz.func24, Tryz.ntmps24
  go_wp2_with fail
  refine (V1.out _ K0.out.bel).mono ?_
  rintro e w1 ⟨rfl, B1⟩
  have k1 := K0.out.call B1
  have K1 := Lib.hid k1
  clear k1 B1 
  have x0_0 := K1.out.cell0 at2
  have x0_1 := K1.out.cell1 at2
  have x1_0 := K1.out.cell0 at1
  have x1_1 := K1.out.cell1 at1
  have x2_0 := K1.out.cell0 at0
  have x2_1 := K1.out.cell1 at0
  have zf := K1.out.free at0
  have HF := Lib.hid (FRes.stored (A := none) (n := 0) (c := 0) (A' := none) (n' := 0) (c' := 0) (er := 2) K1.out at0 (by omega) IsN.zero (by omega) (by omega) IsN.zero (by omega) (by omega))
  go_wp2_with fail
  refine bodyPost_ret (v := .tuple #[.agg #[.slice none 0 0, .slice none 0 0], .int .i64 2]) (by simp [results, Tryz.results24, go_sem, x2_0, x2_1]) rfl ?_
  exact HF.out
theorem ref4_Add_bad2 (w : World) (h : FArg w A n c f A' n' c' f') (h' : FArg w C m j g C' m' j' g') (hv : Fr.vld f n f' n' = true) (hv' : Fr.vld g m g' m' = false) :
    Calls Tryz.prog 24 #[.agg #[.slice A n c, .slice A' n' c'], .agg #[.slice C m j, .slice C' m' j']] w (FRes (0, 0, 2) w) := by
  have v1 := fun W (hb : Below w.heap.size w W) => ref4_Valid_arg W (h.on hb)
  rw [hv] at v1
  have V1 := Lib.hid v1
  have v2 := fun W (hb : Below w.heap.size w W) => ref4_Valid_arg W (h'.on hb)
  rw [hv'] at v2
  have V2 := Lib.hid v2
  clear v1 v2 hv hv' h h'
  have k0 := (((Ks.start w).box [.slice A n c, .slice A' n' c'] 28).box [.slice C m j, .slice C' m' j'] 28).box [.slice none 0 0, .slice none 0 0] 28
  simp only [size_alloc] at k0
  have K0 := Lib.hid k0
  clear k0
  go_enter Tryz.func24, Tryz.ntmps24
  go_wp2_with fail
  refine (V1.out _ K0.out.bel).mono ?_
  rintro e w1 ⟨rfl, B1⟩
  have k1 := K0.out.call B1
  have K1 := Lib.hid k1
  clear k1 B1 
  have x0_0 := K1.out.cell0 at2
  have x0_1 := K1.out.cell1 at2
  have x1_0 := K1.out.cell0 at1
  have x1_1 := K1.out.cell1 at1
  have x2_0 := K1.out.cell0 at0
  have x2_1 := K1.out.cell1 at0
  go_wp2_with fail
  refine (V2.out _ K1.out.bel).mono ?_
  rintro e w2 ⟨rfl, B2⟩
  have k2 := K1.out.call B2
  have K2 := Lib.hid k2
  clear k2 B2 
  clear x0_0 x0_1 x1_0 x1_1 x2_0 x2_1
  have x0_0 := K2.out.cell0 at2
  have x0_1 := K2.out.cell1 at2
  have x1_0 := K2.out.cell0 at1
  have x1_1 := K2.out.cell1 at1
  have x2_0 := K2.out.cell0 at0
  have x2_1 := K2.out.cell1 at0
  have zf := K2.out.free at0
  have HF := Lib.hid (FRes.stored (A := none) (n := 0) (c := 0) (A' := none) (n' := 0) (c' := 0) (er := 2) K2.out at0 (by omega) IsN.zero (by omega) (by omega) IsN.zero (by omega) (by omega))
  go_wp2_with fail
  refine bodyPost_ret (v := .tuple #[.agg #[.slice none 0 0, .slice none 0 0], .int .i64 2]) (by simp [results, Tryz.results24, go_sem, x2_0, x2_1]) rfl ?_
  exact HF.out
theorem ref4_Sub_bad1 (w : World) (h : FArg w A n c f A' n' c' f') (h' : FArg w C m j g C' m' j' g') (hv : Fr.vld f n f' n' = false) :
    Calls Tryz.prog 26 #[.agg #[.slice A n c, .slice A' n' c'], .agg #[.slice C m j, .slice C' m' j']] w (FRes (0, 0, 2) w) := by
  have v1 := fun W (hb : Below w.heap.size w W) => ref4_Valid_arg W (h.on hb)
  rw [hv] at v1
  have V1 := Lib.hid v1
  clear v1 hv h h'
  have k0 := (((Ks.start w).box [.slice A n c, .slice A' n' c'] 28).box [.slice C m j, .slice C' m' j'] 28).box [.slice none 0 0, .slice none 0 0] 28
  simp only [size_alloc] at k0
  have K0 := Lib.hid k0
  clear k0
  go_enter Tryz.func26, Tryz.ntmps26
  go_wp2_with fail
  refine (V1.out _ K0.out.bel).mono ?_
  rintro e w1 ⟨rfl, B1⟩
  have k1 := K0.out.call B1
  have K1 := Lib.hid k1
  clear k1 B1 
  have x0_0 := K1.out.cell0 at2
  have x0_1 := K1.out.cell1 at2
  have x1_0 := K1.out.cell0 at1
  have x1_1 := K1.out.cell1 at1
  have x2_0 := K1.out.cell0 at0
  have x2_1 := K1.out.cell1 at0
  have zf := K1.out.free at0
  have HF := Lib.hid (FRes.stored (A := none) (n := 0) (c := 0) (A' := none) (n' := 0) (c' := 0) (er := 2) K1.out at0 (by omega) IsN.zero (by omega) (by omega) IsN.zero (by omega) (by omega))
  go_wp2_with fail
  refine bodyPost_ret (v := .tuple #[.agg #[.slice none 0 0, .slice none 0 0], .int .i64 2]) (by simp [results, Tryz.results26, go_sem, x2_0, x2_1]) rfl ?_
  exact HF.out
theorem ref4_Sub_bad2 (w : World) (h : FArg w A n c f A' n' c' f') (h' : FArg w C m j g C' m' j' g') (hv : Fr.vld f n f' n' = true) (hv' : Fr.vld g m g' m' = false) :
    Calls Tryz.prog 26 #[.agg #[.slice A n c, .slice A' n' c'], .agg #[.slice C m j, .slice C' m' j']] w (FRes (0, 0, 2) w) := by
  have v1 := fun W (hb : Below w.heap.size w W) => ref4_Valid_arg W (h.on hb)
  rw [hv] at v1
  have V1 := Lib.hid v1
  have v2 := fun W (hb : Below w.heap.size w W) => ref4_Valid_arg W (h'.on hb)
  rw [hv'] at v2
  have V2 := Lib.hid v2
  clear v1 v2 hv hv' h h'
  have k0 := (((Ks.start w).box [.slice A n c, .slice A' n' c'] 28).box [.slice C m j, .slice C' m' j'] 28).box [.slice none 0 0, .slice none 0 0] 28
  simp only [size_alloc] at k0
  have K0 := Lib.hid k0
  clear k0
  go_enter Tryz.func26, Tryz.ntmps26
  go_wp2_with fail
  refine (V1.out _ K0.out.bel).mono ?_
  rintro e w1 ⟨rfl, B1⟩
  have k1 := K0.out.call B1
  have K1 := Lib.hid k1
  clear k1 B1 
  have x0_0 := K1.out.cell0 at2
  have x0_1 := K1.out.cell1 at2
  have x1_0 := K1.out.cell0 at1
  have x1_1 := K1.out.cell1 at1
  have x2_0 := K1.out.cell0 at0
  have x2_1 := K1.out.cell1 at0
  go_wp2_with fail
  refine (V2.out _ K1.out.bel).mono ?_
  rintro e w2 ⟨rfl, B2⟩
  have k2 := K1.out.call B2
  have K2 := Lib.hid k2
  clear k2 B2 
  clear x0_0 x0_1 x1_0 x1_1 x2_0 x2_1
  have x0_0 := K2.out.cell0 at2
  have x0_1 := K2.out.cell1 at2
  have x1_0 := K2.out.cell0 at1
  have x1_1 := K2.out.cell1 at1
  have x2_0 := K2.out.cell0 at0
  have x2_1 := K2.out.cell1 at0
  have zf := K2.out.free at0
  have HF := Lib.hid (FRes.stored (A := none) (n := 0) (c := 0) (A' := none) (n' := 0) (c' := 0) (er := 2) K2.out at0 (by omega) IsN.zero (by omega) (by omega) IsN.zero (by omega) (by omega))
  go_wp2_with fail
  refine bodyPost_ret (v := .tuple #[.agg #[.slice none 0 0, .slice none 0 0], .int .i64 2]) (by simp [results, Tryz.results26, go_sem, x2_0, x2_1]) rfl ?_
  exact HF.out
theorem ref4_Mul_bad1 (w : World) (h : FArg w A n c f A' n' c' f') (h' : FArg w C m j g C' m' j' g') (hv : Fr.vld f n f' n' = false) :
    Calls Tryz.prog 28 #[.agg #[.slice A n c, .slice A' n' c'], .agg #[.slice C m j, .slice C' m' j']] w (FRes (0, 0, 2) w) := by
  have v1 := fun W (hb : Below w.heap.size w W) => ref4_Valid_arg W (h.on hb)
  rw [hv] at v1
  have V1 := Lib.hid v1
  clear v1 hv h h'
  have k0 := (((Ks.start w).box [.slice A n c, .slice A' n' c'] 28).box [.slice C m j, .slice C' m' j'] 28).box [.slice none 0 0, .slice none 0 0] 28
  simp only [size_alloc] at k0
  have K0 := Lib.hid k0
  clear k0
  go_enter Tryz.func28, Tryz.ntmps28
  go_wp2_with fail
  refine (V1.out _ K0.out.bel).mono ?_
  rintro e w1 ⟨rfl, B1⟩
  have k1 := K0.out.call B1
  have K1 := Lib.hid k1
  clear k1 B1 
  have x0_0 := K1.out.cell0 at2
  have x0_1 := K1.out.cell1 at2
  have x1_0 := K1.out.cell0 at1
  have x1_1 := K1.out.cell1 at1
  have x2_0 := K1.out.cell0 at0
  have x2_1 := K1.out.cell1 at0
  have zf := K1.out.free at0
  have HF := Lib.hid (FRes.stored (A := none) (n := 0) (c := 0) (A' := none) (n' := 0) (c' := 0) (er := 2) K1.out at0 (by omega) IsN.zero (by omega) (by omega) IsN.zero (by omega) (by omega))
  go_wp2_with fail
  refine bodyPost_ret (v := .tuple #[.agg #[.slice none 0 0, .slice none 0 0], .int .i64 2]) (by simp [results, Tryz.results28, go_sem, x2_0, x2_1]) rfl ?_
  exact HF.out
theorem ref4_Mul_bad2 (w : World) (h : FArg w A n c f A' n' c' f') (h' : FArg w C m j g C' m' j' g') (hv : Fr.vld f n f' n' = true) (hv' : Fr.vld g m g' m' = false) :
    Calls Tryz.prog 28 #[.agg #[.slice A n c, .slice A' n' c'], .agg #[.slice C m j, .slice C' m' j']] w (FRes (0, 0, 2) w) := by
  have v1 := fun W (hb : Below w.heap.size w W) => ref4_Valid_arg W (h.on hb)
  rw [hv] at v1
  have V1 := Lib.hid v1
  have v2 := fun W (hb : Below w.heap.size w W) => ref4_Valid_arg W (h'.on hb)
  rw [hv'] at v2
  have V2 := Lib.hid v2
  clear v1 v2 hv hv' h h'
  have k0 := (((Ks.start w).box [.slice A n c, .slice A' n' c'] 28).box [.slice C m j, .slice C' m' j'] 28).box [.slice none 0 0, .slice none 0 0] 28
  simp only [size_alloc] at k0
  have K0 := Lib.hid k0
  clear k0
  go_enter Tryz.func28, Tryz.ntmps28
  go_wp2_with fail
  refine (V1.out _ K0.out.bel).mono ?_
  rintro e w1 ⟨rfl, B1⟩
  have k1 := K0.out.call B1
  have K1 := Lib.hid k1
  clear k1 B1 
  have x0_0 := K1.out.cell0 at2
  have x0_1 := K1.out.cell1 at2
  have x1_0 := K1.out.cell0 at1
  have x1_1 := K1.out.cell1 at1
  have x2_0 := K1.out.cell0 at0
  have x2_1 := K1.out.cell1 at0
  go_wp2_with fail
  refine (V2.out _ K1.out.bel).mono ?_
  rintro e w2 ⟨rfl, B2⟩
  have k2 := K1.out.call B2
  have K2 := Lib.hid k2
  clear k2 B2 
  clear x0_0 x0_1 x1_0 x1_1 x2_0 x2_1
  have x0_0 := K2.out.cell0 at2
  have x0_1 := K2.out.cell1 at2
  have x1_0 := K2.out.cell0 at1
  have x1_1 := K2.out.cell1 at1
  have x2_0 := K2.out.cell0 at0
  have x2_1 := K2.out.cell1 at0
  have zf := K2.out.free at0
  have HF := Lib.hid (FRes.stored (A := none) (n := 0) (c := 0) (A' := none) (n' := 0) (c' := 0) (er := 2) K2.out at0 (by omega) IsN.zero (by omega) (by omega) IsN.zero (by omega) (by omega))
  go_wp2_with fail
  refine bodyPost_ret (v := .tuple #[.agg #[.slice none 0 0, .slice none 0 0], .int .i64 2]) (by simp [results, Tryz.results28, go_sem, x2_0, x2_1]) rfl ?_
  exact HF.out
theorem ref4_Div_bad1 (w : World) (h : FArg w A n c f A' n' c' f') (h' : FArg w C m j g C' m' j' g') (hv : Fr.vld f n f' n' = false) :
    Calls Tryz.prog 30 #[.agg #[.slice A n c, .slice A' n' c'], .agg #[.slice C m j, .slice C' m' j']] w (FRes (0, 0, 2) w) := by
  have v1 := fun W (hb : Below w.heap.size w W) => ref4_Valid_arg W (h.on hb)
  rw [hv] at v1
  have V1 := Lib.hid v1
  clear v1 hv h h'
  have k0 := (((Ks.start w).box [.slice A n c, .slice A' n' c'] 28).box [.slice C m j, .slice C' m' j'] 28).box [.slice none 0 0, .slice none 0 0] 28
  simp only [size_alloc] at k0
  have K0 := Lib.hid k0
  clear k0
  go_enter Tryz.func30, Tryz.ntmps30
  go_wp2_with fail
  refine (V1.out _ K0.out.bel).mono ?_
  rintro e w1 ⟨rfl, B1⟩
  have k1 := K0.out.call B1
  have K1 := Lib.hid k1
  clear k1 B1 
  have x0_0 := K1.out.cell0 at2
  have x0_1 := K1.out.cell1 at2
  have x1_0 := K1.out.cell0 at1
  have x1_1 := K1.out.cell1 at1
  have x2_0 := K1.out.cell0 at0
  have x2_1 := K1.out.cell1 at0
  have zf := K1.out.free at0
  have HF := Lib.hid (FRes.stored (A := none) (n := 0) (c := 0) (A' := none) (n' := 0) (c' := 0) (er := 2) K1.out at0 (by omega) IsN.zero (by omega) (by omega) IsN.zero (by omega) (by omega))
  go_wp2_with fail
  refine bodyPost_ret (v := .tuple #[.agg #[.slice none 0 0, .slice none 0 0], .int .i64 2]) (by simp [results, Tryz.results30, go_sem, x2_0, x2_1]) rfl ?_
  exact HF.out
theorem ref4_Div_bad2 (w : World) (h : FArg w A n c f A' n' c' f') (h' : FArg w C m j g C' m' j' g') (hv : Fr.vld f n f' n' = true) (hv' : Fr.vld g m g' m' = false) :
    Calls Tryz.prog 30 #[.agg #[.slice A n c, .slice A' n' c'], .agg #[.slice C m j, .slice C' m' j']] w (FRes (0, 0, 2) w) := by
  have v1 := fun W (hb : Below w.heap.size w W) => ref4_Valid_arg W (h.on hb)
  rw [hv] at v1
  have V1 := Lib.hid v1
  have v2 := fun W (hb : Below w.heap.size w W) => ref4_Valid_arg W (h'.on hb)
  rw [hv'] at v2
  have V2 := Lib.hid v2
  clear v1 v2 hv hv' h h'
  have k0 := (((Ks.start w).box [.slice A n c, .slice A' n' c'] 28).box [.slice C m j, .slice C' m' j'] 28).box [.slice none 0 0, .slice none 0 0] 28
  simp only [size_alloc] at k0
  have K0 := Lib.hid k0
  clear k0
  go_enter Tryz.func30, Tryz.ntmps30
  go_wp2_with fail
  refine (V1.out _ K0.out.bel).mono ?_
  rintro e w1 ⟨rfl, B1⟩
  have k1 := K0.out.call B1
  have K1 := Lib.hid k1
  clear k1 B1 
  have x0_0 := K1.out.cell0 at2
  have x0_1 := K1.out.cell1 at2
  have x1_0 := K1.out.cell0 at1
  have x1_1 := K1.out.cell1 at1
  have x2_0 := K1.out.cell0 at0
  have x2_1 := K1.out.cell1 at0
  go_wp2_with fail
  refine (V2.out _ K1.out.bel).mono ?_
  rintro e w2 ⟨rfl, B2⟩
  have k2 := K1.out.call B2
  have K2 := Lib.hid k2
  clear k2 B2 
  clear x0_0 x0_1 x1_0 x1_1 x2_0 x2_1
  have x0_0 := K2.out.cell0 at2
  have x0_1 := K2.out.cell1 at2
  have x1_0 := K2.out.cell0 at1
  have x1_1 := K2.out.cell1 at1
  have x2_0 := K2.out.cell0 at0
  have x2_1 := K2.out.cell1 at0
  have zf := K2.out.free at0
  have HF := Lib.hid (FRes.stored (A := none) (n := 0) (c := 0) (A' := none) (n' := 0) (c' := 0) (er := 2) K2.out at0 (by omega) IsN.zero (by omega) (by omega) IsN.zero (by omega) (by omega))
  go_wp2_with fail
  refine bodyPost_ret (v := .tuple #[.agg #[.slice none 0 0, .slice none 0 0], .int .i64 2]) (by simp [results, Tryz.results30, go_sem, x2_0, x2_1]) rfl ?_
  exact HF.out
set_option maxHeartbeats 1000000 in
theorem ref4_Add_no (w : World) (h : FIs w A n c A' n' c' a b) (h' : FIs w C m j C' m' j' p q) (hv : (Nt.fits (a * q) && Nt.fits (p * b) && Nt.fits (b * q)) = false) :
    Calls Tryz.prog 24 #[.agg #[.slice A n c, .slice A' n' c'], .agg #[.slice C m j, .slice C' m' j']] w (FRes (0, 0, 9) w) := by
  have V1 := Lib.hid fun W (hb : Below w.heap.size w W) => ref4_Valid_is W (h.on hb)
  have V2 := Lib.hid fun W (hb : Below w.heap.size w W) => ref4_Valid_is W (h'.on hb)
  have CR := Lib.hid fun W (hb : Below w.heap.size w W) => ref4_crossed_no W (h.on hb) (h'.on hb) hv
  clear h h' hv
  have k0 := (((Ks.start w).box [.slice A n c, .slice A' n' c'] 28).box [.slice C m j, .slice C' m' j'] 28).box [.slice none 0 0, .slice none 0 0] 28
  simp only [size_alloc] at k0
  have K0 := Lib.hid k0
  clear k0
  go_enter Tryz.func24, Tryz.ntmps24
  go_wp2_with fail
  refine (V1.out _ K0.out.bel).mono ?_
  rintro e w1 ⟨rfl, B1⟩
  have k1 := K0.out.call B1
  have K1 := Lib.hid k1
  clear k1 B1 
  have x0_0 := K1.out.cell0 at2
  have x0_1 := K1.out.cell1 at2
  have x1_0 := K1.out.cell0 at1
  have x1_1 := K1.out.cell1 at1
  have x2_0 := K1.out.cell0 at0
  have x2_1 := K1.out.cell1 at0
  go_wp2_with fail
  refine (V2.out _ K1.out.bel).mono ?_
  rintro e w2 ⟨rfl, B2⟩
  have k2 := K1.out.call B2
  have K2 := Lib.hid k2
  clear k2 B2 
  clear x0_0 x0_1 x1_0 x1_1 x2_0 x2_1
  have x0_0 := K2.out.cell0 at2
  have x0_1 := K2.out.cell1 at2
  have x1_0 := K2.out.cell0 at1
  have x1_1 := K2.out.cell1 at1
  have x2_0 := K2.out.cell0 at0
  have x2_1 := K2.out.cell1 at0
  go_wp2_with fail
  refine (CR.out _ K2.out.bel).mono ?_
  rintro e w3 ⟨A3, n3, c3, A3r, n3r, c3r, A3s, n3s, c3s, rfl, B3, ⟨D3, h3, l3⟩, ⟨D3r, h3r, l3r⟩, ⟨D3s, h3s, l3s⟩⟩
  have k3 := ((((((K2.out.call B3).num D3).num D3r).num D3s).box [.slice A3 n3 c3] 24).box [.slice A3r n3r c3r] 24).box [.slice A3s n3s c3s] 24
  simp only [size_alloc] at k3
  have K3 := Lib.hid k3
  clear k3 B3 D3 D3r D3s
  clear x0_0 x0_1 x1_0 x1_1 x2_0 x2_1
  have x0_0 := K3.out.cell0 at5
  have x0_1 := K3.out.cell1 at5
  have x1_0 := K3.out.cell0 at4
  have x1_1 := K3.out.cell1 at4
  have x2_0 := K3.out.cell0 at3
  have x2_1 := K3.out.cell1 at3
  have zf := K3.out.free at3
  have HF := Lib.hid (FRes.stored (A := none) (n := 0) (c := 0) (A' := none) (n' := 0) (c' := 0) (er := 9) K3.out at3 (by omega) IsN.zero (by omega) (by omega) IsN.zero (by omega) (by omega))
  go_wp2_with fail
  refine bodyPost_ret (v := .tuple #[.agg #[.slice none 0 0, .slice none 0 0], .int .i64 9]) (by simp [results, Tryz.results24, go_sem, x2_0, x2_1]) rfl ?_
  exact HF.out
set_option maxHeartbeats 1000000 in
theorem ref4_Add_over (w : World) (h : FIs w A n c A' n' c' a b) (h' : FIs w C m j C' m' j' p q) (h1 : Nt.fits (a * q) = true) (h2 : Nt.fits (p * b) = true) (h3 : Nt.fits (b * q) = true) (h4 : Nt.fits (a * q + p * b) = false) :
    Calls Tryz.prog 24 #[.agg #[.slice A n c, .slice A' n' c'], .agg #[.slice C m j, .slice C' m' j']] w (FRes (0, 0, 9) w) := by
  have V1 := Lib.hid fun W (hb : Below w.heap.size w W) => ref4_Valid_is W (h.on hb)
  have V2 := Lib.hid fun W (hb : Below w.heap.size w W) => ref4_Valid_is W (h'.on hb)
  have CR := Lib.hid fun W (hb : Below w.heap.size w W) => ref4_crossed_fit W (h.on hb) (h'.on hb) h1 h2 h3
  have AD := Lib.hid fun W {A : Option Addr} {n c : Nat} {A' : Option Addr} {n' c' : Nat} (h : NumAt W A n c (a * q)) (h' : NumAt W A' n' c' (p * b)) => ref3_Add_nums W h h'
  have EB := Lib.hid (Fr.be_no h4)
  clear h h' h1 h2 h3 h4
  have k0 := (((Ks.start w).box [.slice A n c, .slice A' n' c'] 28).box [.slice C m j, .slice C' m' j'] 28).box [.slice none 0 0, .slice none 0 0] 28
  simp only [size_alloc] at k0
  have K0 := Lib.hid k0
  clear k0
  go_enter Tryz.func24, Tryz.ntmps24
  go_wp2_with fail
  refine (V1.out _ K0.out.bel).mono ?_
  rintro e w1 ⟨rfl, B1⟩
  have k1 := K0.out.call B1
  have K1 := Lib.hid k1
  clear k1 B1 
  have x0_0 := K1.out.cell0 at2
  have x0_1 := K1.out.cell1 at2
  have x1_0 := K1.out.cell0 at1
  have x1_1 := K1.out.cell1 at1
  have x2_0 := K1.out.cell0 at0
  have x2_1 := K1.out.cell1 at0
  go_wp2_with fail
  refine (V2.out _ K1.out.bel).mono ?_
  rintro e w2 ⟨rfl, B2⟩
  have k2 := K1.out.call B2
  have K2 := Lib.hid k2
  clear k2 B2 
  clear x0_0 x0_1 x1_0 x1_1 x2_0 x2_1
  have x0_0 := K2.out.cell0 at2
  have x0_1 := K2.out.cell1 at2
  have x1_0 := K2.out.cell0 at1
  have x1_1 := K2.out.cell1 at1
  have x2_0 := K2.out.cell0 at0
  have x2_1 := K2.out.cell1 at0
  go_wp2_with fail
  refine (CR.out _ K2.out.bel).mono ?_
  rintro e w3 ⟨A3, n3, c3, A3r, n3r, c3r, A3s, n3s, c3s, rfl, B3, ⟨D3, h3, l3⟩, ⟨D3r, h3r, l3r⟩, ⟨D3s, h3s, l3s⟩⟩
  have k3 := ((((((K2.out.call B3).num D3).num D3r).num D3s).box [.slice A3 n3 c3] 24).box [.slice A3r n3r c3r] 24).box [.slice A3s n3s c3s] 24
  simp only [size_alloc] at k3
  have K3 := Lib.hid k3
  clear k3 B3 D3 D3r D3s
  clear x0_0 x0_1 x1_0 x1_1 x2_0 x2_1
  have x0_0 := K3.out.cell0 at5
  have x0_1 := K3.out.cell1 at5
  have x1_0 := K3.out.cell0 at4
  have x1_1 := K3.out.cell1 at4
  have x2_0 := K3.out.cell0 at3
  have x2_1 := K3.out.cell1 at3
  go_wp2_with fail
  refine (AD.out _ ⟨(K3.out.get at2), h3, l3⟩ ⟨(K3.out.get at1), h3r, l3r⟩).mono ?_
  rintro e w4 ⟨A4, n4, c4, rfl, B4, D4, h4, l4⟩
  rw [EB.out]
  have k4 := ((K3.out.call B4).num D4).box [.slice A4 n4 c4] 24
  have K4 := Lib.hid k4
  clear k4 B4 D4
  clear x0_0 x0_1 x1_0 x1_1 x2_0 x2_1
  have x0_0 := K4.out.cell0 at6
  have x0_1 := K4.out.cell1 at6
  have x1_0 := K4.out.cell0 at5
  have x1_1 := K4.out.cell1 at5
  have x2_0 := K4.out.cell0 at4
  have x2_1 := K4.out.cell1 at4
  have x3_0 := K4.out.cell0 at3
  have x4_0 := K4.out.cell0 at2
  have x5_0 := K4.out.cell0 at1
  have zf := K4.out.free at4
  have HF := Lib.hid (FRes.stored (A := none) (n := 0) (c := 0) (A' := none) (n' := 0) (c' := 0) (er := 9) K4.out at4 (by omega) IsN.zero (by omega) (by omega) IsN.zero (by omega) (by omega))
  go_wp2_with fail
  refine bodyPost_ret (v := .tuple #[.agg #[.slice none 0 0, .slice none 0 0], .int .i64 9]) (by simp [results, Tryz.results24, go_sem, x2_0, x2_1]) rfl ?_
  exact HF.out
set_option maxHeartbeats 1000000 in
theorem ref4_Add_yes (w : World) (h : FIs w A n c A' n' c' a b) (h' : FIs w C m j C' m' j' p q) (h1 : Nt.fits (a * q) = true) (h2 : Nt.fits (p * b) = true) (h3 : Nt.fits (b * q) = true) (h4 : Nt.fits (a * q + p * b) = true) :
    Calls Tryz.prog 24 #[.agg #[.slice A n c, .slice A' n' c'], .agg #[.slice C m j, .slice C' m' j']] w (FRes (Fr.rn (a * q + p * b) (b * q), Fr.rd (a * q + p * b) (b * q), 0) w) := by
  have V1 := Lib.hid fun W (hb : Below w.heap.size w W) => ref4_Valid_is W (h.on hb)
  have V2 := Lib.hid fun W (hb : Below w.heap.size w W) => ref4_Valid_is W (h'.on hb)
  have CR := Lib.hid fun W (hb : Below w.heap.size w W) => ref4_crossed_fit W (h.on hb) (h'.on hb) h1 h2 h3
  have ad := fun W {A : Option Addr} {n c : Nat} {A' : Option Addr} {n' c' : Nat} (h : NumAt W A n c (a * q)) (h' : NumAt W A' n' c' (p * b)) => ref3_Add_nums W h h'
  rw [Fr.bv_yes h4, Fr.be_yes h4] at ad
  have BQ := Lib.hid (Nat.mul_pos h.b0 h'.b0)
  obtain ⟨s, es⟩ : ∃ s, s = a * q + p * b := ⟨_, rfl⟩
  rw [← es] at ad
  have AD := Lib.hid ad
  have RD := Lib.hid fun W {A : Option Addr} {n c : Nat} {A' : Option Addr} {n' c' : Nat} (h : NumAt W A n c s) (h' : NumAt W A' n' c' (b * q)) => ref4_reduce W h h' BQ.out
  rw [← es]
  clear h h' h1 h2 h3 ad es h4
  have k0 := (((Ks.start w).box [.slice A n c, .slice A' n' c'] 28).box [.slice C m j, .slice C' m' j'] 28).box [.slice none 0 0, .slice none 0 0] 28
  simp only [size_alloc] at k0
  have K0 := Lib.hid k0
  clear k0
  go_enter Tryz.func24, Tryz.ntmps24
  go_wp2_with fail
  refine (V1.out _ K0.out.bel).mono ?_
  rintro e w1 ⟨rfl, B1⟩
  have k1 := K0.out.call B1
  have K1 := Lib.hid k1
  clear k1 B1 
  have x0_0 := K1.out.cell0 at2
  have x0_1 := K1.out.cell1 at2
  have x1_0 := K1.out.cell0 at1
  have x1_1 := K1.out.cell1 at1
  have x2_0 := K1.out.cell0 at0
  have x2_1 := K1.out.cell1 at0
  go_wp2_with fail
  refine (V2.out _ K1.out.bel).mono ?_
  rintro e w2 ⟨rfl, B2⟩
  have k2 := K1.out.call B2
  have K2 := Lib.hid k2
  clear k2 B2 
  clear x0_0 x0_1 x1_0 x1_1 x2_0 x2_1
  have x0_0 := K2.out.cell0 at2
  have x0_1 := K2.out.cell1 at2
  have x1_0 := K2.out.cell0 at1
  have x1_1 := K2.out.cell1 at1
  have x2_0 := K2.out.cell0 at0
  have x2_1 := K2.out.cell1 at0
  go_wp2_with fail
  refine (CR.out _ K2.out.bel).mono ?_
  rintro e w3 ⟨A3, n3, c3, A3r, n3r, c3r, A3s, n3s, c3s, rfl, B3, ⟨D3, h3, l3⟩, ⟨D3r, h3r, l3r⟩, ⟨D3s, h3s, l3s⟩⟩
  have k3 := ((((((K2.out.call B3).num D3).num D3r).num D3s).box [.slice A3 n3 c3] 24).box [.slice A3r n3r c3r] 24).box [.slice A3s n3s c3s] 24
  simp only [size_alloc] at k3
  have K3 := Lib.hid k3
  clear k3 B3 D3 D3r D3s
  clear x0_0 x0_1 x1_0 x1_1 x2_0 x2_1
  have x0_0 := K3.out.cell0 at5
  have x0_1 := K3.out.cell1 at5
  have x1_0 := K3.out.cell0 at4
  have x1_1 := K3.out.cell1 at4
  have x2_0 := K3.out.cell0 at3
  have x2_1 := K3.out.cell1 at3
  go_wp2_with fail
  refine (AD.out _ ⟨(K3.out.get at2), h3, l3⟩ ⟨(K3.out.get at1), h3r, l3r⟩).mono ?_
  rintro e w4 ⟨A4, n4, c4, rfl, B4, D4, h4, l4⟩
  have k4 := ((K3.out.call B4).num D4).box [.slice A4 n4 c4] 24
  have K4 := Lib.hid k4
  clear k4 B4 D4
  clear x0_0 x0_1 x1_0 x1_1 x2_0 x2_1
  have x0_0 := K4.out.cell0 at6
  have x0_1 := K4.out.cell1 at6
  have x1_0 := K4.out.cell0 at5
  have x1_1 := K4.out.cell1 at5
  have x2_0 := K4.out.cell0 at4
  have x2_1 := K4.out.cell1 at4
  have x3_0 := K4.out.cell0 at3
  have x4_0 := K4.out.cell0 at2
  have x5_0 := K4.out.cell0 at1
  go_wp2_with fail
  refine (RD.out _ ⟨(K4.out.get at0), h4, l4⟩ ⟨(K4.out.get at1), h3s, l3s⟩).mono ?_
  rintro e w5 ⟨A5, n5, c5, A5r, n5r, c5r, rfl, B5, D5, D5r, h5, h5r, l5, l5r⟩
  have k5 := ((K4.out.call B5).num D5).num D5r
  have K5 := Lib.hid k5
  clear k5 B5 D5 D5r
  clear x0_0 x0_1 x1_0 x1_1 x2_0 x2_1 x3_0 x4_0 x5_0
  have x0_0 := K5.out.cell0 at6
  have x0_1 := K5.out.cell1 at6
  have x1_0 := K5.out.cell0 at5
  have x1_1 := K5.out.cell1 at5
  have x2_0 := K5.out.cell0 at4
  have x2_1 := K5.out.cell1 at4
  have x3_0 := K5.out.cell0 at3
  have x4_0 := K5.out.cell0 at2
  have x5_0 := K5.out.cell0 at1
  have x6_0 := K5.out.cell0 at0
  have zf := K5.out.free at4
  have HF := Lib.hid (FRes.stored (A := A5) (n := n5) (c := c5) (A' := A5r) (n' := n5r) (c' := c5r) (er := 0) K5.out at4 (by omega) (K5.out.get at1) h5 l5 (K5.out.get at0) h5r l5r)
  go_wp2_with fail
  refine bodyPost_ret (v := .tuple #[.agg #[.slice A5 n5 c5, .slice A5r n5r c5r], .int .i64 0]) (by simp [results, Tryz.results24, go_sem, x2_0, x2_1]) rfl ?_
  exact HF.out
set_option maxHeartbeats 1000000 in
theorem ref4_Sub_less (w : World) (h : FIs w A n c A' n' c' a b) (h' : FIs w C m j C' m' j' p q) (hl : a * q < p * b) :
    Calls Tryz.prog 26 #[.agg #[.slice A n c, .slice A' n' c'], .agg #[.slice C m j, .slice C' m' j']] w (FRes (0, 0, 2) w) := by
  have V1 := Lib.hid fun W (hb : Below w.heap.size w W) => ref4_Valid_is W (h.on hb)
  have V2 := Lib.hid fun W (hb : Below w.heap.size w W) => ref4_Valid_is W (h'.on hb)
  have cm := fun W (hb : Below w.heap.size w W) => ref4_Cmp_is W (h.on hb) (h'.on hb)
  obtain ⟨z, ez⟩ : ∃ z, z = Fr.ci (a * q) (p * b) := ⟨_, rfl⟩
  rw [← ez] at cm
  have CM := Lib.hid cm
  have z0 : z < 0 := by rw [ez, Fr.ci_lt hl]; omega
  clear cm ez h h' hl
  have k0 := (((Ks.start w).box [.slice A n c, .slice A' n' c'] 28).box [.slice C m j, .slice C' m' j'] 28).box [.slice none 0 0, .slice none 0 0] 28
  simp only [size_alloc] at k0
  have K0 := Lib.hid k0
  clear k0
  go_enter Tryz.func26, Tryz.ntmps26
  go_wp2_with fail
  refine (V1.out _ K0.out.bel).mono ?_
  rintro e w1 ⟨rfl, B1⟩
  have k1 := K0.out.call B1
  have K1 := Lib.hid k1
  clear k1 B1 
  have x0_0 := K1.out.cell0 at2
  have x0_1 := K1.out.cell1 at2
  have x1_0 := K1.out.cell0 at1
  have x1_1 := K1.out.cell1 at1
  have x2_0 := K1.out.cell0 at0
  have x2_1 := K1.out.cell1 at0
  go_wp2_with fail
  refine (V2.out _ K1.out.bel).mono ?_
  rintro e w2 ⟨rfl, B2⟩
  have k2 := K1.out.call B2
  have K2 := Lib.hid k2
  clear k2 B2 
  clear x0_0 x0_1 x1_0 x1_1 x2_0 x2_1
  have x0_0 := K2.out.cell0 at2
  have x0_1 := K2.out.cell1 at2
  have x1_0 := K2.out.cell0 at1
  have x1_1 := K2.out.cell1 at1
  have x2_0 := K2.out.cell0 at0
  have x2_1 := K2.out.cell1 at0
  go_wp2_with fail
  refine (CM.out _ K2.out.bel).mono ?_
  rintro e w3 ⟨rfl, B3⟩
  have k3 := K2.out.call B3
  have K3 := Lib.hid k3
  clear k3 B3 
  clear x0_0 x0_1 x1_0 x1_1 x2_0 x2_1
  have x0_0 := K3.out.cell0 at2
  have x0_1 := K3.out.cell1 at2
  have x1_0 := K3.out.cell0 at1
  have x1_1 := K3.out.cell1 at1
  have x2_0 := K3.out.cell0 at0
  have x2_1 := K3.out.cell1 at0
  have zf := K3.out.free at0
  have HF := Lib.hid (FRes.stored (A := none) (n := 0) (c := 0) (A' := none) (n' := 0) (c' := 0) (er := 2) K3.out at0 (by omega) IsN.zero (by omega) (by omega) IsN.zero (by omega) (by omega))
  go_wp2_with fail
  refine bodyPost_ret (v := .tuple #[.agg #[.slice none 0 0, .slice none 0 0], .int .i64 2]) (by simp [results, Tryz.results26, go_sem, x2_0, x2_1]) rfl ?_
  exact HF.out
set_option maxHeartbeats 1000000 in
theorem ref4_Sub_no (w : World) (h : FIs w A n c A' n' c' a b) (h' : FIs w C m j C' m' j' p q) (hv : (Nt.fits (a * q) && Nt.fits (p * b) && Nt.fits (b * q)) = false) (hl : ¬ a * q < p * b) :
    Calls Tryz.prog 26 #[.agg #[.slice A n c, .slice A' n' c'], .agg #[.slice C m j, .slice C' m' j']] w (FRes (0, 0, 9) w) := by
  have V1 := Lib.hid fun W (hb : Below w.heap.size w W) => ref4_Valid_is W (h.on hb)
  have V2 := Lib.hid fun W (hb : Below w.heap.size w W) => ref4_Valid_is W (h'.on hb)
  have cm := fun W (hb : Below w.heap.size w W) => ref4_Cmp_is W (h.on hb) (h'.on hb)
  obtain ⟨z, ez⟩ : ∃ z, z = Fr.ci (a * q) (p * b) := ⟨_, rfl⟩
  rw [← ez] at cm
  have CM := Lib.hid cm
  have z0 : ¬ z < 0 := by
    rw [ez]
    rcases Nat.lt_trichotomy (a * q) (p * b) with h | h | h
    · exact absurd h hl
    · rw [h, Fr.ci_eq]; omega
    · rw [Fr.ci_gt h]; omega
  have CR := Lib.hid fun W (hb : Below w.heap.size w W) => ref4_crossed_no W (h.on hb) (h'.on hb) hv
  clear h h' hv cm ez hl
  have k0 := (((Ks.start w).box [.slice A n c, .slice A' n' c'] 28).box [.slice C m j, .slice C' m' j'] 28).box [.slice none 0 0, .slice none 0 0] 28
  simp only [size_alloc] at k0
  have K0 := Lib.hid k0
  clear k0
  go_enter Tryz.func26, Tryz.ntmps26
  go_wp2_with fail
  refine (V1.out _ K0.out.bel).mono ?_
  rintro e w1 ⟨rfl, B1⟩
  have k1 := K0.out.call B1
  have K1 := Lib.hid k1
  clear k1 B1 
  have x0_0 := K1.out.cell0 at2
  have x0_1 := K1.out.cell1 at2
  have x1_0 := K1.out.cell0 at1
  have x1_1 := K1.out.cell1 at1
  have x2_0 := K1.out.cell0 at0
  have x2_1 := K1.out.cell1 at0
  go_wp2_with fail
  refine (V2.out _ K1.out.bel).mono ?_
  rintro e w2 ⟨rfl, B2⟩
  have k2 := K1.out.call B2
  have K2 := Lib.hid k2
  clear k2 B2 
  clear x0_0 x0_1 x1_0 x1_1 x2_0 x2_1
  have x0_0 := K2.out.cell0 at2
  have x0_1 := K2.out.cell1 at2
  have x1_0 := K2.out.cell0 at1
  have x1_1 := K2.out.cell1 at1
  have x2_0 := K2.out.cell0 at0
  have x2_1 := K2.out.cell1 at0
  go_wp2_with fail
  refine (CM.out _ K2.out.bel).mono ?_
  rintro e w3 ⟨rfl, B3⟩
  have k3 := K2.out.call B3
  have K3 := Lib.hid k3
  clear k3 B3 
  clear x0_0 x0_1 x1_0 x1_1 x2_0 x2_1
  have x0_0 := K3.out.cell0 at2
  have x0_1 := K3.out.cell1 at2
  have x1_0 := K3.out.cell0 at1
  have x1_1 := K3.out.cell1 at1
  have x2_0 := K3.out.cell0 at0
  have x2_1 := K3.out.cell1 at0
  go_wp2_with fail
  refine (CR.out _ K3.out.bel).mono ?_
  rintro e w4 ⟨A4, n4, c4, A4r, n4r, c4r, A4s, n4s, c4s, rfl, B4, ⟨D4, h4, l4⟩, ⟨D4r, h4r, l4r⟩, ⟨D4s, h4s, l4s⟩⟩
  have k4 := ((((((K3.out.call B4).num D4).num D4r).num D4s).box [.slice A4 n4 c4] 24).box [.slice A4r n4r c4r] 24).box [.slice A4s n4s c4s] 24
  simp only [size_alloc] at k4
  have K4 := Lib.hid k4
  clear k4 B4 D4 D4r D4s
  clear x0_0 x0_1 x1_0 x1_1 x2_0 x2_1
  have x0_0 := K4.out.cell0 at5
  have x0_1 := K4.out.cell1 at5
  have x1_0 := K4.out.cell0 at4
  have x1_1 := K4.out.cell1 at4
  have x2_0 := K4.out.cell0 at3
  have x2_1 := K4.out.cell1 at3
  have zf := K4.out.free at3
  have HF := Lib.hid (FRes.stored (A := none) (n := 0) (c := 0) (A' := none) (n' := 0) (c' := 0) (er := 9) K4.out at3 (by omega) IsN.zero (by omega) (by omega) IsN.zero (by omega) (by omega))
  go_wp2_with fail
  refine bodyPost_ret (v := .tuple #[.agg #[.slice none 0 0, .slice none 0 0], .int .i64 9]) (by simp [results, Tryz.results26, go_sem, x2_0, x2_1]) rfl ?_
  exact HF.out
set_option maxHeartbeats 1000000 in
theorem ref4_Sub_yes (w : World) (h : FIs w A n c A' n' c' a b) (h' : FIs w C m j C' m' j' p q) (h1 : Nt.fits (a * q) = true) (h2 : Nt.fits (p * b) = true) (h3 : Nt.fits (b * q) = true) (hl : ¬ a * q < p * b) :
    Calls Tryz.prog 26 #[.agg #[.slice A n c, .slice A' n' c'], .agg #[.slice C m j, .slice C' m' j']] w (FRes (Fr.rn (a * q - p * b) (b * q), Fr.rd (a * q - p * b) (b * q), 0) w) := by
  have V1 := Lib.hid fun W (hb : Below w.heap.size w W) => ref4_Valid_is W (h.on hb)
  have V2 := Lib.hid fun W (hb : Below w.heap.size w W) => ref4_Valid_is W (h'.on hb)
  have cm := fun W (hb : Below w.heap.size w W) => ref4_Cmp_is W (h.on hb) (h'.on hb)
  obtain ⟨z, ez⟩ : ∃ z, z = Fr.ci (a * q) (p * b) := ⟨_, rfl⟩
  rw [← ez] at cm
  have CM := Lib.hid cm
  have z0 : ¬ z < 0 := by
    rw [ez]
    rcases Nat.lt_trichotomy (a * q) (p * b) with h | h | h
    · exact absurd h hl
    · rw [h, Fr.ci_eq]; omega
    · rw [Fr.ci_gt h]; omega
  have CR := Lib.hid fun W (hb : Below w.heap.size w W) => ref4_crossed_fit W (h.on hb) (h'.on hb) h1 h2 h3
  have ad := fun W {A : Option Addr} {n c : Nat} {A' : Option Addr} {n' c' : Nat} (h : NumAt W A n c (a * q)) (h' : NumAt W A' n' c' (p * b)) => ref3_Sub_nums W h h'
  rw [Nt.se, if_neg hl] at ad
  have BQ := Lib.hid (Nat.mul_pos h.b0 h'.b0)
  obtain ⟨s, es⟩ : ∃ s, s = a * q - p * b := ⟨_, rfl⟩
  rw [← es] at ad
  have AD := Lib.hid ad
  have RD := Lib.hid fun W {A : Option Addr} {n c : Nat} {A' : Option Addr} {n' c' : Nat} (h : NumAt W A n c s) (h' : NumAt W A' n' c' (b * q)) => ref4_reduce W h h' BQ.out
  rw [← es]
  clear h h' h1 h2 h3 ad es cm ez hl
  have k0 := (((Ks.start w).box [.slice A n c, .slice A' n' c'] 28).box [.slice C m j, .slice C' m' j'] 28).box [.slice none 0 0, .slice none 0 0] 28
  simp only [size_alloc] at k0
  have K0 := Lib.hid k0
  clear k0
  go_enter Tryz.func26, Tryz.ntmps26
  go_wp2_with fail
  refine (V1.out _ K0.out.bel).mono ?_
  rintro e w1 ⟨rfl, B1⟩
  have k1 := K0.out.call B1
  have K1 := Lib.hid k1
  clear k1 B1 
  have x0_0 := K1.out.cell0 at2
  have x0_1 := K1.out.cell1 at2
  have x1_0 := K1.out.cell0 at1
  have x1_1 := K1.out.cell1 at1
  have x2_0 := K1.out.cell0 at0
  have x2_1 := K1.out.cell1 at0
  go_wp2_with fail
  refine (V2.out _ K1.out.bel).mono ?_
  rintro e w2 ⟨rfl, B2⟩
  have k2 := K1.out.call B2
  have K2 := Lib.hid k2
  clear k2 B2 
  clear x0_0 x0_1 x1_0 x1_1 x2_0 x2_1
  have x0_0 := K2.out.cell0 at2
  have x0_1 := K2.out.cell1 at2
  have x1_0 := K2.out.cell0 at1
  have x1_1 := K2.out.cell1 at1
  have x2_0 := K2.out.cell0 at0
  have x2_1 := K2.out.cell1 at0
  go_wp2_with fail
  refine (CM.out _ K2.out.bel).mono ?_
  rintro e w3 ⟨rfl, B3⟩
  have k3 := K2.out.call B3
  have K3 := Lib.hid k3
  clear k3 B3 
  clear x0_0 x0_1 x1_0 x1_1 x2_0 x2_1
  have x0_0 := K3.out.cell0 at2
  have x0_1 := K3.out.cell1 at2
  have x1_0 := K3.out.cell0 at1
  have x1_1 := K3.out.cell1 at1
  have x2_0 := K3.out.cell0 at0
  have x2_1 := K3.out.cell1 at0
  go_wp2_with fail
  refine (CR.out _ K3.out.bel).mono ?_
  rintro e w4 ⟨A4, n4, c4, A4r, n4r, c4r, A4s, n4s, c4s, rfl, B4, ⟨D4, h4, l4⟩, ⟨D4r, h4r, l4r⟩, ⟨D4s, h4s, l4s⟩⟩
  have k4 := ((((((K3.out.call B4).num D4).num D4r).num D4s).box [.slice A4 n4 c4] 24).box [.slice A4r n4r c4r] 24).box [.slice A4s n4s c4s] 24
  simp only [size_alloc] at k4
  have K4 := Lib.hid k4
  clear k4 B4 D4 D4r D4s
  clear x0_0 x0_1 x1_0 x1_1 x2_0 x2_1
  have x0_0 := K4.out.cell0 at5
  have x0_1 := K4.out.cell1 at5
  have x1_0 := K4.out.cell0 at4
  have x1_1 := K4.out.cell1 at4
  have x2_0 := K4.out.cell0 at3
  have x2_1 := K4.out.cell1 at3
  go_wp2_with fail
  refine (AD.out _ ⟨(K4.out.get at2), h4, l4⟩ ⟨(K4.out.get at1), h4r, l4r⟩).mono ?_
  rintro e w5 ⟨A5, n5, c5, rfl, B5, D5, h5, l5⟩
  have k5 := ((K4.out.call B5).num D5).box [.slice A5 n5 c5] 24
  have K5 := Lib.hid k5
  clear k5 B5 D5
  clear x0_0 x0_1 x1_0 x1_1 x2_0 x2_1
  have x0_0 := K5.out.cell0 at6
  have x0_1 := K5.out.cell1 at6
  have x1_0 := K5.out.cell0 at5
  have x1_1 := K5.out.cell1 at5
  have x2_0 := K5.out.cell0 at4
  have x2_1 := K5.out.cell1 at4
  have x3_0 := K5.out.cell0 at3
  have x4_0 := K5.out.cell0 at2
  have x5_0 := K5.out.cell0 at1
  go_wp2_with fail
  refine (RD.out _ ⟨(K5.out.get at0), h5, l5⟩ ⟨(K5.out.get at1), h4s, l4s⟩).mono ?_
  rintro e w6 ⟨A6, n6, c6, A6r, n6r, c6r, rfl, B6, D6, D6r, h6, h6r, l6, l6r⟩
  have k6 := ((K5.out.call B6).num D6).num D6r
  have K6 := Lib.hid k6
  clear k6 B6 D6 D6r
  clear x0_0 x0_1 x1_0 x1_1 x2_0 x2_1 x3_0 x4_0 x5_0
  have x0_0 := K6.out.cell0 at6
  have x0_1 := K6.out.cell1 at6
  have x1_0 := K6.out.cell0 at5
  have x1_1 := K6.out.cell1 at5
  have x2_0 := K6.out.cell0 at4
  have x2_1 := K6.out.cell1 at4
  have x3_0 := K6.out.cell0 at3
  have x4_0 := K6.out.cell0 at2
  have x5_0 := K6.out.cell0 at1
  have x6_0 := K6.out.cell0 at0
  have zf := K6.out.free at4
  have HF := Lib.hid (FRes.stored (A := A6) (n := n6) (c := c6) (A' := A6r) (n' := n6r) (c' := c6r) (er := 0) K6.out at4 (by omega) (K6.out.get at1) h6 l6 (K6.out.get at0) h6r l6r)
  go_wp2_with fail
  refine bodyPost_ret (v := .tuple #[.agg #[.slice A6 n6 c6, .slice A6r n6r c6r], .int .i64 0]) (by simp [results, Tryz.results26, go_sem, x2_0, x2_1]) rfl ?_
  exact HF.out
theorem ref4_Add_is (w : World) (h : FIs w A n c A' n' c' a b) (h' : FIs w C m j C' m' j' p q) : Calls Tryz.prog 24 #[.agg #[.slice A n c, .slice A' n' c'], .agg #[.slice C m j, .slice C' m' j']] w (FRes (Fr.addT a b p q) w) := by
  unfold Fr.addT
  cases hv : (Nt.fits (a * q) && Nt.fits (p * b) && Nt.fits (b * q))
  · exact ref4_Add_no w h h' hv
  · rw [Bool.and_eq_true, Bool.and_eq_true] at hv
    cases h4 : Nt.fits (a * q + p * b)
    · exact ref4_Add_over w h h' hv.1.1 hv.1.2 hv.2 h4
    · exact ref4_Add_yes w h h' hv.1.1 hv.1.2 hv.2 h4
theorem ref4_Sub_is (w : World) (h : FIs w A n c A' n' c' a b) (h' : FIs w C m j C' m' j' p q) : Calls Tryz.prog 26 #[.agg #[.slice A n c, .slice A' n' c'], .agg #[.slice C m j, .slice C' m' j']] w (FRes (Fr.subT a b p q) w) := by
  unfold Fr.subT
  by_cases hl : a * q < p * b
  · rw [if_pos hl]; exact ref4_Sub_less w h h' hl
  · rw [if_neg hl]
    cases hv : (Nt.fits (a * q) && Nt.fits (p * b) && Nt.fits (b * q))
    · exact ref4_Sub_no w h h' hv hl
    · rw [Bool.and_eq_true, Bool.and_eq_true] at hv
      exact ref4_Sub_yes w h h' hv.1.1 hv.1.2 hv.2 hl
set_option maxHeartbeats 1000000 in
theorem ref4_Mul_no1 (w : World) (h : FIs w A n c A' n' c' a b) (h' : FIs w C m j C' m' j' p q) (h1 : Nt.fits (a * p) = false) :
    Calls Tryz.prog 28 #[.agg #[.slice A n c, .slice A' n' c'], .agg #[.slice C m j, .slice C' m' j']] w (FRes (0, 0, 9) w) := by
  have V1 := Lib.hid fun W (hb : Below w.heap.size w W) => ref4_Valid_is W (h.on hb)
  have V2 := Lib.hid fun W (hb : Below w.heap.size w W) => ref4_Valid_is W (h'.on hb)
  have c1 := fun W (hb : Below w.heap.size w W) => ref3_Mul_nums W (h.on hb).n (h'.on hb).n
  have c2 := fun W (hb : Below w.heap.size w W) => ref3_Mul_nums W (h.on hb).d (h'.on hb).d
  rw [Fr.be_no h1] at c1
  have C1 := Lib.hid c1
  have C2 := Lib.hid c2
  clear c1 c2 h h' h1
  have k0 := (((Ks.start w).box [.slice A n c, .slice A' n' c'] 28).box [.slice C m j, .slice C' m' j'] 28).box [.slice none 0 0, .slice none 0 0] 28
  simp only [size_alloc] at k0
  have K0 := Lib.hid k0
  clear k0
  go_enter Tryz.func28, Tryz.ntmps28
  go_wp2_with fail
  refine (V1.out _ K0.out.bel).mono ?_
  rintro e w1 ⟨rfl, B1⟩
  have k1 := K0.out.call B1
  have K1 := Lib.hid k1
  clear k1 B1 
  have x0_0 := K1.out.cell0 at2
  have x0_1 := K1.out.cell1 at2
  have x1_0 := K1.out.cell0 at1
  have x1_1 := K1.out.cell1 at1
  have x2_0 := K1.out.cell0 at0
  have x2_1 := K1.out.cell1 at0
  go_wp2_with fail
  refine (V2.out _ K1.out.bel).mono ?_
  rintro e w2 ⟨rfl, B2⟩
  have k2 := K1.out.call B2
  have K2 := Lib.hid k2
  clear k2 B2 
  clear x0_0 x0_1 x1_0 x1_1 x2_0 x2_1
  have x0_0 := K2.out.cell0 at2
  have x0_1 := K2.out.cell1 at2
  have x1_0 := K2.out.cell0 at1
  have x1_1 := K2.out.cell1 at1
  have x2_0 := K2.out.cell0 at0
  have x2_1 := K2.out.cell1 at0
  go_wp2_with fail
  refine (C1.out _ K2.out.bel).mono ?_
  rintro e w3 ⟨A3, n3, c3, rfl, B3, D3, h3, l3⟩
  have k3 := ((K2.out.call B3).num D3).box [.slice A3 n3 c3] 24
  have K3 := Lib.hid k3
  clear k3 B3 D3
  clear x0_0 x0_1 x1_0 x1_1 x2_0 x2_1
  have x0_0 := K3.out.cell0 at3
  have x0_1 := K3.out.cell1 at3
  have x1_0 := K3.out.cell0 at2
  have x1_1 := K3.out.cell1 at2
  have x2_0 := K3.out.cell0 at1
  have x2_1 := K3.out.cell1 at1
  go_wp2_with fail
  refine (C2.out _ K3.out.bel).mono ?_
  rintro e w4 ⟨A4, n4, c4, rfl, B4, D4, h4, l4⟩
  have k4 := ((K3.out.call B4).num D4).box [.slice A4 n4 c4] 24
  have K4 := Lib.hid k4
  clear k4 B4 D4
  clear x0_0 x0_1 x1_0 x1_1 x2_0 x2_1
  have x0_0 := K4.out.cell0 at4
  have x0_1 := K4.out.cell1 at4
  have x1_0 := K4.out.cell0 at3
  have x1_1 := K4.out.cell1 at3
  have x2_0 := K4.out.cell0 at2
  have x2_1 := K4.out.cell1 at2
  have x3_0 := K4.out.cell0 at1
  have zf := K4.out.free at2
  have HF := Lib.hid (FRes.stored (A := none) (n := 0) (c := 0) (A' := none) (n' := 0) (c' := 0) (er := 9) K4.out at2 (by omega) IsN.zero (by omega) (by omega) IsN.zero (by omega) (by omega))
  go_wp2_with fail
  refine bodyPost_ret (v := .tuple #[.agg #[.slice none 0 0, .slice none 0 0], .int .i64 9]) (by simp [results, Tryz.results28, go_sem, x2_0, x2_1]) rfl ?_
  exact HF.out
set_option maxHeartbeats 1000000 in
theorem ref4_Mul_no2 (w : World) (h : FIs w A n c A' n' c' a b) (h' : FIs w C m j C' m' j' p q) (h1 : Nt.fits (a * p) = true) (h2 : Nt.fits (b * q) = false) :
    Calls Tryz.prog 28 #[.agg #[.slice A n c, .slice A' n' c'], .agg #[.slice C m j, .slice C' m' j']] w (FRes (0, 0, 9) w) := by
  have V1 := Lib.hid fun W (hb : Below w.heap.size w W) => ref4_Valid_is W (h.on hb)
  have V2 := Lib.hid fun W (hb : Below w.heap.size w W) => ref4_Valid_is W (h'.on hb)
  have c1 := fun W (hb : Below w.heap.size w W) => ref3_Mul_nums W (h.on hb).n (h'.on hb).n
  have c2 := fun W (hb : Below w.heap.size w W) => ref3_Mul_nums W (h.on hb).d (h'.on hb).d
  rw [Fr.be_yes h1] at c1
  rw [Fr.be_no h2] at c2
  have C1 := Lib.hid c1
  have C2 := Lib.hid c2
  clear c1 c2 h h' h1 h2
  have k0 := (((Ks.start w).box [.slice A n c, .slice A' n' c'] 28).box [.slice C m j, .slice C' m' j'] 28).box [.slice none 0 0, .slice none 0 0] 28
  simp only [size_alloc] at k0
  have K0 := Lib.hid k0
  clear k0
  go_enter Tryz.func28, Tryz.ntmps28
  go_wp2_with fail
  refine (V1.out _ K0.out.bel).mono ?_
  rintro e w1 ⟨rfl, B1⟩
  have k1 := K0.out.call B1
  have K1 := Lib.hid k1
  clear k1 B1 
  have x0_0 := K1.out.cell0 at2
  have x0_1 := K1.out.cell1 at2
  have x1_0 := K1.out.cell0 at1
  have x1_1 := K1.out.cell1 at1
  have x2_0 := K1.out.cell0 at0
  have x2_1 := K1.out.cell1 at0
  go_wp2_with fail
  refine (V2.out _ K1.out.bel).mono ?_
  rintro e w2 ⟨rfl, B2⟩
  have k2 := K1.out.call B2
  have K2 := Lib.hid k2
  clear k2 B2 
  clear x0_0 x0_1 x1_0 x1_1 x2_0 x2_1
  have x0_0 := K2.out.cell0 at2
  have x0_1 := K2.out.cell1 at2
  have x1_0 := K2.out.cell0 at1
  have x1_1 := K2.out.cell1 at1
  have x2_0 := K2.out.cell0 at0
  have x2_1 := K2.out.cell1 at0
  go_wp2_with fail
  refine (C1.out _ K2.out.bel).mono ?_
  rintro e w3 ⟨A3, n3, c3, rfl, B3, D3, h3, l3⟩
  have k3 := ((K2.out.call B3).num D3).box [.slice A3 n3 c3] 24
  have K3 := Lib.hid k3
  clear k3 B3 D3
  clear x0_0 x0_1 x1_0 x1_1 x2_0 x2_1
  have x0_0 := K3.out.cell0 at3
  have x0_1 := K3.out.cell1 at3
  have x1_0 := K3.out.cell0 at2
  have x1_1 := K3.out.cell1 at2
  have x2_0 := K3.out.cell0 at1
  have x2_1 := K3.out.cell1 at1
  go_wp2_with fail
  refine (C2.out _ K3.out.bel).mono ?_
  rintro e w4 ⟨A4, n4, c4, rfl, B4, D4, h4, l4⟩
  have k4 := ((K3.out.call B4).num D4).box [.slice A4 n4 c4] 24
  have K4 := Lib.hid k4
  clear k4 B4 D4
  clear x0_0 x0_1 x1_0 x1_1 x2_0 x2_1
  have x0_0 := K4.out.cell0 at4
  have x0_1 := K4.out.cell1 at4
  have x1_0 := K4.out.cell0 at3
  have x1_1 := K4.out.cell1 at3
  have x2_0 := K4.out.cell0 at2
  have x2_1 := K4.out.cell1 at2
  have x3_0 := K4.out.cell0 at1
  have zf := K4.out.free at2
  have HF := Lib.hid (FRes.stored (A := none) (n := 0) (c := 0) (A' := none) (n' := 0) (c' := 0) (er := 9) K4.out at2 (by omega) IsN.zero (by omega) (by omega) IsN.zero (by omega) (by omega))
  go_wp2_with fail
  refine bodyPost_ret (v := .tuple #[.agg #[.slice none 0 0, .slice none 0 0], .int .i64 9]) (by simp [results, Tryz.results28, go_sem, x2_0, x2_1]) rfl ?_
  exact HF.out
set_option maxHeartbeats 1000000 in
theorem ref4_Mul_yes (w : World) (h : FIs w A n c A' n' c' a b) (h' : FIs w C m j C' m' j' p q) (h1 : Nt.fits (a * p) = true) (h2 : Nt.fits (b * q) = true) :
    Calls Tryz.prog 28 #[.agg #[.slice A n c, .slice A' n' c'], .agg #[.slice C m j, .slice C' m' j']] w (FRes (Fr.rn (a * p) (b * q), Fr.rd (a * p) (b * q), 0) w) := by
  have V1 := Lib.hid fun W (hb : Below w.heap.size w W) => ref4_Valid_is W (h.on hb)
  have V2 := Lib.hid fun W (hb : Below w.heap.size w W) => ref4_Valid_is W (h'.on hb)
  have c1 := fun W (hb : Below w.heap.size w W) => ref3_Mul_nums W (h.on hb).n (h'.on hb).n
  have c2 := fun W (hb : Below w.heap.size w W) => ref3_Mul_nums W (h.on hb).d (h'.on hb).d
  rw [Fr.bv_yes h1, Fr.be_yes h1] at c1
  rw [Fr.bv_yes h2, Fr.be_yes h2] at c2
  have C1 := Lib.hid c1
  have C2 := Lib.hid c2
  have BQ : Hid (0 < b * q) := Nat.mul_pos h.b0 h'.b0
  have RD := Lib.hid fun W {A : Option Addr} {n c : Nat} {A' : Option Addr} {n' c' : Nat} (h : NumAt W A n c (a * p)) (h' : NumAt W A' n' c' (b * q)) => ref4_reduce W h h' BQ.out
  clear c1 c2 h h' h1 h2
  have k0 := (((Ks.start w).box [.slice A n c, .slice A' n' c'] 28).box [.slice C m j, .slice C' m' j'] 28).box [.slice none 0 0, .slice none 0 0] 28
  simp only [size_alloc] at k0
  have K0 := Lib.hid k0
  clear k0
  go_enter Tryz.func28, Tryz.ntmps28
  go_wp2_with fail
  refine (V1.out _ K0.out.bel).mono ?_
  rintro e w1 ⟨rfl, B1⟩
  have k1 := K0.out.call B1
  have K1 := Lib.hid k1
  clear k1 B1 
  have x0_0 := K1.out.cell0 at2
  have x0_1 := K1.out.cell1 at2
  have x1_0 := K1.out.cell0 at1
  have x1_1 := K1.out.cell1 at1
  have x2_0 := K1.out.cell0 at0
  have x2_1 := K1.out.cell1 at0
  go_wp2_with fail
  refine (V2.out _ K1.out.bel).mono ?_
  rintro e w2 ⟨rfl, B2⟩
  have k2 := K1.out.call B2
  have K2 := Lib.hid k2
  clear k2 B2 
  clear x0_0 x0_1 x1_0 x1_1 x2_0 x2_1
  have x0_0 := K2.out.cell0 at2
  have x0_1 := K2.out.cell1 at2
  have x1_0 := K2.out.cell0 at1
  have x1_1 := K2.out.cell1 at1
  have x2_0 := K2.out.cell0 at0
  have x2_1 := K2.out.cell1 at0
  go_wp2_with fail
  refine (C1.out _ K2.out.bel).mono ?_
  rintro e w3 ⟨A3, n3, c3, rfl, B3, D3, h3, l3⟩
  have k3 := ((K2.out.call B3).num D3).box [.slice A3 n3 c3] 24
  have K3 := Lib.hid k3
  clear k3 B3 D3
  clear x0_0 x0_1 x1_0 x1_1 x2_0 x2_1
  have x0_0 := K3.out.cell0 at3
  have x0_1 := K3.out.cell1 at3
  have x1_0 := K3.out.cell0 at2
  have x1_1 := K3.out.cell1 at2
  have x2_0 := K3.out.cell0 at1
  have x2_1 := K3.out.cell1 at1
  go_wp2_with fail
  refine (C2.out _ K3.out.bel).mono ?_
  rintro e w4 ⟨A4, n4, c4, rfl, B4, D4, h4, l4⟩
  have k4 := ((K3.out.call B4).num D4).box [.slice A4 n4 c4] 24
  have K4 := Lib.hid k4
  clear k4 B4 D4
  clear x0_0 x0_1 x1_0 x1_1 x2_0 x2_1
  have x0_0 := K4.out.cell0 at4
  have x0_1 := K4.out.cell1 at4
  have x1_0 := K4.out.cell0 at3
  have x1_1 := K4.out.cell1 at3
  have x2_0 := K4.out.cell0 at2
  have x2_1 := K4.out.cell1 at2
  have x3_0 := K4.out.cell0 at1
  go_wp2_with fail
  refine (RD.out _ ⟨(K4.out.get at1), h3, l3⟩ ⟨(K4.out.get at0), h4, l4⟩).mono ?_
  rintro e w5 ⟨A5, n5, c5, A5r, n5r, c5r, rfl, B5, D5, D5r, h5, h5r, l5, l5r⟩
  have k5 := ((K4.out.call B5).num D5).num D5r
  have K5 := Lib.hid k5
  clear k5 B5 D5 D5r
  clear x0_0 x0_1 x1_0 x1_1 x2_0 x2_1 x3_0
  have x0_0 := K5.out.cell0 at4
  have x0_1 := K5.out.cell1 at4
  have x1_0 := K5.out.cell0 at3
  have x1_1 := K5.out.cell1 at3
  have x2_0 := K5.out.cell0 at2
  have x2_1 := K5.out.cell1 at2
  have x3_0 := K5.out.cell0 at1
  have x4_0 := K5.out.cell0 at0
  have zf := K5.out.free at2
  have HF := Lib.hid (FRes.stored (A := A5) (n := n5) (c := c5) (A' := A5r) (n' := n5r) (c' := c5r) (er := 0) K5.out at2 (by omega) (K5.out.get at1) h5 l5 (K5.out.get at0) h5r l5r)
  go_wp2_with fail
  refine bodyPost_ret (v := .tuple #[.agg #[.slice A5 n5 c5, .slice A5r n5r c5r], .int .i64 0]) (by simp [results, Tryz.results28, go_sem, x2_0, x2_1]) rfl ?_
  exact HF.out
theorem ref4_Mul_is (w : World) (h : FIs w A n c A' n' c' a b) (h' : FIs w C m j C' m' j' p q) : Calls Tryz.prog 28 #[.agg #[.slice A n c, .slice A' n' c'], .agg #[.slice C m j, .slice C' m' j']] w (FRes (Fr.mulT a b p q) w) := by
  unfold Fr.mulT
  cases h1 : Nt.fits (a * p)
  · exact ref4_Mul_no1 w h h' h1
  · cases h2 : Nt.fits (b * q)
    · exact ref4_Mul_no2 w h h' h1 h2
    · exact ref4_Mul_yes w h h' h1 h2
set_option maxHeartbeats 1000000 in
theorem ref4_Div_zero (w : World) (h : FIs w A n c A' n' c' a b) (h' : FIs w C m j C' m' j' p q) (p0 : p = 0) :
    Calls Tryz.prog 30 #[.agg #[.slice A n c, .slice A' n' c'], .agg #[.slice C m j, .slice C' m' j']] w (FRes (0, 0, 10) w) := by
  have V1 := Lib.hid fun W (hb : Below w.heap.size w W) => ref4_Valid_is W (h.on hb)
  have V2 := Lib.hid fun W (hb : Below w.heap.size w W) => ref4_Valid_is W (h'.on hb)
  have hl : ((m : Int) == 0) = true := by rw [h'.n.d.zero_of p0]; rfl
  clear h h' p0
  have k0 := (((Ks.start w).box [.slice A n c, .slice A' n' c'] 28).box [.slice C m j, .slice C' m' j'] 28).box [.slice none 0 0, .slice none 0 0] 28
  simp only [size_alloc] at k0
  have K0 := Lib.hid k0
  clear k0
  go_enter Tryz.func30, Tryz.ntmps30
  go_wp2_with fail
  refine (V1.out _ K0.out.bel).mono ?_
  rintro e w1 ⟨rfl, B1⟩
  have k1 := K0.out.call B1
  have K1 := Lib.hid k1
  clear k1 B1 
  have x0_0 := K1.out.cell0 at2
  have x0_1 := K1.out.cell1 at2
  have x1_0 := K1.out.cell0 at1
  have x1_1 := K1.out.cell1 at1
  have x2_0 := K1.out.cell0 at0
  have x2_1 := K1.out.cell1 at0
  go_wp2_with fail
  refine (V2.out _ K1.out.bel).mono ?_
  rintro e w2 ⟨rfl, B2⟩
  have k2 := K1.out.call B2
  have K2 := Lib.hid k2
  clear k2 B2 
  clear x0_0 x0_1 x1_0 x1_1 x2_0 x2_1
  have x0_0 := K2.out.cell0 at2
  have x0_1 := K2.out.cell1 at2
  have x1_0 := K2.out.cell0 at1
  have x1_1 := K2.out.cell1 at1
  have x2_0 := K2.out.cell0 at0
  have x2_1 := K2.out.cell1 at0
  have zf := K2.out.free at0
  have HF := Lib.hid (FRes.stored (A := none) (n := 0) (c := 0) (A' := none) (n' := 0) (c' := 0) (er := 10) K2.out at0 (by omega) IsN.zero (by omega) (by omega) IsN.zero (by omega) (by omega))
  go_wp2_with fail
  refine bodyPost_ret (v := .tuple #[.agg #[.slice none 0 0, .slice none 0 0], .int .i64 10]) (by simp [results, Tryz.results30, go_sem, x2_0, x2_1]) rfl ?_
  exact HF.out
set_option maxHeartbeats 1000000 in
theorem ref4_Div_no1 (w : World) (h : FIs w A n c A' n' c' a b) (h' : FIs w C m j C' m' j' p q) (h1 : Nt.fits (a * q) = false) (p0 : 0 < p) :
    Calls Tryz.prog 30 #[.agg #[.slice A n c, .slice A' n' c'], .agg #[.slice C m j, .slice C' m' j']] w (FRes (0, 0, 9) w) := by
  have V1 := Lib.hid fun W (hb : Below w.heap.size w W) => ref4_Valid_is W (h.on hb)
  have V2 := Lib.hid fun W (hb : Below w.heap.size w W) => ref4_Valid_is W (h'.on hb)
  have c1 := fun W (hb : Below w.heap.size w W) => ref3_Mul_nums W (h.on hb).n (h'.on hb).d
  have c2 := fun W (hb : Below w.heap.size w W) => ref3_Mul_nums W (h.on hb).d (h'.on hb).n
  have hl : ((m : Int) == 0) = false := by have := h'.n.d.len_pos p0; simp; omega
  rw [Fr.be_no h1] at c1
  have C1 := Lib.hid c1
  have C2 := Lib.hid c2
  clear c1 c2 h h' h1 p0
  have k0 := (((Ks.start w).box [.slice A n c, .slice A' n' c'] 28).box [.slice C m j, .slice C' m' j'] 28).box [.slice none 0 0, .slice none 0 0] 28
  simp only [size_alloc] at k0
  have K0 := Lib.hid k0
  clear k0
  go_enter Tryz.func30, Tryz.ntmps30
  go_wp2_with fail
  refine (V1.out _ K0.out.bel).mono ?_
  rintro e w1 ⟨rfl, B1⟩
  have k1 := K0.out.call B1
  have K1 := Lib.hid k1
  clear k1 B1 
  have x0_0 := K1.out.cell0 at2
  have x0_1 := K1.out.cell1 at2
  have x1_0 := K1.out.cell0 at1
  have x1_1 := K1.out.cell1 at1
  have x2_0 := K1.out.cell0 at0
  have x2_1 := K1.out.cell1 at0
  go_wp2_with fail
  refine (V2.out _ K1.out.bel).mono ?_
  rintro e w2 ⟨rfl, B2⟩
  have k2 := K1.out.call B2
  have K2 := Lib.hid k2
  clear k2 B2 
  clear x0_0 x0_1 x1_0 x1_1 x2_0 x2_1
  have x0_0 := K2.out.cell0 at2
  have x0_1 := K2.out.cell1 at2
  have x1_0 := K2.out.cell0 at1
  have x1_1 := K2.out.cell1 at1
  have x2_0 := K2.out.cell0 at0
  have x2_1 := K2.out.cell1 at0
  go_wp2_with fail
  refine (C1.out _ K2.out.bel).mono ?_
  rintro e w3 ⟨A3, n3, c3, rfl, B3, D3, h3, l3⟩
  have k3 := ((K2.out.call B3).num D3).box [.slice A3 n3 c3] 24
  have K3 := Lib.hid k3
  clear k3 B3 D3
  clear x0_0 x0_1 x1_0 x1_1 x2_0 x2_1
  have x0_0 := K3.out.cell0 at3
  have x0_1 := K3.out.cell1 at3
  have x1_0 := K3.out.cell0 at2
  have x1_1 := K3.out.cell1 at2
  have x2_0 := K3.out.cell0 at1
  have x2_1 := K3.out.cell1 at1
  go_wp2_with fail
  refine (C2.out _ K3.out.bel).mono ?_
  rintro e w4 ⟨A4, n4, c4, rfl, B4, D4, h4, l4⟩
  have k4 := ((K3.out.call B4).num D4).box [.slice A4 n4 c4] 24
  have K4 := Lib.hid k4
  clear k4 B4 D4
  clear x0_0 x0_1 x1_0 x1_1 x2_0 x2_1
  have x0_0 := K4.out.cell0 at4
  have x0_1 := K4.out.cell1 at4
  have x1_0 := K4.out.cell0 at3
  have x1_1 := K4.out.cell1 at3
  have x2_0 := K4.out.cell0 at2
  have x2_1 := K4.out.cell1 at2
  have x3_0 := K4.out.cell0 at1
  have zf := K4.out.free at2
  have HF := Lib.hid (FRes.stored (A := none) (n := 0) (c := 0) (A' := none) (n' := 0) (c' := 0) (er := 9) K4.out at2 (by omega) IsN.zero (by omega) (by omega) IsN.zero (by omega) (by omega))
  go_wp2_with fail
  refine bodyPost_ret (v := .tuple #[.agg #[.slice none 0 0, .slice none 0 0], .int .i64 9]) (by simp [results, Tryz.results30, go_sem, x2_0, x2_1]) rfl ?_
  exact HF.out
set_option maxHeartbeats 1000000 in
theorem ref4_Div_no2 (w : World) (h : FIs w A n c A' n' c' a b) (h' : FIs w C m j C' m' j' p q) (h1 : Nt.fits (a * q) = true) (h2 : Nt.fits (b * p) = false) (p0 : 0 < p) :
    Calls Tryz.prog 30 #[.agg #[.slice A n c, .slice A' n' c'], .agg #[.slice C m j, .slice C' m' j']] w (FRes (0, 0, 9) w) := by
  have V1 := Lib.hid fun W (hb : Below w.heap.size w W) => ref4_Valid_is W (h.on hb)
  have V2 := Lib.hid fun W (hb : Below w.heap.size w W) => ref4_Valid_is W (h'.on hb)
  have c1 := fun W (hb : Below w.heap.size w W) => ref3_Mul_nums W (h.on hb).n (h'.on hb).d
  have c2 := fun W (hb : Below w.heap.size w W) => ref3_Mul_nums W (h.on hb).d (h'.on hb).n
  have hl : ((m : Int) == 0) = false := by have := h'.n.d.len_pos p0; simp; omega
  rw [Fr.be_yes h1] at c1
  rw [Fr.be_no h2] at c2
  have C1 := Lib.hid c1
  have C2 := Lib.hid c2
  clear c1 c2 h h' h1 h2 p0
  have k0 := (((Ks.start w).box [.slice A n c, .slice A' n' c'] 28).box [.slice C m j, .slice C' m' j'] 28).box [.slice none 0 0, .slice none 0 0] 28
  simp only [size_alloc] at k0
  have K0 := Lib.hid k0
  clear k0
  go_enter Tryz.func30, Tryz.ntmps30
  go_wp2_with fail
  refine (V1.out _ K0.out.bel).mono ?_
  rintro e w1 ⟨rfl, B1⟩
  have k1 := K0.out.call B1
  have K1 := Lib.hid k1
  clear k1 B1 
  have x0_0 := K1.out.cell0 at2
  have x0_1 := K1.out.cell1 at2
  have x1_0 := K1.out.cell0 at1
  have x1_1 := K1.out.cell1 at1
  have x2_0 := K1.out.cell0 at0
  have x2_1 := K1.out.cell1 at0
  go_wp2_with fail
  refine (V2.out _ K1.out.bel).mono ?_
  rintro e w2 ⟨rfl, B2⟩
  have k2 := K1.out.call B2
  have K2 := Lib.hid k2
  clear k2 B2 
  clear x0_0 x0_1 x1_0 x1_1 x2_0 x2_1
  have x0_0 := K2.out.cell0 at2
  have x0_1 := K2.out.cell1 at2
  have x1_0 := K2.out.cell0 at1
  have x1_1 := K2.out.cell1 at1
  have x2_0 := K2.out.cell0 at0
  have x2_1 := K2.out.cell1 at0
  go_wp2_with fail
  refine (C1.out _ K2.out.bel).mono ?_
  rintro e w3 ⟨A3, n3, c3, rfl, B3, D3, h3, l3⟩
  have k3 := ((K2.out.call B3).num D3).box [.slice A3 n3 c3] 24
  have K3 := Lib.hid k3
  clear k3 B3 D3
  clear x0_0 x0_1 x1_0 x1_1 x2_0 x2_1
  have x0_0 := K3.out.cell0 at3
  have x0_1 := K3.out.cell1 at3
  have x1_0 := K3.out.cell0 at2
  have x1_1 := K3.out.cell1 at2
  have x2_0 := K3.out.cell0 at1
  have x2_1 := K3.out.cell1 at1
  go_wp2_with fail
  refine (C2.out _ K3.out.bel).mono ?_
  rintro e w4 ⟨A4, n4, c4, rfl, B4, D4, h4, l4⟩
  have k4 := ((K3.out.call B4).num D4).box [.slice A4 n4 c4] 24
  have K4 := Lib.hid k4
  clear k4 B4 D4
  clear x0_0 x0_1 x1_0 x1_1 x2_0 x2_1
  have x0_0 := K4.out.cell0 at4
  have x0_1 := K4.out.cell1 at4
  have x1_0 := K4.out.cell0 at3
  have x1_1 := K4.out.cell1 at3
  have x2_0 := K4.out.cell0 at2
  have x2_1 := K4.out.cell1 at2
  have x3_0 := K4.out.cell0 at1
  have zf := K4.out.free at2
  have HF := Lib.hid (FRes.stored (A := none) (n := 0) (c := 0) (A' := none) (n' := 0) (c' := 0) (er := 9) K4.out at2 (by omega) IsN.zero (by omega) (by omega) IsN.zero (by omega) (by omega))
  go_wp2_with fail
  refine bodyPost_ret (v := .tuple #[.agg #[.slice none 0 0, .slice none 0 0], .int .i64 9]) (by simp [results, Tryz.results30, go_sem, x2_0, x2_1]) rfl ?_
  exact HF.out
set_option maxHeartbeats 1000000 in
theorem ref4_Div_yes (w : World) (h : FIs w A n c A' n' c' a b) (h' : FIs w C m j C' m' j' p q) (h1 : Nt.fits (a * q) = true) (h2 : Nt.fits (b * p) = true) (p0 : 0 < p) :
    Calls Tryz.prog 30 #[.agg #[.slice A n c, .slice A' n' c'], .agg #[.slice C m j, .slice C' m' j']] w (FRes (Fr.rn (a * q) (b * p), Fr.rd (a * q) (b * p), 0) w) := by
  have V1 := Lib.hid fun W (hb : Below w.heap.size w W) => ref4_Valid_is W (h.on hb)
  have V2 := Lib.hid fun W (hb : Below w.heap.size w W) => ref4_Valid_is W (h'.on hb)
  have c1 := fun W (hb : Below w.heap.size w W) => ref3_Mul_nums W (h.on hb).n (h'.on hb).d
  have c2 := fun W (hb : Below w.heap.size w W) => ref3_Mul_nums W (h.on hb).d (h'.on hb).n
  have hl : ((m : Int) == 0) = false := by have := h'.n.d.len_pos p0; simp; omega
  rw [Fr.bv_yes h1, Fr.be_yes h1] at c1
  rw [Fr.bv_yes h2, Fr.be_yes h2] at c2
  have C1 := Lib.hid c1
  have C2 := Lib.hid c2
  have BQ : Hid (0 < b * p) := Nat.mul_pos h.b0 p0
  have RD := Lib.hid fun W {A : Option Addr} {n c : Nat} {A' : Option Addr} {n' c' : Nat} (h : NumAt W A n c (a * q)) (h' : NumAt W A' n' c' (b * p)) => ref4_reduce W h h' BQ.out
  clear c1 c2 h h' h1 h2 p0
  have k0 := (((Ks.start w).box [.slice A n c, .slice A' n' c'] 28).box [.slice C m j, .slice C' m' j'] 28).box [.slice none 0 0, .slice none 0 0] 28
  simp only [size_alloc] at k0
  have K0 := Lib.hid k0
  clear k0
  go_enter Tryz.func30, Tryz.ntmps30
  go_wp2_with fail
  refine (V1.out _ K0.out.bel).mono ?_
  rintro e w1 ⟨rfl, B1⟩
  have k1 := K0.out.call B1
  have K1 := Lib.hid k1
  clear k1 B1 
  have x0_0 := K1.out.cell0 at2
  have x0_1 := K1.out.cell1 at2
  have x1_0 := K1.out.cell0 at1
  have x1_1 := K1.out.cell1 at1
  have x2_0 := K1.out.cell0 at0
  have x2_1 := K1.out.cell1 at0
  go_wp2_with fail
  refine (V2.out _ K1.out.bel).mono ?_
  rintro e w2 ⟨rfl, B2⟩
  have k2 := K1.out.call B2
  have K2 := Lib.hid k2
  clear k2 B2 
  clear x0_0 x0_1 x1_0 x1_1 x2_0 x2_1
  have x0_0 := K2.out.cell0 at2
  have x0_1 := K2.out.cell1 at2
  have x1_0 := K2.out.cell0 at1
  have x1_1 := K2.out.cell1 at1
  have x2_0 := K2.out.cell0 at0
  have x2_1 := K2.out.cell1 at0
  go_wp2_with fail
  refine (C1.out _ K2.out.bel).mono ?_
  rintro e w3 ⟨A3, n3, c3, rfl, B3, D3, h3, l3⟩
  have k3 := ((K2.out.call B3).num D3).box [.slice A3 n3 c3] 24
  have K3 := Lib.hid k3
  clear k3 B3 D3
  clear x0_0 x0_1 x1_0 x1_1 x2_0 x2_1
  have x0_0 := K3.out.cell0 at3
  have x0_1 := K3.out.cell1 at3
  have x1_0 := K3.out.cell0 at2
  have x1_1 := K3.out.cell1 at2
  have x2_0 := K3.out.cell0 at1
  have x2_1 := K3.out.cell1 at1
  go_wp2_with fail
  refine (C2.out _ K3.out.bel).mono ?_
  rintro e w4 ⟨A4, n4, c4, rfl, B4, D4, h4, l4⟩
  have k4 := ((K3.out.call B4).num D4).box [.slice A4 n4 c4] 24
  have K4 := Lib.hid k4
  clear k4 B4 D4
  clear x0_0 x0_1 x1_0 x1_1 x2_0 x2_1
  have x0_0 := K4.out.cell0 at4
  have x0_1 := K4.out.cell1 at4
  have x1_0 := K4.out.cell0 at3
  have x1_1 := K4.out.cell1 at3
  have x2_0 := K4.out.cell0 at2
  have x2_1 := K4.out.cell1 at2
  have x3_0 := K4.out.cell0 at1
  go_wp2_with fail
  refine (RD.out _ ⟨(K4.out.get at1), h3, l3⟩ ⟨(K4.out.get at0), h4, l4⟩).mono ?_
  rintro e w5 ⟨A5, n5, c5, A5r, n5r, c5r, rfl, B5, D5, D5r, h5, h5r, l5, l5r⟩
  have k5 := ((K4.out.call B5).num D5).num D5r
  have K5 := Lib.hid k5
  clear k5 B5 D5 D5r
  clear x0_0 x0_1 x1_0 x1_1 x2_0 x2_1 x3_0
  have x0_0 := K5.out.cell0 at4
  have x0_1 := K5.out.cell1 at4
  have x1_0 := K5.out.cell0 at3
  have x1_1 := K5.out.cell1 at3
  have x2_0 := K5.out.cell0 at2
  have x2_1 := K5.out.cell1 at2
  have x3_0 := K5.out.cell0 at1
  have x4_0 := K5.out.cell0 at0
  have zf := K5.out.free at2
  have HF := Lib.hid (FRes.stored (A := A5) (n := n5) (c := c5) (A' := A5r) (n' := n5r) (c' := c5r) (er := 0) K5.out at2 (by omega) (K5.out.get at1) h5 l5 (K5.out.get at0) h5r l5r)
  go_wp2_with fail
  refine bodyPost_ret (v := .tuple #[.agg #[.slice A5 n5 c5, .slice A5r n5r c5r], .int .i64 0]) (by simp [results, Tryz.results30, go_sem, x2_0, x2_1]) rfl ?_
  exact HF.out
theorem ref4_Div_is (w : World) (h : FIs w A n c A' n' c' a b) (h' : FIs w C m j C' m' j' p q) : Calls Tryz.prog 30 #[.agg #[.slice A n c, .slice A' n' c'], .agg #[.slice C m j, .slice C' m' j']] w (FRes (Fr.divT a b p q) w) := by
  unfold Fr.divT
  by_cases p0 : p = 0
  · rw [if_pos p0]; exact ref4_Div_zero w h h' p0
  · rw [if_neg p0]
    have p1 : 0 < p := by omega
    cases h1 : Nt.fits (a * q)
    · exact ref4_Div_no1 w h h' h1 p1
    · cases h2 : Nt.fits (b * p)
      · exact ref4_Div_no2 w h h' h1 h2 p1
      · exact ref4_Div_yes w h h' h1 h2 p1
theorem ref4_Add_any (w : World) (h : FArg w A n c f A' n' c' f') (h' : FArg w C m j g C' m' j' g') :
    Calls Tryz.prog 24 #[.agg #[.slice A n c, .slice A' n' c'], .agg #[.slice C m j, .slice C' m' j']] w (FRes (Fr.addX f n f' n' g m g' m') w) := by
  unfold Fr.addX
  cases hv : Fr.vld f n f' n'
  · exact ref4_Add_bad1 w h h' hv
  · cases hv' : Fr.vld g m g' m'
    · exact ref4_Add_bad2 w h h' hv hv'
    · exact ref4_Add_is w (h.is hv) (h'.is hv')
theorem ref4_Sub_any (w : World) (h : FArg w A n c f A' n' c' f') (h' : FArg w C m j g C' m' j' g') :
    Calls Tryz.prog 26 #[.agg #[.slice A n c, .slice A' n' c'], .agg #[.slice C m j, .slice C' m' j']] w (FRes (Fr.subX f n f' n' g m g' m') w) := by
  unfold Fr.subX
  cases hv : Fr.vld f n f' n'
  · exact ref4_Sub_bad1 w h h' hv
  · cases hv' : Fr.vld g m g' m'
    · exact ref4_Sub_bad2 w h h' hv hv'
    · exact ref4_Sub_is w (h.is hv) (h'.is hv')
theorem ref4_Mul_any (w : World) (h : FArg w A n c f A' n' c' f') (h' : FArg w C m j g C' m' j' g') :
    Calls Tryz.prog 28 #[.agg #[.slice A n c, .slice A' n' c'], .agg #[.slice C m j, .slice C' m' j']] w (FRes (Fr.mulX f n f' n' g m g' m') w) := by
  unfold Fr.mulX
  cases hv : Fr.vld f n f' n'
  · exact ref4_Mul_bad1 w h h' hv
  · cases hv' : Fr.vld g m g' m'
    · exact ref4_Mul_bad2 w h h' hv hv'
    · exact ref4_Mul_is w (h.is hv) (h'.is hv')
theorem ref4_Div_any (w : World) (h : FArg w A n c f A' n' c' f') (h' : FArg w C m j g C' m' j' g') :
    Calls Tryz.prog 30 #[.agg #[.slice A n c, .slice A' n' c'], .agg #[.slice C m j, .slice C' m' j']] w (FRes (Fr.divX f n f' n' g m g' m') w) := by
  unfold Fr.divX
  cases hv : Fr.vld f n f' n'
  · exact ref4_Div_bad1 w h h' hv
  · cases hv' : Fr.vld g m g' m'
    · exact ref4_Div_bad2 w h h' hv hv'
    · exact ref4_Div_is w (h.is hv) (h'.is hv')
end
end Go.Proofs.YtclejcijnfpgaaaGreatDoor
