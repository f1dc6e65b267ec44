/- The reference of layer 4: reduce, Make, Of, Valid for every argument. (Written by tools/frac10.py.) -/
import Derived.Test.YtclejcijnfpgaaaGreatDoorFC
import Derived.Test.YtclejcijnfpgaaaGreatDoorNatU
namespace Go.Proofs.YtclejcijnfpgaaaGreatDoor
set_option maxRecDepth 20000
open Go.RowKit
set_option linter.unusedVariables false
set_option linter.unusedSimpArgs false
section
variable {n c n' c' x y a b : Nat} {A A' : Option Addr} {f f' : Nat → Nat}
set_option maxHeartbeats 400000 in
theorem ref4_reduce (w : World) (h : NumAt w A n c x) (h' : NumAt w A' n' c' y) (y0 : 0 < y) :
    Calls Tryz.prog 39 #[.agg #[.slice A n c], .agg #[.slice A' n' c']] w (FRes (Fr.rn x y, Fr.rd x y, 0) w) := by
  have g0 : 0 < Nat.gcd x y := Fr.gcd_pos y0
  obtain ⟨g, eg⟩ : ∃ g, g = Nat.gcd x y := ⟨_, rfl⟩
  have c1 := fun W (hb : Below w.heap.size w W) => ref3_GCD_ok (c := c) (c' := c') W (h.on hb).d (h'.on hb).d h.h h'.h
  unfold Fr.rn Fr.rd
  rw [← eg] at c1 g0 ⊢
  have C1 := Lib.hid c1
  have H := Lib.hid h
  have H' := Lib.hid h'
  clear c1 h h' eg
  have k0 := (((Ks.start w).box [.slice A n c] 24).box [.slice A' n' c'] 24).box [.slice none 0 0, .slice none 0 0] 28
  simp only [size_alloc] at k0
  have K0 := Lib.hid k0
  clear k0
  go_enter Tryz.func39, Tryz.ntmps39
  go_wp2_with fail
  refine (C1.out _ K0.out.bel).mono ?_
  rintro e w1 ⟨A1, n1, c1, rfl, B1, D1, h1, l1⟩
  have k1 := ((K0.out.call B1).num D1).box [.slice A1 n1 c1] 24
  have K1 := Lib.hid k1
  clear k1 B1 D1
  have x0_0 := K1.out.cell0 at3
  have x1_0 := K1.out.cell0 at2
  have x2_0 := K1.out.cell0 at1
  have x2_1 := K1.out.cell1 at1
  go_wp2_with fail
  refine (ref3_DivMod_ok _ (H.out.on K1.out.bel).d (K1.out.get at0) H.out.h h1 g0).mono ?_
  rintro e w2 ⟨A2, n2, c2, A2r, n2r, c2r, rfl, B2, D2, D2r, h2, h2r, l2, l2r⟩
  have k2 := ((((K1.out.call B2).num D2).num D2r).box [.slice A2 n2 c2] 24).box [.slice A2r n2r c2r] 24
  simp only [size_alloc] at k2
  have K2 := Lib.hid k2
  clear k2 B2 D2 D2r
  clear x0_0 x1_0 x2_0 x2_1
  have x0_0 := K2.out.cell0 at5
  have x1_0 := K2.out.cell0 at4
  have x2_0 := K2.out.cell0 at3
  have x2_1 := K2.out.cell1 at3
  have x3_0 := K2.out.cell0 at2
  go_wp2_with fail
  refine (ref3_DivMod_ok _ (H'.out.on K2.out.bel).d (K2.out.get at2) H'.out.h h1 g0).mono ?_
  rintro e w3 ⟨A3, n3, c3, A3r, n3r, c3r, rfl, B3, D3, D3r, h3, h3r, l3, l3r⟩
  have k3 := ((((K2.out.call B3).num D3).num D3r).box [.slice A3 n3 c3] 24).box [.slice A3r n3r c3r] 24
  simp only [size_alloc] at k3
  have K3 := Lib.hid k3
  clear k3 B3 D3 D3r
  clear x0_0 x1_0 x2_0 x2_1 x3_0
  have x0_0 := K3.out.cell0 at7
  have x1_0 := K3.out.cell0 at6
  have x2_0 := K3.out.cell0 at5
  have x2_1 := K3.out.cell1 at5
  have x3_0 := K3.out.cell0 at4
  have x4_0 := K3.out.cell0 at3
  have x5_0 := K3.out.cell0 at2
  have zf := K3.out.free at5
  have HF := Lib.hid (FRes.stored (A := A2) (n := n2) (c := c2) (A' := A3) (n' := n3) (c' := c3) (er := 0) K3.out at5 (by omega) (K3.out.get at3) h2 l2 (K3.out.get at1) h3 l3)
  go_wp2_with fail
  refine bodyPost_ret (v := .tuple #[.agg #[.slice A2 n2 c2, .slice A3 n3 c3], .int .i64 0]) (by simp [results, Tryz.results39, go_sem, x2_0, x2_1]) rfl ?_
  exact HF.out
theorem ref4_Make_bad1 (w : World) (h : Arg w A n c f) (h' : Arg w A' n' c' f') (hv : Nt.vd f n = false) :
    Calls Tryz.prog 14 #[.agg #[.slice A n c], .agg #[.slice A' n' c']] w (FRes (0, 0, 2) w) := by
  have v1 := fun W (hb : Below w.heap.size w W) => ref3_Valid (c := c) W (h.on hb).d h.big
  rw [hv] at v1
  have V1 := Lib.hid v1
  clear v1 hv h h'
  have k0 := (((Ks.start w).box [.slice A n c] 24).box [.slice A' n' c'] 24).box [.slice none 0 0, .slice none 0 0] 28
  simp only [size_alloc] at k0
  have K0 := Lib.hid k0
  clear k0
  go_enter Tryz.func14, Tryz.ntmps14
  go_wp2_with fail
  refine (V1.out _ K0.out.bel).mono ?_
  rintro e w1 ⟨rfl, B1⟩
  have k1 := K0.out.call B1
  have K1 := Lib.hid k1
  clear k1 B1 
  have x0_0 := K1.out.cell0 at2
  have x1_0 := K1.out.cell0 at1
  have x2_0 := K1.out.cell0 at0
  have x2_1 := K1.out.cell1 at0
  have zf := K1.out.free at0
  have HF := Lib.hid (FRes.stored (A := none) (n := 0) (c := 0) (A' := none) (n' := 0) (c' := 0) (er := 2) K1.out at0 (by omega) IsN.zero (by omega) (by omega) IsN.zero (by omega) (by omega))
  go_wp2_with fail
  refine bodyPost_ret (v := .tuple #[.agg #[.slice none 0 0, .slice none 0 0], .int .i64 2]) (by simp [results, Tryz.results14, go_sem, x2_0, x2_1]) rfl ?_
  exact HF.out
theorem ref4_Make_bad2 (w : World) (h : Arg w A n c f) (h' : Arg w A' n' c' f') (hv : Nt.vd f n = true) (hv' : Nt.vd f' n' = false) :
    Calls Tryz.prog 14 #[.agg #[.slice A n c], .agg #[.slice A' n' c']] w (FRes (0, 0, 2) w) := by
  have v1 := fun W (hb : Below w.heap.size w W) => ref3_Valid (c := c) W (h.on hb).d h.big
  rw [hv] at v1
  have V1 := Lib.hid v1
  have v2 := fun W (hb : Below w.heap.size w W) => ref3_Valid (c := c') W (h'.on hb).d h'.big
  rw [hv'] at v2
  have V2 := Lib.hid v2
  clear v1 v2 hv hv' h h'
  have k0 := (((Ks.start w).box [.slice A n c] 24).box [.slice A' n' c'] 24).box [.slice none 0 0, .slice none 0 0] 28
  simp only [size_alloc] at k0
  have K0 := Lib.hid k0
  clear k0
  go_enter Tryz.func14, Tryz.ntmps14
  go_wp2_with fail
  refine (V1.out _ K0.out.bel).mono ?_
  rintro e w1 ⟨rfl, B1⟩
  have k1 := K0.out.call B1
  have K1 := Lib.hid k1
  clear k1 B1 
  have x0_0 := K1.out.cell0 at2
  have x1_0 := K1.out.cell0 at1
  have x2_0 := K1.out.cell0 at0
  have x2_1 := K1.out.cell1 at0
  go_wp2_with fail
  refine (V2.out _ K1.out.bel).mono ?_
  rintro e w2 ⟨rfl, B2⟩
  have k2 := K1.out.call B2
  have K2 := Lib.hid k2
  clear k2 B2 
  clear x0_0 x1_0 x2_0 x2_1
  have x0_0 := K2.out.cell0 at2
  have x1_0 := K2.out.cell0 at1
  have x2_0 := K2.out.cell0 at0
  have x2_1 := K2.out.cell1 at0
  have zf := K2.out.free at0
  have HF := Lib.hid (FRes.stored (A := none) (n := 0) (c := 0) (A' := none) (n' := 0) (c' := 0) (er := 2) K2.out at0 (by omega) IsN.zero (by omega) (by omega) IsN.zero (by omega) (by omega))
  go_wp2_with fail
  refine bodyPost_ret (v := .tuple #[.agg #[.slice none 0 0, .slice none 0 0], .int .i64 2]) (by simp [results, Tryz.results14, go_sem, x2_0, x2_1]) rfl ?_
  exact HF.out
theorem ref3_Valid_yes (w : World) (h : NumAt w A n c x) : Calls Tryz.prog 38 #[.agg #[.slice A n c]] w fun e w' => e = .returned (.bool true) ∧ Below w.heap.size w w' := by
  have := ref3_Valid (c := c) w h.d.d (by have := h.h; omega)
  rwa [h.vd] at this
theorem ref4_Make_zero (w : World) (h : NumAt w A n c x) (h' : NumAt w A' n' c' y) (y0 : y = 0) :
    Calls Tryz.prog 14 #[.agg #[.slice A n c], .agg #[.slice A' n' c']] w (FRes (0, 0, 10) w) := by
  have v1 := fun W (hb : Below w.heap.size w W) => ref3_Valid_yes (c := c) W (h.on hb)
  have v2 := fun W (hb : Below w.heap.size w W) => ref3_Valid_yes (c := c') W (h'.on hb)
  have V1 := Lib.hid v1
  have V2 := Lib.hid v2
  have hl : ((n' : Int) == 0) = true := by rw [h'.d.zero_of y0]; rfl
  clear v1 v2 h h' y0
  have k0 := (((Ks.start w).box [.slice A n c] 24).box [.slice A' n' c'] 24).box [.slice none 0 0, .slice none 0 0] 28
  simp only [size_alloc] at k0
  have K0 := Lib.hid k0
  clear k0
  go_enter Tryz.func14, Tryz.ntmps14
  go_wp2_with fail
  refine (V1.out _ K0.out.bel).mono ?_
  rintro e w1 ⟨rfl, B1⟩
  have k1 := K0.out.call B1
  have K1 := Lib.hid k1
  clear k1 B1 
  have x0_0 := K1.out.cell0 at2
  have x1_0 := K1.out.cell0 at1
  have x2_0 := K1.out.cell0 at0
  have x2_1 := K1.out.cell1 at0
  go_wp2_with fail
  refine (V2.out _ K1.out.bel).mono ?_
  rintro e w2 ⟨rfl, B2⟩
  have k2 := K1.out.call B2
  have K2 := Lib.hid k2
  clear k2 B2 
  clear x0_0 x1_0 x2_0 x2_1
  have x0_0 := K2.out.cell0 at2
  have x1_0 := K2.out.cell0 at1
  have x2_0 := K2.out.cell0 at0
  have x2_1 := K2.out.cell1 at0
  have zf := K2.out.free at0
  have HF := Lib.hid (FRes.stored (A := none) (n := 0) (c := 0) (A' := none) (n' := 0) (c' := 0) (er := 10) K2.out at0 (by omega) IsN.zero (by omega) (by omega) IsN.zero (by omega) (by omega))
  go_wp2_with fail
  refine bodyPost_ret (v := .tuple #[.agg #[.slice none 0 0, .slice none 0 0], .int .i64 10]) (by simp [results, Tryz.results14, go_sem, x2_0, x2_1]) rfl ?_
  exact HF.out
theorem ref4_Make_ok (w : World) (h : NumAt w A n c x) (h' : NumAt w A' n' c' y) (y0 : 0 < y) :
    Calls Tryz.prog 14 #[.agg #[.slice A n c], .agg #[.slice A' n' c']] w (FRes (Fr.rn x y, Fr.rd x y, 0) w) := by
  have v1 := fun W (hb : Below w.heap.size w W) => ref3_Valid_yes (c := c) W (h.on hb)
  have v2 := fun W (hb : Below w.heap.size w W) => ref3_Valid_yes (c := c') W (h'.on hb)
  have V1 := Lib.hid v1
  have V2 := Lib.hid v2
  have hl : ((n' : Int) == 0) = false := by have := h'.d.len_pos y0; simp; omega
  have RD := Lib.hid fun W (hb : Below w.heap.size w W) => ref4_reduce W (h.on hb) (h'.on hb) y0
  clear v1 v2 h h'
  have k0 := (((Ks.start w).box [.slice A n c] 24).box [.slice A' n' c'] 24).box [.slice none 0 0, .slice none 0 0] 28
  simp only [size_alloc] at k0
  have K0 := Lib.hid k0
  clear k0
  go_enter Tryz.func14, Tryz.ntmps14
  go_wp2_with fail
  refine (V1.out _ K0.out.bel).mono ?_
  rintro e w1 ⟨rfl, B1⟩
  have k1 := K0.out.call B1
  have K1 := Lib.hid k1
  clear k1 B1 
  have x0_0 := K1.out.cell0 at2
  have x1_0 := K1.out.cell0 at1
  have x2_0 := K1.out.cell0 at0
  have x2_1 := K1.out.cell1 at0
  go_wp2_with fail
  refine (V2.out _ K1.out.bel).mono ?_
  rintro e w2 ⟨rfl, B2⟩
  have k2 := K1.out.call B2
  have K2 := Lib.hid k2
  clear k2 B2 
  clear x0_0 x1_0 x2_0 x2_1
  have x0_0 := K2.out.cell0 at2
  have x1_0 := K2.out.cell0 at1
  have x2_0 := K2.out.cell0 at0
  have x2_1 := K2.out.cell1 at0
  go_wp2_with fail
  refine (RD.out _ K2.out.bel).mono ?_
  rintro e w3 ⟨A3, n3, c3, A3r, n3r, c3r, rfl, B3, D3, D3r, h3, h3r, l3, l3r⟩
  have k3 := ((K2.out.call B3).num D3).num D3r
  have K3 := Lib.hid k3
  clear k3 B3 D3 D3r
  clear x0_0 x1_0 x2_0 x2_1
  have x0_0 := K3.out.cell0 at2
  have x1_0 := K3.out.cell0 at1
  have x2_0 := K3.out.cell0 at0
  have x2_1 := K3.out.cell1 at0
  have zf := K3.out.free at0
  have HF := Lib.hid (FRes.stored (A := A3) (n := n3) (c := c3) (A' := A3r) (n' := n3r) (c' := c3r) (er := 0) K3.out at0 (by omega) (K3.out.get at1) h3 l3 (K3.out.get at0) h3r l3r)
  go_wp2_with fail
  refine bodyPost_ret (v := .tuple #[.agg #[.slice A3 n3 c3, .slice A3r n3r c3r], .int .i64 0]) (by simp [results, Tryz.results14, go_sem, x2_0, x2_1]) rfl ?_
  exact HF.out
theorem ref4_Make_any (w : World) (h : Arg w A n c f) (h' : Arg w A' n' c' f') :
    Calls Tryz.prog 14 #[.agg #[.slice A n c], .agg #[.slice A' n' c']] w (FRes (Fr.mkT f n f' n') w) := by
  unfold Fr.mkT Nt.both
  cases hv : Nt.vd f n
  · exact ref4_Make_bad1 w h h' hv
  · cases hv' : Nt.vd f' n'
    · exact ref4_Make_bad2 w h h' hv hv'
    · have a : NumAt w A n c _ := ⟨h.isN hv, (Nt.vd_iff.1 hv).1, h.cap⟩
      have a' : NumAt w A' n' c' _ := ⟨h'.isN hv', (Nt.vd_iff.1 hv').1, h'.cap⟩
      by_cases hl : Nt.vl 4294967296 f' n' = 0
      · simp only [if_pos hl, if_true, Bool.true_and]
        exact ref4_Make_zero w a a' hl
      · simp only [if_neg hl, if_true, Bool.true_and]
        exact ref4_Make_ok w a a' (by omega)
theorem ref4_Make_nums (w : World) (h : NumAt w A n c a) (h' : NumAt w A' n' c' b) :
    Calls Tryz.prog 14 #[.agg #[.slice A n c], .agg #[.slice A' n' c']] w (FRes (Fr.mkP a b) w) := by
  unfold Fr.mkP
  by_cases hb : b = 0
  · rw [if_pos hb]; exact ref4_Make_zero w h h' hb
  · rw [if_neg hb]; exact ref4_Make_ok w h h' (by omega)
theorem ref4_Of_ok (x y : Int) (w : World) (x0 : 0 ≤ x) (x1 : x ≤ 9223372036854775807) (y0 : 0 ≤ y) (y1 : y ≤ 9223372036854775807) (hx : x = (a : Nat)) (hy : y = (b : Nat)) :
    Calls Tryz.prog 17 #[.int .i64 x, .int .i64 y] w (FRes (Fr.mkP a b) w) := by
  have O1 := Lib.hid fun W => ref3_Of x a W hx (by omega)
  have O2 := Lib.hid fun W => ref3_Of y b W hy (by omega)
  have MK := Lib.hid fun W {A : Option Addr} {n c : Nat} {A' : Option Addr} {n' c' : Nat} (h : NumAt W A n c a) (h' : NumAt W A' n' c' b) => ref4_Make_nums W h h'
  have w1 : IntKind.u64.wrap x = x := Nt.w64 x0 (by omega)
  have w2 : IntKind.u64.wrap y = y := Nt.w64 y0 (by omega)
  obtain ⟨t, et⟩ : ∃ t, t = Fr.mkP a b := ⟨_, rfl⟩
  rw [← et] at MK ⊢
  clear hx hy et
  have k0 := (Ks.start w).box [.slice none 0 0, .slice none 0 0] 28
  have K0 := Lib.hid k0
  clear k0
  go_enter Tryz.func17, Tryz.ntmps17
  go_wp2_with fail
  refine (O1.out _).mono ?_
  rintro e w1 ⟨A1, n1, c1, rfl, B1, D1, h1, l1⟩
  have k1 := (K0.out.call B1).num D1
  have K1 := Lib.hid k1
  clear k1 B1 D1
  have x0_0 := K1.out.cell0 at0
  have x0_1 := K1.out.cell1 at0
  go_wp2_with fail
  refine (O2.out _).mono ?_
  rintro e w2 ⟨A2, n2, c2, rfl, B2, D2, h2, l2⟩
  have k2 := (K1.out.call B2).num D2
  have K2 := Lib.hid k2
  clear k2 B2 D2
  clear x0_0 x0_1
  have x0_0 := K2.out.cell0 at0
  have x0_1 := K2.out.cell1 at0
  go_wp2_with fail
  refine (MK.out _ ⟨(K2.out.get at1), h1, l1⟩ ⟨(K2.out.get at0), h2, l2⟩).mono ?_
  rintro e w3 ⟨A3, n3, c3, A3r, n3r, c3r, rfl, B3, D3, D3r, h3, h3r, l3, l3r⟩
  have k3 := ((K2.out.call B3).num D3).num D3r
  have K3 := Lib.hid k3
  clear k3 B3 D3 D3r
  clear x0_0 x0_1
  have x0_0 := K3.out.cell0 at0
  have x0_1 := K3.out.cell1 at0
  have zf := K3.out.free at0
  have HF := Lib.hid (FRes.stored (A := A3) (n := n3) (c := c3) (A' := A3r) (n' := n3r) (c' := c3r) (er := t.2.2) K3.out at0 (by omega) (K3.out.get at1) h3 l3 (K3.out.get at0) h3r l3r)
  go_wp2_with fail
  refine bodyPost_ret (v := .tuple #[.agg #[.slice A3 n3 c3, .slice A3r n3r c3r], .int .i64 t.2.2]) (by simp [results, Tryz.results17, go_sem, x0_0, x0_1]) rfl ?_
  exact HF.out
theorem ref4_Of_neg (x y : Int) (w : World) (hn : x < 0 ∨ y < 0) :
    Calls Tryz.prog 17 #[.int .i64 x, .int .i64 y] w (FRes (0, 0, 2) w) := by
  by_cases hx : x < 0
  · go_enter Tryz.func17, Tryz.ntmps17
    go_wp2_with fail
    refine bodyPost_ret (v := .tuple #[.agg #[.slice none 0 0, .slice none 0 0], .int .i64 2]) (by simp [results, Tryz.results17, go_sem]) rfl ?_
    exact ⟨none, 0, 0, none, 0, 0, rfl, (Below.refl _ _).alloc (Nat.le_refl _) _, IsN.zero, IsN.zero, by omega, by omega, by omega, by omega⟩
  · have hy : y < 0 := by omega
    go_enter Tryz.func17, Tryz.ntmps17
    go_wp2_with fail
    refine bodyPost_ret (v := .tuple #[.agg #[.slice none 0 0, .slice none 0 0], .int .i64 2]) (by simp [results, Tryz.results17, go_sem]) rfl ?_
    exact ⟨none, 0, 0, none, 0, 0, rfl, (Below.refl _ _).alloc (Nat.le_refl _) _, IsN.zero, IsN.zero, by omega, by omega, by omega, by omega⟩
set_option maxHeartbeats 400000 in
theorem ref4_Valid_bad1 (w : World) (h : Arg w A n c f) (h' : Arg w A' n' c' f') (hv : Nt.vd f n = false) :
    Calls Tryz.prog 20 #[.agg #[.slice A n c, .slice A' n' c']] w fun e w' => e = .returned (.bool false) ∧ Below w.heap.size w w' := by
  have v1 := fun W (hb : Below w.heap.size w W) => ref3_Valid (c := c) W (h.on hb).d h.big
  rw [hv] at v1
  have V1 := Lib.hid v1
  clear v1 hv h h'
  have k0 := (Ks.start w).box [.slice A n c, .slice A' n' c'] 28
  have K0 := Lib.hid k0
  clear k0
  go_enter Tryz.func20, Tryz.ntmps20
  go_wp2_with fail
  refine (V1.out _ K0.out.bel).mono ?_
  rintro e w1 ⟨rfl, B1⟩
  have k1 := K0.out.call B1
  have K1 := Lib.hid k1
  clear k1 B1 
  have x0_0 := K1.out.cell0 at0
  have x0_1 := K1.out.cell1 at0
  go_wp2_with fail
  go_ret
  exact ⟨rfl, K1.out.bel⟩
set_option maxHeartbeats 400000 in
theorem ref4_Valid_bad2 (w : World) (h : Arg w A n c f) (h' : Arg w A' n' c' f') (hv : Nt.vd f n = true) (hv' : Nt.vd f' n' = false) :
    Calls Tryz.prog 20 #[.agg #[.slice A n c, .slice A' n' c']] w fun e w' => e = .returned (.bool false) ∧ Below w.heap.size w w' := by
  have v1 := fun W (hb : Below w.heap.size w W) => ref3_Valid (c := c) W (h.on hb).d h.big
  rw [hv] at v1
  have V1 := Lib.hid v1
  have v2 := fun W (hb : Below w.heap.size w W) => ref3_Valid (c := c') W (h'.on hb).d h'.big
  rw [hv'] at v2
  have V2 := Lib.hid v2
  clear v1 v2 hv hv' h h'
  have k0 := (Ks.start w).box [.slice A n c, .slice A' n' c'] 28
  have K0 := Lib.hid k0
  clear k0
  go_enter Tryz.func20, Tryz.ntmps20
  go_wp2_with fail
  refine (V1.out _ K0.out.bel).mono ?_
  rintro e w1 ⟨rfl, B1⟩
  have k1 := K0.out.call B1
  have K1 := Lib.hid k1
  clear k1 B1 
  have x0_0 := K1.out.cell0 at0
  have x0_1 := K1.out.cell1 at0
  go_wp2_with fail
  refine (V2.out _ K1.out.bel).mono ?_
  rintro e w2 ⟨rfl, B2⟩
  have k2 := K1.out.call B2
  have K2 := Lib.hid k2
  clear k2 B2 
  clear x0_0 x0_1
  have x0_0 := K2.out.cell0 at0
  have x0_1 := K2.out.cell1 at0
  go_wp2_with fail
  go_ret
  exact ⟨rfl, K2.out.bel⟩
set_option maxHeartbeats 400000 in
theorem ref4_Valid_zero (w : World) (h : NumAt w A n c x) (h' : NumAt w A' n' c' y) (y0 : y = 0) :
    Calls Tryz.prog 20 #[.agg #[.slice A n c, .slice A' n' c']] w fun e w' => e = .returned (.bool false) ∧ Below w.heap.size w w' := by
  have v1 := fun W (hb : Below w.heap.size w W) => ref3_Valid_yes (c := c) W (h.on hb)
  have v2 := fun W (hb : Below w.heap.size w W) => ref3_Valid_yes (c := c') W (h'.on hb)
  have V1 := Lib.hid v1
  have V2 := Lib.hid v2
  have hl : ((n' : Int) == 0) = true := by rw [h'.d.zero_of y0]; rfl
  clear v1 v2 h h' y0
  have k0 := (Ks.start w).box [.slice A n c, .slice A' n' c'] 28
  have K0 := Lib.hid k0
  clear k0
  go_enter Tryz.func20, Tryz.ntmps20
  go_wp2_with fail
  refine (V1.out _ K0.out.bel).mono ?_
  rintro e w1 ⟨rfl, B1⟩
  have k1 := K0.out.call B1
  have K1 := Lib.hid k1
  clear k1 B1 
  have x0_0 := K1.out.cell0 at0
  have x0_1 := K1.out.cell1 at0
  go_wp2_with fail
  refine (V2.out _ K1.out.bel).mono ?_
  rintro e w2 ⟨rfl, B2⟩
  have k2 := K1.out.call B2
  have K2 := Lib.hid k2
  clear k2 B2 
  clear x0_0 x0_1
  have x0_0 := K2.out.cell0 at0
  have x0_1 := K2.out.cell1 at0
  go_wp2_with fail
  go_ret
  exact ⟨rfl, K2.out.bel⟩
set_option maxHeartbeats 400000 in
theorem ref4_Valid_ok (w : World) (h : NumAt w A n c x) (h' : NumAt w A' n' c' y) (y0 : 0 < y) :
    Calls Tryz.prog 20 #[.agg #[.slice A n c, .slice A' n' c']] w fun e w' => e = .returned (.bool (Fr.one (Nat.gcd x y))) ∧ Below w.heap.size w w' := by
  have v1 := fun W (hb : Below w.heap.size w W) => ref3_Valid_yes (c := c) W (h.on hb)
  have v2 := fun W (hb : Below w.heap.size w W) => ref3_Valid_yes (c := c') W (h'.on hb)
  have V1 := Lib.hid v1
  have V2 := Lib.hid v2
  have hl : ((n' : Int) == 0) = false := by have := h'.d.len_pos y0; simp; omega
  have c1 := fun W (hb : Below w.heap.size w W) => ref3_GCD_ok (c := c) (c' := c') W (h.on hb).d (h'.on hb).d h.h h'.h
  have O1 := Lib.hid fun W => ref3_Of 1 1 W rfl (by omega)
  obtain ⟨g, eg⟩ : ∃ g, g = Nat.gcd x y := ⟨_, rfl⟩
  rw [← eg] at c1
  have C1 := Lib.hid c1
  have cm := fun W {A : Option Addr} {n c : Nat} {A' : Option Addr} {n' c' : Nat} (h : IsN W W.heap.size A n g) (h' : IsN W W.heap.size A' n' 1) (hn : n ≤ 64) (hn' : n' ≤ 64) => ref3_Cmp_ok (c := c) (c' := c') W h h' hn hn'
  obtain ⟨z, ez⟩ : ∃ z, z = Nt.cmpI (g : Nat) ((1 : Nat) : Int) := ⟨_, rfl⟩
  rw [← ez] at cm
  have CM := Lib.hid cm
  have F : Hid ((z == 0) = Fr.one g) := by
    show _ = _
    rw [ez, Nt.cmp_ci, Fr.one, Bool.eq_iff_iff, beq_iff_eq, Fr.ci_zero]; simp
  rw [← eg]
  clear v1 v2 c1 cm eg ez h h'
  have k0 := (Ks.start w).box [.slice A n c, .slice A' n' c'] 28
  have K0 := Lib.hid k0
  clear k0
  go_enter Tryz.func20, Tryz.ntmps20
  go_wp2_with fail
  refine (V1.out _ K0.out.bel).mono ?_
  rintro e w1 ⟨rfl, B1⟩
  have k1 := K0.out.call B1
  have K1 := Lib.hid k1
  clear k1 B1 
  have x0_0 := K1.out.cell0 at0
  have x0_1 := K1.out.cell1 at0
  go_wp2_with fail
  refine (V2.out _ K1.out.bel).mono ?_
  rintro e w2 ⟨rfl, B2⟩
  have k2 := K1.out.call B2
  have K2 := Lib.hid k2
  clear k2 B2 
  clear x0_0 x0_1
  have x0_0 := K2.out.cell0 at0
  have x0_1 := K2.out.cell1 at0
  go_wp2_with fail
  refine (C1.out _ K2.out.bel).mono ?_
  rintro e w3 ⟨A3, n3, c3, rfl, B3, D3, h3, l3⟩
  have k3 := ((K2.out.call B3).num D3).box [.slice A3 n3 c3] 24
  have K3 := Lib.hid k3
  clear k3 B3 D3
  clear x0_0 x0_1
  have x0_0 := K3.out.cell0 at1
  have x0_1 := K3.out.cell1 at1
  go_wp2_with fail
  have K3d := Lib.hid (K3.out.call (Below.refl _ (w3.alloc (.cells #[.slice A3 n3 c3] 24))).drew)
  go_region_held3 (fun W => W.cell? ⟨w3.heap.size, 0, none⟩ = some (.slice A3 n3 c3))
    (first | (with_reducible exact K3d.out.cell0 at0) | (with_reducible exact K4.out.cell0 at0) | (with_reducible exact K5.out.cell0 at0) | assumption | fail)
    (first
      | (go_at_call 42; (with_reducible refine (O1.out _).mono ?_); rintro e w4 ⟨A4, n4, c4, rfl, B4, D4, h4, l4⟩; have K4 := Lib.hid ((K3d.out.call B4).num D4); clear B4 D4)
      | (go_at_call 45; (with_reducible refine (CM.out _ (K4.out.get at1) (K4.out.get at0) h3 h4).mono ?_); rintro e w5 ⟨rfl, B5⟩; have K5 := Lib.hid (K4.out.call B5); clear B5 )
      | fail)
  go_wp2_with fail
  go_ret
  exact ⟨ret_bool F.out, K5.out.bel⟩
theorem ref4_Valid_arg (w : World) (h : FArg w A n c f A' n' c' f') : Calls Tryz.prog 20 #[.agg #[.slice A n c, .slice A' n' c']] w fun e w' => e = .returned (.bool (Fr.vld f n f' n')) ∧ Below w.heap.size w w' := by
  unfold Fr.vld Nt.both
  cases hv : Nt.vd f n
  · exact ref4_Valid_bad1 w h.n h.d hv
  · cases hv' : Nt.vd f' n'
    · exact ref4_Valid_bad2 w h.n h.d hv hv'
    · have a : NumAt w A n c _ := ⟨h.n.isN hv, (Nt.vd_iff.1 hv).1, h.n.cap⟩
      have a' : NumAt w A' n' c' _ := ⟨h.d.isN hv', (Nt.vd_iff.1 hv').1, h.d.cap⟩
      by_cases hl : Nt.vl 4294967296 f' n' = 0
      · rw [show decide (0 < Nt.vl 4294967296 f' n') = false by simp [hl]]
        exact ref4_Valid_zero w a a' hl
      · rw [show decide (0 < Nt.vl 4294967296 f' n') = true by simp; omega]
        exact ref4_Valid_ok w a a' (by omega)
theorem ref4_Valid_is (w : World) (h : FIs w A n c A' n' c' a b) : Calls Tryz.prog 20 #[.agg #[.slice A n c, .slice A' n' c']] w fun e w' => e = .returned (.bool true) ∧ Below w.heap.size w w' := by
  have := ref4_Valid_arg w h.arg
  rwa [h.vld] at this
end
end Go.Proofs.YtclejcijnfpgaaaGreatDoor
