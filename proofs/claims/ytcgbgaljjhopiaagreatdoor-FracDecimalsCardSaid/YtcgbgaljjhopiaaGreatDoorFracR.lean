/- The reference of layer 4: reduce, Make, Of, Valid for every argument. (Written by tools/frac10.py.) -/
import Derived.Test.YtcgbgaljjhopiaaGreatDoorFC
import Derived.Test.YtcgbgaljjhopiaaGreatDoorNatU
namespace Go.Proofs.YtcgbgaljjhopiaaGreatDoor
set_option maxRecDepth 20000
open Go.RowKit
set_option linter.unusedVariables false
set_option linter.unusedSimpArgs false
section
variable {n c n' c' x y a b : Nat} {A A' : Option Addr} {f f' : Nat → Nat}
theorem ref3_Valid_yes (w : World) (h : NumAt w A n c x) : Calls Tryz.prog 55 #[.agg #[.slice A n c]] w fun e w' => e = .returned (.bool true) ∧ Below w.heap.size w w' := by
  have := ref3_Valid (c := c) w h.d.d (by have := h.h; omega)
  rwa [h.vd] at this
set_option maxHeartbeats 400000 in
theorem ref4_Valid_bad1 (w : World) (h : Arg w A n c f) (h' : Arg w A' n' c' f') (hv : Nt.vd f n = false) :
    Calls Tryz.prog 23 #[.agg #[.slice A n c, .slice A' n' c']] w fun e w' => e = .returned (.bool false) ∧ Below w.heap.size w w' := by
  have v1 := fun W (hb : Below w.heap.size w W) => ref3_Valid (c := c) W (h.on hb).d h.big
  rw [hv] at v1
  have V1 := Lib.hid v1
  clear v1 hv h h'
  have k0 := (Ks.start w).box [.slice A n c, .slice A' n' c'] 26
  have K0 := Lib.hid k0
  clear k0
  go_enter Tryz.func23, Tryz.ntmps23
  go_wp2_with fail
  refine (V1.out _ K0.out.bel).mono ?_
  rintro e w1 ⟨rfl, B1⟩
  have k1 := K0.out.call B1
  have K1 := Lib.hid k1
  clear k1 B1 
  have x0_0 := K1.out.cell0 at0
  have x0_1 := K1.out.cell1 at0
  go_wp2_with fail
  go_ret
  exact ⟨rfl, K1.out.bel⟩
set_option maxHeartbeats 400000 in
theorem ref4_Valid_bad2 (w : World) (h : Arg w A n c f) (h' : Arg w A' n' c' f') (hv : Nt.vd f n = true) (hv' : Nt.vd f' n' = false) :
    Calls Tryz.prog 23 #[.agg #[.slice A n c, .slice A' n' c']] w fun e w' => e = .returned (.bool false) ∧ Below w.heap.size w w' := by
  have v1 := fun W (hb : Below w.heap.size w W) => ref3_Valid (c := c) W (h.on hb).d h.big
  rw [hv] at v1
  have V1 := Lib.hid v1
  have v2 := fun W (hb : Below w.heap.size w W) => ref3_Valid (c := c') W (h'.on hb).d h'.big
  rw [hv'] at v2
  have V2 := Lib.hid v2
  clear v1 v2 hv hv' h h'
  have k0 := (Ks.start w).box [.slice A n c, .slice A' n' c'] 26
  have K0 := Lib.hid k0
  clear k0
  go_enter Tryz.func23, Tryz.ntmps23
  go_wp2_with fail
  refine (V1.out _ K0.out.bel).mono ?_
  rintro e w1 ⟨rfl, B1⟩
  have k1 := K0.out.call B1
  have K1 := Lib.hid k1
  clear k1 B1 
  have x0_0 := K1.out.cell0 at0
  have x0_1 := K1.out.cell1 at0
  go_wp2_with fail
  refine (V2.out _ K1.out.bel).mono ?_
  rintro e w2 ⟨rfl, B2⟩
  have k2 := K1.out.call B2
  have K2 := Lib.hid k2
  clear k2 B2 
  clear x0_0 x0_1
  have x0_0 := K2.out.cell0 at0
  have x0_1 := K2.out.cell1 at0
  go_wp2_with fail
  go_ret
  exact ⟨rfl, K2.out.bel⟩
set_option maxHeartbeats 400000 in
theorem ref4_Valid_zero (w : World) (h : NumAt w A n c x) (h' : NumAt w A' n' c' y) (y0 : y = 0) :
    Calls Tryz.prog 23 #[.agg #[.slice A n c, .slice A' n' c']] w fun e w' => e = .returned (.bool false) ∧ Below w.heap.size w w' := by
  have v1 := fun W (hb : Below w.heap.size w W) => ref3_Valid_yes (c := c) W (h.on hb)
  have v2 := fun W (hb : Below w.heap.size w W) => ref3_Valid_yes (c := c') W (h'.on hb)
  have V1 := Lib.hid v1
  have V2 := Lib.hid v2
  have hl : ((n' : Int) == 0) = true := by rw [h'.d.zero_of y0]; rfl
  clear v1 v2 h h' y0
  have k0 := (Ks.start w).box [.slice A n c, .slice A' n' c'] 26
  have K0 := Lib.hid k0
  clear k0
  go_enter Tryz.func23, Tryz.ntmps23
  go_wp2_with fail
  refine (V1.out _ K0.out.bel).mono ?_
  rintro e w1 ⟨rfl, B1⟩
  have k1 := K0.out.call B1
  have K1 := Lib.hid k1
  clear k1 B1 
  have x0_0 := K1.out.cell0 at0
  have x0_1 := K1.out.cell1 at0
  go_wp2_with fail
  refine (V2.out _ K1.out.bel).mono ?_
  rintro e w2 ⟨rfl, B2⟩
  have k2 := K1.out.call B2
  have K2 := Lib.hid k2
  clear k2 B2 
  clear x0_0 x0_1
  have x0_0 := K2.out.cell0 at0
  have x0_1 := K2.out.cell1 at0
  go_wp2_with fail
  go_ret
  exact ⟨rfl, K2.out.bel⟩
set_option maxHeartbeats 400000 in
theorem ref4_Valid_ok (w : World) (h : NumAt w A n c x) (h' : NumAt w A' n' c' y) (y0 : 0 < y) :
    Calls Tryz.prog 23 #[.agg #[.slice A n c, .slice A' n' c']] w fun e w' => e = .returned (.bool (Fr.one (Nat.gcd x y))) ∧ Below w.heap.size w w' := by
  have v1 := fun W (hb : Below w.heap.size w W) => ref3_Valid_yes (c := c) W (h.on hb)
  have v2 := fun W (hb : Below w.heap.size w W) => ref3_Valid_yes (c := c') W (h'.on hb)
  have V1 := Lib.hid v1
  have V2 := Lib.hid v2
  have hl : ((n' : Int) == 0) = false := by have := h'.d.len_pos y0; simp; omega
  have c1 := fun W (hb : Below w.heap.size w W) => ref3_GCD_ok (c := c) (c' := c') W (h.on hb).d (h'.on hb).d h.h h'.h
  have O1 := Lib.hid fun W => ref3_Of 1 1 W rfl (by omega)
  obtain ⟨g, eg⟩ : ∃ g, g = Nat.gcd x y := ⟨_, rfl⟩
  rw [← eg] at c1
  have C1 := Lib.hid c1
  have cm := fun W {A : Option Addr} {n c : Nat} {A' : Option Addr} {n' c' : Nat} (h : IsN W W.heap.size A n g) (h' : IsN W W.heap.size A' n' 1) (hn : n ≤ 64) (hn' : n' ≤ 64) => ref3_Cmp_ok (c := c) (c' := c') W h h' hn hn'
  obtain ⟨z, ez⟩ : ∃ z, z = Nt.cmpI (g : Nat) ((1 : Nat) : Int) := ⟨_, rfl⟩
  rw [← ez] at cm
  have CM := Lib.hid cm
  have F : Hid ((z == 0) = Fr.one g) := by
    show _ = _
    rw [ez, Nt.cmp_ci, Fr.one, Bool.eq_iff_iff, beq_iff_eq, Fr.ci_zero]; simp
  rw [← eg]
  clear v1 v2 c1 cm eg ez h h'
  have k0 := (Ks.start w).box [.slice A n c, .slice A' n' c'] 26
  have K0 := Lib.hid k0
  clear k0
  go_enter Tryz.func23, Tryz.ntmps23
  go_wp2_with fail
  refine (V1.out _ K0.out.bel).mono ?_
  rintro e w1 ⟨rfl, B1⟩
  have k1 := K0.out.call B1
  have K1 := Lib.hid k1
  clear k1 B1 
  have x0_0 := K1.out.cell0 at0
  have x0_1 := K1.out.cell1 at0
  go_wp2_with fail
  refine (V2.out _ K1.out.bel).mono ?_
  rintro e w2 ⟨rfl, B2⟩
  have k2 := K1.out.call B2
  have K2 := Lib.hid k2
  clear k2 B2 
  clear x0_0 x0_1
  have x0_0 := K2.out.cell0 at0
  have x0_1 := K2.out.cell1 at0
  go_wp2_with fail
  refine (C1.out _ K2.out.bel).mono ?_
  rintro e w3 ⟨A3, n3, c3, rfl, B3, D3, h3, l3⟩
  have k3 := ((K2.out.call B3).num D3).box [.slice A3 n3 c3] 24
  have K3 := Lib.hid k3
  clear k3 B3 D3
  clear x0_0 x0_1
  have x0_0 := K3.out.cell0 at1
  have x0_1 := K3.out.cell1 at1
  go_wp2_with fail
  have K3d := Lib.hid (K3.out.call (Below.refl _ (w3.alloc (.cells #[.slice A3 n3 c3] 24))).drew)
  go_region_held3 (fun W => W.cell? ⟨w3.heap.size, 0, none⟩ = some (.slice A3 n3 c3))
    (first | (with_reducible exact K3d.out.cell0 at0) | (with_reducible exact K4.out.cell0 at0) | (with_reducible exact K5.out.cell0 at0) | assumption | fail)
    (first
      | (go_at_call 25; (with_reducible refine (O1.out _).mono ?_); rintro e w4 ⟨A4, n4, c4, rfl, B4, D4, h4, l4⟩; have K4 := Lib.hid ((K3d.out.call B4).num D4); clear B4 D4)
      | (go_at_call 57; (with_reducible refine (CM.out _ (K4.out.get at1) (K4.out.get at0) h3 h4).mono ?_); rintro e w5 ⟨rfl, B5⟩; have K5 := Lib.hid (K4.out.call B5); clear B5 )
      | fail)
  go_wp2_with fail
  go_ret
  exact ⟨ret_bool F.out, K5.out.bel⟩
theorem ref4_Valid_arg (w : World) (h : FArg w A n c f A' n' c' f') : Calls Tryz.prog 23 #[.agg #[.slice A n c, .slice A' n' c']] w fun e w' => e = .returned (.bool (Fr.vld f n f' n')) ∧ Below w.heap.size w w' := by
  unfold Fr.vld Nt.both
  cases hv : Nt.vd f n
  · exact ref4_Valid_bad1 w h.n h.d hv
  · cases hv' : Nt.vd f' n'
    · exact ref4_Valid_bad2 w h.n h.d hv hv'
    · have a : NumAt w A n c _ := ⟨h.n.isN hv, (Nt.vd_iff.1 hv).1, h.n.cap⟩
      have a' : NumAt w A' n' c' _ := ⟨h.d.isN hv', (Nt.vd_iff.1 hv').1, h.d.cap⟩
      by_cases hl : Nt.vl 4294967296 f' n' = 0
      · rw [show decide (0 < Nt.vl 4294967296 f' n') = false by simp [hl]]
        exact ref4_Valid_zero w a a' hl
      · rw [show decide (0 < Nt.vl 4294967296 f' n') = true by simp; omega]
        exact ref4_Valid_ok w a a' (by omega)
theorem ref4_Valid_is (w : World) (h : FIs w A n c A' n' c' a b) : Calls Tryz.prog 23 #[.agg #[.slice A n c, .slice A' n' c']] w fun e w' => e = .returned (.bool true) ∧ Below w.heap.size w w' := by
  have := ref4_Valid_arg w h.arg
  rwa [h.vld] at this
end
end Go.Proofs.YtcgbgaljjhopiaaGreatDoor
