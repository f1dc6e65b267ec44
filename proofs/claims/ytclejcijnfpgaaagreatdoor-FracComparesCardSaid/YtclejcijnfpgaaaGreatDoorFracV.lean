/- The reference's Cmp: cross products, limb by limb. (Written by tools/frac12.py.) -/
import Derived.Test.YtclejcijnfpgaaaGreatDoorFracS
namespace Go.Proofs.YtclejcijnfpgaaaGreatDoor
set_option maxRecDepth 20000
open Go.RowKit
set_option linter.unusedVariables false
set_option linter.unusedSimpArgs false
/-- A row of limbs with zeros behind it: the digits of its value. -/
theorem prod_digs {w : World} {A : Option Addr} {l X : Nat} {G : Nat → Nat} (hd : Digs w w.heap.size .u32 A l G) (hl : ∀ i, G i < 4294967296) (hv : Nt.vl 4294967296 G l = X) : Digs w w.heap.size .u32 A l (Nt.dg 4294967296 X) ∧ X < 4294967296 ^ l :=
  ⟨hd.congr fun i hi => by rw [← hv]; exact Nt.dg_vl (fun i _ => hl i) hi, by rw [← hv]; exact Nt.vl_lt fun i _ => hl i⟩
theorem dg_past {X l j : Nat} (h : X < 4294967296 ^ l) (hj : l ≤ j) : Nt.dg 4294967296 X j = 0 := Nt.dg_ge (Nat.lt_of_lt_of_le h (Nat.pow_le_pow_right (by omega) hj))
section
variable {n c n' c' m j m' j' a b p q : Nat} {A A' C C' : Option Addr} {f f' g g' : Nat → Nat}
theorem ref4_Cmp_bad1 (w : World) (h : FArg w A n c f A' n' c' f') (h' : FArg w C m j g C' m' j' g') (hv : Fr.vld f n f' n' = false) :
    Calls Tryz.prog 22 #[.agg #[.slice A n c, .slice A' n' c'], .agg #[.slice C m j, .slice C' m' j']] w fun e w' => e = .returned (.int .i64 0) ∧ Below w.heap.size w w' := by
  have v1 := fun W (hb : Below w.heap.size w W) => ref4_Valid_arg W (h.on hb)
  rw [hv] at v1
  have V1 := Lib.hid v1
  clear v1 hv h h'
  have k0 := ((Ks.start w).box [.slice A n c, .slice A' n' c'] 28).box [.slice C m j, .slice C' m' j'] 28
  simp only [size_alloc] at k0
  have K0 := Lib.hid k0
  clear k0
  go_enter Tryz.func22, Tryz.ntmps22
  go_wp2_with fail
  refine (V1.out _ K0.out.bel).mono ?_
  rintro e w1 ⟨rfl, B1⟩
  have k1 := K0.out.call B1
  have K1 := Lib.hid k1
  clear k1 B1 
  have x0_0 := K1.out.cell0 at1
  have x0_1 := K1.out.cell1 at1
  have x1_0 := K1.out.cell0 at0
  have x1_1 := K1.out.cell1 at0
  go_wp2_with fail
  go_ret
  exact ⟨rfl, K1.out.bel⟩
theorem ref4_Cmp_bad2 (w : World) (h : FArg w A n c f A' n' c' f') (h' : FArg w C m j g C' m' j' g') (hv : Fr.vld f n f' n' = true) (hv' : Fr.vld g m g' m' = false) :
    Calls Tryz.prog 22 #[.agg #[.slice A n c, .slice A' n' c'], .agg #[.slice C m j, .slice C' m' j']] w fun e w' => e = .returned (.int .i64 0) ∧ Below w.heap.size w w' := by
  have v1 := fun W (hb : Below w.heap.size w W) => ref4_Valid_arg W (h.on hb)
  rw [hv] at v1
  have V1 := Lib.hid v1
  have v2 := fun W (hb : Below w.heap.size w W) => ref4_Valid_arg W (h'.on hb)
  rw [hv'] at v2
  have V2 := Lib.hid v2
  clear v1 v2 hv hv' h h'
  have k0 := ((Ks.start w).box [.slice A n c, .slice A' n' c'] 28).box [.slice C m j, .slice C' m' j'] 28
  simp only [size_alloc] at k0
  have K0 := Lib.hid k0
  clear k0
  go_enter Tryz.func22, Tryz.ntmps22
  go_wp2_with fail
  refine (V1.out _ K0.out.bel).mono ?_
  rintro e w1 ⟨rfl, B1⟩
  have k1 := K0.out.call B1
  have K1 := Lib.hid k1
  clear k1 B1 
  have x0_0 := K1.out.cell0 at1
  have x0_1 := K1.out.cell1 at1
  have x1_0 := K1.out.cell0 at0
  have x1_1 := K1.out.cell1 at0
  go_wp2_with fail
  refine (V2.out _ K1.out.bel).mono ?_
  rintro e w2 ⟨rfl, B2⟩
  have k2 := K1.out.call B2
  have K2 := Lib.hid k2
  clear k2 B2 
  clear x0_0 x0_1 x1_0 x1_1
  have x0_0 := K2.out.cell0 at1
  have x0_1 := K2.out.cell1 at1
  have x1_0 := K2.out.cell0 at0
  have x1_1 := K2.out.cell1 at0
  go_wp2_with fail
  go_ret
  exact ⟨rfl, K2.out.bel⟩
set_option maxHeartbeats 1000000 in
theorem ref4_Cmp_is (w : World) (h : FIs w A n c A' n' c' a b) (h' : FIs w C m j C' m' j' p q) :
    Calls Tryz.prog 22 #[.agg #[.slice A n c, .slice A' n' c'], .agg #[.slice C m j, .slice C' m' j']] w fun e w' => e = .returned (.int .i64 (Fr.ci (a * q) (p * b))) ∧ Below w.heap.size w w' := by
  have V1 := Lib.hid fun W (hb : Below w.heap.size w W) => ref4_Valid_is W (h.on hb)
  have V2 := Lib.hid fun W (hb : Below w.heap.size w W) => ref4_Valid_is W (h'.on hb)
  have P1 := Lib.hid fun W (hb : Below w.heap.size w W) => ref4_product (c := c) (j := j') W (h.on hb).n.d (h'.on hb).d.d h.n.h h'.d.h
  have P2 := Lib.hid fun W (hb : Below w.heap.size w W) => ref4_product (c := j) (j := c') W (h'.on hb).n.d (h.on hb).d.d h'.n.h h.d.h
  have n64 := h.n.h
  have m64 := h'.n.h
  have n64' := h.d.h
  have m64' := h'.d.h
  obtain ⟨X, eX⟩ : ∃ X, X = a * q := ⟨_, rfl⟩
  obtain ⟨Y, eY⟩ : ∃ Y, Y = p * b := ⟨_, rfl⟩
  rw [← eX] at P1
  rw [← eY] at P2
  rw [← eX, ← eY]
  clear h h' eX eY
  have k0 := ((Ks.start w).box [.slice A n c, .slice A' n' c'] 28).box [.slice C m j, .slice C' m' j'] 28
  simp only [size_alloc] at k0
  have K0 := Lib.hid k0
  clear k0
  go_enter Tryz.func22, Tryz.ntmps22
  go_wp2_with fail
  refine (V1.out _ K0.out.bel).mono ?_
  rintro e w1 ⟨rfl, B1⟩
  have k1 := K0.out.call B1
  have K1 := Lib.hid k1
  clear k1 B1 
  have x0_0 := K1.out.cell0 at1
  have x0_1 := K1.out.cell1 at1
  have x1_0 := K1.out.cell0 at0
  have x1_1 := K1.out.cell1 at0
  go_wp2_with fail
  refine (V2.out _ K1.out.bel).mono ?_
  rintro e w2 ⟨rfl, B2⟩
  have k2 := K1.out.call B2
  have K2 := Lib.hid k2
  clear k2 B2 
  clear x0_0 x0_1 x1_0 x1_1
  have x0_0 := K2.out.cell0 at1
  have x0_1 := K2.out.cell1 at1
  have x1_0 := K2.out.cell0 at0
  have x1_1 := K2.out.cell1 at0
  go_wp2_with fail
  refine (P1.out _ K2.out.bel).mono ?_
  rintro e w3 ⟨A3, G3, rfl, B3, d3, g3, z3, v3⟩
  have K3 := Lib.hid (K2.out.call B3)
  have D3 := Lib.hid (prod_digs d3 g3 v3)
  clear x0_0 x0_1 x1_0 x1_1
  have x0_0 := K3.out.cell0 at1
  have x0_1 := K3.out.cell1 at1
  have x1_0 := K3.out.cell0 at0
  have x1_1 := K3.out.cell1 at0
  clear d3 g3 z3 v3 B3
  go_wp2_with fail
  refine (P2.out _ K3.out.bel).mono ?_
  rintro e w4 ⟨A4, G4, rfl, B4, d4, g4, z4, v4⟩
  have K4 := Lib.hid (K3.out.call B4)
  have D4 := Lib.hid (prod_digs d4 g4 v4)
  have E3 := Lib.hid ((D3.out.1.below B4).more B4.size)
  have L3 := Lib.hid D3.out.2
  clear x0_0 x0_1 x1_0 x1_1
  clear d4 g4 z4 v4 B4 D3
  go_wp2_with fail
  go_loopw [7] (fun i W => ∃ (k : Nat) (v : Int), k ≤ 128 ∧ i = .int .i64 v ∧ v < k ∧ (k : Int) ≤ v + 1 ∧ Hid (X / 4294967296 ^ k = Y / 4294967296 ^ k) ∧ W = w4) (fun i _ => (intOf i + 1).toNat)
  case atStart =>
    exact ⟨max (n + m') (m + n'), _, by omega, rfl, by omega, by omega, (by
      show _ = _
      rw [Nat.div_eq_of_lt (Nat.lt_of_lt_of_le L3.out (Nat.pow_le_pow_right (by omega) (by omega))), Nat.div_eq_of_lt (Nat.lt_of_lt_of_le D4.out.2 (Nat.pow_le_pow_right (by omega) (by omega)))]), rfl⟩
  case round =>
    obtain ⟨k, v, hk, rfl, hv1, hv2, HO, rfl⟩ := hrel
    rcases k with _ | k
    · obtain rfl : v = -1 := by omega
      have F : Hid (0 = Fr.ci X Y) := by
        show _ = _
        have := HO.out
        simp only [Nat.pow_zero, Nat.div_one] at this
        rw [this, Fr.ci_eq]
      go_wp2_with fail
      go_ret
      exact ⟨ret_int F.out, K4.out.bel⟩
    · obtain rfl : v = (k : Int) := by omega
      have l1 := ref4_limb (c := n + m') (k : Int) k _ E3.out (fun j hj => dg_past L3.out hj) (by omega) rfl
      have l2 := ref4_limb (c := m + n') (k : Int) k _ D4.out.1 (fun j hj => dg_past D4.out.2 hj) (by omega) rfl
      have g1 := Nt.dg_lt (B := 4294967296) (by omega) X k
      have g2 := Nt.dg_lt (B := 4294967296) (by omega) Y k
      obtain ⟨u, eu⟩ : ∃ u : Int, u = (Nt.dg 4294967296 X k : Nat) := ⟨_, rfl⟩
      obtain ⟨z, ez⟩ : ∃ z : Int, z = (Nt.dg 4294967296 Y k : Nat) := ⟨_, rfl⟩
      rw [← eu] at l1
      rw [← ez] at l2
      have A1 := Lib.hid l1
      have A2 := Lib.hid l2
      have EU := Lib.hid eu
      have EZ := Lib.hid ez
      clear l1 l2 eu ez g1 g2
      have j0 : (0 : Int) ≤ (k : Int) := by omega
      by_cases hu : u < z
      · have F : Hid (-1 = Fr.ci X Y) := by
          show _ = _
          have := Nt.lt_of_dg HO.out (by have := EU.out; have := EZ.out; omega)
          rw [Fr.ci_lt this]
        go_wp2_with fail
        refine A1.out.mono ?_
        rintro e w5 ⟨rfl, rfl⟩
        go_wp2_with fail
        refine A2.out.mono ?_
        rintro e w5 ⟨rfl, rfl⟩
        go_wp2_with fail
        go_ret
        exact ⟨ret_int F.out, K4.out.bel⟩
      · by_cases hz : z < u
        · have F : Hid (1 = Fr.ci X Y) := by
            show _ = _
            have := Nt.lt_of_dg HO.out.symm (by have := EU.out; have := EZ.out; omega)
            rw [Fr.ci_gt this]
          go_wp2_with fail
          refine A1.out.mono ?_
          rintro e w5 ⟨rfl, rfl⟩
          go_wp2_with fail
          refine A2.out.mono ?_
          rintro e w5 ⟨rfl, rfl⟩
          go_wp2_with fail
          refine A1.out.mono ?_
          rintro e w5 ⟨rfl, rfl⟩
          go_wp2_with fail
          refine A2.out.mono ?_
          rintro e w5 ⟨rfl, rfl⟩
          go_wp2_with fail
          go_ret
          exact ⟨ret_int F.out, K4.out.bel⟩
        · have HN := Lib.hid (Nt.div_step HO.out (by have := EU.out; have := EZ.out; omega))
          go_wp2_with fail
          refine A1.out.mono ?_
          rintro e w5 ⟨rfl, rfl⟩
          go_wp2_with fail
          refine A2.out.mono ?_
          rintro e w5 ⟨rfl, rfl⟩
          go_wp2_with fail
          refine A1.out.mono ?_
          rintro e w5 ⟨rfl, rfl⟩
          go_wp2_with fail
          refine A2.out.mono ?_
          rintro e w5 ⟨rfl, rfl⟩
          go_wp2_with fail
          refine ⟨⟨k, (k : Int) - 1, by omega, by go_num, by omega, by omega, HN, trivial⟩, ?_⟩
          simp [intOf]
theorem ref4_Cmp_any (w : World) (h : FArg w A n c f A' n' c' f') (h' : FArg w C m j g C' m' j' g') :
    Calls Tryz.prog 22 #[.agg #[.slice A n c, .slice A' n' c'], .agg #[.slice C m j, .slice C' m' j']] w fun e w' => e = .returned (.int .i64 (Fr.cmpX f n f' n' g m g' m')) ∧ Below w.heap.size w w' := by
  unfold Fr.cmpX
  cases hv : Fr.vld f n f' n'
  · exact ref4_Cmp_bad1 w h h' hv
  · cases hv' : Fr.vld g m g' m'
    · exact ref4_Cmp_bad2 w h h' hv hv'
    · exact ref4_Cmp_is w (h.is hv) (h'.is hv')
end
end Go.Proofs.YtclejcijnfpgaaaGreatDoor
