/- Layer 7, the project's package digest: Unmix, Sum, Keyed, Chain. -/
import Derived.Test.YtimcgbichnakhaaDoorDigG
namespace Go.Proofs.YtimcgbichnakhaaDoor
set_option maxRecDepth 20000
open Go.RowKit
set_option linter.unusedVariables false
set_option linter.unusedSimpArgs false
set_option maxHeartbeats 400000 in
theorem dig_Unmix (x : Int) (x0 : 0 ≤ x) (x1 : x ≤ 18446744073709551615) (w : World) (hE : DEnv w) : Calls Tryd.prog 16 #[.int .u64 x] w fun e w' => e = .returned (.int .u64 (Dg.unmix x)) ∧ Below w.heap.size w w' := by
  have c1 := fun W => dig_unshift31 x W x0 x1
  obtain ⟨v1, e1⟩ : ∃ v, v = Dg.us 31 (Dg.B x) := ⟨_, rfl⟩
  have p1 : IntKind.u64.wrap (Dg.I v1 * 3573116690164977347) = Dg.I (v1 * Dg.D2) := Dg.I_mul _ Dg.D2
  obtain ⟨v2, e2⟩ : ∃ v, v = v1 * Dg.D2 := ⟨_, rfl⟩
  have b2 := Dg.I_bd v2
  have c3 := fun W => dig_unshift27 (Dg.I v2) W b2.1 b2.2
  rw [Dg.B_I] at c3
  obtain ⟨v3, e3⟩ : ∃ v, v = Dg.us 27 v2 := ⟨_, rfl⟩
  have p2 : IntKind.u64.wrap (Dg.I v3 * 10871156337175269513) = Dg.I (v3 * Dg.D1) := Dg.I_mul _ Dg.D1
  obtain ⟨v4, e4⟩ : ∃ v, v = v3 * Dg.D1 := ⟨_, rfl⟩
  have b4 := Dg.I_bd v4
  have c5 := fun W => dig_unshift30 (Dg.I v4) W b4.1 b4.2
  rw [Dg.B_I] at c5
  have E : Hid (Dg.I (Dg.us 30 v4) = Dg.unmix x) := by show _ = _; rw [e4, e3, e2, e1]; rfl
  have b1 := Dg.I_bd v1
  have b3 := Dg.I_bd v3
  have b5 := Dg.I_bd (Dg.us 30 v4)
  rw [← e1] at c1
  rw [← e2] at p1
  rw [← e3] at c3
  rw [← e4] at p2
  obtain ⟨V1, f1⟩ : ∃ V, V = Dg.I v1 := ⟨_, rfl⟩
  obtain ⟨V2, f2⟩ : ∃ V, V = Dg.I v2 := ⟨_, rfl⟩
  obtain ⟨V3, f3⟩ : ∃ V, V = Dg.I v3 := ⟨_, rfl⟩
  obtain ⟨V4, f4⟩ : ∃ V, V = Dg.I v4 := ⟨_, rfl⟩
  obtain ⟨V5, f5⟩ : ∃ V, V = Dg.I (Dg.us 30 v4) := ⟨_, rfl⟩
  rw [← f1] at c1 p1 b1
  rw [← f2] at p1 c3 b2
  rw [← f3] at c3 p2 b3
  rw [← f4] at p2 c5 b4
  rw [← f5] at c5 E b5
  have A1 := Lib.hid c1
  have A3 := Lib.hid c3
  have A5 := Lib.hid c5
  obtain ⟨b10, b11⟩ := b1
  obtain ⟨b20, b21⟩ := b2
  obtain ⟨b30, b31⟩ := b3
  obtain ⟨b40, b41⟩ := b4
  obtain ⟨b50, b51⟩ := b5
  have r0 : w.cell? ⟨0, 0, none⟩ = some (.int .u64 30) := hE.cell (J := 0) (by omega)
  have r2 : w.cell? ⟨0, 2, none⟩ = some (.int .u64 10871156337175269513) := hE.cell (J := 2) (by omega)
  have r3 : w.cell? ⟨0, 3, none⟩ = some (.int .u64 27) := hE.cell (J := 3) (by omega)
  have r5 : w.cell? ⟨0, 5, none⟩ = some (.int .u64 3573116690164977347) := hE.cell (J := 5) (by omega)
  clear c1 c3 c5 e1 e2 e3 e4 f1 f2 f3 f4 f5
  go_enter Tryd.func16, Tryd.ntmps16
  go_wp2_with fail
  refine (A1.out _).mono ?_
  rintro e w' ⟨rfl, rfl⟩
  go_wp2_with fail
  go_loopw [0, 3] (fun a i W => ∃ (j : Nat) (X : Int), j ≤ 2 ∧ a = .int .u64 X ∧ i = .int .i64 (1 - (j : Int)) ∧ Hid (X = if j = 0 then V1 else if j = 1 then V3 else V5) ∧ W = w) (fun _ i _ => (1 + intOf i).toNat)
  case atStart => exact ⟨0, V1, by omega, rfl, rfl, rfl, rfl⟩
  case round =>
    obtain ⟨j, X, hj, rfl, rfl, HX, rfl⟩ := hrel
    have hj3 : j = 0 ∨ j = 1 ∨ j = 2 := by omega
    rcases hj3 with rfl | rfl | rfl
    · obtain rfl : X = V1 := HX.out
      go_wp2_with fail
      refine (A3.out _).mono ?_
      rintro e w' ⟨rfl, rfl⟩
      go_wp2_with fail
      go_roundw
      case rel => exact ⟨1, V3, by omega, rfl, rfl, rfl, trivial⟩
      case measure => simp [intOf]
    · obtain rfl : X = V3 := HX.out
      go_wp2_with fail
      refine (A5.out _).mono ?_
      rintro e w' ⟨rfl, rfl⟩
      go_wp2_with fail
      go_roundw
      case rel => exact ⟨2, V5, by omega, rfl, rfl, rfl, trivial⟩
      case measure => simp [intOf]
    · obtain rfl : X = V5 := HX.out
      go_wp2_with fail
      go_ret
      exact ⟨ret_int E.out, Below.refl _ _⟩
theorem dig_Sum_q (s : ByteArray) (w : World) (hs : s.size ≤ 281474976710656) : Calls Tryd.prog 12 #[.string s] w fun e w' => e = .returned (.int .u64 (Dg.sum s.data.toList)) ∧ w = w' := by
  go_enter Tryd.func12, Tryd.ntmps12
  go_wp2_with fail
  go_loopw [3, 7] (fun x i W => ∃ (k : Nat) (X : Int), k ≤ s.size ∧ 0 ≤ X ∧ X ≤ 18446744073709551615 ∧ x = .int .u64 X ∧ i = .int .i64 (k : Int) ∧ Hid (X = Dg.I (Dg.sumV (s.data.toList.take k))) ∧ W = w) (fun _ i _ => s.size - (intOf i).toNat)
  case atStart => exact ⟨0, 14695981039346656037, by omega, by omega, by omega, rfl, rfl, rfl, rfl⟩
  case round =>
    obtain ⟨k, X, hk, X0, X1, rfl, rfl, HX, rfl⟩ := hrel
    by_cases hlt : k < s.size
    · obtain ⟨Z, eZ⟩ : ∃ Z, Z = IntKind.u64.wrap (bits .xor .u64 X (s[k].toNat : Int) * 1099511628211) := ⟨_, rfl⟩
      have hz : Z = Dg.I (Dg.sumV (s.data.toList.take (k + 1))) := by
        rw [eZ, HX.out, Dg.sum_step, sum_take hlt]
      have hb := Dg.I_bd (Dg.sumV (s.data.toList.take (k + 1)))
      rw [← hz] at hb
      obtain ⟨Z0, Z1⟩ := hb
      have HZ := Lib.hid hz
      have hcb : (s[k].toNat : Int) ≤ 255 := by have := s[k].toNat_lt; omega
      have hcw : IntKind.u64.wrap (s[k].toNat : Int) = (s[k].toNat : Int) := by rw [IntKind.wrap_u64]; omega
      have eZ' : IntKind.u64.wrap (bits .xor .u64 X (s[k].toNat : Int) * 1099511628211) = Z := eZ.symm
      clear hz eZ
      go_wp2_with fail
      go_roundw
      case rel => exact ⟨k + 1, Z, by omega, Z0, Z1, rfl, by go_num, HZ, trivial⟩
      case measure => simp [intOf]; omega
    · have F : Hid (X = Dg.sum s.data.toList) := by
        show _ = _
        rw [HX.out, List.take_of_length_le (by rw [Array.length_toList]; show s.size ≤ k; omega)]; rfl
      go_wp2_with fail
      go_ret
      exact ⟨ret_int F.out, rfl⟩
theorem dig_Sum (s : ByteArray) (hs : s.size ≤ 281474976710656) (w : World) :
    Calls Tryd.prog 12 #[.string s] w fun e w' => e = .returned (.int .u64 (Dg.sum s.data.toList)) ∧ Below w.heap.size w w' :=
  (dig_Sum_q s w hs).mono fun e w' ⟨h1, h2⟩ => ⟨h1, h2 ▸ Below.refl _ _⟩
theorem dig_Keyed (k : Int) (s : ByteArray) (k0 : 0 ≤ k) (k1 : k ≤ 18446744073709551615) (hs : s.size ≤ 281474976710656) (w : World) (hE : DEnv w) : Calls Tryd.prog 18 #[.int .u64 k, .string s] w fun e w' => e = .returned (.int .u64 (Dg.keyed k s.data.toList)) ∧ Below w.heap.size w w' := by
  have c1 := fun W (hW : DEnv W) => dig_Mix k k0 k1 W hW
  have c2 := fun W => dig_Sum_q s W hs
  obtain ⟨Z, eZ⟩ : ∃ Z, Z = bits .xor .u64 (Dg.mix k) (Dg.sum s.data.toList) := ⟨_, rfl⟩
  have hz : Z = Dg.I (Dg.mixV (Dg.B k) ^^^ Dg.sumV s.data.toList) := by rw [eZ]; exact Dg.I_xor _ _
  have hb := Dg.I_bd (Dg.mixV (Dg.B k) ^^^ Dg.sumV s.data.toList)
  rw [← hz] at hb
  have E : Hid (Dg.mix Z = Dg.keyed k s.data.toList) := by show _ = _; rw [hz]; unfold Dg.mix; rw [Dg.B_I]; rfl
  have C3 := Lib.hid fun W (hW : DEnv W) => dig_Mix Z hb.1 hb.2 W hW
  have m0 := Dg.mix_bd k
  have s0 := Dg.sum_bd s.data.toList
  obtain ⟨X, eX⟩ : ∃ X, X = Dg.mix k := ⟨_, rfl⟩
  obtain ⟨Y, eY⟩ : ∃ X, X = Dg.sum s.data.toList := ⟨_, rfl⟩
  rw [← eX] at c1 m0 eZ
  rw [← eY] at c2 s0 eZ
  obtain ⟨m1, m2⟩ := m0
  obtain ⟨s1, s2⟩ := s0
  have C1 := Lib.hid c1
  have C2 := Lib.hid c2
  have eZ' : bits .xor .u64 X Y = Z := eZ.symm
  have HE := Lib.hid hE
  clear c1 c2 hz hb eX eY eZ hE
  go_enter Tryd.func18, Tryd.ntmps18
  go_wp2_with fail
  refine (C1.out _ HE.out).mono ?_
  rintro e w1 ⟨rfl, B1⟩
  have K1 := Lib.hid B1
  have HE1 := Lib.hid (HE.out.on B1)
  clear B1
  go_wp2_with fail
  refine (C2.out _).mono ?_
  rintro e w' ⟨rfl, rfl⟩
  go_wp2_with fail
  refine (C3.out _ HE1.out).mono ?_
  rintro e w3 ⟨rfl, B3⟩
  have K3 := Lib.hid (bthn6 K1.out B3)
  clear B3
  go_wp2_with fail
  go_ret
  exact ⟨ret_int E.out, K3.out⟩
theorem dig_Chain (k : Int) (s : ByteArray) (k0 : 0 ≤ k) (k1 : k ≤ 18446744073709551615) (hs : s.size ≤ 281474976710656) (w : World) (hE : DEnv w) : Calls Tryd.prog 20 #[.int .u64 k, .string s] w fun e w' => e = .returned (.int .u64 (Dg.chain k s.data.toList)) ∧ Below w.heap.size w w' := by
  have c2 := fun W => dig_Sum_q s W hs
  obtain ⟨Z, eZ⟩ : ∃ Z, Z = IntKind.u64.wrap (k + Dg.sum s.data.toList) := ⟨_, rfl⟩
  have hz : Z = Dg.I (Dg.B k + Dg.sumV s.data.toList) := by
    rw [eZ]
    conv => lhs; rw [← Dg.I_B k0 k1]
    exact Dg.I_add _ _
  have hb := Dg.I_bd (Dg.B k + Dg.sumV s.data.toList)
  rw [← hz] at hb
  have E : Hid (Dg.mix Z = Dg.chain k s.data.toList) := by show _ = _; rw [hz]; unfold Dg.mix; rw [Dg.B_I]; rfl
  have C3 := Lib.hid fun W (hW : DEnv W) => dig_Mix Z hb.1 hb.2 W hW
  have s0 := Dg.sum_bd s.data.toList
  obtain ⟨Y, eY⟩ : ∃ X, X = Dg.sum s.data.toList := ⟨_, rfl⟩
  rw [← eY] at c2 s0 eZ
  obtain ⟨s1, s2⟩ := s0
  have C2 := Lib.hid c2
  have eZ' : IntKind.u64.wrap (k + Y) = Z := eZ.symm
  have HE := Lib.hid hE
  clear c2 hz hb eY eZ hE
  go_enter Tryd.func20, Tryd.ntmps20
  go_wp2_with fail
  refine (C2.out _).mono ?_
  rintro e w' ⟨rfl, rfl⟩
  go_wp2_with fail
  refine (C3.out _ HE.out).mono ?_
  rintro e w3 ⟨rfl, B3⟩
  have K3 := Lib.hid B3
  clear B3
  go_wp2_with fail
  go_ret
  exact ⟨ret_int E.out, K3.out⟩
end Go.Proofs.YtimcgbichnakhaaDoor
