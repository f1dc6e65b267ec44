/- Layer 7: the reference's Sum, Mix, Unmix, Keyed, Chain. -/
import Derived.Test.YtimcgbichnakhaaDoorNumA
import Derived.Test.YtimcgbichnakhaaDoorSeqA
import Derived.Test.YtimcgbichnakhaaDoorDigMath
namespace Go.Proofs.YtimcgbichnakhaaDoor
set_option maxRecDepth 20000
open Go.RowKit
set_option linter.unusedVariables false
set_option linter.unusedSimpArgs false
theorem ref7_Mix (x : Int) (w : World) (x0 : 0 ≤ x) (x1 : x ≤ 18446744073709551615) : Calls Tryd.prog 15 #[.int .u64 x] w fun e w' => e = .returned (.int .u64 (Dg.mix x)) ∧ w = w' := by
  have E := Lib.hid (Dg.mix_steps x0 x1)
  go_enter Tryd.func15, Tryd.ntmps15
  go_wp2_with fail
  go_ret
  exact ⟨ret_int E.out, rfl⟩
theorem ref7_unshift27 (y : Int) (w : World) (y0 : 0 ≤ y) (y1 : y ≤ 18446744073709551615) : Calls Tryd.prog 27 #[.int .u64 y, .int .u64 27] w fun e w' => e = .returned (.int .u64 (Dg.I (Dg.us 27 (Dg.B y)))) ∧ w = w' := by
  have I0 : Hid (y = Dg.I (Dg.itV 27 (Dg.B y) 0)) := (Dg.I_B y0 y1).symm
  have IY := Lib.hid (Dg.I_B y0 y1)
  have E4 := Lib.hid (Dg.it_four (n := 27) (by omega) (Dg.B y))
  go_enter Tryd.func27, Tryd.ntmps27
  go_wp2_with fail
  go_loopw [5, 6] (fun x i W => ∃ (j : Nat) (X : Int), j ≤ 4 ∧ 0 ≤ X ∧ X ≤ 18446744073709551615 ∧ x = .int .u64 X ∧ i = .int .i64 (j : Int) ∧ Hid (X = Dg.I (Dg.itV 27 (Dg.B y) j)) ∧ W = w) (fun _ i _ => 4 - (intOf i).toNat)
  case atStart => exact ⟨0, y, by omega, y0, y1, rfl, rfl, I0, rfl⟩
  case round =>
    obtain ⟨j, X, hj, X0, X1, rfl, rfl, HX, rfl⟩ := hrel
    by_cases hlt : j < 4
    · obtain ⟨Z, eZ⟩ : ∃ Z, Z = bits .xor .u64 y (X / 134217728) := ⟨_, rfl⟩
      have hz : Z = Dg.I (Dg.itV 27 (Dg.B y) (j + 1)) := by
        rw [eZ, HX.out]
        conv => lhs; rw [← IY.out]
        have e : ∀ a : Dg.V, Dg.I a / (134217728 : Int) = Dg.I (a >>> 27) := fun a => Dg.I_shr a 27
        rw [e, Dg.I_xor, Dg.B_I]; rfl
      have hb := Dg.I_bd (Dg.itV 27 (Dg.B y) (j + 1))
      rw [← hz] at hb
      obtain ⟨Z0, Z1⟩ := hb
      have HZ := Lib.hid hz
      have eZ' : bits .xor .u64 y (X / 134217728) = Z := eZ.symm
      clear hz eZ
      go_wp2_with fail
      go_roundw
      case rel => exact ⟨j + 1, Z, by omega, Z0, Z1, rfl, by go_num, HZ, trivial⟩
      case measure => simp [intOf]; omega
    · obtain rfl : j = 4 := by omega
      have F : Hid (X = Dg.I (Dg.us 27 (Dg.B y))) := by show _ = _; rw [HX.out, E4.out]
      go_wp2_with fail
      go_ret
      exact ⟨ret_int F.out, rfl⟩
theorem ref7_unshift30 (y : Int) (w : World) (y0 : 0 ≤ y) (y1 : y ≤ 18446744073709551615) : Calls Tryd.prog 27 #[.int .u64 y, .int .u64 30] w fun e w' => e = .returned (.int .u64 (Dg.I (Dg.us 30 (Dg.B y)))) ∧ w = w' := by
  have I0 : Hid (y = Dg.I (Dg.itV 30 (Dg.B y) 0)) := (Dg.I_B y0 y1).symm
  have IY := Lib.hid (Dg.I_B y0 y1)
  have E4 := Lib.hid (Dg.it_four (n := 30) (by omega) (Dg.B y))
  go_enter Tryd.func27, Tryd.ntmps27
  go_wp2_with fail
  go_loopw [5, 6] (fun x i W => ∃ (j : Nat) (X : Int), j ≤ 4 ∧ 0 ≤ X ∧ X ≤ 18446744073709551615 ∧ x = .int .u64 X ∧ i = .int .i64 (j : Int) ∧ Hid (X = Dg.I (Dg.itV 30 (Dg.B y) j)) ∧ W = w) (fun _ i _ => 4 - (intOf i).toNat)
  case atStart => exact ⟨0, y, by omega, y0, y1, rfl, rfl, I0, rfl⟩
  case round =>
    obtain ⟨j, X, hj, X0, X1, rfl, rfl, HX, rfl⟩ := hrel
    by_cases hlt : j < 4
    · obtain ⟨Z, eZ⟩ : ∃ Z, Z = bits .xor .u64 y (X / 1073741824) := ⟨_, rfl⟩
      have hz : Z = Dg.I (Dg.itV 30 (Dg.B y) (j + 1)) := by
        rw [eZ, HX.out]
        conv => lhs; rw [← IY.out]
        have e : ∀ a : Dg.V, Dg.I a / (1073741824 : Int) = Dg.I (a >>> 30) := fun a => Dg.I_shr a 30
        rw [e, Dg.I_xor, Dg.B_I]; rfl
      have hb := Dg.I_bd (Dg.itV 30 (Dg.B y) (j + 1))
      rw [← hz] at hb
      obtain ⟨Z0, Z1⟩ := hb
      have HZ := Lib.hid hz
      have eZ' : bits .xor .u64 y (X / 1073741824) = Z := eZ.symm
      clear hz eZ
      go_wp2_with fail
      go_roundw
      case rel => exact ⟨j + 1, Z, by omega, Z0, Z1, rfl, by go_num, HZ, trivial⟩
      case measure => simp [intOf]; omega
    · obtain rfl : j = 4 := by omega
      have F : Hid (X = Dg.I (Dg.us 30 (Dg.B y))) := by show _ = _; rw [HX.out, E4.out]
      go_wp2_with fail
      go_ret
      exact ⟨ret_int F.out, rfl⟩
theorem ref7_unshift31 (y : Int) (w : World) (y0 : 0 ≤ y) (y1 : y ≤ 18446744073709551615) : Calls Tryd.prog 27 #[.int .u64 y, .int .u64 31] w fun e w' => e = .returned (.int .u64 (Dg.I (Dg.us 31 (Dg.B y)))) ∧ w = w' := by
  have I0 : Hid (y = Dg.I (Dg.itV 31 (Dg.B y) 0)) := (Dg.I_B y0 y1).symm
  have IY := Lib.hid (Dg.I_B y0 y1)
  have E4 := Lib.hid (Dg.it_four (n := 31) (by omega) (Dg.B y))
  go_enter Tryd.func27, Tryd.ntmps27
  go_wp2_with fail
  go_loopw [5, 6] (fun x i W => ∃ (j : Nat) (X : Int), j ≤ 4 ∧ 0 ≤ X ∧ X ≤ 18446744073709551615 ∧ x = .int .u64 X ∧ i = .int .i64 (j : Int) ∧ Hid (X = Dg.I (Dg.itV 31 (Dg.B y) j)) ∧ W = w) (fun _ i _ => 4 - (intOf i).toNat)
  case atStart => exact ⟨0, y, by omega, y0, y1, rfl, rfl, I0, rfl⟩
  case round =>
    obtain ⟨j, X, hj, X0, X1, rfl, rfl, HX, rfl⟩ := hrel
    by_cases hlt : j < 4
    · obtain ⟨Z, eZ⟩ : ∃ Z, Z = bits .xor .u64 y (X / 2147483648) := ⟨_, rfl⟩
      have hz : Z = Dg.I (Dg.itV 31 (Dg.B y) (j + 1)) := by
        rw [eZ, HX.out]
        conv => lhs; rw [← IY.out]
        have e : ∀ a : Dg.V, Dg.I a / (2147483648 : Int) = Dg.I (a >>> 31) := fun a => Dg.I_shr a 31
        rw [e, Dg.I_xor, Dg.B_I]; rfl
      have hb := Dg.I_bd (Dg.itV 31 (Dg.B y) (j + 1))
      rw [← hz] at hb
      obtain ⟨Z0, Z1⟩ := hb
      have HZ := Lib.hid hz
      have eZ' : bits .xor .u64 y (X / 2147483648) = Z := eZ.symm
      clear hz eZ
      go_wp2_with fail
      go_roundw
      case rel => exact ⟨j + 1, Z, by omega, Z0, Z1, rfl, by go_num, HZ, trivial⟩
      case measure => simp [intOf]; omega
    · obtain rfl : j = 4 := by omega
      have F : Hid (X = Dg.I (Dg.us 31 (Dg.B y))) := by show _ = _; rw [HX.out, E4.out]
      go_wp2_with fail
      go_ret
      exact ⟨ret_int F.out, rfl⟩
theorem ref7_inverse (m : Int) (w : World) (m0 : 0 ≤ m) (m1 : m ≤ 18446744073709551615) : Calls Tryd.prog 28 #[.int .u64 m] w fun e w' => e = .returned (.int .u64 (Dg.I (Dg.invV (Dg.B m) 6))) ∧ w = w' := by
  have I0 : Hid (m = Dg.I (Dg.invV (Dg.B m) 0)) := (Dg.I_B m0 m1).symm
  have IM := Lib.hid (Dg.I_B m0 m1)
  go_enter Tryd.func28, Tryd.ntmps28
  go_wp2_with fail
  go_loopw [3, 4] (fun x i W => ∃ (j : Nat) (X : Int), j ≤ 6 ∧ 0 ≤ X ∧ X ≤ 18446744073709551615 ∧ x = .int .u64 X ∧ i = .int .i64 (j : Int) ∧ Hid (X = Dg.I (Dg.invV (Dg.B m) j)) ∧ W = w) (fun _ i _ => 6 - (intOf i).toNat)
  case atStart => exact ⟨0, m, by omega, m0, m1, rfl, rfl, I0, rfl⟩
  case round =>
    obtain ⟨j, X, hj, X0, X1, rfl, rfl, HX, rfl⟩ := hrel
    by_cases hlt : j < 6
    · obtain ⟨Z, eZ⟩ : ∃ Z, Z = IntKind.u64.wrap (X * IntKind.u64.wrap (2 - IntKind.u64.wrap (m * X))) := ⟨_, rfl⟩
      have hz : Z = Dg.I (Dg.invV (Dg.B m) (j + 1)) := by
        rw [eZ, HX.out]
        conv => lhs; rw [← IM.out]
        rw [Dg.B_I]
        exact Dg.inv_step _ _
      have hb := Dg.I_bd (Dg.invV (Dg.B m) (j + 1))
      rw [← hz] at hb
      obtain ⟨Z0, Z1⟩ := hb
      have HZ := Lib.hid hz
      have eZ' : IntKind.u64.wrap (X * IntKind.u64.wrap (2 - IntKind.u64.wrap (m * X))) = Z := eZ.symm
      clear hz eZ
      go_wp2_with fail
      go_roundw
      case rel => exact ⟨j + 1, Z, by omega, Z0, Z1, rfl, by go_num, HZ, trivial⟩
      case measure => simp [intOf]; omega
    · obtain rfl : j = 6 := by omega
      go_wp2_with fail
      go_ret
      exact ⟨ret_int HX.out, rfl⟩
set_option maxHeartbeats 400000 in
theorem ref7_Unmix (x : Int) (w : World) (x0 : 0 ≤ x) (x1 : x ≤ 18446744073709551615) : Calls Tryd.prog 17 #[.int .u64 x] w fun e w' => e = .returned (.int .u64 (Dg.unmix x)) ∧ w = w' := by
  have c1 := fun W => ref7_unshift31 x W x0 x1
  obtain ⟨v1, e1⟩ : ∃ v, v = Dg.us 31 (Dg.B x) := ⟨_, rfl⟩
  have c2 := fun W => ref7_inverse 10723151780598845931 W (by omega) (by omega)
  rw [show Dg.B 10723151780598845931 = Dg.C2 from rfl, Dg.inv_C2] at c2
  have p1 : IntKind.u64.wrap (Dg.I v1 * Dg.I Dg.D2) = Dg.I (v1 * Dg.D2) := Dg.I_mul _ _
  obtain ⟨v2, e2⟩ : ∃ v, v = v1 * Dg.D2 := ⟨_, rfl⟩
  have b2 := Dg.I_bd v2
  have c3 := fun W => ref7_unshift27 (Dg.I v2) W b2.1 b2.2
  rw [Dg.B_I] at c3
  obtain ⟨v3, e3⟩ : ∃ v, v = Dg.us 27 v2 := ⟨_, rfl⟩
  have c4 := fun W => ref7_inverse 13787848793156543929 W (by omega) (by omega)
  rw [show Dg.B 13787848793156543929 = Dg.C1 from rfl, Dg.inv_C1] at c4
  have p2 : IntKind.u64.wrap (Dg.I v3 * Dg.I Dg.D1) = Dg.I (v3 * Dg.D1) := Dg.I_mul _ _
  obtain ⟨v4, e4⟩ : ∃ v, v = v3 * Dg.D1 := ⟨_, rfl⟩
  have b4 := Dg.I_bd v4
  have c5 := fun W => ref7_unshift30 (Dg.I v4) W b4.1 b4.2
  rw [Dg.B_I] at c5
  have E : Hid (Dg.I (Dg.us 30 v4) = Dg.unmix x) := by show _ = _; rw [e4, e3, e2, e1]; rfl
  have b1 := Dg.I_bd v1
  have b3 := Dg.I_bd v3
  have d2 := Dg.I_bd Dg.D2
  have d1 := Dg.I_bd Dg.D1
  rw [← e1] at c1
  rw [← e2] at p1
  rw [← e3] at c3
  rw [← e4] at p2
  obtain ⟨V1, f1⟩ : ∃ V, V = Dg.I v1 := ⟨_, rfl⟩
  obtain ⟨V2, f2⟩ : ∃ V, V = Dg.I v2 := ⟨_, rfl⟩
  obtain ⟨V3, f3⟩ : ∃ V, V = Dg.I v3 := ⟨_, rfl⟩
  obtain ⟨V4, f4⟩ : ∃ V, V = Dg.I v4 := ⟨_, rfl⟩
  obtain ⟨U1, g1⟩ : ∃ V, V = Dg.I Dg.D1 := ⟨_, rfl⟩
  obtain ⟨U2, g2⟩ : ∃ V, V = Dg.I Dg.D2 := ⟨_, rfl⟩
  rw [← f1] at c1 p1 b1
  rw [← g2] at c2 p1 d2
  rw [← f2] at p1 c3 b2
  rw [← f3] at c3 p2 b3
  rw [← g1] at c4 p2 d1
  rw [← f4] at p2 c5 b4
  have A1 := Lib.hid c1
  have A2 := Lib.hid c2
  have A3 := Lib.hid c3
  have A4 := Lib.hid c4
  have A5 := Lib.hid c5
  obtain ⟨b10, b11⟩ := b1
  obtain ⟨b20, b21⟩ := b2
  obtain ⟨b30, b31⟩ := b3
  obtain ⟨b40, b41⟩ := b4
  obtain ⟨d10, d11⟩ := d1
  obtain ⟨d20, d21⟩ := d2
  clear c1 c2 c3 c4 c5 e1 e2 e3 e4 f1 f2 f3 f4 g1 g2
  go_enter Tryd.func17, Tryd.ntmps17
  go_wp2_with fail
  refine (A1.out _).mono ?_
  rintro e w' ⟨rfl, rfl⟩
  go_wp2_with fail
  refine (A2.out _).mono ?_
  rintro e w' ⟨rfl, rfl⟩
  go_wp2_with fail
  refine (A3.out _).mono ?_
  rintro e w' ⟨rfl, rfl⟩
  go_wp2_with fail
  refine (A4.out _).mono ?_
  rintro e w' ⟨rfl, rfl⟩
  go_wp2_with fail
  refine (A5.out _).mono ?_
  rintro e w' ⟨rfl, rfl⟩
  go_wp2_with fail
  go_ret
  exact ⟨ret_int E.out, rfl⟩
theorem sum_take {s : ByteArray} {k : Nat} (h : k < s.size) : Dg.sumV (s.data.toList.take (k + 1)) = Dg.stepV (Dg.sumV (s.data.toList.take k)) s[k] := by
  have h' : k < s.data.toList.length := by rw [Array.length_toList]; exact h
  rw [List.take_succ_eq_append_getElem h', Dg.sum_snoc]; rfl
theorem ref7_Sum (s : ByteArray) (w : World) (hs : s.size ≤ 281474976710656) : Calls Tryd.prog 13 #[.string s] w fun e w' => e = .returned (.int .u64 (Dg.sum s.data.toList)) ∧ w = w' := by
  go_enter Tryd.func13, Tryd.ntmps13
  go_wp2_with fail
  go_loopw [3, 4] (fun x i W => ∃ (k : Nat) (X : Int), k ≤ s.size ∧ 0 ≤ X ∧ X ≤ 18446744073709551615 ∧ x = .int .u64 X ∧ i = .int .i64 (k : Int) ∧ Hid (X = Dg.I (Dg.sumV (s.data.toList.take k))) ∧ W = w) (fun _ i _ => s.size - (intOf i).toNat)
  case atStart => exact ⟨0, 14695981039346656037, by omega, by omega, by omega, rfl, rfl, rfl, rfl⟩
  case round =>
    obtain ⟨k, X, hk, X0, X1, rfl, rfl, HX, rfl⟩ := hrel
    by_cases hlt : k < s.size
    · obtain ⟨Z, eZ⟩ : ∃ Z, Z = IntKind.u64.wrap (bits .xor .u64 X (s[k].toNat : Int) * 1099511628211) := ⟨_, rfl⟩
      have hz : Z = Dg.I (Dg.sumV (s.data.toList.take (k + 1))) := by
        rw [eZ, HX.out, Dg.sum_step, sum_take hlt]
      have hb := Dg.I_bd (Dg.sumV (s.data.toList.take (k + 1)))
      rw [← hz] at hb
      obtain ⟨Z0, Z1⟩ := hb
      have HZ := Lib.hid hz
      have hcb : (s[k].toNat : Int) ≤ 255 := by have := s[k].toNat_lt; omega
      have hcw : IntKind.u64.wrap (s[k].toNat : Int) = (s[k].toNat : Int) := by rw [IntKind.wrap_u64]; omega
      have eZ' : IntKind.u64.wrap (bits .xor .u64 X (s[k].toNat : Int) * 1099511628211) = Z := eZ.symm
      clear hz eZ
      go_wp2_with fail
      go_roundw
      case rel => exact ⟨k + 1, Z, by omega, Z0, Z1, rfl, by go_num, HZ, trivial⟩
      case measure => simp [intOf]; omega
    · have F : Hid (X = Dg.sum s.data.toList) := by
        show _ = _
        rw [HX.out, List.take_of_length_le (by rw [Array.length_toList]; show s.size ≤ k; omega)]; rfl
      go_wp2_with fail
      go_ret
      exact ⟨ret_int F.out, rfl⟩
theorem ref7_Keyed (k : Int) (s : ByteArray) (w : World) (k0 : 0 ≤ k) (k1 : k ≤ 18446744073709551615) (hs : s.size ≤ 281474976710656) : Calls Tryd.prog 19 #[.int .u64 k, .string s] w fun e w' => e = .returned (.int .u64 (Dg.keyed k s.data.toList)) ∧ w = w' := by
  have c1 := fun W => ref7_Mix k W k0 k1
  have c2 := fun W => ref7_Sum s W hs
  obtain ⟨Z, eZ⟩ : ∃ Z, Z = bits .xor .u64 (Dg.mix k) (Dg.sum s.data.toList) := ⟨_, rfl⟩
  have hz : Z = Dg.I (Dg.mixV (Dg.B k) ^^^ Dg.sumV s.data.toList) := by rw [eZ]; exact Dg.I_xor _ _
  have hb := Dg.I_bd (Dg.mixV (Dg.B k) ^^^ Dg.sumV s.data.toList)
  rw [← hz] at hb
  have E : Hid (Dg.mix Z = Dg.keyed k s.data.toList) := by show _ = _; rw [hz]; unfold Dg.mix; rw [Dg.B_I]; rfl
  have C3 := Lib.hid fun W => ref7_Mix Z W hb.1 hb.2
  have m0 := Dg.mix_bd k
  have s0 := Dg.sum_bd s.data.toList
  obtain ⟨X, eX⟩ : ∃ X, X = Dg.mix k := ⟨_, rfl⟩
  obtain ⟨Y, eY⟩ : ∃ X, X = Dg.sum s.data.toList := ⟨_, rfl⟩
  rw [← eX] at c1 m0 eZ
  rw [← eY] at c2 s0 eZ
  obtain ⟨m1, m2⟩ := m0
  obtain ⟨s1, s2⟩ := s0
  have C1 := Lib.hid c1
  have C2 := Lib.hid c2
  have eZ' : bits .xor .u64 X Y = Z := eZ.symm
  clear c1 c2 hz hb eX eY eZ
  go_enter Tryd.func19, Tryd.ntmps19
  go_wp2_with fail
  refine (C1.out _).mono ?_
  rintro e w' ⟨rfl, rfl⟩
  go_wp2_with fail
  refine (C2.out _).mono ?_
  rintro e w' ⟨rfl, rfl⟩
  go_wp2_with fail
  refine (C3.out _).mono ?_
  rintro e w' ⟨rfl, rfl⟩
  go_wp2_with fail
  go_ret
  exact ⟨ret_int E.out, rfl⟩
theorem ref7_Chain (k : Int) (s : ByteArray) (w : World) (k0 : 0 ≤ k) (k1 : k ≤ 18446744073709551615) (hs : s.size ≤ 281474976710656) : Calls Tryd.prog 21 #[.int .u64 k, .string s] w fun e w' => e = .returned (.int .u64 (Dg.chain k s.data.toList)) ∧ w = w' := by
  have c2 := fun W => ref7_Sum s W hs
  obtain ⟨Z, eZ⟩ : ∃ Z, Z = IntKind.u64.wrap (k + Dg.sum s.data.toList) := ⟨_, rfl⟩
  have hz : Z = Dg.I (Dg.B k + Dg.sumV s.data.toList) := by
    rw [eZ]
    conv => lhs; rw [← Dg.I_B k0 k1]
    exact Dg.I_add _ _
  have hb := Dg.I_bd (Dg.B k + Dg.sumV s.data.toList)
  rw [← hz] at hb
  have E : Hid (Dg.mix Z = Dg.chain k s.data.toList) := by show _ = _; rw [hz]; unfold Dg.mix; rw [Dg.B_I]; rfl
  have C3 := Lib.hid fun W => ref7_Mix Z W hb.1 hb.2
  have s0 := Dg.sum_bd s.data.toList
  obtain ⟨Y, eY⟩ : ∃ X, X = Dg.sum s.data.toList := ⟨_, rfl⟩
  rw [← eY] at c2 s0 eZ
  obtain ⟨s1, s2⟩ := s0
  have C2 := Lib.hid c2
  have eZ' : IntKind.u64.wrap (k + Y) = Z := eZ.symm
  clear c2 hz hb eY eZ
  go_enter Tryd.func21, Tryd.ntmps21
  go_wp2_with fail
  refine (C2.out _).mono ?_
  rintro e w' ⟨rfl, rfl⟩
  go_wp2_with fail
  refine (C3.out _).mono ?_
  rintro e w' ⟨rfl, rfl⟩
  go_wp2_with fail
  go_ret
  exact ⟨ret_int E.out, rfl⟩
end Go.Proofs.YtimcgbichnakhaaDoor
