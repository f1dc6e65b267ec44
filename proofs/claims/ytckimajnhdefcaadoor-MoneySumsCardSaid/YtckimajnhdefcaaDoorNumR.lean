/- Contracts of the reference's MulDiv (long division, bit by bit), of both powers and of both greatest common divisors. -/
import Derived.Test.YtckimajnhdefcaaDoorNumM
namespace Go.Proofs.YtckimajnhdefcaaDoor
open Go.RowKit

namespace Nm
theorem shift_half {X X0 K : Nat} (h : X = X0 / 2 ^ K) : X / 2 = X0 / 2 ^ (K + 1) := by
  rw [h, Nat.div_div_eq_div_mul, ← Nat.pow_succ]
/-- Bit i of a number of 128 bits lies in one of its halves. -/
theorem bit_low (hi lo i : Nat) (h : i < 64) : lo / 2 ^ i % 2 = (hi * 18446744073709551616 + lo) / 2 ^ i % 2 := by
  have e : hi * 18446744073709551616 = 2 ^ i * (2 * (hi * 2 ^ (63 - i))) := by
    have : (18446744073709551616 : Nat) = 2 ^ i * (2 * 2 ^ (63 - i)) := by
      rw [← Nat.mul_assoc, ← Nat.pow_succ, ← Nat.pow_add, show i + 1 + (63 - i) = 64 by omega]
    rw [this, Nat.mul_left_comm, Nat.mul_left_comm hi 2]
  rw [e, Nat.add_comm, Nat.add_mul_div_left _ _ (Nat.two_pow_pos _)]
  omega
theorem bit_high (hi lo i : Nat) (h : 64 ≤ i) (hl : lo < 18446744073709551616) : hi / 2 ^ (i - 64) % 2 = (hi * 18446744073709551616 + lo) / 2 ^ i % 2 := by
  have e : (2 : Nat) ^ i = 18446744073709551616 * 2 ^ (i - 64) := by
    rw [show (18446744073709551616 : Nat) = 2 ^ 64 from rfl, ← Nat.pow_add, show 64 + (i - 64) = i by omega]
  rw [e, ← Nat.div_div_eq_div_mul, show (hi * 18446744073709551616 + lo) / 18446744073709551616 = hi by omega]
/-- What the bits above I have come to. -/
def Part (P c : Nat) (I Q R : Int) : Prop := Q.toNat = P / 2 ^ (I + 1).toNat / c ∧ R.toNat = P / 2 ^ (I + 1).toNat % c
theorem Part.step {P c : Nat} {I Q R B : Int} (h : Part P c I Q R) (hI : 0 ≤ I) (hc : 0 < c) (hB0 : 0 ≤ B) (hB : B.toNat = P / 2 ^ I.toNat % 2) (hQ : 0 ≤ Q) (hR : 0 ≤ R) :
    ((c : Int) ≤ 2 * R + B → Part P c (I - 1) (2 * Q + 1) (2 * R + B - (c : Int))) ∧ (¬ (c : Int) ≤ 2 * R + B → Part P c (I - 1) (2 * Q) (2 * R + B)) := by
  obtain ⟨h1, h2⟩ := h
  have e1 : (I + 1).toNat = I.toNat + 1 := by omega
  have e2 : (I - 1 + 1).toNat = I.toNat := by omega
  rw [e1] at h1 h2
  have hs := half_div P I.toNat
  rw [← hB] at hs
  have hb2 : B.toNat < 2 := by omega
  obtain ⟨s1, s2⟩ := step_div (P / 2 ^ (I.toNat + 1)) c B.toNat hc hb2
  rw [← hs, ← h1, ← h2] at s1
  rw [← hs, ← h2] at s2
  constructor
  · intro hle
    have : c ≤ 2 * R.toNat + B.toNat := by omega
    rw [if_pos this] at s1 s2
    exact ⟨by rw [e2, s1]; omega, by rw [e2, s2]; omega⟩
  · intro hle
    have : ¬ c ≤ 2 * R.toNat + B.toNat := by omega
    rw [if_neg this] at s1 s2
    exact ⟨by rw [e2, s1]; omega, by rw [e2, s2]; omega⟩
theorem Part.small {P c : Nat} {I Q R : Int} (h : Part P c I Q R) (hP : P / c < 18446744073709551616) (_hQ : 0 ≤ Q) : Q < 18446744073709551616 := by
  have : P / 2 ^ (I + 1).toNat / c ≤ P / c := Nat.div_le_div_right (Nat.div_le_self _ _)
  have := h.1
  omega
theorem Part.rest {P c : Nat} {I Q R : Int} (h : Part P c I Q R) (hc : 0 < c) : R < c := by
  have := h.2
  have : P / 2 ^ (I + 1).toNat % c < c := Nat.mod_lt _ hc
  omega
theorem Part.start {P c : Nat} (hP : P < 2 ^ 128) : Part P c 127 0 0 := by
  have : P / 2 ^ ((127 : Int) + 1).toNat = 0 := Nat.div_eq_of_lt hP
  constructor <;> rw [this] <;> simp
theorem Part.fin {P c : Nat} {I Q R : Int} (h : Part P c I Q R) (hI : I = -1) : Q.toNat = P / c ∧ R.toNat = P % c := by
  subst hI
  have e : (-1 + 1 : Int).toNat = 0 := rfl
  obtain ⟨h1, h2⟩ := h
  rw [e, Nat.pow_zero, Nat.div_one] at h1 h2
  exact ⟨h1, h2⟩
end Nm

theorem ref_bit_low (hi lo : Int) (x0 : 0 ≤ lo) (x1 : lo < 18446744073709551616) (j : Int) (j0 : 0 ≤ j) (j1 : j < 64) (w : World) :
    Calls Tryd.prog 40 #[.int .u64 hi, .int .u64 lo, .int .i64 j] w fun e w' => ∃ B : Int, e = .returned (.int .u64 B) ∧ w = w' ∧ 0 ≤ B ∧ B ≤ 1 ∧ B.toNat = lo.toNat / 2 ^ j.toNat % 2 := by
  go_enter Tryd.func40, Tryd.ntmps40
  go_wp2
  go_loop [7, 8] (fun x' k => ∃ X K : Int, x' = .int .u64 X ∧ k = .int .i64 K ∧ 0 ≤ K ∧ K ≤ j ∧ 0 ≤ X ∧ X < 18446744073709551616 ∧ Hid (X.toNat = lo.toNat / 2 ^ K.toNat)) (fun _ k => (j - intOf k).toNat)
  case atStart => exact ⟨_, _, rfl, rfl, by omega, by omega, x0, x1, by show _ = _; simp⟩
  case round =>
    obtain ⟨X, K, rfl, rfl, hK0, hK1, hX0, hX1, HX⟩ := hrel
    by_cases hlt : K < j
    · go_wp2
      go_round
      case rel => exact ⟨_, _, rfl, rfl, by omega, by omega, by omega, by omega, by show _ = _; rw [show (K + 1).toNat = K.toNat + 1 by omega, ← Nm.shift_half HX.out]; omega⟩
      case measure => simp [intOf]; omega
    · have HK : Hid (K.toNat = j.toNat) := by show _ = _; omega
      go_wp2
      go_ret
      refine ⟨_, rfl, rfl, by omega, by omega, ?_⟩
      have e := HX.out
      rw [HK.out] at e
      rw [← e]
      omega
theorem ref_bit_high (hi lo : Int) (x0 : 0 ≤ hi) (x1 : hi < 18446744073709551616) (j : Int) (j0 : 64 ≤ j) (j1 : j ≤ 127) (w : World) :
    Calls Tryd.prog 40 #[.int .u64 hi, .int .u64 lo, .int .i64 j] w fun e w' => ∃ B : Int, e = .returned (.int .u64 B) ∧ w = w' ∧ 0 ≤ B ∧ B ≤ 1 ∧ B.toNat = hi.toNat / 2 ^ (j - 64).toNat % 2 := by
  go_enter Tryd.func40, Tryd.ntmps40
  go_wp2
  go_loop [7, 8] (fun x' k => ∃ X K : Int, x' = .int .u64 X ∧ k = .int .i64 K ∧ 0 ≤ K ∧ K ≤ (j - 64) ∧ 0 ≤ X ∧ X < 18446744073709551616 ∧ Hid (X.toNat = hi.toNat / 2 ^ K.toNat)) (fun _ k => ((j - 64) - intOf k).toNat)
  case atStart => exact ⟨_, _, rfl, rfl, by omega, by omega, x0, x1, by show _ = _; simp⟩
  case round =>
    obtain ⟨X, K, rfl, rfl, hK0, hK1, hX0, hX1, HX⟩ := hrel
    by_cases hlt : K < (j - 64)
    · go_wp2
      go_round
      case rel => exact ⟨_, _, rfl, rfl, by omega, by omega, by omega, by omega, by show _ = _; rw [show (K + 1).toNat = K.toNat + 1 by omega, ← Nm.shift_half HX.out]; omega⟩
      case measure => simp [intOf]; omega
    · have HK : Hid (K.toNat = (j - 64).toNat) := by show _ = _; omega
      go_wp2
      go_ret
      refine ⟨_, rfl, rfl, by omega, by omega, ?_⟩
      have e := HX.out
      rw [HK.out] at e
      rw [← e]
      omega
/-- bit: bit j of the 128 bits. -/
theorem ref_bit (hi lo : Int) (h0 : 0 ≤ hi) (h1 : hi < 18446744073709551616) (l0 : 0 ≤ lo) (l1 : lo < 18446744073709551616) (j : Int) (j0 : 0 ≤ j) (j1 : j ≤ 127) (w : World) :
    Calls Tryd.prog 40 #[.int .u64 hi, .int .u64 lo, .int .i64 j] w fun e w' => ∃ B : Int, e = .returned (.int .u64 B) ∧ w = w' ∧ 0 ≤ B ∧ B ≤ 1 ∧ Hid (B.toNat = (hi * 18446744073709551616 + lo).toNat / 2 ^ j.toNat % 2) := by
  have e : (hi * 18446744073709551616 + lo).toNat = hi.toNat * 18446744073709551616 + lo.toNat := by omega
  rw [e]
  by_cases h : j < 64
  · refine (ref_bit_low hi lo l0 l1 j j0 h w).mono fun e w' ⟨B, a, b, c, d, f⟩ => ⟨B, a, b, c, d, ?_⟩
    show _ = _
    rw [f, Nm.bit_low hi.toNat lo.toNat j.toNat (by omega)]
  · refine (ref_bit_high hi lo h0 h1 j (by omega) j1 w).mono fun e w' ⟨B, a, b, c, d, f⟩ => ⟨B, a, b, c, d, ?_⟩
    show _ = _
    rw [f, show (j - 64).toNat = j.toNat - 64 by omega, Nm.bit_high hi.toNat lo.toNat j.toNat (by omega) (by omega)]

theorem ref_MulDiv (a b c : Int) (ha0 : -9223372036854775808 ≤ a) (ha1 : a ≤ 9223372036854775807) (hb0 : -9223372036854775808 ≤ b) (hb1 : b ≤ 9223372036854775807) (hc0 : -9223372036854775808 ≤ c) (hc1 : c ≤ 9223372036854775807) (w : World) :
    Calls Tryd.prog 25 #[.int .i64 a, .int .i64 b, .int .i64 c] w fun e w' => e = .returned (.tuple #[.int .i64 (Nm.mdQ a b c), .int .i64 (Nm.mdR a b c), .int .i64 (Nm.mdE a b c)]) ∧ w = w' := by
  by_cases hz : c = 0
  · obtain ⟨e1, e2, e3⟩ := Nm.md_zero (a := a) (b := b) hz
    have E1 := Lib.hid e1
    have E2 := Lib.hid e2
    have E3 := Lib.hid e3
    clear e1 e2 e3
    subst hz
    go_enter Tryd.func25, Tryd.ntmps25
    go_wp2
    go_ret3
    exact ⟨ret3_int E2.out.symm E3.out.symm E1.out.symm, rfl⟩
  · have hzb : (c == 0) = false := by simpa using hz
    by_cases hn : a < 0 ∨ b < 0 ∨ c < 0
    · obtain ⟨e1, e2, e3⟩ := Nm.md_range (a := a) (b := b) hz hn
      have E1 := Lib.hid e1
      have E2 := Lib.hid e2
      have E3 := Lib.hid e3
      clear e1 e2 e3
      have fin : Ending.returned (.tuple #[.int .i64 0, .int .i64 0, .int .i64 2]) = .returned (.tuple #[.int .i64 (Nm.mdQ a b c), .int .i64 (Nm.mdR a b c), .int .i64 (Nm.mdE a b c)]) := ret3_int E2.out.symm E3.out.symm E1.out.symm
      have FIN := Lib.hid fin
      clear fin
      by_cases h1 : a < 0
      · go_enter Tryd.func25, Tryd.ntmps25
        go_wp2
        go_ret3
        exact ⟨FIN.out, rfl⟩
      · by_cases h2 : b < 0
        · go_enter Tryd.func25, Tryd.ntmps25
          go_wp2
          go_ret3
          exact ⟨FIN.out, rfl⟩
        · have h3 : c < 0 := by omega
          clear hn
          go_enter Tryd.func25, Tryd.ntmps25
          go_wp2
          go_ret3
          exact ⟨FIN.out, rfl⟩
    · have h1 : 0 ≤ a := by omega
      have h2 : 0 ≤ b := by omega
      have h3 : 0 < c := by omega
      clear hn
      go_enter Tryd.func25, Tryd.ntmps25
      go_wp2_with (go_at_call 39; refine (ref_Wide2 _ _ (by omega) (by omega) (by omega) (by omega) _).mono ?_; rintro e w' ⟨h, l, rfl, rfl, g0, g1, l0, l1, HE⟩; refine Hid.out ?_)
      refine Lib.hid ?_
      by_cases hh : c ≤ h
      · obtain ⟨e1, e2, e3⟩ := Nm.md_over h3 h1 h2 (Nm.hi_over h3 HE.out l0 hh)
        have E1 := Lib.hid e1
        have E2 := Lib.hid e2
        have E3 := Lib.hid e3
        clear e1 e2 e3
        go_wp2
        go_ret3
        exact ⟨ret3_int E2.out.symm E3.out.symm E1.out.symm, rfl⟩
      · have hP128 : (h * 18446744073709551616 + l).toNat < 2 ^ 128 := by
          have : h < 9223372036854775808 := by omega
          omega
        obtain ⟨P, hP⟩ : ∃ P : Nat, P = (h * 18446744073709551616 + l).toNat := ⟨_, rfl⟩
        have hPc : P / c.toNat < 18446744073709551616 := by
          refine (Nat.div_lt_iff_lt_mul (by omega)).2 ?_
          have : (h.toNat + 1) * 18446744073709551616 ≤ c.toNat * 18446744073709551616 := Nat.mul_le_mul_right _ (by omega)
          rw [Nat.mul_comm]
          omega
        have hst := @Nm.Part.start P c.toNat (hP ▸ hP128)
        have HP := Lib.hid hP
        have HPc := Lib.hid hPc
        have HST := Lib.hid hst
        clear hP hPc hP128 hst
        go_wp2_with fail
        go_loop [11, 12, 13] (fun q r i => ∃ Q R I : Int, q = .int .u64 Q ∧ r = .int .u64 R ∧ i = .int .i64 I ∧ -1 ≤ I ∧ I ≤ 127 ∧ 0 ≤ Q ∧ Q < 18446744073709551616 ∧ 0 ≤ R ∧ R < c ∧ Hid (Nm.Part P c.toNat I Q R)) (fun _ _ i => (1 + intOf i).toNat)
        case atStart => exact ⟨0, 0, 127, rfl, rfl, rfl, by omega, by omega, by omega, by omega, by omega, h3, HST⟩
        case round =>
          obtain ⟨Q, R, I, rfl, rfl, rfl, hI0, hI1, hQ0, hQ1, hR0, hR1, HI⟩ := hrel
          by_cases hlt : 0 ≤ I
          · go_wp2_with (go_at_call 40; refine (ref_bit _ _ (by omega) (by omega) (by omega) (by omega) _ (by omega) (by omega) _).mono ?_; rintro e w' ⟨B, rfl, rfl, hB0, hB1, HB⟩; refine Hid.out ?_)
            refine Lib.hid ?_
            obtain ⟨s1, s2⟩ := HI.out.step hlt (by omega) hB0 (by rw [HP.out]; exact HB.out) hQ0 hR0
            rw [Int.toNat_of_nonneg (by omega)] at s1 s2
            by_cases hle : c ≤ 2 * R + B
            · have S1 := Lib.hid (s1 hle)
              have hb := S1.out.small HPc.out (by omega)
              have hr := S1.out.rest (by omega)
              rw [Int.toNat_of_nonneg (by omega)] at hr
              clear s1 s2
              go_wp2
              go_round
              case rel => exact ⟨_, _, _, rfl, rfl, rfl, by omega, by omega, by omega, hb, by omega, hr, S1⟩
              case measure => simp [intOf]; omega
            · have S1 := Lib.hid (s2 hle)
              have hb := S1.out.small HPc.out (by omega)
              clear s1 s2
              go_wp2
              go_round
              case rel => exact ⟨_, _, _, rfl, rfl, rfl, by omega, by omega, by omega, hb, by omega, by omega, S1⟩
              case measure => simp [intOf]; omega
          · obtain ⟨f1, f2⟩ := HI.out.fin (by omega)
            have k1 : a * b / c = Q := by
              rw [← HE.out]
              have : (h * 18446744073709551616 + l) / c = (((h * 18446744073709551616 + l).toNat / c.toNat : Nat) : Int) := by
                rw [Int.natCast_ediv, Int.toNat_of_nonneg (by omega), Int.toNat_of_nonneg (by omega)]
              rw [this, ← HP.out, ← f1]; omega
            have k2 : a * b % c = R := by
              rw [← HE.out]
              have : (h * 18446744073709551616 + l) % c = (((h * 18446744073709551616 + l).toNat % c.toNat : Nat) : Int) := by
                rw [Int.natCast_emod, Int.toNat_of_nonneg (by omega), Int.toNat_of_nonneg (by omega)]
              rw [this, ← HP.out, ← f2]; omega
            have K1 := Lib.hid k1
            have K2 := Lib.hid k2
            clear k1 k2 f1 f2
            by_cases hq : 9223372036854775807 < Q
            · obtain ⟨e1, e2, e3⟩ := Nm.md_over h3 h1 h2 (K1.out ▸ hq)
              have E1 := Lib.hid e1
              have E2 := Lib.hid e2
              have E3 := Lib.hid e3
              clear e1 e2 e3
              go_wp2
              go_ret3
              exact ⟨ret3_int E2.out.symm E3.out.symm E1.out.symm, rfl⟩
            · obtain ⟨e1, e2, e3⟩ := Nm.md_ok h3 h1 h2 (by rw [K1.out]; omega)
              rw [K1.out] at e2
              rw [K2.out] at e3
              have E1 := Lib.hid e1
              have E2 := Lib.hid e2
              have E3 := Lib.hid e3
              clear e1 e2 e3
              go_wp2
              go_ret3
              exact ⟨ret3_int E2.out.symm E3.out.symm E1.out.symm, rfl⟩
end Go.Proofs.YtckimajnhdefcaaDoor
