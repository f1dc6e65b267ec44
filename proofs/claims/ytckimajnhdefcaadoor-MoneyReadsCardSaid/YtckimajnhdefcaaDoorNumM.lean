/- Contracts of num.MulDiv and of the reference's MulDiv: quotient, remainder and error as the document defines them. -/
import Derived.Test.YtckimajnhdefcaaDoorNumDiv
namespace Go.Proofs.YtckimajnhdefcaaDoor
open Go.RowKit

namespace Nm
/-- What MulDiv returns: the error, the quotient, the remainder. -/
def mdE (a b c : Int) : Int := if c = 0 then 10 else if a < 0 ∨ b < 0 ∨ c < 0 then 2 else if a * b / c ≤ 9223372036854775807 then 0 else 9
def mdQ (a b c : Int) : Int := if mdE a b c = 0 then a * b / c else 0
def mdR (a b c : Int) : Int := if mdE a b c = 0 then a * b % c else 0
theorem md_zero {a b c : Int} (h : c = 0) : mdE a b c = 10 ∧ mdQ a b c = 0 ∧ mdR a b c = 0 := by
  have : mdE a b c = 10 := by simp [mdE, h]
  simp [mdQ, mdR, this]
theorem md_range {a b c : Int} (h0 : ¬ c = 0) (h : a < 0 ∨ b < 0 ∨ c < 0) : mdE a b c = 2 ∧ mdQ a b c = 0 ∧ mdR a b c = 0 := by
  have : mdE a b c = 2 := by simp [mdE, h, h0]
  simp [mdQ, mdR, this]
theorem md_over {a b c : Int} (h0 : 0 < c) (ha : 0 ≤ a) (hb : 0 ≤ b) (h : 9223372036854775807 < a * b / c) : mdE a b c = 9 ∧ mdQ a b c = 0 ∧ mdR a b c = 0 := by
  have : mdE a b c = 9 := by
    unfold mdE
    rw [if_neg (by omega), if_neg (by omega), if_neg (by omega)]
  simp [mdQ, mdR, this]
theorem md_ok {a b c : Int} (h0 : 0 < c) (ha : 0 ≤ a) (hb : 0 ≤ b) (h : a * b / c ≤ 9223372036854775807) : mdE a b c = 0 ∧ mdQ a b c = a * b / c ∧ mdR a b c = a * b % c := by
  have : mdE a b c = 0 := by
    unfold mdE
    rw [if_neg (by omega), if_neg (by omega), if_pos h]
  simp [mdQ, mdR, this]
theorem mul_nn {a b : Int} (ha : 0 ≤ a) (hb : 0 ≤ b) : 0 ≤ a * b := Int.mul_nonneg ha hb
/-- The upper half is not below the divisor: the quotient has more than 64 bits. -/
theorem hi_over {p c h l : Int} (hc : 0 < c) (hp : h * 18446744073709551616 + l = p) (hl : 0 ≤ l) (hh : c ≤ h) : 9223372036854775807 < p / c := by
  have h1 : 18446744073709551616 ≤ p / c := by
    refine (Int.le_ediv_iff_mul_le hc).2 ?_
    omega
  omega
end Nm

theorem mul64 (x y : Int) (hx0 : 0 ≤ x) (hx : x < 18446744073709551616) (hy0 : 0 ≤ y) (hy : y < 18446744073709551616) (w : World) :
    Calls Tryd.prog 48 #[.int .u64 x, .int .u64 y] w fun e w' => ∃ h l : Int, e = .returned (.tuple #[.int .u64 h, .int .u64 l]) ∧ w = w' ∧ 0 ≤ h ∧ h < 18446744073709551616 ∧ 0 ≤ l ∧ l < 18446744073709551616 ∧ Hid (h * 18446744073709551616 + l = x * y) := by
  obtain ⟨x, rfl⟩ := Int.eq_ofNat_of_zero_le hx0
  obtain ⟨y, rfl⟩ := Int.eq_ofNat_of_zero_le hy0
  refine (Tryd.bits_Mul64 x y (by omega) (by omega) w).mono fun e w' ⟨he, hw⟩ => ⟨_, _, he, hw.symm, ?_⟩
  have h1 := Nm.hi_lt x y (by omega) (by omega)
  exact ⟨by omega, by omega, by omega, by omega, by show _ = _; rw [← Int.natCast_mul]; omega⟩

/-- MulDiv; the world is as it was but for draws. -/
theorem num_MulDivQ (a b c : Int) (ha0 : -9223372036854775808 ≤ a) (ha1 : a ≤ 9223372036854775807) (hb0 : -9223372036854775808 ≤ b) (hb1 : b ≤ 9223372036854775807) (hc0 : -9223372036854775808 ≤ c) (hc1 : c ≤ 9223372036854775807) (w : World) :
    Calls Tryd.prog 33 #[.int .i64 a, .int .i64 b, .int .i64 c] w fun e w' => e = .returned (.tuple #[.int .i64 (Nm.mdQ a b c), .int .i64 (Nm.mdR a b c), .int .i64 (Nm.mdE a b c)]) ∧ ∃ k, w' = w.drewN k := by
  by_cases hz : c = 0
  · obtain ⟨e1, e2, e3⟩ := Nm.md_zero (a := a) (b := b) hz
    have E1 := Lib.hid e1
    have E2 := Lib.hid e2
    have E3 := Lib.hid e3
    clear e1 e2 e3
    subst hz
    go_enter Tryd.func33, Tryd.ntmps33
    go_wp2
    go_ret3
    exact ⟨ret3_int E2.out.symm E3.out.symm E1.out.symm, 0, rfl⟩
  · have hzb : (c == 0) = false := by simpa using hz
    by_cases hn : a < 0 ∨ b < 0 ∨ c < 0
    · obtain ⟨e1, e2, e3⟩ := Nm.md_range (a := a) (b := b) hz hn
      have E1 := Lib.hid e1
      have E2 := Lib.hid e2
      have E3 := Lib.hid e3
      clear e1 e2 e3
      have fin : Ending.returned (.tuple #[.int .i64 0, .int .i64 0, .int .i64 2]) = .returned (.tuple #[.int .i64 (Nm.mdQ a b c), .int .i64 (Nm.mdR a b c), .int .i64 (Nm.mdE a b c)]) := ret3_int E2.out.symm E3.out.symm E1.out.symm
      have FIN := Lib.hid fin
      clear fin
      by_cases h1 : a < 0
      · go_enter Tryd.func33, Tryd.ntmps33
        go_wp2
        go_ret3
        exact ⟨FIN.out, 0, rfl⟩
      · by_cases h2 : b < 0
        · go_enter Tryd.func33, Tryd.ntmps33
          go_wp2
          go_ret3
          exact ⟨FIN.out, 0, rfl⟩
        · have h3 : c < 0 := by omega
          clear hn
          go_enter Tryd.func33, Tryd.ntmps33
          go_wp2
          go_ret3
          exact ⟨FIN.out, 0, rfl⟩
    · have h1 : 0 ≤ a := by omega
      have h2 : 0 ≤ b := by omega
      have h3 : 0 < c := by omega
      clear hn
      go_enter Tryd.func33, Tryd.ntmps33
      go_wp2_with (go_at_call 48; refine (mul64 _ _ (by omega) (by omega) (by omega) (by omega) _).mono ?_; rintro e w' ⟨h, l, rfl, rfl, g0, g1, l0, l1, HE⟩; refine Hid.out ?_)
      refine Lib.hid ?_
      by_cases hh : c ≤ h
      · obtain ⟨e1, e2, e3⟩ := Nm.md_over h3 h1 h2 (Nm.hi_over h3 HE.out l0 hh)
        have E1 := Lib.hid e1
        have E2 := Lib.hid e2
        have E3 := Lib.hid e3
        clear e1 e2 e3
        go_wp2
        go_ret3
        exact ⟨ret3_int E2.out.symm E3.out.symm E1.out.symm, 0, rfl⟩
      · go_wp2_with (go_at_call 49; refine (div64 _ _ _ (by omega) (by omega) (by omega) (by omega) (by omega) _).mono ?_; rintro e w1 ⟨q, r, rfl, ⟨dk, rfl⟩, q0, q1, r0, r1, HK, HQ⟩; refine Hid.out ?_)
        refine Lib.hid ?_
        by_cases hq : 9223372036854775807 < q
        · have e0 : 9223372036854775807 < a * b / c := by rw [← HE.out, ← HQ.out]; exact hq
          obtain ⟨e1, e2, e3⟩ := Nm.md_over h3 h1 h2 e0
          have E1 := Lib.hid e1
          have E2 := Lib.hid e2
          have E3 := Lib.hid e3
          clear e1 e2 e3 e0
          go_wp2
          go_ret3
          exact ⟨ret3_int E2.out.symm E3.out.symm E1.out.symm, _, rfl⟩
        · have e0 : a * b / c ≤ 9223372036854775807 := by rw [← HE.out, ← HQ.out]; omega
          obtain ⟨e1, e2, e3⟩ := Nm.md_ok h3 h1 h2 e0
          have e4 : a * b % c = r := by
            have k1 := Int.mul_ediv_add_emod (a * b) c
            have k2 := HK.out
            have k3 := HE.out
            have k4 := HQ.out
            rw [k3] at k2 k4
            rw [← k4, Int.mul_comm] at k1
            omega
          rw [e4] at e3
          have e5 : a * b / c = q := by rw [← HE.out]; exact HQ.out.symm
          rw [e5] at e2
          have E1 := Lib.hid e1
          have E2 := Lib.hid e2
          have E3 := Lib.hid e3
          clear e1 e2 e3 e0 e4 e5
          go_wp2
          go_ret3
          exact ⟨ret3_int E2.out.symm E3.out.symm E1.out.symm, _, rfl⟩
theorem num_MulDiv (a b c : Int) (ha0 : -9223372036854775808 ≤ a) (ha1 : a ≤ 9223372036854775807) (hb0 : -9223372036854775808 ≤ b) (hb1 : b ≤ 9223372036854775807) (hc0 : -9223372036854775808 ≤ c) (hc1 : c ≤ 9223372036854775807) (w : World) :
    Calls Tryd.prog 33 #[.int .i64 a, .int .i64 b, .int .i64 c] w fun e w' => e = .returned (.tuple #[.int .i64 (Nm.mdQ a b c), .int .i64 (Nm.mdR a b c), .int .i64 (Nm.mdE a b c)]) ∧ Below w.heap.size w w' :=
  (num_MulDivQ a b c ha0 ha1 hb0 hb1 hc0 hc1 w).mono fun _ _ ⟨he, k, hk⟩ => ⟨he, by rw [hk]; exact below_drewN _ _⟩
end Go.Proofs.YtckimajnhdefcaaDoor
