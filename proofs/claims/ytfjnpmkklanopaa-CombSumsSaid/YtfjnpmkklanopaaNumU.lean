/- Contracts of layer 1 on numbers of 64 bits: absolute values, products of 128 bits, signed results, the reference's product; the world is as it was. -/
import Derived.Test.YtfjnpmkklanopaaNumA
import Derived.Laws.Bits64b
import Derived.Lib.Hide
namespace Go.Proofs.Ytfjnpmkklanopaa
set_option maxRecDepth 20000
open Go.RowKit
namespace Nm
theorem hi_lt (x y : Nat) (hx : x < 18446744073709551616) (hy : y < 18446744073709551616) : x * y / 18446744073709551616 < 18446744073709551616 :=
  Nat.div_lt_of_lt_mul (Nat.mul_lt_mul'' hx hy)
theorem abs_lt {a : Int} (h0 : -9223372036854775808 ≤ a) (h1 : a ≤ 9223372036854775807) : a.natAbs < 18446744073709551616 := by omega
/-- The product out of the absolute values. -/
theorem mul_abs_same {a b : Int} (h : a < 0 ↔ b < 0) : a * b = ((a.natAbs * b.natAbs : Nat) : Int) := by
  rw [← Int.natAbs_mul]
  by_cases ha : a < 0
  · have h1 : 0 < (-a) * (-b) := Int.mul_pos (by omega) (by omega)
    rw [Int.neg_mul_neg] at h1
    omega
  · have h1 : 0 ≤ a * b := Int.mul_nonneg (by omega) (by omega)
    omega
theorem mul_abs_diff {a b : Int} (h : ¬ (a < 0 ↔ b < 0)) : a * b = -((a.natAbs * b.natAbs : Nat) : Int) := by
  rw [← Int.natAbs_mul]
  by_cases ha : a < 0
  · have h1 : 0 ≤ (-a) * b := Int.mul_nonneg (by omega) (by omega)
    rw [Int.neg_mul] at h1
    omega
  · have h1 : 0 ≤ a * (-b) := Int.mul_nonneg (by omega) (by omega)
    rw [Int.mul_neg] at h1
    omega
end Nm
namespace U
theorem divN (a : Nat) : (a : Int) / 4294967296 = ((a / 4294967296 : Nat) : Int) := by omega
theorem modN (a : Nat) : (a : Int) % 4294967296 = ((a % 4294967296 : Nat) : Int) := by omega
theorem tdivN (a : Nat) : (a : Int).tdiv 4294967296 = ((a / 4294967296 : Nat) : Int) := rfl
theorem tmodN (a : Nat) : (a : Int).tmod 4294967296 = ((a % 4294967296 : Nat) : Int) := rfl
theorem mulN (a b : Nat) : (a : Int) * (b : Int) = ((a * b : Nat) : Int) := (Int.natCast_mul a b).symm
theorem mulC (a : Nat) : (a : Int) * 4294967296 = ((a * 4294967296 : Nat) : Int) := by omega
theorem addN (a b : Nat) : (a : Int) + (b : Int) = ((a + b : Nat) : Int) := (Int.natCast_add a b).symm
theorem wrapN (a : Nat) (ha : a < 18446744073709551616) : IntKind.u64.wrap (a : Int) = (a : Int) := by rw [IntKind.wrap_u64]; omega
theorem wrapD (a : Nat) (ha : a < 18446744073709551616) : IntKind.u64.wrap ((a / 4294967296 : Nat) : Int) = ((a / 4294967296 : Nat) : Int) := wrapN _ (by omega)
theorem low_fold (x y : Nat) : x % 4294967296 * (y % 4294967296) = Nm.low x y := rfl
theorem mid_fold (x y : Nat) : x / 4294967296 * (y % 4294967296) + Nm.low x y / 4294967296 = Nm.mid x y := rfl
theorem oth_fold (x y : Nat) : x % 4294967296 * (y / 4294967296) + Nm.mid x y % 4294967296 = Nm.oth x y := rfl
end U

theorem ref_Wide (x y : Nat) (hx : x < 18446744073709551616) (hy : y < 18446744073709551616) (w : World) :
    Calls Try.prog 51 #[.int .u64 x, .int .u64 y] w fun e w' => e = .returned (.tuple #[.int .u64 ((x * y / 18446744073709551616 : Nat) : Int), .int .u64 ((x * y % 18446744073709551616 : Nat) : Int)]) ∧ w = w' := by
  go_enter Try.func51, Try.ntmps51
  go_wp2
  obtain ⟨c1, c2, c3, c4, c5, c6, c7, c8, c9⟩ := Nm.wide_math x y hx hy
  go_ret2
  refine ⟨ret2_int ?_ ?_, rfl⟩
  · simp only [U.divN, U.modN, U.mulN, U.low_fold, U.wrapN _ c1, U.wrapN _ c2, U.tdivN, U.wrapD _ c1, U.addN, U.mid_fold, U.wrapN _ c3, U.tmodN, U.wrapN _ c4, U.oth_fold, U.wrapN _ c5, U.wrapD _ c3, U.wrapD _ c5, U.wrapN _ c6, U.wrapN _ c7]
    rw [c8]
    exact U.wrapN _ (Nm.hi_lt x y hx hy)
  · simp only [U.divN, U.modN, U.mulN, U.low_fold, U.wrapN _ c1, U.wrapN _ c2, U.tdivN, U.wrapD _ c1, U.addN, U.mid_fold, U.wrapN _ c3, U.tmodN, U.wrapN _ c4, U.oth_fold, U.wrapN _ c5, U.mulC]
    rw [U.wrapN _ (show Nm.oth x y % 4294967296 * 4294967296 < 18446744073709551616 by omega), U.addN, c9]
    exact U.wrapN _ (by omega)

theorem ref_Size (a : Int) (ha0 : -9223372036854775808 ≤ a) (ha1 : a ≤ 9223372036854775807) (w : World) :
    Calls Try.prog 57 #[.int .i64 a] w fun e w' => e = .returned (.int .u64 (a.natAbs : Int)) ∧ w = w' := by
  by_cases h : a < 0
  · go_enter Try.func57, Try.ntmps57
    go_wp2
    go_ret
    exact ⟨ret_int (by omega), rfl⟩
  · go_enter Try.func57, Try.ntmps57
    go_wp2
    go_ret
    exact ⟨ret_int (by omega), rfl⟩
/-- The product of two numbers of 64 bits, its halves as variables. -/
theorem ref_Wide2 (x y : Int) (hx0 : 0 ≤ x) (hx : x < 18446744073709551616) (hy0 : 0 ≤ y) (hy : y < 18446744073709551616) (w : World) :
    Calls Try.prog 51 #[.int .u64 x, .int .u64 y] w fun e w' => ∃ h l : Int, e = .returned (.tuple #[.int .u64 h, .int .u64 l]) ∧ w = w' ∧ 0 ≤ h ∧ h < 18446744073709551616 ∧ 0 ≤ l ∧ l < 18446744073709551616 ∧ Hid (h * 18446744073709551616 + l = x * y) := by
  obtain ⟨x, rfl⟩ := Int.eq_ofNat_of_zero_le hx0
  obtain ⟨y, rfl⟩ := Int.eq_ofNat_of_zero_le hy0
  refine (ref_Wide x y (by omega) (by omega) w).mono fun e w' ⟨he, hw⟩ => ⟨_, _, he, hw, ?_⟩
  have h1 := Nm.hi_lt x y (by omega) (by omega)
  exact ⟨by omega, by omega, by omega, by omega, by show _ = _; rw [← Int.natCast_mul]; omega⟩
/-- A number with that absolute value and that sign. -/
def sgn (neg : Bool) (n : Int) : Int := if neg then -n else n
/-- signed(size, negative): the number with that absolute value and that sign, checked. -/
theorem ref_signed (n : Int) (hn0 : 0 ≤ n) (hn : n < 18446744073709551616) (neg : Bool) (w : World) :
    Calls Try.prog 58 #[.int .u64 n, .bool neg] w fun e w' => e = .returned (.tuple #[.int .i64 (Nm.cv (sgn neg n)), .int .i64 (Nm.ce (sgn neg n))]) ∧ w = w' := by
  cases neg
  · show Calls _ _ _ _ fun e w' => e = .returned (.tuple #[.int .i64 (Nm.cv n), .int .i64 (Nm.ce n)]) ∧ w = w'
    by_cases h2 : n < 9223372036854775808
    · go_enter Try.func58, Try.ntmps58
      go_wp2
      go_ret2
      exact ⟨ret2_int (Nm.cv_in (by omega)).symm (Nm.ce_in (by omega)).symm, rfl⟩
    · go_enter Try.func58, Try.ntmps58
      go_wp2
      go_ret2
      exact ⟨ret2_int (Nm.cv_out (by omega)).symm (Nm.ce_out (by omega)).symm, rfl⟩
  · show Calls _ _ _ _ fun e w' => e = .returned (.tuple #[.int .i64 (Nm.cv (-n)), .int .i64 (Nm.ce (-n))]) ∧ w = w'
    by_cases h : n = 9223372036854775808
    · subst h
      go_enter Try.func58, Try.ntmps58
      go_wp2
      go_ret2
      exact ⟨ret2_int rfl rfl, rfl⟩
    · by_cases h2 : n < 9223372036854775808
      · go_enter Try.func58, Try.ntmps58
        go_wp2
        go_ret2
        exact ⟨ret2_int (Nm.cv_in (by omega)).symm (Nm.ce_in (by omega)).symm, rfl⟩
      · go_enter Try.func58, Try.ntmps58
        go_wp2
        go_ret2
        exact ⟨ret2_int (Nm.cv_out (by omega)).symm (Nm.ce_out (by omega)).symm, rfl⟩

theorem sgn_mul {a b : Int} : a * b = sgn (decide (a < 0) != decide (b < 0)) ((a.natAbs : Int) * (b.natAbs : Int)) := by
  rw [← Int.natCast_mul]
  by_cases ha : a < 0 <;> by_cases hb : b < 0
  · rw [Nm.mul_abs_same (by simp [ha, hb])]; simp [ha, hb, sgn]
  · rw [Nm.mul_abs_diff (by simp [ha, hb])]; simp [ha, hb, sgn]
  · rw [Nm.mul_abs_diff (by simp [ha, hb])]; simp [ha, hb, sgn]
  · rw [Nm.mul_abs_same (by simp [ha, hb])]; simp [ha, hb, sgn]
theorem sgn_out {neg : Bool} {p : Int} (h : 18446744073709551616 ≤ p) : sgn neg p < -9223372036854775808 ∨ 9223372036854775807 < sgn neg p := by
  cases neg <;> simp [sgn] <;> omega

theorem ref_Mul (a b : Int) (ha0 : -9223372036854775808 ≤ a) (ha1 : a ≤ 9223372036854775807) (hb0 : -9223372036854775808 ≤ b) (hb1 : b ≤ 9223372036854775807) (w : World) :
    Calls Try.prog 38 #[.int .i64 a, .int .i64 b] w fun e w' => e = .returned (.tuple #[.int .i64 (Nm.cv (a * b)), .int .i64 (Nm.ce (a * b))]) ∧ w = w' := by
  have E := Lib.hid (@sgn_mul a b)
  have hx : (a.natAbs : Int) < 18446744073709551616 := by omega
  have hy : (b.natAbs : Int) < 18446744073709551616 := by omega
  have hx0 : 0 ≤ (a.natAbs : Int) := by omega
  have hy0 : 0 ≤ (b.natAbs : Int) := by omega
  go_enter Try.func38, Try.ntmps38
  go_wp2_with (go_at_call 57; refine (ref_Size _ (by omega) (by omega) _).mono ?_; rintro e w' ⟨rfl, rfl⟩)
  refine (ref_Wide2 _ _ hx0 hx hy0 hy _).mono ?_
  rintro e w' ⟨h, l, rfl, rfl, h0, h1, l0, l1, HE⟩
  by_cases hz : h = 0
  · subst hz
    go_wp2_with (go_at_call 58; refine (ref_signed _ l0 l1 _ _).mono ?_; rintro e w' ⟨rfl, rfl⟩)
    go_ret2
    have e1 : a * b = sgn (decide (a < 0) != decide (b < 0)) l := by
      rw [E.out]; congr 1; have := HE.out; omega
    exact ⟨ret2_int (by rw [e1]; rfl) (by rw [e1]; rfl), rfl⟩
  · have hb : (h != 0) = true := by simpa using hz
    go_wp2_with fail
    go_ret2
    have e1 := @sgn_out (decide (a < 0) != decide (b < 0)) ((a.natAbs : Int) * (b.natAbs : Int)) (by have := HE.out; omega)
    rw [← E.out] at e1
    exact ⟨ret2_int (Nm.cv_out e1).symm (Nm.ce_out e1).symm, rfl⟩
end Go.Proofs.Ytfjnpmkklanopaa
