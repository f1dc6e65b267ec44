/- Plain mathematics under layer 1 (num): no Go in this text. Overflow of a checked result; the two digits of the long division of Div64; products of 128 bits by halves; Euclid's steps. -/
import Derived.Lib.Mul64
namespace Go.Proofs.Ytdleleanaihcoaa.Nm
set_option maxRecDepth 20000

/-- The checked result of an integer: the integer, or 0 and the error 9. -/
def fits (n : Int) : Bool := decide (-9223372036854775808 ≤ n ∧ n ≤ 9223372036854775807)
def cv (n : Int) : Int := if fits n then n else 0
def ce (n : Int) : Int := if fits n then 0 else 9

theorem fits_iff (n : Int) : fits n = true ↔ -9223372036854775808 ≤ n ∧ n ≤ 9223372036854775807 := by simp [fits]
theorem cv_in {n : Int} (h : -9223372036854775808 ≤ n ∧ n ≤ 9223372036854775807) : cv n = n := by simp [cv, fits, h]
theorem ce_in {n : Int} (h : -9223372036854775808 ≤ n ∧ n ≤ 9223372036854775807) : ce n = 0 := by simp [ce, fits, h]
theorem cv_out {n : Int} (h : n < -9223372036854775808 ∨ 9223372036854775807 < n) : cv n = 0 := by
  have : ¬ (-9223372036854775808 ≤ n ∧ n ≤ 9223372036854775807) := by omega
  simp [cv, fits, this]
theorem ce_out {n : Int} (h : n < -9223372036854775808 ∨ 9223372036854775807 < n) : ce n = 9 := by
  have : ¬ (-9223372036854775808 ≤ n ∧ n ≤ 9223372036854775807) := by omega
  simp [ce, fits, this]
theorem ce_01 (n : Int) : ce n = 0 ∨ ce n = 9 := by unfold ce; split <;> simp
theorem cv_bd (n : Int) : -9223372036854775808 ≤ cv n ∧ cv n ≤ 9223372036854775807 := by
  unfold cv; split
  · rename_i h; exact (fits_iff n).1 h
  · omega

/-! ### One digit of the long division: Div64's loops -/
section
variable {B v1 v0 u1 u2 q r : Nat}
/-- What a digit must be: the quotient of u2 * B + u1 by v1 * B + v0. -/
theorem digit_id (h : q * v1 + r = u2) : q * (v1 * B + v0) ≤ u2 * B + u1 ↔ q * v0 ≤ r * B + u1 := by
  subst h
  have e1 : q * (v1 * B + v0) = q * v1 * B + q * v0 := by rw [Nat.mul_add, Nat.mul_assoc]
  have e2 : (q * v1 + r) * B = q * v1 * B + r * B := Nat.add_mul _ _ _
  omega
theorem digit_stop (hv : 0 < v1 * B + v0) (h : q * v1 + r = u2) (hq : (u2 * B + u1) / (v1 * B + v0) ≤ q) (ht : q * v0 ≤ r * B + u1) :
    (u2 * B + u1) / (v1 * B + v0) = q :=
  Nat.le_antisymm hq ((Nat.le_div_iff_mul_le hv).2 ((digit_id h).2 ht))
theorem digit_less (hv : 0 < v1 * B + v0) (h : q * v1 + r = u2) (ht : ¬ q * v0 ≤ r * B + u1) :
    (u2 * B + u1) / (v1 * B + v0) < q :=
  (Nat.div_lt_iff_lt_mul hv).2 (Nat.lt_of_not_le fun c => ht ((digit_id h).1 c))
theorem digit_lt_base (hu1 : u1 < B) (hu2 : u2 < v1 * B + v0) : (u2 * B + u1) / (v1 * B + v0) < B := by
  have hv : 0 < v1 * B + v0 := by omega
  refine (Nat.div_lt_iff_lt_mul hv).2 ?_
  have : (u2 + 1) * B ≤ (v1 * B + v0) * B := Nat.mul_le_mul_right _ hu2
  rw [Nat.add_mul, Nat.one_mul] at this
  rw [Nat.mul_comm B]
  omega
/-- When the rest has grown to the base, the digit is right. -/
theorem digit_break (hv : 0 < v1 * B + v0) (hv0 : v0 < B) (hu2 : u2 < v1 * B + v0) (h : q * v1 + r = u2) (hr : B ≤ r)
    (hq : (u2 * B + u1) / (v1 * B + v0) ≤ q) : (u2 * B + u1) / (v1 * B + v0) = q := by
  refine digit_stop hv h hq ?_
  have hqB : q < B := by
    have h1 : q * v1 < v1 * B := by omega
    rw [Nat.mul_comm v1] at h1
    exact Nat.lt_of_mul_lt_mul_right h1
  have h2 : q * v0 ≤ B * B := Nat.mul_le_mul (by omega) (by omega)
  have h3 : B * B ≤ r * B := Nat.mul_le_mul_right _ hr
  omega
theorem digit_start (hv1 : 0 < v1) : (u2 * B + u1) / (v1 * B + v0) ≤ u2 / v1 ∨ B ≤ u1 := by
  by_cases hu : B ≤ u1
  · exact .inr hu
  · left
    refine (Nat.le_div_iff_mul_le hv1).2 ?_
    have hB : 0 < B := by omega
    have h1 : (u2 * B + u1) / (v1 * B + v0) * (v1 * B + v0) ≤ u2 * B + u1 := Nat.div_mul_le_self _ _
    have h2 : (u2 * B + u1) / (v1 * B + v0) * v1 * B ≤ u2 * B + u1 := by
      refine Nat.le_trans ?_ h1
      rw [Nat.mul_add, Nat.mul_assoc]
      omega
    have h3 : (u2 * B + u1) / (v1 * B + v0) * v1 * B < (u2 + 1) * B := by rw [Nat.add_mul]; omega
    have := Nat.lt_of_mul_lt_mul_right h3
    omega
end

/-- Two digits one after the other are the quotient. -/
theorem two_digits (N u0 v B : Nat) (hv : 0 < v) (_hu : u0 < B) :
    (N * B + u0) / v = N / v * B + (N % v * B + u0) / v ∧ (N * B + u0) % v = (N % v * B + u0) % v := by
  have e : N * B + u0 = (N % v * B + u0) + v * (N / v * B) := by
    have h := Nat.div_add_mod N v
    have h2 : N * B = (v * (N / v) + N % v) * B := by rw [h]
    rw [h2, Nat.add_mul, Nat.mul_assoc]
    omega
  constructor
  · rw [e, Nat.add_mul_div_left _ _ hv]; omega
  · rw [e, Nat.add_mul_mod_self_left]

/-- A difference that is reckoned modulo 2^64 is the rest, for the rest is below 2^64. -/
theorem rest_mod (N v M : Nat) (hM : N % v < M) : ((N : Int) - (N / v * v : Nat)) % (M : Int) = ((N % v : Nat) : Int) := by
  have h := Nat.div_add_mod N v
  have e : (N : Int) - (N / v * v : Nat) = ((N % v : Nat) : Int) := by
    rw [Nat.mul_comm] at h; omega
  rw [e]
  exact Int.emod_eq_of_lt (by omega) (by omega)

/-! ### Bit by bit -/
theorem half_div (N i : Nat) : N / 2 ^ i = 2 * (N / 2 ^ (i + 1)) + N / 2 ^ i % 2 := by
  rw [Nat.pow_succ, ← Nat.div_div_eq_div_mul]; omega
theorem step_div (P c b : Nat) (hc : 0 < c) (hb : b < 2) :
    (2 * P + b) / c = 2 * (P / c) + (if c ≤ 2 * (P % c) + b then 1 else 0) ∧ (2 * P + b) % c = 2 * (P % c) + b - (if c ≤ 2 * (P % c) + b then c else 0) := by
  have h := Nat.div_add_mod P c
  have hm := Nat.mod_lt P hc
  have e : 2 * P + b = (2 * (P % c) + b) + c * (2 * (P / c)) := by
    have : c * (2 * (P / c)) = 2 * (c * (P / c)) := by rw [Nat.mul_left_comm]
    omega
  by_cases hle : c ≤ 2 * (P % c) + b
  · rw [if_pos hle, if_pos hle, e, Nat.add_mul_div_left _ _ hc, Nat.add_mul_mod_self_left]
    have h1 : (2 * (P % c) + b) / c = 1 := by
      rw [Nat.div_eq_iff hc]; omega
    have h2 := Nat.div_add_mod (2 * (P % c) + b) c
    rw [h1] at h2
    constructor <;> omega
  · rw [if_neg hle, if_neg hle, e, Nat.add_mul_div_left _ _ hc, Nat.add_mul_mod_self_left, Nat.div_eq_of_lt (by omega), Nat.mod_eq_of_lt (by omega)]
    omega

/-! ### Euclid -/
theorem gcd_step_prod (x y : Nat) (hy : 0 < y) (hxy : y ≤ x) : 2 * (y * (x % y)) ≤ x * y := by
  have h := Nat.div_add_mod x y
  have h1 : 1 ≤ x / y := (Nat.le_div_iff_mul_le hy).2 (by omega)
  have h2 : y * 1 ≤ y * (x / y) := Nat.mul_le_mul_left _ h1
  have hm := Nat.mod_lt x hy
  have h3 : 2 * (x % y) ≤ x := by omega
  have h4 : 2 * (x % y) * y ≤ x * y := Nat.mul_le_mul_right _ h3
  rw [Nat.mul_assoc, Nat.mul_comm (x % y)] at h4
  exact h4

/-! ### Products of 128 bits by halves -/
def low (x y : Nat) : Nat := x % 4294967296 * (y % 4294967296)
def mid (x y : Nat) : Nat := x / 4294967296 * (y % 4294967296) + low x y / 4294967296
def oth (x y : Nat) : Nat := x % 4294967296 * (y / 4294967296) + mid x y % 4294967296
theorem wide_math (x y : Nat) (hx : x < 18446744073709551616) (hy : y < 18446744073709551616) :
    low x y < 18446744073709551616 ∧ x / 4294967296 * (y % 4294967296) < 18446744073709551616 ∧ mid x y < 18446744073709551616 ∧
    x % 4294967296 * (y / 4294967296) < 18446744073709551616 ∧ oth x y < 18446744073709551616 ∧ x / 4294967296 * (y / 4294967296) < 18446744073709551616 ∧
    x / 4294967296 * (y / 4294967296) + mid x y / 4294967296 < 18446744073709551616 ∧
    x / 4294967296 * (y / 4294967296) + mid x y / 4294967296 + oth x y / 4294967296 = x * y / 18446744073709551616 ∧
    oth x y % 4294967296 * 4294967296 + low x y % 4294967296 = x * y % 18446744073709551616 := by
  have e : x * y = (x / 4294967296) * (y / 4294967296) * (4294967296 * 4294967296) + ((x / 4294967296) * (y % 4294967296) + (x % 4294967296) * (y / 4294967296)) * 4294967296 + (x % 4294967296) * (y % 4294967296) := by
    rw [← Go.Lib.split_mul, Nat.div_add_mod' x 4294967296, Nat.div_add_mod' y 4294967296]
  have ha := Go.Lib.half_mul_le (a := x / 4294967296) (b := y / 4294967296) (by omega) (by omega)
  have hb := Go.Lib.half_mul_le (a := x / 4294967296) (b := y % 4294967296) (by omega) (by omega)
  have hc := Go.Lib.half_mul_le (a := x % 4294967296) (b := y / 4294967296) (by omega) (by omega)
  have hd := Go.Lib.half_mul_le (a := x % 4294967296) (b := y % 4294967296) (by omega) (by omega)
  rw [e]
  unfold oth mid low
  generalize x / 4294967296 * (y / 4294967296) = a at *
  generalize x / 4294967296 * (y % 4294967296) = b at *
  generalize x % 4294967296 * (y / 4294967296) = c at *
  generalize x % 4294967296 * (y % 4294967296) = d at *
  refine ⟨by omega, by omega, by omega, by omega, by omega, by omega, by omega, by omega, by omega⟩

end Go.Proofs.Ytdleleanaihcoaa.Nm
