/- Contracts of layer 1 on numbers of 64 bits: absolute values, products of 128 bits, signed results, the reference's product; the world is as it was. -/
import Derived.Test.YtjhkbgdjgiiocaaDoorNumA
import Derived.Laws.Bits64b
import Derived.Lib.Hide
namespace Go.Proofs.YtjhkbgdjgiiocaaDoor
set_option maxRecDepth 20000
open Go.RowKit
namespace Nm
theorem hi_lt (x y : Nat) (hx : x < 18446744073709551616) (hy : y < 18446744073709551616) : x * y / 18446744073709551616 < 18446744073709551616 :=
  Nat.div_lt_of_lt_mul (Nat.mul_lt_mul'' hx hy)
theorem abs_lt {a : Int} (h0 : -9223372036854775808 ≤ a) (h1 : a ≤ 9223372036854775807) : a.natAbs < 18446744073709551616 := by omega
/-- The product out of the absolute values. -/
theorem mul_abs_same {a b : Int} (h : a < 0 ↔ b < 0) : a * b = ((a.natAbs * b.natAbs : Nat) : Int) := by
  rw [← Int.natAbs_mul]
  by_cases ha : a < 0
  · have h1 : 0 < (-a) * (-b) := Int.mul_pos (by omega) (by omega)
    rw [Int.neg_mul_neg] at h1
    omega
  · have h1 : 0 ≤ a * b := Int.mul_nonneg (by omega) (by omega)
    omega
theorem mul_abs_diff {a b : Int} (h : ¬ (a < 0 ↔ b < 0)) : a * b = -((a.natAbs * b.natAbs : Nat) : Int) := by
  rw [← Int.natAbs_mul]
  by_cases ha : a < 0
  · have h1 : 0 ≤ (-a) * b := Int.mul_nonneg (by omega) (by omega)
    rw [Int.neg_mul] at h1
    omega
  · have h1 : 0 ≤ a * (-b) := Int.mul_nonneg (by omega) (by omega)
    rw [Int.mul_neg] at h1
    omega
end Nm
namespace U
theorem divN (a : Nat) : (a : Int) / 4294967296 = ((a / 4294967296 : Nat) : Int) := by omega
theorem modN (a : Nat) : (a : Int) % 4294967296 = ((a % 4294967296 : Nat) : Int) := by omega
theorem tdivN (a : Nat) : (a : Int).tdiv 4294967296 = ((a / 4294967296 : Nat) : Int) := rfl
theorem tmodN (a : Nat) : (a : Int).tmod 4294967296 = ((a % 4294967296 : Nat) : Int) := rfl
theorem mulN (a b : Nat) : (a : Int) * (b : Int) = ((a * b : Nat) : Int) := (Int.natCast_mul a b).symm
theorem mulC (a : Nat) : (a : Int) * 4294967296 = ((a * 4294967296 : Nat) : Int) := by omega
theorem addN (a b : Nat) : (a : Int) + (b : Int) = ((a + b : Nat) : Int) := (Int.natCast_add a b).symm
theorem wrapN (a : Nat) (ha : a < 18446744073709551616) : IntKind.u64.wrap (a : Int) = (a : Int) := by rw [IntKind.wrap_u64]; omega
theorem wrapD (a : Nat) (ha : a < 18446744073709551616) : IntKind.u64.wrap ((a / 4294967296 : Nat) : Int) = ((a / 4294967296 : Nat) : Int) := wrapN _ (by omega)
theorem low_fold (x y : Nat) : x % 4294967296 * (y % 4294967296) = Nm.low x y := rfl
theorem mid_fold (x y : Nat) : x / 4294967296 * (y % 4294967296) + Nm.low x y / 4294967296 = Nm.mid x y := rfl
theorem oth_fold (x y : Nat) : x % 4294967296 * (y / 4294967296) + Nm.mid x y % 4294967296 = Nm.oth x y := rfl
end U

/-- A number with that absolute value and that sign. -/
def sgn (neg : Bool) (n : Int) : Int := if neg then -n else n
theorem sgn_mul {a b : Int} : a * b = sgn (decide (a < 0) != decide (b < 0)) ((a.natAbs : Int) * (b.natAbs : Int)) := by
  rw [← Int.natCast_mul]
  by_cases ha : a < 0 <;> by_cases hb : b < 0
  · rw [Nm.mul_abs_same (by simp [ha, hb])]; simp [ha, hb, sgn]
  · rw [Nm.mul_abs_diff (by simp [ha, hb])]; simp [ha, hb, sgn]
  · rw [Nm.mul_abs_diff (by simp [ha, hb])]; simp [ha, hb, sgn]
  · rw [Nm.mul_abs_same (by simp [ha, hb])]; simp [ha, hb, sgn]
theorem sgn_out {neg : Bool} {p : Int} (h : 18446744073709551616 ≤ p) : sgn neg p < -9223372036854775808 ∨ 9223372036854775807 < sgn neg p := by
  cases neg <;> simp [sgn] <;> omega

end Go.Proofs.YtjhkbgdjgiiocaaDoor
