/- Contracts of both powers and of both greatest common divisors. -/
import Derived.Test.YtckimajnhdefcaaDoorNumDiv
namespace Go.Proofs.YtckimajnhdefcaaDoor
open Go.RowKit

namespace Nm
/-- The power k of a, product by product: the value and the error. -/
def pw (a : Int) : Nat → Int × Int
  | 0 => (1, 0)
  | k + 1 => if (pw a k).2 = 0 then (cv ((pw a k).1 * a), ce ((pw a k).1 * a)) else (0, 9)
theorem pw_01 (a : Int) (k : Nat) : (pw a k).2 = 0 ∨ (pw a k).2 = 9 := by
  cases k with
  | zero => exact .inl rfl
  | succ k =>
    unfold pw
    split
    · exact ce_01 _
    · exact .inr rfl
theorem pw_bd (a : Int) (k : Nat) : -9223372036854775808 ≤ (pw a k).1 ∧ (pw a k).1 ≤ 9223372036854775807 := by
  cases k with
  | zero => unfold pw; omega
  | succ k =>
    unfold pw
    split
    · exact cv_bd _
    · constructor <;> simp
theorem pw_stay (a : Int) (k : Nat) (h : (pw a k).2 = 9) : ∀ j, pw a (k + 1 + j) = (0, 9)
  | 0 => by show pw a (k + 1) = _; unfold pw; rw [if_neg (by rw [h]; decide)]
  | j + 1 => by
    have e := pw_stay a k h j
    show pw a (k + 1 + j + 1) = _
    unfold pw; rw [e]; rfl
/-- If a product is no int, no later power is one. -/
theorem pw_out (a : Int) {k n : Nat} (hk : k < n) (h0 : (pw a k).2 = 0) (h : ce ((pw a k).1 * a) = 9) : pw a n = (0, 9) := by
  have e : (pw a (k + 1)).2 = 9 := by unfold pw; rw [if_pos h0]; exact h
  have ev : pw a (k + 1) = (0, 9) := by
    have hv : cv ((pw a k).1 * a) = 0 := by
      unfold ce at h; unfold cv
      split at h
      · simp at h
      · rename_i hf; rw [if_neg hf]
    unfold pw; rw [if_pos h0, h, hv]
  obtain ⟨d, rfl⟩ := Nat.exists_eq_add_of_lt hk
  cases d with
  | zero => exact ev
  | succ d => rw [show k + (d + 1) + 1 = k + 1 + 1 + d by omega]; exact pw_stay a (k + 1) e d
theorem pw_next (a : Int) (k : Nat) (h0 : (pw a k).2 = 0) (h : ce ((pw a k).1 * a) = 0) : pw a (k + 1) = (cv ((pw a k).1 * a), 0) := by
  rw [pw, if_pos h0, h]
/-- What Power returns. -/
def powV (a n : Int) : Int := if n < 0 ∨ 62 < n then 0 else (pw a n.toNat).1
def powE (a n : Int) : Int := if n < 0 ∨ 62 < n then 2 else (pw a n.toNat).2
/-- What GCD returns. -/
def gcdV (a b : Int) : Int := if 9223372036854775807 < Nat.gcd a.natAbs b.natAbs then 0 else (Nat.gcd a.natAbs b.natAbs : Int)
theorem gcd_next (x y : Nat) : Nat.gcd y (x % y) = Nat.gcd x y := by rw [Nat.gcd_comm x y, Nat.gcd_rec y x, Nat.gcd_comm]
theorem gcd_next' {X Y : Int} {g : Nat} (hX : 0 ≤ X) (hY : 0 ≤ Y) (h : Nat.gcd X.toNat Y.toNat = g) : Nat.gcd Y.toNat (X % Y).toNat = g := by
  rw [Int.toNat_emod hX hY, gcd_next, h]
/-- How far Euclid's steps have come: behind step i the product is below 2^128 / 2^(i-1). -/
def Pot (I X Y : Int) : Prop := I = 0 ∨ (1 ≤ I ∧ Y ≤ X ∧ X.toNat * Y.toNat * 2 ^ (I - 1).toNat < 2 ^ 128)
theorem Pot.next {I X Y : Int} (h : Pot I X Y) (hI : 0 ≤ I) (hX : 0 ≤ X) (hY : 0 < Y) (hX1 : X < 18446744073709551616) (hY1 : Y < 18446744073709551616) : Pot (I + 1) Y (X % Y) := by
  have hm := Int.emod_lt_of_pos X hY
  have hm0 := Int.emod_nonneg X (show Y ≠ 0 by omega)
  refine .inr ⟨by omega, by omega, ?_⟩
  rw [Int.toNat_emod hX (by omega), show I + 1 - 1 = I by omega]
  rcases h with rfl | ⟨h1, h2, h3⟩
  · rw [show (0 : Int).toNat = 0 from rfl, Nat.pow_zero, Nat.mul_one]
    have : Y.toNat * (X.toNat % Y.toNat) < 18446744073709551616 * 18446744073709551616 := Nat.mul_lt_mul'' (by omega) (Nat.lt_of_le_of_lt (Nat.mod_le _ _) (by omega))
    exact this
  · have h4 := gcd_step_prod X.toNat Y.toNat (by omega) (by omega)
    have e : I.toNat = (I - 1).toNat + 1 := by omega
    rw [e, Nat.pow_succ]
    have h5 : 2 * (Y.toNat * (X.toNat % Y.toNat)) * 2 ^ (I - 1).toNat ≤ X.toNat * Y.toNat * 2 ^ (I - 1).toNat := Nat.mul_le_mul_right _ h4
    rw [Nat.mul_comm (2 ^ (I - 1).toNat) 2, ← Nat.mul_assoc, Nat.mul_comm (Y.toNat * (X.toNat % Y.toNat)) 2]
    exact Nat.lt_of_le_of_lt h5 h3
theorem Pot.fin {I X Y : Int} (h : Pot I X Y) (hI : 200 ≤ I) (hY : 0 ≤ Y) : Y = 0 := by
  rcases h with h | ⟨h1, h2, h3⟩
  · omega
  · by_cases hz : Y = 0
    · exact hz
    · exfalso
      have h4 : 1 * 1 ≤ X.toNat * Y.toNat := Nat.mul_le_mul (by omega) (by omega)
      have h5 : 2 ^ 128 ≤ 2 ^ (I - 1).toNat := Nat.pow_le_pow_right (by omega) (by omega)
      have h6 : 1 * 1 * 2 ^ (I - 1).toNat ≤ X.toNat * Y.toNat * 2 ^ (I - 1).toNat := Nat.mul_le_mul_right _ h4
      omega
end Nm

theorem ref_Mul_out (a b : Int) (ha0 : -9223372036854775808 ≤ a) (ha1 : a ≤ 9223372036854775807) (hb0 : -9223372036854775808 ≤ b) (hb1 : b ≤ 9223372036854775807) (w : World) :
    Calls Tryd.prog 41 #[.int .i64 a, .int .i64 b] w fun e w' => ∃ V E : Int, e = .returned (.tuple #[.int .i64 V, .int .i64 E]) ∧ w = w' ∧ -9223372036854775808 ≤ V ∧ V ≤ 9223372036854775807 ∧ Hid (V = Nm.cv (a * b)) ∧ Hid (E = Nm.ce (a * b)) :=
  (ref_Mul a b ha0 ha1 hb0 hb1 w).mono fun _ _ ⟨he, hw⟩ => ⟨_, _, he, hw, (Nm.cv_bd _).1, (Nm.cv_bd _).2, rfl, rfl⟩
end Go.Proofs.YtckimajnhdefcaaDoor
