/- What nat.Parse's loop needs: the value of a text, part by part; plain mathematics. -/
import Derived.Test.YtcgbgaljjhopiaaDoorNatT
namespace Go.Proofs.YtcgbgaljjhopiaaDoor
set_option maxRecDepth 20000
namespace Nm
theorem all_take {l : List UInt8} (h : l.all isDig = true) (i : Nat) : (l.take i).all isDig = true := by
  rw [List.all_eq_true] at h ⊢
  exact fun x hx => h x (List.mem_of_mem_take hx)
theorem all_drop {l : List UInt8} (h : l.all isDig = true) (i : Nat) : (l.drop i).all isDig = true := by
  rw [List.all_eq_true] at h ⊢
  exact fun x hx => h x (List.mem_of_mem_drop hx)
/-- Digits of fewer than nine a limb fit the limbs. -/
theorem val_fits {l : List UInt8} (h : l.all isDig = true) {m : Nat} (hl : l.length ≤ 9 * m) : val 0 l < 4294967296 ^ m ∨ m = 0 := by
  rcases Nat.eq_zero_or_pos m with hm | hm
  · exact .inr hm
  · left
    have h1 := val_lt l 0 h
    have h2 : 10 ^ l.length ≤ 10 ^ (9 * m) := Nat.pow_le_pow_right (by omega) hl
    have h3 : 10 ^ (9 * m) = (10 ^ 9) ^ m := Nat.pow_mul 10 9 m
    have h4 : (10 ^ 9) ^ m ≤ 4294967296 ^ m := Nat.pow_le_pow_left (by decide) m
    omega
/-- A part more of a text: its value times ten to the part's length, and the part's. -/
theorem val_part (l : List UInt8) (i n : Nat) (h : i + n ≤ l.length) : val 0 (l.take (i + n)) = val 0 (l.take i) * 10 ^ n + val 0 ((l.drop i).take n) := by
  rw [List.take_add, val_cat, List.length_take, List.length_drop, Nat.min_eq_left (by omega)]
/-- The step of Parse: nothing was read yet, or the part has nine digits. -/
theorem val_step (l : List UInt8) (i n : Nat) (h : i + n ≤ l.length) (h2 : i = 0 ∨ n = 9) : val 0 (l.take (i + n)) = val 0 (l.take i) * 1000000000 + val 0 ((l.drop i).take n) := by
  rw [val_part l i n h]
  rcases h2 with rfl | rfl
  · rw [List.take_zero, val_nil, Nat.zero_mul, Nat.zero_mul]
  · rfl
/-- How long the next part is. -/
theorem part_len {r : Nat} (h : 0 < r) : 1 ≤ (r - 1) % 9 + 1 ∧ (r - 1) % 9 + 1 ≤ 9 ∧ (r - 1) % 9 + 1 ≤ r ∧ (r - ((r - 1) % 9 + 1)) % 9 = 0 ∧ (r % 9 = 0 → (r - 1) % 9 + 1 = 9) := by omega
end Nm
end Go.Proofs.YtcgbgaljjhopiaaDoor
