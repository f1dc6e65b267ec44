/- Decimal texts of numbers of any size: plain mathematics. -/
import Derived.Test.YtcgbgaljjhopiaaDoorNumDec
namespace Go.Proofs.YtcgbgaljjhopiaaDoor
set_option maxRecDepth 20000
namespace Nm
theorem val_app (l r : List UInt8) (acc : Nat) : val acc (l ++ r) = val (val acc l) r := by rw [val, List.foldl_append]; rfl
theorem val_acc (r : List UInt8) : ∀ (acc : Nat), val acc r = acc * 10 ^ r.length + val 0 r := by
  induction r with
  | nil => intro acc; simp [val_nil]
  | cons c t ih =>
    intro acc
    rw [val_cons, val_cons, ih, ih (0 * 10 + (c.toNat - 48)), List.length_cons, Nat.pow_succ]
    generalize 10 ^ t.length = p
    generalize c.toNat - 48 = d
    grind
theorem val_cat (l r : List UInt8) : val 0 (l ++ r) = val 0 l * 10 ^ r.length + val 0 r := by rw [val_app, val_acc]
theorem val_zeros (k : Nat) : val 0 (List.replicate k 48) = 0 := by
  induction k with
  | zero => rfl
  | succ k ih => rw [List.replicate_succ, val_cons]; exact ih
theorem val_long {r : List UInt8} {k : Nat} (h : decU r = true) (hk : 1 ≤ k) (hl : k < r.length) : 10 ^ k ≤ val 0 r := by
  obtain ⟨h1, h2, h3⟩ := decU_parts h
  cases r with
  | nil => exact absurd rfl h1
  | cons c t =>
    rw [List.all_cons, Bool.and_eq_true] at h2
    have hc := (isDig_iff c).1 h2.1
    have hc48 : c.toNat ≠ 48 := by
      intro e
      have := h3 (by rw [List.head?_cons]; exact congrArg some (UInt8.toNat_inj.1 e))
      omega
    rw [val_cons]
    have h4 := val_pow t (0 * 10 + (c.toNat - 48))
    rw [List.length_cons] at hl
    have h5 : 10 ^ k ≤ 10 ^ t.length := Nat.pow_le_pow_right (by omega) (by omega)
    have h6 : 1 * 10 ^ t.length ≤ (0 * 10 + (c.toNat - 48)) * 10 ^ t.length := Nat.mul_le_mul_right _ (by omega)
    omega
theorem digits_len {r k : Nat} (hk : 1 ≤ k) (hr : r < 10 ^ k) : (Lib.decDigits r).length ≤ k := by
  rcases Nat.lt_or_ge k (Lib.decDigits r).length with h | h
  · have := val_long (decU_digits r) hk h
    rw [val_digits] at this; omega
  · exact h
/-- The digits of a number of two parts. -/
theorem digits_two {q r k : Nat} (hq : 0 < q) (hk : 1 ≤ k) (hr : r < 10 ^ k) :
    Lib.decDigits (q * 10 ^ k + r) = Lib.decDigits q ++ (List.replicate (k - (Lib.decDigits r).length) 48 ++ Lib.decDigits r) := by
  have hl := digits_len hk hr
  have hlen : (List.replicate (k - (Lib.decDigits r).length) (48 : UInt8) ++ Lib.decDigits r).length = k := by
    rw [List.length_append, List.length_replicate]; omega
  have hd : decU (Lib.decDigits q ++ (List.replicate (k - (Lib.decDigits r).length) 48 ++ Lib.decDigits r)) = true := by
    have hh : (Lib.decDigits q ++ (List.replicate (k - (Lib.decDigits r).length) 48 ++ Lib.decDigits r)).head? ≠ some 48 := by
      rw [List.head?_append]
      have := digits_head q (by omega)
      cases hq : (Lib.decDigits q).head? with
      | none => exact absurd (List.head?_eq_none_iff.1 hq) (digits_ne q)
      | some c => rw [hq] at this; simpa using this
    have ha : (Lib.decDigits q ++ (List.replicate (k - (Lib.decDigits r).length) 48 ++ Lib.decDigits r)).all isDig = true := by
      rw [List.all_append, List.all_append, digits_all, digits_all, List.all_replicate]
      simp [isDig]
    have he : (Lib.decDigits q ++ (List.replicate (k - (Lib.decDigits r).length) 48 ++ Lib.decDigits r)).isEmpty = false := by
      cases h : Lib.decDigits q with
      | nil => exact absurd h (digits_ne q)
      | cons => rfl
    rw [decU, he, ha, decide_eq_true hh]; rfl
  have hv : val 0 (Lib.decDigits q ++ (List.replicate (k - (Lib.decDigits r).length) 48 ++ Lib.decDigits r)) = q * 10 ^ k + r := by
    rw [val_cat, hlen, val_digits, val_cat, val_zeros, val_digits, Nat.zero_mul, Nat.zero_add]
  rw [← hv]
  exact digits_val _ _ rfl hd
/-- A digit more at the end. -/
theorem digits_snoc {q d : Nat} (hq : 0 < q) (hd : d < 10) : Lib.decDigits (q * 10 + d) = Lib.decDigits q ++ [UInt8.ofNat (48 + d)] := by
  have := digits_two (q := q) (r := d) (k := 1) hq (by omega) (by omega)
  rw [Nat.pow_one] at this
  rw [this]
  have e : Lib.decDigits d = [UInt8.ofNat (48 + d)] := by rw [Lib.decDigits, dif_pos hd]
  rw [e]
  rfl
end Nm
end Go.Proofs.YtcgbgaljjhopiaaDoor
