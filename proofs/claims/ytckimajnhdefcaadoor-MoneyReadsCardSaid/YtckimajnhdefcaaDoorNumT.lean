/- Contracts of the reference's Decimal, Parse and Format. -/
import Derived.Test.YtckimajnhdefcaaDoorNumS
import Derived.Outline
namespace Go.Proofs.YtckimajnhdefcaaDoor
open Go.RowKit

namespace Nm
theorem tail_data (s : ByteArray) : (s.extract 1 s.size).data.toList = s.data.toList.tail := by
  rw [Lib.extract_data, List.drop_one, List.take_of_length_le (by rw [List.length_tail, ← Lib.size_eq]; exact Nat.le_refl _)]
theorem neg_head {s : ByteArray} (h : 0 < s.size) : neg s.data.toList = true ↔ ((s[0].toNat : Int) == 45) = true := by
  have hb := bytes_head h
  rw [neg, hb, decide_eq_true_eq, beq_iff_eq, Option.some.injEq]
  constructor
  · intro e; rw [e]; rfl
  · intro e; exact UInt8.toNat_inj.1 (by show s[0].toNat = 45; omega)
theorem neg_empty {s : ByteArray} (h : ¬ 0 < s.size) : s.data.toList = [] := List.length_eq_zero_iff.1 (by rw [← Lib.size_eq]; omega)
theorem neg_pos {s : ByteArray} (h : neg s.data.toList = true) : 0 < s.size := by
  rcases Nat.eq_zero_or_pos s.size with e | e
  · have := neg_empty (s := s) (by omega)
    rw [this] at h; cases h
  · exact e
theorem body_tail {l : List UInt8} (h : neg l = true) : body l = l.tail := by rw [body, if_pos h]
theorem dec_rest {l : List UInt8} (h0 : body l ≠ []) (h1 : (body l).head? = some 48 → (body l).length = 1) (h2 : neg l = true → body l ≠ [48]) : dec l = (body l).all isDig := by
  have e1 : (body l).isEmpty = false := by
    cases hb : body l with
    | nil => exact absurd hb h0
    | cons => rfl
  have e2 : (decide ((body l).head? ≠ some 48) || decide ((body l).length = 1)) = true := by
    by_cases h : (body l).head? = some 48
    · simp [h1 h]
    · simp [h]
  have e3 : (neg l && decide (body l = [48])) = false := by
    by_cases h : neg l = true
    · simp [h2 h]
    · simp [h]
  rw [dec, decU, e1, e2, e3]
  simp
theorem dec_lead {l : List UInt8} (h1 : (body l).head? = some 48) (h2 : 1 < (body l).length) : dec l = false := by
  rw [Bool.eq_false_iff]
  intro hd
  have := (decU_parts (dec_parts hd).1).2.2 h1
  omega
theorem dec_pos {s : ByteArray} (h : dec s.data.toList = true) : 0 < s.size := by
  rcases Nat.eq_zero_or_pos s.size with e | e
  · have := neg_empty (s := s) (by omega)
    rw [this] at h; cases h
  · exact e
theorem val_big {r : List UInt8} (h : decU r = true) (hl : 19 < r.length) : 10000000000000000000 ≤ val 0 r := by
  obtain ⟨h1, h2, h3⟩ := decU_parts h
  cases r with
  | nil => exact absurd rfl h1
  | cons c t =>
    rw [List.all_cons, Bool.and_eq_true] at h2
    have hc := (isDig_iff c).1 h2.1
    have hc48 : c.toNat ≠ 48 := by
      intro e
      have := h3 (by rw [List.head?_cons]; exact congrArg some (UInt8.toNat_inj.1 e))
      omega
    rw [val_cons]
    have h4 := val_pow t (0 * 10 + (c.toNat - 48))
    have h5 : 10 ^ 19 ≤ 10 ^ t.length := Nat.pow_le_pow_right (by omega) (by simp at hl; omega)
    have h6 : 1 * 10 ^ t.length ≤ (0 * 10 + (c.toNat - 48)) * 10 ^ t.length := Nat.mul_le_mul_right _ (by omega)
    have h7 : (10 : Nat) ^ 19 = 10000000000000000000 := by decide
    omega
theorem val_take_lt {r : List UInt8} (h : r.all isDig = true) {k : Nat} (hk : k ≤ 18) : val 0 (r.take k) < 1000000000000000000 := by
  have h1 : (r.take k).all isDig = true := by
    rw [List.all_eq_true] at h ⊢
    exact fun x hx => h x (List.mem_of_mem_take hx)
  have h2 := val_lt (r.take k) 0 h1
  have h3 : 10 ^ (r.take k).length ≤ 10 ^ 18 := Nat.pow_le_pow_right (by omega) (by rw [List.length_take]; omega)
  have h4 : (10 : Nat) ^ 18 = 1000000000000000000 := by decide
  omega
theorem val_small {r : List UInt8} (h : r.all isDig = true) (hl : r.length ≤ 19) : val 0 r < 10000000000000000000 := by
  have h2 := val_lt r 0 h
  have h3 : 10 ^ r.length ≤ 10 ^ 19 := Nat.pow_le_pow_right (by omega) hl
  have h4 : (10 : Nat) ^ 19 = 10000000000000000000 := by decide
  omega
end Nm

end Go.Proofs.YtckimajnhdefcaaDoor
