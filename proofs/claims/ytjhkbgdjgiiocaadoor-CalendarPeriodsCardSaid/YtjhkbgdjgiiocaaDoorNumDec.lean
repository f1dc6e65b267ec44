/- Plain mathematics of decimal numbers, on lists of bytes: which texts are decimal numbers, their values; parsing and writing invert each other. No Go in this text. -/
import Derived.Test.YtjhkbgdjgiiocaaDoorNumMath
import Derived.Lib.AtoiAll
import Derived.Lib.ItoaNum
import Derived.Lib.Strings
namespace Go.Proofs.YtjhkbgdjgiiocaaDoor.Nm
set_option maxRecDepth 20000

def isDig (c : UInt8) : Bool := decide (48 ≤ c.toNat ∧ c.toNat ≤ 57)
/-- Digits without a needless zero ahead. -/
def decU (r : List UInt8) : Bool := !r.isEmpty && r.all isDig && (decide (r.head? ≠ some 48) || decide (r.length = 1))
def neg (l : List UInt8) : Bool := decide (l.head? = some 45)
def body (l : List UInt8) : List UInt8 := if neg l then l.tail else l
/-- A decimal number, and no -0. -/
def dec (l : List UInt8) : Bool := decU (body l) && !(neg l && decide (body l = [48]))
/-- The number that digits spell behind acc. -/
def stepV (acc : Nat) (c : UInt8) : Nat := acc * 10 + (c.toNat - 48)
def val (acc : Nat) (r : List UInt8) : Nat := r.foldl stepV acc
theorem val_nil (acc : Nat) : val acc [] = acc := rfl
theorem val_cons (acc : Nat) (c : UInt8) (r : List UInt8) : val acc (c :: r) = val (acc * 10 + (c.toNat - 48)) r := by simp only [val, List.foldl_cons, stepV]
def num (l : List UInt8) : Int := if neg l then -(val 0 (body l) : Int) else (val 0 (body l) : Int)
/-- What Parse returns. -/
def parV (l : List UInt8) : Int := if dec l then cv (num l) else 0
def parE (l : List UInt8) : Int := if dec l then ce (num l) else 1

theorem isDig_iff (c : UInt8) : isDig c = true ↔ 48 ≤ c.toNat ∧ c.toNat ≤ 57 := by simp [isDig]
theorem val_ge (r : List UInt8) : ∀ (acc : Nat), acc ≤ val acc r := by
  induction r with
  | nil => intro acc; exact Nat.le_refl _
  | cons c r ih => intro acc; rw [val_cons]; exact Nat.le_trans (by omega) (ih _)
theorem val_snoc (r : List UInt8) (acc : Nat) (c : UInt8) : val acc (r ++ [c]) = val acc r * 10 + (c.toNat - 48) := by
  unfold val; rw [List.foldl_append]; rfl
theorem val_pow (r : List UInt8) : ∀ (acc : Nat), acc * 10 ^ r.length ≤ val acc r := by
  induction r with
  | nil => intro acc; rw [val_nil, List.length_nil, Nat.pow_zero, Nat.mul_one]; exact Nat.le_refl _
  | cons c r ih =>
    intro acc
    have h := ih (acc * 10 + (c.toNat - 48))
    have h2 : acc * 10 * 10 ^ r.length ≤ (acc * 10 + (c.toNat - 48)) * 10 ^ r.length := Nat.mul_le_mul_right _ (by omega)
    rw [val_cons, List.length_cons, Nat.pow_succ, Nat.mul_comm (10 ^ r.length) 10, ← Nat.mul_assoc]
    exact Nat.le_trans h2 h
theorem val_lt (r : List UInt8) : ∀ (acc : Nat), r.all isDig = true → val acc r < (acc + 1) * 10 ^ r.length := by
  induction r with
  | nil => intro acc _; rw [val_nil, List.length_nil, Nat.pow_zero, Nat.mul_one]; exact Nat.lt_succ_self _
  | cons c r ih =>
    intro acc h
    rw [List.all_cons, Bool.and_eq_true] at h
    have hc := (isDig_iff c).1 h.1
    have h1 := ih (acc * 10 + (c.toNat - 48)) h.2
    have h2 : (acc * 10 + (c.toNat - 48) + 1) * 10 ^ r.length ≤ (acc + 1) * 10 * 10 ^ r.length := Nat.mul_le_mul_right _ (by omega)
    rw [val_cons, List.length_cons, Nat.pow_succ, Nat.mul_comm (10 ^ r.length) 10, ← Nat.mul_assoc]
    exact Nat.lt_of_lt_of_le h1 h2

/-- The library's parse of digits. -/
theorem parse_digs : ∀ (r : List UInt8) (acc : Nat), r.all isDig = true → acc < 18446744073709551616 →
    Lib.parseUint10 acc r = if val acc r < 18446744073709551616 then .ok (val acc r) else .range
  | [], acc, _, ha => by rw [val_nil, if_pos ha, Lib.parseUint10]
  | c :: r, acc, h, ha => by
    rw [List.all_cons, Bool.and_eq_true] at h
    have hc := (isDig_iff c).1 h.1
    have hg := val_ge r (acc * 10 + (c.toNat - 48))
    rw [Lib.parseUint10, if_pos hc]
    rw [val_cons]
    by_cases h1 : 1844674407370955162 ≤ acc
    · rw [if_pos h1, if_neg (by omega)]
    · rw [if_neg h1]
      by_cases h2 : 18446744073709551616 ≤ acc * 10 + (c.toNat - 48)
      · rw [if_pos h2, if_neg (by omega)]
      · rw [if_neg h2, parse_digs r _ h.2 (by omega)]

theorem decU_parts {r : List UInt8} (h : decU r = true) : r ≠ [] ∧ r.all isDig = true ∧ (r.head? = some 48 → r.length = 1) := by
  simp only [decU, Bool.and_eq_true, Bool.or_eq_true, decide_eq_true_eq, Bool.not_eq_true'] at h
  obtain ⟨⟨h1, h2⟩, h3⟩ := h
  refine ⟨by intro e; rw [e] at h1; simp at h1, h2, fun e => ?_⟩
  rcases h3 with h3 | h3
  · exact absurd e h3
  · exact h3
theorem dec_parts {l : List UInt8} (h : dec l = true) : decU (body l) = true ∧ (neg l = true → body l ≠ [48]) := by
  simp only [dec, Bool.and_eq_true, Bool.not_eq_true', Bool.and_eq_false_iff, decide_eq_false_iff_not] at h
  refine ⟨h.1, fun hn => ?_⟩
  rcases h.2 with h2 | h2
  · rw [hn] at h2; cases h2
  · exact h2

theorem neg_cons (c : UInt8) (r : List UInt8) : neg (c :: r) = true ↔ c.toNat = 45 := by
  simp only [neg, List.head?_cons, decide_eq_true_eq, Option.some.injEq]
  constructor
  · rintro rfl; rfl
  · intro h; exact UInt8.toNat_inj.1 h

/-- strconv.Atoi at a decimal number: its value, or out of range. -/
theorem atoi_dec {l : List UInt8} (h : dec l = true) : Lib.atoiAll l = if fits (num l) then .ok (num l) else .range := by
  obtain ⟨hu, _⟩ := dec_parts h
  obtain ⟨hne, hall, _⟩ := decU_parts hu
  cases l with
  | nil => exact absurd rfl hne
  | cons c r =>
    by_cases hn : neg (c :: r) = true
    · have hc := (neg_cons c r).1 hn
      have hb : body (c :: r) = r := by rw [body, if_pos hn]; rfl
      rw [hb] at hne hall
      have hnum : num (c :: r) = -(val 0 r : Int) := by rw [num, if_pos hn, hb]
      rw [hnum]
      unfold Lib.atoiAll
      simp only [hc, or_true, if_true]
      rw [Lib.parseMag, if_neg hne, parse_digs r 0 hall (by omega)]
      by_cases hv : val 0 r < 18446744073709551616
      · rw [if_pos hv]
        simp only [not_true, false_and, true_and, if_false]
        by_cases h2 : 9223372036854775808 < val 0 r
        · rw [if_pos h2, if_neg (by rw [fits_iff]; omega)]
        · rw [if_neg h2, if_pos (by rw [fits_iff]; omega)]
      · rw [if_neg hv, if_neg (by rw [fits_iff]; omega)]
    · have hc : ¬ c.toNat = 45 := fun e => hn ((neg_cons c r).2 e)
      have hb : body (c :: r) = c :: r := by rw [body, if_neg hn]
      rw [hb] at hne hall
      have hnum : num (c :: r) = (val 0 (c :: r) : Int) := by rw [num, if_neg hn, hb]
      have hd : 48 ≤ c.toNat := by
        rw [List.all_cons, Bool.and_eq_true] at hall
        exact ((isDig_iff c).1 hall.1).1
      have h43 : ¬ c.toNat = 43 := by omega
      rw [hnum]
      unfold Lib.atoiAll
      simp only [hc, h43, or_self, if_false]
      rw [Lib.parseMag, if_neg hne, parse_digs (c :: r) 0 hall (by omega)]
      generalize val 0 (c :: r) = v at *
      by_cases hv : v < 18446744073709551616
      · rw [if_pos hv]
        simp only [not_false_eq_true, true_and, false_and, if_false]
        by_cases h2 : 9223372036854775808 ≤ v
        · rw [if_pos h2, if_neg (by rw [fits_iff]; omega)]
        · rw [if_neg h2, if_pos (by rw [fits_iff]; omega)]
      · rw [if_neg hv, if_neg (by rw [fits_iff]; omega)]

/-! ### Writing and reading -/
theorem digit_byte {d : Nat} (h : d < 10) : (UInt8.ofNat (48 + d)).toNat = 48 + d := by
  rw [UInt8.toNat_ofNat']; omega
theorem byte_digit {c : UInt8} (h : isDig c = true) : UInt8.ofNat (48 + (c.toNat - 48)) = c := by
  have := (isDig_iff c).1 h
  rw [show 48 + (c.toNat - 48) = c.toNat by omega, UInt8.ofNat_toNat]
theorem val_digits (u : Nat) : val 0 (Lib.decDigits u) = u := by
  induction u using Nat.strongRecOn with
  | _ u ih =>
    rw [Lib.decDigits]
    split
    · rename_i h
      show 0 * 10 + ((UInt8.ofNat (48 + u)).toNat - 48) = u
      rw [digit_byte h]; omega
    · rename_i h
      rw [val_snoc, ih (u / 10) (by omega), digit_byte (by omega)]; omega
theorem digits_all (u : Nat) : (Lib.decDigits u).all isDig = true := by
  induction u using Nat.strongRecOn with
  | _ u ih =>
    rw [Lib.decDigits]
    split
    · rename_i h
      simp only [List.all_cons, List.all_nil, Bool.and_true, isDig_iff, digit_byte h]; omega
    · rename_i h
      rw [List.all_append, ih (u / 10) (by omega)]
      simp only [List.all_cons, List.all_nil, Bool.and_true, Bool.true_and, isDig_iff, digit_byte (show u % 10 < 10 by omega)]; omega
theorem digits_ne (u : Nat) : Lib.decDigits u ≠ [] := by
  rw [Lib.decDigits]; split <;> simp
theorem digits_head (u : Nat) (h0 : u ≠ 0) : (Lib.decDigits u).head? ≠ some 48 := by
  induction u using Nat.strongRecOn with
  | _ u ih =>
    rw [Lib.decDigits]
    split
    · rename_i h
      simp only [List.head?_cons, ne_eq, Option.some.injEq]
      intro e
      have := congrArg UInt8.toNat e
      rw [digit_byte h] at this
      simp at this
      omega
    · rename_i h
      have h1 := ih (u / 10) (by omega) (by omega)
      have h2 := digits_ne (u / 10)
      cases hd : Lib.decDigits (u / 10) with
      | nil => exact absurd hd h2
      | cons c t => rw [hd] at h1; exact h1
theorem digits_zero : Lib.decDigits 0 = [48] := by rw [Lib.decDigits]; rfl
theorem decU_digits (u : Nat) : decU (Lib.decDigits u) = true := by
  simp only [decU, Bool.and_eq_true, Bool.or_eq_true, decide_eq_true_eq, Bool.not_eq_true']
  refine ⟨⟨?_, digits_all u⟩, ?_⟩
  · have := digits_ne u
    cases h : Lib.decDigits u with
    | nil => exact absurd h this
    | cons => rfl
  · by_cases h0 : u = 0
    · subst h0; rw [digits_zero]; exact .inr rfl
    · exact .inl (digits_head u h0)
/-- Digits without a needless zero are the digits of their value. -/
theorem digits_val : ∀ (n : Nat) (r : List UInt8), r.length = n → decU r = true → Lib.decDigits (val 0 r) = r
  | 0, r, hl, h => by
    have := (decU_parts h).1
    exact absurd (List.length_eq_zero_iff.1 hl) this
  | n + 1, r, hl, h => by
    obtain ⟨h1, h2, h3⟩ := decU_parts h
    obtain ⟨i, c, rfl⟩ : ∃ i c, r = i ++ [c] := ⟨r.dropLast, r.getLast h1, (List.dropLast_concat_getLast h1).symm⟩
    rw [List.all_append, Bool.and_eq_true] at h2
    simp only [List.all_cons, List.all_nil, Bool.and_true] at h2
    have hc := (isDig_iff c).1 h2.2
    rw [val_snoc]
    cases i with
    | nil =>
      show Lib.decDigits (0 * 10 + (c.toNat - 48)) = [c]
      rw [Lib.decDigits, dif_pos (by omega), Nat.zero_mul, Nat.zero_add, byte_digit h2.2]
    | cons x t =>
      have hx : (x :: t).head? ≠ some 48 := by
        intro e
        have := h3 (by simpa using e)
        simp at this
      have hdU : decU (x :: t) = true := by
        simp only [decU, Bool.and_eq_true, Bool.or_eq_true, decide_eq_true_eq, Bool.not_eq_true']
        exact ⟨⟨rfl, h2.1⟩, .inl hx⟩
      have ih := digits_val n (x :: t) (by simpa using hl) hdU
      have hpos : 0 < val 0 (x :: t) := by
        rw [List.all_cons, Bool.and_eq_true] at h2
        have hxd := (isDig_iff x).1 h2.1.1
        have hx48 : x.toNat ≠ 48 := by
          intro e
          exact hx (by rw [List.head?_cons]; exact congrArg some (UInt8.toNat_inj.1 e))
        show 0 < val (0 * 10 + (x.toNat - 48)) t
        exact Nat.lt_of_lt_of_le (by omega) (val_ge t _)
      rw [Lib.decDigits, dif_neg (by omega), show (val 0 (x :: t) * 10 + (c.toNat - 48)) / 10 = val 0 (x :: t) by omega,
        show (val 0 (x :: t) * 10 + (c.toNat - 48)) % 10 = c.toNat - 48 by omega, ih, byte_digit h2.2]

theorem neg_digits (u : Nat) : neg (Lib.decDigits u) = false := by
  have h1 := digits_all u
  have h2 := digits_ne u
  cases h : Lib.decDigits u with
  | nil => exact absurd h h2
  | cons c r =>
    rw [h, List.all_cons, Bool.and_eq_true] at h1
    have := (isDig_iff c).1 h1.1
    rw [Bool.eq_false_iff]
    intro e
    have := (neg_cons c r).1 e
    omega
/-- What is written is a decimal number, the number's own. -/
theorem itoa_dec (n : Int) : dec (Lib.itoa n) = true ∧ num (Lib.itoa n) = n := by
  unfold Lib.itoa
  by_cases h : n < 0
  · rw [if_pos h]
    have hn : neg (45 :: Lib.decDigits n.natAbs) = true := rfl
    have hb : body (45 :: Lib.decDigits n.natAbs) = Lib.decDigits n.natAbs := by rw [body, if_pos hn]; rfl
    refine ⟨?_, ?_⟩
    · rw [dec, hb, decU_digits, hn]
      simp only [Bool.true_and, Bool.not_eq_true', decide_eq_false_iff_not]
      intro e
      have := val_digits n.natAbs
      rw [e] at this
      have e2 : val 0 [48] = 0 := rfl
      omega
    · rw [num, if_pos hn, hb, val_digits]; omega
  · rw [if_neg h]
    have hn := neg_digits n.toNat
    have hb : body (Lib.decDigits n.toNat) = Lib.decDigits n.toNat := by rw [body, hn]; rfl
    refine ⟨?_, ?_⟩
    · rw [dec, hb, decU_digits, hn]; rfl
    · rw [num, hn, hb, val_digits]; simp; omega
/-- A decimal number is what its value is written as. -/
theorem dec_itoa {l : List UInt8} (h : dec l = true) : Lib.itoa (num l) = l := by
  obtain ⟨hu, hz⟩ := dec_parts h
  have hv := digits_val _ (body l) rfl hu
  obtain ⟨hne, _, h48⟩ := decU_parts hu
  by_cases hn : neg l = true
  · have hl : l = 45 :: body l := by
      cases l with
      | nil => cases hn
      | cons c r =>
        rw [body, if_pos hn, List.tail_cons]
        have := (neg_cons c r).1 hn
        rw [show c = 45 from UInt8.toNat_inj.1 this]
    have hpos : 0 < val 0 (body l) := by
      rcases Nat.eq_zero_or_pos (val 0 (body l)) with e | e
      · exfalso
        rw [e, digits_zero] at hv
        exact hz hn hv.symm
      · exact e
    have e : num l = -(val 0 (body l) : Int) := by rw [num, if_pos hn]
    rw [e, Lib.itoa, if_pos (by omega), show (-(val 0 (body l) : Int)).natAbs = val 0 (body l) by omega, hv]
    exact hl.symm
  · have hb : body l = l := by rw [body, if_neg hn]
    have e : num l = (val 0 l : Int) := by rw [num, if_neg hn, hb]
    rw [hb] at hv
    rw [e, Lib.itoa, if_neg (by omega), Int.toNat_natCast, hv]
theorem trim_body (l : List UInt8) : Lib.trimPrefix l [45] = body l := by
  cases l with
  | nil => rfl
  | cons c r =>
    unfold Lib.trimPrefix Lib.hasPrefix body
    by_cases hn : neg (c :: r) = true
    · have hc : c = 45 := UInt8.toNat_inj.1 ((neg_cons c r).1 hn)
      subst hc
      rfl
    · rw [if_neg hn, if_neg]
      intro e
      simp only [List.isPrefixOf, Bool.and_true, beq_iff_eq] at e
      subst e
      exact hn rfl
theorem body_len (l : List UInt8) : (body l).length ≤ l.length := by
  unfold body; split
  · rw [List.length_tail]; omega
  · exact Nat.le_refl _
theorem dec_empty {l : List UInt8} (h : body l = []) : dec l = false := by rw [dec, h]; rfl
theorem dec_zero {l : List UInt8} (h : (body l).head? = some 48) : dec l = (l == [48]) := by
  by_cases hn : neg l = true
  · have h1 : dec l = false := by
      rw [Bool.eq_false_iff]
      intro hd
      obtain ⟨hu, hz⟩ := dec_parts hd
      have h2 := (decU_parts hu).2.2 h
      refine hz hn ?_
      cases hb : body l with
      | nil => rw [hb] at h; cases h
      | cons c t =>
        rw [hb] at h h2
        have h3 : t = [] := List.length_eq_zero_iff.1 (by simpa using h2)
        rw [h3]
        rw [List.head?_cons] at h
        rw [Option.some.inj h]
    have h2 : (l == [48]) = false := by
      rw [Bool.eq_false_iff]
      intro e
      rw [beq_iff_eq] at e
      rw [e] at hn
      cases hn
    rw [h1, h2]
  · have hb : body l = l := by rw [body, if_neg hn]
    rw [hb] at h
    rw [Bool.eq_iff_iff, beq_iff_eq]
    constructor
    · intro hd
      obtain ⟨hu, _⟩ := dec_parts hd
      rw [hb] at hu
      have h2 := (decU_parts hu).2.2 h
      cases l with
      | nil => cases h
      | cons c t =>
        have h3 : t = [] := List.length_eq_zero_iff.1 (by simpa using h2)
        rw [h3]
        rw [List.head?_cons] at h
        rw [Option.some.inj h]
    · intro e
      rw [e]; rfl
theorem dec_all {l : List UInt8} (h0 : body l ≠ []) (h : (body l).head? ≠ some 48) : dec l = (body l).all isDig := by
  have h48 : body l ≠ [48] := by intro e; rw [e] at h; exact h rfl
  rw [dec, decU]
  have e1 : (body l).isEmpty = false := by
    cases hb : body l with
    | nil => exact absurd hb h0
    | cons => rfl
  rw [e1, decide_eq_true h, decide_eq_false h48]
  simp
/-! ### A string's bytes -/
theorem bytes_ne {D : ByteArray} (h : D.data.toList ≠ []) : D.toList.isEmpty = false ∧ 0 < D.size := by
  rw [Lib.toList_data]
  constructor
  · cases hb : D.data.toList with
    | nil => exact absurd hb h
    | cons => rfl
  · rw [Lib.size_eq]
    cases hb : D.data.toList with
    | nil => exact absurd hb h
    | cons => simp
theorem bytes_head {D : ByteArray} (h : 0 < D.size) : D.data.toList.head? = some D[0] := by
  rw [List.head?_eq_getElem?, List.getElem?_eq_getElem (by rw [← Lib.size_eq]; exact h)]
  rfl
theorem bytes_take {D : ByteArray} {k : Nat} (h : k < D.size) : D.data.toList.take (k + 1) = D.data.toList.take k ++ [D[k]] := by
  rw [List.take_succ_eq_append_getElem (by rw [← Lib.size_eq]; exact h)]; rfl
theorem bytes_all {D : ByteArray} (p : UInt8 → Bool) : D.data.toList.all p = true → ∀ (k : Nat) (h : k < D.size), p D[k] = true := by
  intro ha k h
  rw [List.all_eq_true] at ha
  exact ha _ (List.getElem_mem (by rw [← Lib.size_eq]; exact h : k < D.data.toList.length))
end Go.Proofs.YtjhkbgdjgiiocaaDoor.Nm
