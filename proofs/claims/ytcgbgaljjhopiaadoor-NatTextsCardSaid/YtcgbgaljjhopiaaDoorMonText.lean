/- Plain mathematics of the texts of amounts: which texts have the form, their values; parsing and writing invert each other. No Go in this text. -/
import Derived.Test.YtcgbgaljjhopiaaDoorNumDec
import Derived.Test.YtcgbgaljjhopiaaDoorMonMath
namespace Go.Proofs.YtcgbgaljjhopiaaDoor.Mn
set_option maxRecDepth 20000
open Nm

/-- One or more digits without a needless zero, a point, two digits. -/
def mform (l : List UInt8) : Bool := decide (4 ≤ l.length) && decide (l.getD (l.length - 3) 0 = 46) && isDig (l.getD (l.length - 2) 0) && isDig (l.getD (l.length - 1) 0) && decU (l.take (l.length - 3))
def dg (c : UInt8) : Nat := c.toNat - 48
/-- The units that such a text says. -/
def amt (l : List UInt8) : Nat := val 0 (l.take (l.length - 3)) * 100 + dg (l.getD (l.length - 2) 0) * 10 + dg (l.getD (l.length - 1) 0)
def mparV (l : List UInt8) : Int := if mform l = true ∧ amt l ≤ 1000000000000 then (amt l : Int) else 0
def mparE (l : List UInt8) : Int := if mform l = true then (if amt l ≤ 1000000000000 then 0 else 9) else 1
theorem mpar_bad {l : List UInt8} (h : mform l = false) : mparV l = 0 ∧ mparE l = 1 := by simp [mparV, mparE, h]
theorem mpar_over {l : List UInt8} (h : mform l = true) (ha : 1000000000000 < amt l) : mparV l = 0 ∧ mparE l = 9 := by
  have : ¬ amt l ≤ 1000000000000 := by omega
  simp [mparV, mparE, h, this]
theorem mpar_ok {l : List UInt8} (h : mform l = true) (ha : amt l ≤ 1000000000000) : mparV l = amt l ∧ mparE l = 0 := by simp [mparV, mparE, h, ha]
theorem mparE_cases (l : List UInt8) : mparE l = 0 ∨ mparE l = 1 ∨ mparE l = 9 := by
  unfold mparE; split
  · split <;> simp
  · simp
theorem mparE_zero {l : List UInt8} (h : mparE l = 0) : mform l = true ∧ amt l ≤ 1000000000000 := by
  unfold mparE at h
  split at h
  · split at h
    · exact ⟨‹_›, ‹_›⟩
    · omega
  · omega

theorem form_mk {r : List UInt8} {c d : UInt8} (hr : decU r = true) (hc : isDig c = true) (hd : isDig d = true) : mform (r ++ [46, c, d]) = true ∧ amt (r ++ [46, c, d]) = val 0 r * 100 + dg c * 10 + dg d := by
  have h1 : 1 ≤ r.length := by
    have := (decU_parts hr).1
    cases r with
    | nil => exact absurd rfl this
    | cons => simp
  have e0 : (r ++ [46, c, d]).length = r.length + 3 := by simp
  have e1 : (r ++ [46, c, d]).getD (r.length + 3 - 3) 0 = 46 := by simp [List.getD]
  have e2 : (r ++ [46, c, d]).getD (r.length + 3 - 2) 0 = c := by rw [show r.length + 3 - 2 = r.length + 1 by omega]; simp [List.getD]
  have e3 : (r ++ [46, c, d]).getD (r.length + 3 - 1) 0 = d := by rw [show r.length + 3 - 1 = r.length + 2 by omega]; simp [List.getD]
  have e4 : (r ++ [46, c, d]).take (r.length + 3 - 3) = r := by simp
  refine ⟨?_, ?_⟩
  · rw [mform, e0, e1, e2, e3, e4, hr, hc, hd]
    simp; omega
  · rw [amt, e0, e2, e3, e4]
theorem form_parts {l : List UInt8} (h : mform l = true) : ∃ r c d, l = r ++ [46, c, d] ∧ decU r = true ∧ isDig c = true ∧ isDig d = true := by
  simp only [mform, Bool.and_eq_true, decide_eq_true_eq] at h
  obtain ⟨⟨⟨⟨h1, h2⟩, h3⟩, h4⟩, h5⟩ := h
  refine ⟨l.take (l.length - 3), l.getD (l.length - 2) 0, l.getD (l.length - 1) 0, ?_, h5, h3, h4⟩
  rw [← h2]
  have e : l.drop (l.length - 3) = [l.getD (l.length - 3) 0, l.getD (l.length - 2) 0, l.getD (l.length - 1) 0] := by
    rw [List.drop_eq_getElem_cons (by omega), List.drop_eq_getElem_cons (by omega), List.drop_eq_getElem_cons (by omega), List.drop_of_length_le (by omega)]
    have f1 : l.length - 3 + 1 = l.length - 2 := by omega
    have f2 : l.length - 2 + 1 = l.length - 1 := by omega
    simp only [f1, f2, List.getD]
    rw [List.getElem?_eq_getElem (by omega), List.getElem?_eq_getElem (by omega), List.getElem?_eq_getElem (by omega)]
    rfl
  rw [← e, List.take_append_drop]

/-- The text of an amount. -/
def mfmt (m : Int) : List UInt8 := Lib.decDigits (m / 100).toNat ++ [46, UInt8.ofNat (48 + (m / 10 % 10).toNat), UInt8.ofNat (48 + (m % 10).toNat)]
def mfmtS (m : Int) : ByteArray := if vld m then ⟨(mfmt m).toArray⟩ else ByteArray.empty
theorem dig_ofNat {d : Nat} (h : d < 10) : isDig (UInt8.ofNat (48 + d)) = true ∧ dg (UInt8.ofNat (48 + d)) = d := by
  rw [isDig_iff, dg, digit_byte h]; omega
theorem fmt_form {m : Int} (h : 0 ≤ m) : mform (mfmt m) = true ∧ (amt (mfmt m) : Int) = m := by
  have hc := dig_ofNat (d := (m / 10 % 10).toNat) (by omega)
  have hd := dig_ofNat (d := (m % 10).toNat) (by omega)
  obtain ⟨h1, h2⟩ := form_mk (decU_digits (m / 100).toNat) hc.1 hd.1
  refine ⟨h1, ?_⟩
  unfold mfmt
  rw [h2, val_digits, hc.2, hd.2]
  omega
theorem form_fmt {l : List UInt8} (h : mform l = true) : mfmt (amt l : Nat) = l := by
  obtain ⟨r, c, d, rfl, hr, hc, hd⟩ := form_parts h
  have ha := (form_mk hr hc hd).2
  have hc2 := (isDig_iff c).1 hc
  have hd2 := (isDig_iff d).1 hd
  have hv := digits_val _ r rfl hr
  unfold dg at ha
  unfold mfmt
  rw [ha]
  have e1 : (((val 0 r * 100 + (c.toNat - 48) * 10 + (d.toNat - 48) : Nat) : Int) / 100).toNat = val 0 r := by omega
  have e2 : (((val 0 r * 100 + (c.toNat - 48) * 10 + (d.toNat - 48) : Nat) : Int) / 10 % 10).toNat = c.toNat - 48 := by omega
  have e3 : (((val 0 r * 100 + (c.toNat - 48) * 10 + (d.toNat - 48) : Nat) : Int) % 10).toNat = d.toNat - 48 := by omega
  rw [e1, e2, e3, hv, byte_digit hc, byte_digit hd]
theorem digits_len : ∀ (k u : Nat), u < 10 ^ k → (Lib.decDigits u).length ≤ k ∨ k = 0
  | 0, _, _ => .inr rfl
  | k + 1, u, h => by
    left
    rw [Lib.decDigits]
    split
    · simp
    · have h1 : u / 10 < 10 ^ k := by rw [Nat.pow_succ] at h; omega
      rcases digits_len k (u / 10) h1 with h2 | h2
      · simp; omega
      · subst h2; simp at h; omega
theorem fmt_len {m : Int} (h : vld m = true) : (mfmt m).length ≤ 15 := by
  have h := (vld_iff m).1 h
  have h1 : (m / 100).toNat < 10 ^ 12 := by have : (10 : Nat) ^ 12 = 1000000000000 := by decide
                                            omega
  rcases digits_len 12 _ h1 with h2 | h2
  · simp [mfmt]; omega
  · omega
theorem fmtS_data (m : Int) : (mfmtS m).data.toList = if vld m then mfmt m else [] := by
  unfold mfmtS; split <;> rfl

/-! ### A string's bytes, by their places -/
theorem byte_getD {s : ByteArray} {k : Nat} (h : k < s.size) : s.data.toList.getD k 0 = s[k] := by
  rw [List.getD, List.getElem?_eq_getElem (by rw [← Lib.size_eq]; exact h)]; rfl
/-- What decides the form, in the order in which it is asked. -/
theorem form_iff {s : ByteArray} {n : Nat} (hn : s.size = n + 3) (h1 : 1 ≤ n) : mform s.data.toList = (decide (s[n]'(by omega) = 46) && isDig (s[n + 1]'(by omega)) && isDig (s[n + 2]'(by omega)) && decU (s.data.toList.take n)) := by
  have hl : s.data.toList.length = n + 3 := by rw [← Lib.size_eq]; exact hn
  rw [mform, hl, show n + 3 - 3 = n by omega, show n + 3 - 2 = n + 1 by omega, show n + 3 - 1 = n + 2 by omega, byte_getD (by omega), byte_getD (by omega), byte_getD (by omega), decide_eq_true (show 4 ≤ n + 3 by omega), Bool.true_and]
theorem form_short {l : List UInt8} (h : l.length < 4) : mform l = false := by
  rw [mform, decide_eq_false (by omega)]; rfl
theorem amt_at {s : ByteArray} {n : Nat} (hn : s.size = n + 3) : amt s.data.toList = val 0 (s.data.toList.take n) * 100 + dg (s[n + 1]'(by omega)) * 10 + dg (s[n + 2]'(by omega)) := by
  have hl : s.data.toList.length = n + 3 := by rw [← Lib.size_eq]; exact hn
  rw [amt, hl, show n + 3 - 3 = n by omega, show n + 3 - 2 = n + 1 by omega, show n + 3 - 1 = n + 2 by omega, byte_getD (by omega), byte_getD (by omega)]
/-- Digits that begin with a digit are a decimal number exactly if no needless zero leads. -/
theorem dec_plain {l : List UInt8} (h : neg l = false) : dec l = decU l ∧ num l = (val 0 l : Nat) := by
  have hb : body l = l := by rw [body, h]; rfl
  rw [dec, num, h, hb]
  simp

/-! ### The same, the place of the point being the size less 3 -/
section
variable {s : ByteArray}
theorem form_at (h : 3 ≤ s.size) : mform s.data.toList = (decide (s[s.size - 3]'(by omega) = 46) && isDig (s[s.size - 3 + 1]'(by omega)) && isDig (s[s.size - 3 + 2]'(by omega)) && decU (s.data.toList.take (s.size - 3))) := by
  by_cases h4 : 4 ≤ s.size
  · exact form_iff (n := s.size - 3) (by omega) (by omega)
  · have e : s.size = 3 := by omega
    rw [form_short (by rw [← Lib.size_eq]; omega)]
    have e2 : s.data.toList.take (s.size - 3) = [] := by rw [e]; rfl
    rw [e2]
    simp [decU]
theorem amt_at2 (h : 3 ≤ s.size) : amt s.data.toList = val 0 (s.data.toList.take (s.size - 3)) * 100 + dg (s[s.size - 3 + 1]'(by omega)) * 10 + dg (s[s.size - 3 + 2]'(by omega)) :=
  amt_at (n := s.size - 3) (by omega)
theorem u8_eq {c : UInt8} {n : Nat} (h : (c.toNat : Int) = n) (hn : n < 256) : c = UInt8.ofNat n := UInt8.toNat_inj.1 (by rw [UInt8.toNat_ofNat']; omega)
theorem form_no_point (h : 3 ≤ s.size) (hp : ((s[s.size - 3]'(by omega)).toNat : Int) ≠ 46) : mform s.data.toList = false := by
  rw [form_at h, decide_eq_false (fun e => hp (by rw [e]; rfl))]; simp
theorem form_no_d1 (h : 3 ≤ s.size) (hd : isDig (s[s.size - 3 + 1]'(by omega)) = false) : mform s.data.toList = false := by
  rw [form_at h, hd]; simp
theorem form_no_d2 (h : 3 ≤ s.size) (hd : isDig (s[s.size - 3 + 2]'(by omega)) = false) : mform s.data.toList = false := by
  rw [form_at h, hd]; simp
theorem form_no_whole (h : 3 ≤ s.size) (hd : decU (s.data.toList.take (s.size - 3)) = false) : mform s.data.toList = false := by
  rw [form_at h, hd]; simp
theorem head_take {n : Nat} (hn : 0 < n) (h : n ≤ s.size) : (s.data.toList.take n).head? = some (s[0]'(by omega)) := by
  rw [← bytes_head (by omega), List.head?_take, if_neg (by omega)]
theorem form_no_minus (h : 3 ≤ s.size) (hm : ((s[0]'(by omega)).toNat : Int) = 45) : mform s.data.toList = false := by
  by_cases h4 : 4 ≤ s.size
  · refine form_no_whole h ?_
    rw [Bool.eq_false_iff]
    intro e
    obtain ⟨h1, h2, _⟩ := decU_parts e
    have h3 := head_take (s := s) (n := s.size - 3) (by omega) (by omega)
    cases hl : s.data.toList.take (s.size - 3) with
    | nil => exact h1 hl
    | cons c r =>
      rw [hl] at h2 h3
      rw [List.head?_cons] at h3
      have e1 := Option.some.inj h3
      rw [List.all_cons, Bool.and_eq_true] at h2
      have := (isDig_iff c).1 h2.1
      rw [e1] at this
      omega
  · exact form_short (by rw [← Lib.size_eq]; omega)
theorem form_yes (h : 3 ≤ s.size) (hp : ((s[s.size - 3]'(by omega)).toNat : Int) = 46) (h1 : isDig (s[s.size - 3 + 1]'(by omega)) = true) (h2 : isDig (s[s.size - 3 + 2]'(by omega)) = true) (h3 : decU (s.data.toList.take (s.size - 3)) = true) : mform s.data.toList = true := by
  rw [form_at h, decide_eq_true (show s[s.size - 3]'(by omega) = 46 from u8_eq (n := 46) hp (by omega)), h1, h2, h3]; rfl
theorem neg_take (n : Nat) (hn : n ≤ s.size) (hm : ∀ h : 0 < s.size, (s[0].toNat : Int) ≠ 45) : neg (s.data.toList.take n) = false := by
  rcases Nat.eq_zero_or_pos n with h0 | h0
  · subst h0; rfl
  · rw [neg, head_take h0 hn]
    exact decide_eq_false (fun e => hm (by omega) (by rw [Option.some.inj e]; rfl))
theorem ext_take (n : Nat) : (s.extract 0 n).data.toList = s.data.toList.take n := by
  rw [Lib.extract_data]; simp
theorem ext_size (n : Nat) : (s.extract 0 n).size ≤ s.size := by
  rw [Lib.size_eq, ext_take, Lib.size_eq s, List.length_take]; omega
end

/-! ### The reference's way to read: all bytes but the point -/
def sig (l : List UInt8) : List UInt8 := l.filter (fun c => decide (c ≠ 46))
theorem sig_append (a b : List UInt8) : sig (a ++ b) = sig a ++ sig b := by simp [sig]
theorem sig_digits {r : List UInt8} (h : r.all isDig = true) : sig r = r := by
  unfold sig
  rw [List.filter_eq_self]
  intro c hc
  rw [List.all_eq_true] at h
  have := (isDig_iff c).1 (h c hc)
  refine decide_eq_true fun e => ?_
  subst e
  simp at this
theorem val_append (a b : List UInt8) (n : Nat) : val n (a ++ b) = val (val n a) b := by unfold val; rw [List.foldl_append]
theorem sig_form {l : List UInt8} (h : mform l = true) : val 0 (sig l) = amt l := by
  obtain ⟨r, c, d, rfl, hr, hc, hd⟩ := form_parts h
  rw [(form_mk hr hc hd).2, sig_append, sig_digits (decU_parts hr).2.1]
  have e : sig [46, c, d] = [c, d] := by
    have h2 := sig_digits (r := [c, d]) (by simp [hc, hd])
    show sig ([46] ++ [c, d]) = _
    rw [sig_append, h2]; rfl
  rw [e, val_append, val_cons, val_cons, val_nil]
  unfold dg; omega
theorem form_bytes {l : List UInt8} (h : mform l = true) (c : UInt8) (hc : c ∈ l) : c = 46 ∨ isDig c = true := by
  obtain ⟨r, c1, d1, rfl, hr, h1, h2⟩ := form_parts h
  have h3 := (decU_parts hr).2.1
  rw [List.all_eq_true] at h3
  simp only [List.mem_append, List.mem_cons, List.not_mem_nil, or_false] at hc
  rcases hc with hc | hc | hc | hc
  · exact .inr (h3 c hc)
  · exact .inl hc
  · subst hc; exact .inr h1
  · subst hc; exact .inr h2
theorem sig_le {l : List UInt8} (k : Nat) : val 0 (sig (l.take k)) ≤ val 0 (sig l) := by
  have e : l = l.take k ++ l.drop k := (List.take_append_drop k l).symm
  have h : val 0 (sig l) = val 0 (sig (l.take k ++ l.drop k)) := by rw [← e]
  rw [h, sig_append, val_append]
  exact val_ge _ _
section
variable {s : ByteArray}
theorem sig_point {k : Nat} (hk : k < s.size) (h : (s[k].toNat : Int) = 46) : sig (s.data.toList.take (k + 1)) = sig (s.data.toList.take k) := by
  rw [bytes_take hk, sig_append, show s[k] = 46 from u8_eq (n := 46) h (by omega)]
  show _ ++ sig [46] = _
  have : sig [46] = [] := rfl
  rw [this, List.append_nil]
theorem sig_digit {k : Nat} (hk : k < s.size) (h : isDig s[k] = true) : val 0 (sig (s.data.toList.take (k + 1))) = val 0 (sig (s.data.toList.take k)) * 10 + (s[k].toNat - 48) := by
  rw [bytes_take hk, sig_append, sig_digits (r := [s[k]]) (by simp [h]), val_snoc]
theorem byte_mem {k : Nat} (hk : k < s.size) : s[k] ∈ s.data.toList := by
  have := List.getElem_mem (l := s.data.toList) (n := k) (by rw [← Lib.size_eq]; exact hk)
  exact this
/-- The reference's form: no needless zero, and only digits ahead of the point. -/
theorem form_all (h : 4 ≤ s.size) (hp : ((s[s.size - 3]'(by omega)).toNat : Int) = 46) (h1 : isDig (s[s.size - 3 + 1]'(by omega)) = true) (h2 : isDig (s[s.size - 3 + 2]'(by omega)) = true)
    (hz : s.size - 3 = 1 ∨ ((s[0]'(by omega)).toNat : Int) ≠ 48) : mform s.data.toList = (s.data.toList.take (s.size - 3)).all isDig := by
  rw [form_at (by omega), decide_eq_true (show s[s.size - 3]'(by omega) = 46 from u8_eq (n := 46) hp (by omega)), h1, h2]
  have hl : (s.data.toList.take (s.size - 3)).length = s.size - 3 := by rw [List.length_take, ← Lib.size_eq]; omega
  have hne : (s.data.toList.take (s.size - 3)).isEmpty = false := by
    cases he : s.data.toList.take (s.size - 3) with
    | nil => rw [he] at hl; simp at hl; omega
    | cons => rfl
  have hh : (decide ((s.data.toList.take (s.size - 3)).head? ≠ some 48) || decide ((s.data.toList.take (s.size - 3)).length = 1)) = true := by
    rw [Bool.or_eq_true, decide_eq_true_iff, decide_eq_true_iff, hl, head_take (by omega) (by omega)]
    rcases hz with hz | hz
    · exact .inr hz
    · exact .inl fun e => hz (by rw [Option.some.inj e]; rfl)
  simp only [decU, hne, hh]
  simp
theorem form_zero (h : 3 ≤ s.size) (hn : 1 < s.size - 3) (hz : ((s[0]'(by omega)).toNat : Int) = 48) : mform s.data.toList = false := by
  refine form_no_whole h ?_
  rw [Bool.eq_false_iff]
  intro e
  have h3 := (decU_parts e).2.2
  rw [head_take (by omega) (by omega), show s[0]'(by omega) = 48 from u8_eq (n := 48) hz (by omega)] at h3
  have := h3 rfl
  rw [List.length_take, ← Lib.size_eq] at this
  omega
end

/-! ### The reference's way to write -/
def Wr (A n : Int) (D : List UInt8) : Prop := Lib.decDigits A.toNat = (if n = 0 then [] else Lib.decDigits n.toNat) ++ D
theorem digits_step (n : Nat) : Lib.decDigits n = (if n / 10 = 0 then [] else Lib.decDigits (n / 10)) ++ [UInt8.ofNat (48 + n % 10)] := by
  rw [Lib.decDigits]
  by_cases h : n < 10
  · rw [dif_pos h, if_pos (by omega), show n % 10 = n by omega]; rfl
  · rw [dif_neg h, if_neg (by omega)]
theorem Wr.start {A : Int} (hA : 0 ≤ A) : Wr A (A / 10) [UInt8.ofNat (48 + A % 10).toNat] := by
  unfold Wr
  rw [digits_step, show (48 + A % 10).toNat = 48 + A.toNat % 10 by omega, show (A / 10).toNat = A.toNat / 10 by omega]
  by_cases h : A / 10 = 0
  · rw [if_pos h, if_pos (by omega)]
  · rw [if_neg h, if_neg (by omega)]
theorem Wr.step {A n : Int} {D : List UInt8} (h : Wr A n D) (hn : 0 < n) : Wr A (n / 10) (UInt8.ofNat (48 + n % 10).toNat :: D) := by
  unfold Wr at h ⊢
  rw [if_neg (by omega), digits_step n.toNat] at h
  rw [h, show (48 + n % 10).toNat = 48 + n.toNat % 10 by omega, show (n / 10).toNat = n.toNat / 10 by omega]
  by_cases h2 : n / 10 = 0
  · rw [if_pos h2, if_pos (by omega)]; simp
  · rw [if_neg h2, if_neg (by omega)]; simp
theorem Wr.fin {A : Int} {D : List UInt8} (h : Wr A 0 D) : D = Lib.decDigits A.toNat := by
  unfold Wr at h
  rw [if_pos rfl, List.nil_append] at h
  exact h.symm
theorem Wr.len {A n : Int} {D : List UInt8} (h : Wr A n D) (h0 : 0 ≤ A) (h1 : A ≤ 10000000000) : D.length ≤ 12 := by
  unfold Wr at h
  have e := congrArg List.length h
  rw [List.length_append] at e
  have h2 : A.toNat < 10 ^ 12 := by
    have : (10 : Nat) ^ 12 = 1000000000000 := by decide
    omega
  rcases digits_len 12 _ h2 with h3 | h3 <;> omega
theorem itoa_dig {d : Int} (h0 : 0 ≤ d) (h1 : d < 10) : Lib.itoa d = [UInt8.ofNat (48 + d.toNat)] := by
  rw [Lib.itoa, if_neg (by omega), Lib.decDigits, dif_pos (by omega)]
theorem itoa_pos {d : Int} (h0 : 0 ≤ d) : Lib.itoa d = Lib.decDigits d.toNat := by
  rw [Lib.itoa, if_neg (by omega)]

/-! ### Reading what was written, writing what was read -/
theorem read_fmt {m : Int} (h : vld m = true) : mparV (mfmtS m).data.toList = m ∧ mparE (mfmtS m).data.toList = 0 := by
  rw [fmtS_data, h, if_pos rfl]
  have hm := (vld_iff m).1 h
  obtain ⟨h1, h2⟩ := fmt_form hm.1
  obtain ⟨e1, e2⟩ := mpar_ok h1 (by omega)
  exact ⟨by rw [e1, h2], e2⟩
theorem fmt_size {m : Int} (h : vld m = true) : (mfmtS m).size ≤ 15 := by
  rw [Lib.size_eq, fmtS_data, h, if_pos rfl]; exact fmt_len h
theorem fmt_read {s : ByteArray} (h : mparE s.data.toList = 0) : vld (mparV s.data.toList) = true ∧ mfmtS (mparV s.data.toList) = s := by
  obtain ⟨h1, h2⟩ := mparE_zero h
  have e := (mpar_ok h1 h2).1
  have hv : vld (amt s.data.toList : Int) = true := (vld_iff _).2 (by omega)
  rw [e]
  refine ⟨hv, ?_⟩
  rw [mfmtS, hv, if_pos rfl, form_fmt h1]
end Go.Proofs.YtcgbgaljjhopiaaDoor.Mn
