/- Contracts of num.MulDiv and of the reference's MulDiv: quotient, remainder and error as the document defines them. Contracts of num.Parse, num.Format and the reference's twins: decimal numbers as texts; of what was there nothing has turned. Contracts of the reference's MulDiv (long division, bit by bit), of both powers and of both greatest common divisors. Contracts of both powers and of both greatest common divisors. Contracts of the reference's Decimal, Parse and Format. Contract of the reference's Format: the decimal number of an int. The examples of layer 1's chapter: the statements' own check of them returns true, in every world in which the library's table of powers of ten and its error variable read as they were laid. -/
import Derived.Test.YtjhkbgdjgiiocaaDoorNumDiv
import Derived.Test.YtjhkbgdjgiiocaaDoorNumDec
import Derived.Lib.LaidTab
import Derived.Lib.AtoiAllMem
import Derived.Lib.AppendIntMem
import Derived.Outline
import Derived.Laws.IdiomStrings
import Derived.Laws.Concat
namespace Go.Proofs.YtjhkbgdjgiiocaaDoor
set_option maxRecDepth 20000
open Go.RowKit

namespace Nm
/-- What MulDiv returns: the error, the quotient, the remainder. -/
def mdE (a b c : Int) : Int := if c = 0 then 10 else if a < 0 ∨ b < 0 ∨ c < 0 then 2 else if a * b / c ≤ 9223372036854775807 then 0 else 9
def mdQ (a b c : Int) : Int := if mdE a b c = 0 then a * b / c else 0
def mdR (a b c : Int) : Int := if mdE a b c = 0 then a * b % c else 0
theorem md_zero {a b c : Int} (h : c = 0) : mdE a b c = 10 ∧ mdQ a b c = 0 ∧ mdR a b c = 0 := by
  have : mdE a b c = 10 := by simp [mdE, h]
  simp [mdQ, mdR, this]
theorem md_range {a b c : Int} (h0 : ¬ c = 0) (h : a < 0 ∨ b < 0 ∨ c < 0) : mdE a b c = 2 ∧ mdQ a b c = 0 ∧ mdR a b c = 0 := by
  have : mdE a b c = 2 := by simp [mdE, h, h0]
  simp [mdQ, mdR, this]
theorem md_over {a b c : Int} (h0 : 0 < c) (ha : 0 ≤ a) (hb : 0 ≤ b) (h : 9223372036854775807 < a * b / c) : mdE a b c = 9 ∧ mdQ a b c = 0 ∧ mdR a b c = 0 := by
  have : mdE a b c = 9 := by
    unfold mdE
    rw [if_neg (by omega), if_neg (by omega), if_neg (by omega)]
  simp [mdQ, mdR, this]
theorem md_ok {a b c : Int} (h0 : 0 < c) (ha : 0 ≤ a) (hb : 0 ≤ b) (h : a * b / c ≤ 9223372036854775807) : mdE a b c = 0 ∧ mdQ a b c = a * b / c ∧ mdR a b c = a * b % c := by
  have : mdE a b c = 0 := by
    unfold mdE
    rw [if_neg (by omega), if_neg (by omega), if_pos h]
  simp [mdQ, mdR, this]
theorem mul_nn {a b : Int} (ha : 0 ≤ a) (hb : 0 ≤ b) : 0 ≤ a * b := Int.mul_nonneg ha hb
/-- The upper half is not below the divisor: the quotient has more than 64 bits. -/
theorem hi_over {p c h l : Int} (hc : 0 < c) (hp : h * 18446744073709551616 + l = p) (hl : 0 ≤ l) (hh : c ≤ h) : 9223372036854775807 < p / c := by
  have h1 : 18446744073709551616 ≤ p / c := by
    refine (Int.le_ediv_iff_mul_le hc).2 ?_
    omega
  omega
end Nm

end Go.Proofs.YtjhkbgdjgiiocaaDoor
namespace Go.Proofs.YtjhkbgdjgiiocaaDoor
set_option maxRecDepth 20000
open Go.RowKit

/-- What the package-level variables of strconv hold, as these texts need it: whatever value of an interface's type. -/
def ErrVar (g : Nat) (w : World) : Prop := ∃ ev : Value, w.cell? ⟨g, 0, none⟩ = some ev ∧ (ev = .nilIface ∨ ∃ te pe, ev = .iface te pe)

theorem num_Format (n : Int) (h0 : -9223372036854775808 ≤ n) (h1 : n ≤ 9223372036854775807) (w : World) (htab : Lib.TabIs Tryd.prog w "internal/strconv.uint64pow10" .u64 Lib.pow10Tab) :
    Calls Tryd.prog 45 #[.int .i64 n] w fun e w' => e = .returned (.string ⟨(Lib.itoa n).toArray⟩) ∧ Below w.heap.size w w' := by
  have HT := Lib.hid htab
  clear htab
  go_enter Tryd.func45, Tryd.ntmps45
  go_wp2_with fail
  refine (Tryd.strconv_Itoa n h0 h1 _ HT.out).mono ?_
  rintro e w' ⟨rfl, k, os, rfl⟩
  go_wp2
  go_ret
  exact ⟨rfl, Lib.below_grow _ _ (Nat.le_refl _) _ _⟩
end Go.Proofs.YtjhkbgdjgiiocaaDoor
namespace Go.Proofs.YtjhkbgdjgiiocaaDoor
set_option maxRecDepth 20000
open Go.RowKit

namespace Nm
theorem shift_half {X X0 K : Nat} (h : X = X0 / 2 ^ K) : X / 2 = X0 / 2 ^ (K + 1) := by
  rw [h, Nat.div_div_eq_div_mul, ← Nat.pow_succ]
/-- Bit i of a number of 128 bits lies in one of its halves. -/
theorem bit_low (hi lo i : Nat) (h : i < 64) : lo / 2 ^ i % 2 = (hi * 18446744073709551616 + lo) / 2 ^ i % 2 := by
  have e : hi * 18446744073709551616 = 2 ^ i * (2 * (hi * 2 ^ (63 - i))) := by
    have : (18446744073709551616 : Nat) = 2 ^ i * (2 * 2 ^ (63 - i)) := by
      rw [← Nat.mul_assoc, ← Nat.pow_succ, ← Nat.pow_add, show i + 1 + (63 - i) = 64 by omega]
    rw [this, Nat.mul_left_comm, Nat.mul_left_comm hi 2]
  rw [e, Nat.add_comm, Nat.add_mul_div_left _ _ (Nat.two_pow_pos _)]
  omega
theorem bit_high (hi lo i : Nat) (h : 64 ≤ i) (hl : lo < 18446744073709551616) : hi / 2 ^ (i - 64) % 2 = (hi * 18446744073709551616 + lo) / 2 ^ i % 2 := by
  have e : (2 : Nat) ^ i = 18446744073709551616 * 2 ^ (i - 64) := by
    rw [show (18446744073709551616 : Nat) = 2 ^ 64 from rfl, ← Nat.pow_add, show 64 + (i - 64) = i by omega]
  rw [e, ← Nat.div_div_eq_div_mul, show (hi * 18446744073709551616 + lo) / 18446744073709551616 = hi by omega]
/-- What the bits above I have come to. -/
def Part (P c : Nat) (I Q R : Int) : Prop := Q.toNat = P / 2 ^ (I + 1).toNat / c ∧ R.toNat = P / 2 ^ (I + 1).toNat % c
theorem Part.step {P c : Nat} {I Q R B : Int} (h : Part P c I Q R) (hI : 0 ≤ I) (hc : 0 < c) (hB0 : 0 ≤ B) (hB : B.toNat = P / 2 ^ I.toNat % 2) (hQ : 0 ≤ Q) (hR : 0 ≤ R) :
    ((c : Int) ≤ 2 * R + B → Part P c (I - 1) (2 * Q + 1) (2 * R + B - (c : Int))) ∧ (¬ (c : Int) ≤ 2 * R + B → Part P c (I - 1) (2 * Q) (2 * R + B)) := by
  obtain ⟨h1, h2⟩ := h
  have e1 : (I + 1).toNat = I.toNat + 1 := by omega
  have e2 : (I - 1 + 1).toNat = I.toNat := by omega
  rw [e1] at h1 h2
  have hs := half_div P I.toNat
  rw [← hB] at hs
  have hb2 : B.toNat < 2 := by omega
  obtain ⟨s1, s2⟩ := step_div (P / 2 ^ (I.toNat + 1)) c B.toNat hc hb2
  rw [← hs, ← h1, ← h2] at s1
  rw [← hs, ← h2] at s2
  constructor
  · intro hle
    have : c ≤ 2 * R.toNat + B.toNat := by omega
    rw [if_pos this] at s1 s2
    exact ⟨by rw [e2, s1]; omega, by rw [e2, s2]; omega⟩
  · intro hle
    have : ¬ c ≤ 2 * R.toNat + B.toNat := by omega
    rw [if_neg this] at s1 s2
    exact ⟨by rw [e2, s1]; omega, by rw [e2, s2]; omega⟩
theorem Part.small {P c : Nat} {I Q R : Int} (h : Part P c I Q R) (hP : P / c < 18446744073709551616) (_hQ : 0 ≤ Q) : Q < 18446744073709551616 := by
  have : P / 2 ^ (I + 1).toNat / c ≤ P / c := Nat.div_le_div_right (Nat.div_le_self _ _)
  have := h.1
  omega
theorem Part.rest {P c : Nat} {I Q R : Int} (h : Part P c I Q R) (hc : 0 < c) : R < c := by
  have := h.2
  have : P / 2 ^ (I + 1).toNat % c < c := Nat.mod_lt _ hc
  omega
theorem Part.start {P c : Nat} (hP : P < 2 ^ 128) : Part P c 127 0 0 := by
  have : P / 2 ^ ((127 : Int) + 1).toNat = 0 := Nat.div_eq_of_lt hP
  constructor <;> rw [this] <;> simp
theorem Part.fin {P c : Nat} {I Q R : Int} (h : Part P c I Q R) (hI : I = -1) : Q.toNat = P / c ∧ R.toNat = P % c := by
  subst hI
  have e : (-1 + 1 : Int).toNat = 0 := rfl
  obtain ⟨h1, h2⟩ := h
  rw [e, Nat.pow_zero, Nat.div_one] at h1 h2
  exact ⟨h1, h2⟩
end Nm

end Go.Proofs.YtjhkbgdjgiiocaaDoor
namespace Go.Proofs.YtjhkbgdjgiiocaaDoor
set_option maxRecDepth 20000
open Go.RowKit

namespace Nm
/-- The power k of a, product by product: the value and the error. -/
def pw (a : Int) : Nat → Int × Int
  | 0 => (1, 0)
  | k + 1 => if (pw a k).2 = 0 then (cv ((pw a k).1 * a), ce ((pw a k).1 * a)) else (0, 9)
theorem pw_01 (a : Int) (k : Nat) : (pw a k).2 = 0 ∨ (pw a k).2 = 9 := by
  cases k with
  | zero => exact .inl rfl
  | succ k =>
    unfold pw
    split
    · exact ce_01 _
    · exact .inr rfl
theorem pw_bd (a : Int) (k : Nat) : -9223372036854775808 ≤ (pw a k).1 ∧ (pw a k).1 ≤ 9223372036854775807 := by
  cases k with
  | zero => unfold pw; omega
  | succ k =>
    unfold pw
    split
    · exact cv_bd _
    · constructor <;> simp
theorem pw_stay (a : Int) (k : Nat) (h : (pw a k).2 = 9) : ∀ j, pw a (k + 1 + j) = (0, 9)
  | 0 => by show pw a (k + 1) = _; unfold pw; rw [if_neg (by rw [h]; decide)]
  | j + 1 => by
    have e := pw_stay a k h j
    show pw a (k + 1 + j + 1) = _
    unfold pw; rw [e]; rfl
/-- If a product is no int, no later power is one. -/
theorem pw_out (a : Int) {k n : Nat} (hk : k < n) (h0 : (pw a k).2 = 0) (h : ce ((pw a k).1 * a) = 9) : pw a n = (0, 9) := by
  have e : (pw a (k + 1)).2 = 9 := by unfold pw; rw [if_pos h0]; exact h
  have ev : pw a (k + 1) = (0, 9) := by
    have hv : cv ((pw a k).1 * a) = 0 := by
      unfold ce at h; unfold cv
      split at h
      · simp at h
      · rename_i hf; rw [if_neg hf]
    unfold pw; rw [if_pos h0, h, hv]
  obtain ⟨d, rfl⟩ := Nat.exists_eq_add_of_lt hk
  cases d with
  | zero => exact ev
  | succ d => rw [show k + (d + 1) + 1 = k + 1 + 1 + d by omega]; exact pw_stay a (k + 1) e d
theorem pw_next (a : Int) (k : Nat) (h0 : (pw a k).2 = 0) (h : ce ((pw a k).1 * a) = 0) : pw a (k + 1) = (cv ((pw a k).1 * a), 0) := by
  rw [pw, if_pos h0, h]
/-- What Power returns. -/
def powV (a n : Int) : Int := if n < 0 ∨ 62 < n then 0 else (pw a n.toNat).1
def powE (a n : Int) : Int := if n < 0 ∨ 62 < n then 2 else (pw a n.toNat).2
/-- What GCD returns. -/
def gcdV (a b : Int) : Int := if 9223372036854775807 < Nat.gcd a.natAbs b.natAbs then 0 else (Nat.gcd a.natAbs b.natAbs : Int)
theorem gcd_next (x y : Nat) : Nat.gcd y (x % y) = Nat.gcd x y := by rw [Nat.gcd_comm x y, Nat.gcd_rec y x, Nat.gcd_comm]
theorem gcd_next' {X Y : Int} {g : Nat} (hX : 0 ≤ X) (hY : 0 ≤ Y) (h : Nat.gcd X.toNat Y.toNat = g) : Nat.gcd Y.toNat (X % Y).toNat = g := by
  rw [Int.toNat_emod hX hY, gcd_next, h]
/-- How far Euclid's steps have come: behind step i the product is below 2^128 / 2^(i-1). -/
def Pot (I X Y : Int) : Prop := I = 0 ∨ (1 ≤ I ∧ Y ≤ X ∧ X.toNat * Y.toNat * 2 ^ (I - 1).toNat < 2 ^ 128)
theorem Pot.next {I X Y : Int} (h : Pot I X Y) (hI : 0 ≤ I) (hX : 0 ≤ X) (hY : 0 < Y) (hX1 : X < 18446744073709551616) (hY1 : Y < 18446744073709551616) : Pot (I + 1) Y (X % Y) := by
  have hm := Int.emod_lt_of_pos X hY
  have hm0 := Int.emod_nonneg X (show Y ≠ 0 by omega)
  refine .inr ⟨by omega, by omega, ?_⟩
  rw [Int.toNat_emod hX (by omega), show I + 1 - 1 = I by omega]
  rcases h with rfl | ⟨h1, h2, h3⟩
  · rw [show (0 : Int).toNat = 0 from rfl, Nat.pow_zero, Nat.mul_one]
    have : Y.toNat * (X.toNat % Y.toNat) < 18446744073709551616 * 18446744073709551616 := Nat.mul_lt_mul'' (by omega) (Nat.lt_of_le_of_lt (Nat.mod_le _ _) (by omega))
    exact this
  · have h4 := gcd_step_prod X.toNat Y.toNat (by omega) (by omega)
    have e : I.toNat = (I - 1).toNat + 1 := by omega
    rw [e, Nat.pow_succ]
    have h5 : 2 * (Y.toNat * (X.toNat % Y.toNat)) * 2 ^ (I - 1).toNat ≤ X.toNat * Y.toNat * 2 ^ (I - 1).toNat := Nat.mul_le_mul_right _ h4
    rw [Nat.mul_comm (2 ^ (I - 1).toNat) 2, ← Nat.mul_assoc, Nat.mul_comm (Y.toNat * (X.toNat % Y.toNat)) 2]
    exact Nat.lt_of_le_of_lt h5 h3
theorem Pot.fin {I X Y : Int} (h : Pot I X Y) (hI : 200 ≤ I) (hY : 0 ≤ Y) : Y = 0 := by
  rcases h with h | ⟨h1, h2, h3⟩
  · omega
  · by_cases hz : Y = 0
    · exact hz
    · exfalso
      have h4 : 1 * 1 ≤ X.toNat * Y.toNat := Nat.mul_le_mul (by omega) (by omega)
      have h5 : 2 ^ 128 ≤ 2 ^ (I - 1).toNat := Nat.pow_le_pow_right (by omega) (by omega)
      have h6 : 1 * 1 * 2 ^ (I - 1).toNat ≤ X.toNat * Y.toNat * 2 ^ (I - 1).toNat := Nat.mul_le_mul_right _ h4
      omega
end Nm

end Go.Proofs.YtjhkbgdjgiiocaaDoor
namespace Go.Proofs.YtjhkbgdjgiiocaaDoor
set_option maxRecDepth 20000
open Go.RowKit

namespace Nm
theorem tail_data (s : ByteArray) : (s.extract 1 s.size).data.toList = s.data.toList.tail := by
  rw [Lib.extract_data, List.drop_one, List.take_of_length_le (by rw [List.length_tail, ← Lib.size_eq]; exact Nat.le_refl _)]
theorem neg_head {s : ByteArray} (h : 0 < s.size) : neg s.data.toList = true ↔ ((s[0].toNat : Int) == 45) = true := by
  have hb := bytes_head h
  rw [neg, hb, decide_eq_true_eq, beq_iff_eq, Option.some.injEq]
  constructor
  · intro e; rw [e]; rfl
  · intro e; exact UInt8.toNat_inj.1 (by show s[0].toNat = 45; omega)
theorem neg_empty {s : ByteArray} (h : ¬ 0 < s.size) : s.data.toList = [] := List.length_eq_zero_iff.1 (by rw [← Lib.size_eq]; omega)
theorem neg_pos {s : ByteArray} (h : neg s.data.toList = true) : 0 < s.size := by
  rcases Nat.eq_zero_or_pos s.size with e | e
  · have := neg_empty (s := s) (by omega)
    rw [this] at h; cases h
  · exact e
theorem body_tail {l : List UInt8} (h : neg l = true) : body l = l.tail := by rw [body, if_pos h]
theorem dec_rest {l : List UInt8} (h0 : body l ≠ []) (h1 : (body l).head? = some 48 → (body l).length = 1) (h2 : neg l = true → body l ≠ [48]) : dec l = (body l).all isDig := by
  have e1 : (body l).isEmpty = false := by
    cases hb : body l with
    | nil => exact absurd hb h0
    | cons => rfl
  have e2 : (decide ((body l).head? ≠ some 48) || decide ((body l).length = 1)) = true := by
    by_cases h : (body l).head? = some 48
    · simp [h1 h]
    · simp [h]
  have e3 : (neg l && decide (body l = [48])) = false := by
    by_cases h : neg l = true
    · simp [h2 h]
    · simp [h]
  rw [dec, decU, e1, e2, e3]
  simp
theorem dec_lead {l : List UInt8} (h1 : (body l).head? = some 48) (h2 : 1 < (body l).length) : dec l = false := by
  rw [Bool.eq_false_iff]
  intro hd
  have := (decU_parts (dec_parts hd).1).2.2 h1
  omega
theorem dec_pos {s : ByteArray} (h : dec s.data.toList = true) : 0 < s.size := by
  rcases Nat.eq_zero_or_pos s.size with e | e
  · have := neg_empty (s := s) (by omega)
    rw [this] at h; cases h
  · exact e
theorem val_big {r : List UInt8} (h : decU r = true) (hl : 19 < r.length) : 10000000000000000000 ≤ val 0 r := by
  obtain ⟨h1, h2, h3⟩ := decU_parts h
  cases r with
  | nil => exact absurd rfl h1
  | cons c t =>
    rw [List.all_cons, Bool.and_eq_true] at h2
    have hc := (isDig_iff c).1 h2.1
    have hc48 : c.toNat ≠ 48 := by
      intro e
      have := h3 (by rw [List.head?_cons]; exact congrArg some (UInt8.toNat_inj.1 e))
      omega
    rw [val_cons]
    have h4 := val_pow t (0 * 10 + (c.toNat - 48))
    have h5 : 10 ^ 19 ≤ 10 ^ t.length := Nat.pow_le_pow_right (by omega) (by simp at hl; omega)
    have h6 : 1 * 10 ^ t.length ≤ (0 * 10 + (c.toNat - 48)) * 10 ^ t.length := Nat.mul_le_mul_right _ (by omega)
    have h7 : (10 : Nat) ^ 19 = 10000000000000000000 := by decide
    omega
theorem val_take_lt {r : List UInt8} (h : r.all isDig = true) {k : Nat} (hk : k ≤ 18) : val 0 (r.take k) < 1000000000000000000 := by
  have h1 : (r.take k).all isDig = true := by
    rw [List.all_eq_true] at h ⊢
    exact fun x hx => h x (List.mem_of_mem_take hx)
  have h2 := val_lt (r.take k) 0 h1
  have h3 : 10 ^ (r.take k).length ≤ 10 ^ 18 := Nat.pow_le_pow_right (by omega) (by rw [List.length_take]; omega)
  have h4 : (10 : Nat) ^ 18 = 1000000000000000000 := by decide
  omega
theorem val_small {r : List UInt8} (h : r.all isDig = true) (hl : r.length ≤ 19) : val 0 r < 10000000000000000000 := by
  have h2 := val_lt r 0 h
  have h3 : 10 ^ r.length ≤ 10 ^ 19 := Nat.pow_le_pow_right (by omega) hl
  have h4 : (10 : Nat) ^ 19 = 10000000000000000000 := by decide
  omega
end Nm

end Go.Proofs.YtjhkbgdjgiiocaaDoor
namespace Go.Proofs.YtjhkbgdjgiiocaaDoor
set_option maxRecDepth 20000
open Go.RowKit

namespace Nm
/-- What Format's loop keeps: the digits that are still to come, and those that are there. -/
def Wrote (A S : Int) (T : ByteArray) : Prop := Lib.decDigits A.toNat = (if S < 10 then [] else Lib.decDigits (S.toNat / 10)) ++ T.data.toList
def Shr (A S I : Int) : Prop := S.toNat = A.toNat / 10 ^ I.toNat
theorem Wrote.start {A : Int} (hA : 0 ≤ A) : Wrote A A ⟨#[UInt8.ofNat (48 + A % 10).toNat]⟩ := by
  unfold Wrote
  rw [Lib.decDigits]
  by_cases h : A < 10
  · rw [dif_pos (by omega), if_pos h, show (48 + A % 10).toNat = 48 + A.toNat by omega]; rfl
  · rw [dif_neg (by omega), if_neg h, show (48 + A % 10).toNat = 48 + A.toNat % 10 by omega]
theorem Wrote.step {A S : Int} {T : ByteArray} (h : Wrote A S T) (hS : 10 ≤ S) : Wrote A (S / 10) (⟨#[UInt8.ofNat (48 + S / 10 % 10).toNat]⟩ ++ T) := by
  unfold Wrote at h ⊢
  rw [if_neg (by omega)] at h
  have e : Lib.decDigits (S.toNat / 10) = if h : S.toNat / 10 < 10 then [UInt8.ofNat (48 + S.toNat / 10)] else Lib.decDigits (S.toNat / 10 / 10) ++ [UInt8.ofNat (48 + S.toNat / 10 % 10)] := by rw [Lib.decDigits]
  rw [h, e, ByteArray.data_append, Array.toList_append, ← List.append_assoc]
  congr 1
  by_cases h2 : S / 10 < 10
  · rw [dif_pos (by omega), if_pos h2, show (48 + S / 10 % 10).toNat = 48 + S.toNat / 10 by omega]; rfl
  · rw [dif_neg (by omega), if_neg h2, show (48 + S / 10 % 10).toNat = 48 + S.toNat / 10 % 10 by omega, show (S / 10).toNat / 10 = S.toNat / 10 / 10 by omega]
theorem Wrote.fin {A S : Int} {T : ByteArray} (h : Wrote A S T) (hS : S < 10) : T.data.toList = Lib.decDigits A.toNat := by
  unfold Wrote at h
  rw [if_pos hS, List.nil_append] at h
  exact h.symm
theorem Shr.step {A S I : Int} (h : Shr A S I) (hI : 0 ≤ I) : Shr A (S / 10) (I + 1) := by
  unfold Shr at h ⊢
  rw [show (I + 1).toNat = I.toNat + 1 by omega, Nat.pow_succ, ← Nat.div_div_eq_div_mul, ← h]; omega
theorem Shr.fin {A S I : Int} (h : Shr A S I) (hI : 20 ≤ I) (hA : A < 18446744073709551616) : S < 10 := by
  unfold Shr at h
  have h1 : (10 : Nat) ^ 20 ≤ 10 ^ I.toNat := Nat.pow_le_pow_right (by omega) (by omega)
  have h2 : (10 : Nat) ^ 20 = 100000000000000000000 := by decide
  rw [Nat.div_eq_of_lt (by omega)] at h
  omega
end Nm
theorem conv_byte (x : Int) (hx : 0 ≤ x ∧ x ≤ 255) (w : World) :
    (convert 53 9 (.slice (some ⟨w.heap.size, 0, none⟩) 1 1)).run Tryd.prog (w.alloc (.cells #[.int .u8 x] 5)) = .ok (.string ⟨#[UInt8.ofNat x.toNat]⟩) (w.alloc (.cells #[.int .u8 x] 5)) := by
  refine run_convert_bytes_back (P := Tryd.prog) _ 53 9 5 ⟨w.heap.size, 0, none⟩ 1 [UInt8.ofNat x.toNat] Tryd.underlying53 Tryd.underlying5 Tryd.underlying9 ?_
  intro j hj
  have : j = 0 := by simpa using hj
  subst this
  have e : ((UInt8.ofNat x.toNat).toNat : Int) = x := by rw [UInt8.toNat_ofNat']; omega
  simp only [List.getElem_cons_zero, e]
  simp [Addr.add, World.cell?_alloc_new]

theorem ret_str {a b : ByteArray} (h : a = b) : Ending.returned (.string a) = .returned (.string b) := by rw [h]

end Go.Proofs.YtjhkbgdjgiiocaaDoor
namespace Go.Proofs.YtjhkbgdjgiiocaaDoor
set_option maxRecDepth 20000
open Go.RowKit

def minus12 : ByteArray := ⟨#[45, 49, 50]⟩
def zeros7 : ByteArray := ⟨#[48, 48, 55]⟩
theorem aw_par1 : Nm.parV minus12.data.toList = -12 ∧ Nm.parE minus12.data.toList = 0 := by decide
theorem aw_par2 : Nm.parE zeros7.data.toList = 1 := by decide
theorem aw_fmt : (⟨(Lib.itoa (-12)).toArray⟩ : ByteArray) = ⟨#[45, 49, 50]⟩ := by
  have e : Lib.itoa (-12) = [45, 49, 50] := by
    rw [Lib.itoa, if_pos (by decide), show (-12 : Int).natAbs = 12 from rfl, Lib.decDigits, dif_neg (by decide), Lib.decDigits, dif_pos (by decide)]; rfl
  rw [e]
theorem aw_pow : Nm.powV (-2097152) 3 = -9223372036854775808 ∧ Nm.powE (-2097152) 3 = 0 := by decide
theorem aw_gcd : Nm.gcdV 12 (-18) = 6 := by decide
theorem aw_md : Nm.mdQ 7 3 2 = 10 ∧ Nm.mdR 7 3 2 = 1 ∧ Nm.mdE 7 3 2 = 0 := by decide
theorem aw_add : Nm.cv (9223372036854775807 + 1) = 0 ∧ Nm.ce (9223372036854775807 + 1) = 9 := by decide
theorem aw_sub : Nm.cv (-9223372036854775808 - -1) = -9223372036854775807 ∧ Nm.ce (-9223372036854775808 - -1) = 0 := by decide
theorem aw_mul : Nm.cv (-9223372036854775808 * -1) = 0 ∧ Nm.ce (-9223372036854775808 * -1) = 9 := by decide

end Go.Proofs.YtjhkbgdjgiiocaaDoor
