/- The binary encoding, plain mathematics: varints, zigzag codes, what reading from a list of bytes answers. -/
import Derived.Test.YtdleleanaihcoaaNumMath
namespace Go.Proofs.Ytdleleanaihcoaa
set_option maxRecDepth 20000
set_option linter.unusedVariables false
set_option linter.unusedSimpArgs false
namespace Wr
def b8 (n : Nat) : UInt8 := UInt8.ofNat n
theorem b8_nat {n : Nat} (h : n < 256) : (b8 n).toNat = n := by unfold b8; rw [UInt8.toNat_ofNat']; omega
theorem b8_of (c : UInt8) : b8 c.toNat = c := by apply UInt8.toNat_inj.1; rw [b8_nat c.toNat_lt]
/-- A varint. -/
def enc (x : Nat) : List UInt8 := if x < 128 then [b8 x] else b8 (x % 128 + 128) :: enc (x / 128)
termination_by x
decreasing_by omega
theorem enc_small {x : Nat} (h : x < 128) : enc x = [b8 x] := by rw [enc, if_pos h]
theorem enc_big {x : Nat} (h : ¬ x < 128) : enc x = b8 (x % 128 + 128) :: enc (x / 128) := by rw [enc, if_neg h]
theorem enc_pos (x : Nat) : 0 < (enc x).length := by
  by_cases h : x < 128
  · rw [enc_small h]; exact Nat.one_pos
  · rw [enc_big h, List.length_cons]; omega
theorem enc_len : ∀ (k x : Nat), x < 128 ^ (k + 1) → (enc x).length ≤ k + 1
  | 0, x, h => by rw [enc_small (by omega)]; exact Nat.le_refl _
  | k + 1, x, h => by
    by_cases hx : x < 128
    · rw [enc_small hx, List.length_singleton]; omega
    · rw [enc_big hx, List.length_cons]
      have := enc_len k (x / 128) (by rw [Nat.pow_succ] at h; omega)
      omega
theorem enc_ten {x : Nat} (h : x < 18446744073709551616) : (enc x).length ≤ 10 := enc_len 9 x (by
  have : (128 : Nat) ^ (9 + 1) = 1180591620717411303424 := by decide
  omega)
/-- What reading a varint answers, from its byte i on: the value of these bytes, how many they are, and the error. -/
def tk : Nat → List UInt8 → Nat × Nat × Int
  | _, [] => (0, 0, 28)
  | i, c :: t =>
    if i = 9 ∧ 1 < c.toNat then (0, 0, 9)
    else if c.toNat = 0 ∧ 0 < i then (0, 0, 27)
    else if c.toNat < 128 then (c.toNat, 1, 0)
    else if (tk (i + 1) t).2.2 = 0 then (c.toNat % 128 + 128 * (tk (i + 1) t).1, (tk (i + 1) t).2.1 + 1, 0) else (0, 0, (tk (i + 1) t).2.2)
theorem tk_nil (i : Nat) : tk i [] = (0, 0, 28) := rfl
theorem tk_over {i : Nat} {c : UInt8} {t : List UInt8} (h : i = 9 ∧ 1 < c.toNat) : tk i (c :: t) = (0, 0, 9) := by rw [tk, if_pos h]
theorem tk_zero {i : Nat} {c : UInt8} {t : List UInt8} (h : ¬ (i = 9 ∧ 1 < c.toNat)) (h' : c.toNat = 0 ∧ 0 < i) : tk i (c :: t) = (0, 0, 27) := by rw [tk, if_neg h, if_pos h']
theorem tk_last {i : Nat} {c : UInt8} {t : List UInt8} (h : ¬ (i = 9 ∧ 1 < c.toNat)) (h' : ¬ (c.toNat = 0 ∧ 0 < i)) (h2 : c.toNat < 128) : tk i (c :: t) = (c.toNat, 1, 0) := by rw [tk, if_neg h, if_neg h', if_pos h2]
theorem tk_more {i : Nat} {c : UInt8} {t : List UInt8} (h : i ≠ 9) (h2 : 128 ≤ c.toNat) :
    tk i (c :: t) = if (tk (i + 1) t).2.2 = 0 then (c.toNat % 128 + 128 * (tk (i + 1) t).1, (tk (i + 1) t).2.1 + 1, 0) else (0, 0, (tk (i + 1) t).2.2) := by
  rw [tk, if_neg (fun e => h e.1), if_neg (by omega), if_neg (by omega)]
/-- The largest number that bytes from i on can have: 2 ^ (64 - 7 i). -/
def lim (i : Nat) : Nat := 2 ^ (64 - 7 * i)
theorem lim_zero : lim 0 = 18446744073709551616 := by decide
theorem lim_nine : lim 9 = 2 := by decide
theorem lim_succ {i : Nat} (h : i < 9) : lim i = 128 * lim (i + 1) := by
  unfold lim
  rw [show 64 - 7 * i = (64 - 7 * (i + 1)) + 7 by omega, Nat.pow_add]
  omega
theorem tk_enc : ∀ (i x : Nat) (t : List UInt8), i ≤ 9 → x < lim i → (0 < i → 0 < x) → tk i (enc x ++ t) = (x, (enc x).length, 0) := by
  intro i x
  induction x using Nat.strongRecOn generalizing i with
  | _ x ih =>
    intro t hi hx h0
    by_cases h : x < 128
    · rw [enc_small h]
      have hb := b8_nat (n := x) (by omega)
      show tk i (b8 x :: t) = _
      rw [tk_last (by
        rintro ⟨rfl, h1⟩
        rw [lim_nine] at hx
        rw [hb] at h1
        omega) (by rw [hb]; intro ⟨h1, h2⟩; have := h0 h2; omega) (by rw [hb]; exact h), hb]
      rfl
    · have h9 : i ≠ 9 := by
        rintro rfl
        rw [lim_nine] at hx; omega
      rw [enc_big h]
      have hb := b8_nat (n := x % 128 + 128) (by omega)
      show tk i (b8 (x % 128 + 128) :: (enc (x / 128) ++ t)) = _
      have hl := lim_succ (i := i) (by omega)
      rw [tk_more h9 (by rw [hb]; omega), ih (x / 128) (by omega) (i + 1) t (by omega) (by omega) (fun _ => by omega), hb]
      show (if (0 : Int) = 0 then _ else _) = _
      rw [if_pos rfl, List.length_cons]
      show (_, _, _) = _
      congr 1
      omega
/-- What was read without an error is the varint of its value. -/
theorem tk_once : ∀ (i : Nat) (L : List UInt8) (x n : Nat), i ≤ 9 → tk i L = (x, n, 0) → x < lim i ∧ (0 < i → 0 < x) ∧ n ≤ L.length ∧ 0 < n ∧ L.take n = enc x
  | i, [], x, n, _, h => by rw [tk_nil] at h; injection h with _ h; injection h with _ h; exact absurd h (by decide)
  | i, c :: t, x, n, hi, h => by
    have hc := c.toNat_lt
    by_cases h1 : i = 9 ∧ 1 < c.toNat
    · rw [tk_over h1] at h; injection h with _ h; injection h with _ h; exact absurd h (by decide)
    by_cases h2 : c.toNat = 0 ∧ 0 < i
    · rw [tk_zero h1 h2] at h; injection h with _ h; injection h with _ h; exact absurd h (by decide)
    by_cases h3 : c.toNat < 128
    · rw [tk_last h1 h2 h3] at h
      injection h with ha h; injection h with hb _
      subst ha hb
      refine ⟨?_, by omega, by rw [List.length_cons]; omega, by omega, ?_⟩
      · rcases Nat.lt_or_ge i 9 with h9 | h9
        · have := lim_succ h9
          have h5 : 0 < lim (i + 1) := Nat.pow_pos (by omega)
          omega
        · obtain rfl : i = 9 := by omega
          rw [lim_nine]; omega
      · rw [enc_small h3, b8_of]; rfl
    · have h9 : i ≠ 9 := by rintro rfl; exact h1 ⟨rfl, by omega⟩
      rw [tk_more h9 (by omega)] at h
      by_cases he : (tk (i + 1) t).2.2 = 0
      · rw [if_pos he] at h
        injection h with ha h; injection h with hb _
        obtain ⟨g1, g2, g3, g4, g5⟩ := tk_once (i + 1) t (tk (i + 1) t).1 (tk (i + 1) t).2.1 (by omega) (by rw [← he])
        have hp := g2 (by omega)
        have hl := lim_succ (i := i) (by omega)
        subst ha hb
        refine ⟨by omega, by omega, by rw [List.length_cons]; omega, by omega, ?_⟩
        rw [List.take_succ_cons, g5, enc_big (x := c.toNat % 128 + 128 * (tk (i + 1) t).1) (by omega)]
        have e1 : (c.toNat % 128 + 128 * (tk (i + 1) t).1) / 128 = (tk (i + 1) t).1 := by omega
        have e2 : (c.toNat % 128 + 128 * (tk (i + 1) t).1) % 128 + 128 = c.toNat := by omega
        rw [e1, e2, b8_of]
      · rw [if_neg he] at h
        injection h with _ h; injection h with _ h
        exact absurd h he
theorem tk_err : ∀ (i : Nat) (L : List UInt8), (tk i L).2.2 = 0 ∨ (tk i L = (0, 0, (tk i L).2.2) ∧ ((tk i L).2.2 = 28 ∨ (tk i L).2.2 = 9 ∨ (tk i L).2.2 = 27))
  | i, [] => .inr ⟨rfl, .inl rfl⟩
  | i, c :: t => by
    by_cases h1 : i = 9 ∧ 1 < c.toNat
    · rw [tk_over h1]; exact .inr ⟨rfl, .inr (.inl rfl)⟩
    by_cases h2 : c.toNat = 0 ∧ 0 < i
    · rw [tk_zero h1 h2]; exact .inr ⟨rfl, .inr (.inr rfl)⟩
    by_cases h3 : c.toNat < 128
    · rw [tk_last h1 h2 h3]; exact .inl rfl
    by_cases h9 : i = 9
    · exact absurd ⟨h9, by omega⟩ h1
    rw [tk_more h9 (by omega)]
    rcases tk_err (i + 1) t with h | ⟨h, h'⟩
    · rw [if_pos h]; exact .inl rfl
    · have hne : (tk (i + 1) t).2.2 ≠ 0 := by rcases h' with h' | h' | h' <;> rw [h'] <;> decide
      rw [if_neg hne]
      exact .inr ⟨rfl, h'⟩
/-- So far X was read of i bytes; T is what the bytes behind them read as. -/
def join (i X : Nat) (T : Nat × Nat × Int) : Nat × Nat × Int := if T.2.2 = 0 then (X + 128 ^ i * T.1, i + T.2.1, 0) else (0, 0, T.2.2)
theorem join_start (L : List UInt8) : tk 0 L = join 0 0 (tk 0 L) := by
  unfold join
  rcases tk_err 0 L with h | ⟨h, h'⟩
  · rw [if_pos h, Nat.pow_zero, Nat.one_mul, Nat.zero_add, Nat.zero_add, ← h]
  · rw [if_neg (by rcases h' with h' | h' | h' <;> rw [h'] <;> decide)]; exact h
theorem join_more {i X : Nat} {c : UInt8} {t : List UInt8} (h9 : i ≠ 9) (h2 : 128 ≤ c.toNat) : join i X (tk i (c :: t)) = join (i + 1) (X + c.toNat % 128 * 128 ^ i) (tk (i + 1) t) := by
  rw [tk_more h9 h2]
  unfold join
  rcases tk_err (i + 1) t with h | ⟨h, h'⟩
  · rw [if_pos h, if_pos h]
    show (if (0 : Int) = 0 then _ else _) = _
    rw [if_pos rfl]
    show (X + 128 ^ i * (c.toNat % 128 + 128 * _), i + (_ + 1), (0 : Int)) = _
    have e : 128 ^ i * (c.toNat % 128 + 128 * (tk (i + 1) t).1) = c.toNat % 128 * 128 ^ i + 128 ^ (i + 1) * (tk (i + 1) t).1 := by
      rw [Nat.mul_add, Nat.mul_comm (128 ^ i) (c.toNat % 128), ← Nat.mul_assoc, ← Nat.pow_succ]
    rw [e, Nat.add_assoc, show i + ((tk (i + 1) t).2.1 + 1) = i + 1 + (tk (i + 1) t).2.1 by omega]
  · have hn : (tk (i + 1) t).2.2 ≠ 0 := by rcases h' with h' | h' | h' <;> rw [h'] <;> decide
    rw [if_neg hn, if_neg hn, if_neg hn]
theorem join_err {i X : Nat} {e : Int} (h : e ≠ 0) : join i X (0, 0, e) = (0, 0, e) := if_neg h
theorem join_ok {i X v n : Nat} : join i X (v, n, 0) = (X + 128 ^ i * v, i + n, 0) := if_pos rfl
/-! ### Zigzag codes -/
def zz (x : Int) : Nat := if x < 0 then 2 * (-(x + 1)).toNat + 1 else 2 * x.toNat
def sg (u : Nat) : Int := if u % 2 = 1 then -((u / 2 : Nat) : Int) - 1 else ((u / 2 : Nat) : Int)
theorem sg_zz (x : Int) : sg (zz x) = x := by
  unfold zz sg
  split
  · rw [if_pos (by omega)]; omega
  · rw [if_neg (by omega)]; omega
theorem zz_sg (u : Nat) : zz (sg u) = u := by
  unfold sg
  split
  · unfold zz; rw [if_pos (by omega)]; omega
  · unfold zz; rw [if_neg (by omega)]; omega
theorem zz_bd {x : Int} (h0 : -9223372036854775808 ≤ x) (h1 : x ≤ 9223372036854775807) : zz x < 18446744073709551616 := by unfold zz; split <;> omega
theorem sg_bd {u : Nat} (h : u < 18446744073709551616) : -9223372036854775808 ≤ sg u ∧ sg u ≤ 9223372036854775807 := by unfold sg; split <;> omega
/-! ### What is written -/
def encI (x : Int) : List UInt8 := enc (zz x)
def encT (s : List UInt8) : List UInt8 := enc s.length ++ s
def encAll : List Int → List UInt8
  | [] => []
  | x :: t => encI x ++ encAll t
def encL (l : List Int) : List UInt8 := enc l.length ++ encAll l
theorem encAll_app : ∀ (a b : List Int), encAll (a ++ b) = encAll a ++ encAll b
  | [], _ => rfl
  | x :: t, b => by rw [List.cons_append, encAll, encAll_app t b, encAll, List.append_assoc]
theorem encAll_snoc (a : List Int) (x : Int) : encAll (a ++ [x]) = encAll a ++ encI x := by rw [encAll_app]; show _ ++ (_ ++ []) = _; rw [List.append_nil]
/-! ### Reading: the bytes that are left, and the error -/
structure St where
  rest : List UInt8
  err : Int
def rdU (s : St) : Nat × St := if s.err = 0 then (if (tk 0 s.rest).2.2 = 0 then ((tk 0 s.rest).1, ⟨s.rest.drop (tk 0 s.rest).2.1, 0⟩) else (0, ⟨s.rest, (tk 0 s.rest).2.2⟩)) else (0, s)
def rdI (s : St) : Int × St := (sg (rdU s).1, (rdU s).2)
/-- A length of at most most. -/
def rdN (most : Int) (s : St) : Nat × St := if (rdU s).2.err = 0 ∧ max most 0 < ((rdU s).1 : Int) then ((rdU s).1, ⟨(rdU s).2.rest, 3⟩) else rdU s
def rdT (most : Int) (s : St) : List UInt8 × St :=
  if (rdN most s).2.err = 0 then (if (rdN most s).1 ≤ (rdN most s).2.rest.length then ((rdN most s).2.rest.take (rdN most s).1, ⟨(rdN most s).2.rest.drop (rdN most s).1, 0⟩) else ([], ⟨(rdN most s).2.rest, 28⟩)) else ([], (rdN most s).2)
/-- So many elements. -/
def rdE : Nat → St → List Int × St
  | 0, s => ([], s)
  | n + 1, s => if s.err = 0 then ((rdI s).1 :: (rdE n (rdI s).2).1, (rdE n (rdI s).2).2) else ([], s)
def rdL (most : Int) (s : St) : List Int × St := if (rdE (rdN most s).1 (rdN most s).2).2.err = 0 then rdE (rdN most s).1 (rdN most s).2 else ([], (rdE (rdN most s).1 (rdN most s).2).2)
def left (s : St) : Int := if s.err = 0 then (s.rest.length : Nat) else 0
theorem rdU_ok {L : List UInt8} {x n : Nat} (h : tk 0 L = (x, n, 0)) : rdU ⟨L, 0⟩ = (x, ⟨L.drop n, 0⟩) := by unfold rdU; rw [if_pos rfl]; show (if (tk 0 L).2.2 = 0 then _ else _) = _; rw [h, if_pos rfl]
theorem rdU_no {L : List UInt8} {e : Int} (h : tk 0 L = (0, 0, e)) (he : e ≠ 0) : rdU ⟨L, 0⟩ = (0, ⟨L, e⟩) := by unfold rdU; rw [if_pos rfl]; show (if (tk 0 L).2.2 = 0 then _ else _) = _; rw [h, if_neg he]
theorem rdU_bad {s : St} (h : s.err ≠ 0) : rdU s = (0, s) := if_neg h
theorem rdU_enc {x : Nat} (h : x < 18446744073709551616) (t : List UInt8) : rdU ⟨enc x ++ t, 0⟩ = (x, ⟨t, 0⟩) := by
  rw [rdU_ok (tk_enc 0 x t (by omega) (by rw [lim_zero]; exact h) (fun e => absurd e (by omega))), List.drop_left]
theorem rdI_enc {x : Int} (h0 : -9223372036854775808 ≤ x) (h1 : x ≤ 9223372036854775807) (t : List UInt8) : rdI ⟨encI x ++ t, 0⟩ = (x, ⟨t, 0⟩) := by
  unfold rdI encI; rw [rdU_enc (zz_bd h0 h1), sg_zz]
theorem rdN_enc {n : Nat} {most : Int} (h : n < 18446744073709551616) (hm : (n : Int) ≤ max most 0) (t : List UInt8) : rdN most ⟨enc n ++ t, 0⟩ = (n, ⟨t, 0⟩) := by
  unfold rdN; rw [rdU_enc h, if_neg (by show ¬ (_ ∧ _ < ((n : Nat) : Int)); omega)]
theorem rdT_enc {s : List UInt8} {most : Int} (h : s.length < 18446744073709551616) (hm : (s.length : Int) ≤ max most 0) (t : List UInt8) : rdT most ⟨encT s ++ t, 0⟩ = (s, ⟨t, 0⟩) := by
  unfold rdT encT
  rw [List.append_assoc, rdN_enc h hm, if_pos rfl]
  show (if s.length ≤ (s ++ t).length then _ else _) = _
  rw [if_pos (by rw [List.length_append]; omega), List.take_left, List.drop_left]
theorem rdE_enc : ∀ (l : List Int), (∀ x, x ∈ l → -9223372036854775808 ≤ x ∧ x ≤ 9223372036854775807) → ∀ t : List UInt8, rdE l.length ⟨encAll l ++ t, 0⟩ = (l, ⟨t, 0⟩)
  | [], _, t => rfl
  | x :: l, h, t => by
    have hx := h x List.mem_cons_self
    rw [List.length_cons, rdE, if_pos rfl, encAll, List.append_assoc, rdI_enc hx.1 hx.2, rdE_enc l (fun y hy => h y (List.mem_cons_of_mem _ hy))]
theorem rdL_enc {l : List Int} {most : Int} (h : l.length < 18446744073709551616) (hm : (l.length : Int) ≤ max most 0) (hb : ∀ x, x ∈ l → -9223372036854775808 ≤ x ∧ x ≤ 9223372036854775807) (t : List UInt8) : rdL most ⟨encL l ++ t, 0⟩ = (l, ⟨t, 0⟩) := by
  unfold rdL encL
  rw [List.append_assoc, rdN_enc h hm, rdE_enc l hb, if_pos rfl]
/-! ### What was read is what a writer writes -/
theorem rdU_once {s : St} (h0 : s.err = 0) (h : (rdU s).2.err = 0) : (rdU s).1 < 18446744073709551616 ∧ s.rest = enc (rdU s).1 ++ (rdU s).2.rest := by
  obtain ⟨L, e⟩ := s
  obtain rfl : e = 0 := h0
  rcases tk_err 0 L with he | ⟨he, hne⟩
  · have ht : tk 0 L = ((tk 0 L).1, (tk 0 L).2.1, 0) := by rw [← he]
    obtain ⟨g1, -, g3, -, g5⟩ := tk_once 0 L _ _ (by omega) ht
    rw [rdU_ok ht]
    rw [lim_zero] at g1
    exact ⟨g1, by show L = _ ++ L.drop _; rw [← g5, List.take_append_drop]⟩
  · have hn0 : (tk 0 L).2.2 ≠ 0 := by rcases hne with h' | h' | h' <;> rw [h'] <;> decide
    rw [rdU_no he hn0] at h
    exact absurd h hn0
theorem rdU_keep {s : St} (h : (rdU s).2.err = 0) : s.err = 0 := by
  rcases Decidable.em (s.err = 0) with h1 | h1
  · exact h1
  · rw [rdU_bad h1] at h; exact h
theorem rdI_once {s : St} (h0 : s.err = 0) (h : (rdI s).2.err = 0) : s.rest = encI (rdI s).1 ++ (rdI s).2.rest := by
  obtain ⟨_, g⟩ := rdU_once h0 h
  unfold rdI encI
  rw [zz_sg]; exact g
theorem rdN_once {most : Int} {s : St} (h0 : s.err = 0) (h : (rdN most s).2.err = 0) : rdN most s = rdU s ∧ (rdU s).2.err = 0 := by
  unfold rdN at h ⊢
  split at h
  · exact absurd h (show ¬ (3 : Int) = 0 by decide)
  · rename_i hc
    rw [if_neg hc]
    exact ⟨rfl, h⟩
theorem rdT_once {most : Int} {s : St} (h0 : s.err = 0) (h : (rdT most s).2.err = 0) : s.rest = encT (rdT most s).1 ++ (rdT most s).2.rest := by
  unfold rdT at h ⊢
  by_cases hn : (rdN most s).2.err = 0
  · rw [if_pos hn] at h ⊢
    obtain ⟨e, hu⟩ := rdN_once h0 hn
    rw [e] at h ⊢
    by_cases hl : (rdU s).1 ≤ (rdU s).2.rest.length
    · rw [if_pos hl]
      obtain ⟨_, g⟩ := rdU_once h0 hu
      show s.rest = encT ((rdU s).2.rest.take _) ++ (rdU s).2.rest.drop _
      unfold encT
      rw [List.length_take, Nat.min_eq_left hl, List.append_assoc, List.take_append_drop]; exact g
    · rw [if_neg hl] at h; exact absurd h (show ¬ (28 : Int) = 0 by decide)
  · rw [if_neg hn] at h; exact absurd h hn
theorem rdE_once : ∀ (n : Nat) {s : St}, s.err = 0 → (rdE n s).2.err = 0 → (rdE n s).1.length = n ∧ s.rest = encAll (rdE n s).1 ++ (rdE n s).2.rest
  | 0, s, _, _ => ⟨rfl, rfl⟩
  | n + 1, s, h0, h => by
    rw [rdE, if_pos h0] at h ⊢
    have h1 : (rdI s).2.err = 0 := by
      rcases Decidable.em ((rdI s).2.err = 0) with h1 | h1
      · exact h1
      · exfalso
        cases n with
        | zero => exact h1 h
        | succ n =>
          rw [rdE, if_neg h1] at h
          exact h1 h
    obtain ⟨g1, g2⟩ := rdE_once n h1 h
    refine ⟨by show (_ :: _).length = _; rw [List.length_cons, g1], ?_⟩
    show s.rest = (encI _ ++ encAll _) ++ _
    rw [List.append_assoc, ← g2]
    exact rdI_once h0 h1
theorem rdL_once {most : Int} {s : St} (h0 : s.err = 0) (h : (rdL most s).2.err = 0) : s.rest = encL (rdL most s).1 ++ (rdL most s).2.rest := by
  unfold rdL at h ⊢
  by_cases he : (rdE (rdN most s).1 (rdN most s).2).2.err = 0
  · rw [if_pos he] at h ⊢
    have hn : (rdN most s).2.err = 0 := by
      rcases Decidable.em ((rdN most s).2.err = 0) with h1 | h1
      · exact h1
      · exfalso
        cases hk : (rdN most s).1 with
        | zero => rw [hk] at he; exact h1 he
        | succ n => rw [hk, rdE, if_neg h1] at he; exact h1 he
    obtain ⟨e, hu⟩ := rdN_once h0 hn
    rw [e] at he ⊢
    obtain ⟨_, g⟩ := rdU_once h0 hu
    obtain ⟨g1, g2⟩ := rdE_once _ hu he
    unfold encL
    rw [g1, List.append_assoc, ← g2]; exact g
  · rw [if_neg he] at h; exact absurd h he
end Wr
end Go.Proofs.Ytdleleanaihcoaa
