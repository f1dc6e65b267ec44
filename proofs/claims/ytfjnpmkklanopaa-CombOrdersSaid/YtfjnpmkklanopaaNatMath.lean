/- Plain mathematics under layer 3 (nat): digits of a number in a base, the number of a row of digits, how many digits a number has, long division digit by digit. No Go in this text. -/
import Derived.KernelRfl
namespace Go.Proofs.Ytfjnpmkklanopaa.Nt
set_option maxRecDepth 20000
/-- Digit i of x in base B. -/
def dg (B x i : Nat) : Nat := x / B ^ i % B
/-- The number of the first n digits. -/
def vl (B : Nat) (f : Nat → Nat) : Nat → Nat
  | 0 => 0
  | n + 1 => vl B f n + f n * B ^ n
/-- n is how many digits x has. -/
def Len (B x n : Nat) : Prop := x < B ^ n ∧ ∀ m, n = m + 1 → B ^ m ≤ x
def ln (B x : Nat) : Nat := if h : x = 0 ∨ B ≤ 1 then 0 else ln B (x / B) + 1
termination_by x
decreasing_by exact Nat.div_lt_self (by omega) (by omega)
section
variable {B : Nat} {f g : Nat → Nat}
theorem vl_zero : vl B f 0 = 0 := rfl
theorem vl_succ (n : Nat) : vl B f (n + 1) = vl B f n + f n * B ^ n := rfl
theorem vl_congr {n : Nat} (h : ∀ i, i < n → f i = g i) : vl B f n = vl B g n := by
  induction n with
  | zero => rfl
  | succ n ih => rw [vl_succ, vl_succ, ih (fun i hi => h i (by omega)), h n (by omega)]
theorem vl_lt {n : Nat} (h : ∀ i, i < n → f i < B) : vl B f n < B ^ n := by
  induction n with
  | zero => simp [vl_zero]
  | succ n ih =>
    have h1 := ih fun i hi => h i (by omega)
    have h2 : (f n + 1) * B ^ n ≤ B * B ^ n := Nat.mul_le_mul_right _ (h n (by omega))
    rw [vl_succ, Nat.pow_succ, Nat.mul_comm _ B]
    rw [Nat.add_mul, Nat.one_mul] at h2
    omega
theorem vl_more {n m : Nat} (h : n ≤ m) (hz : ∀ i, n ≤ i → i < m → f i = 0) : vl B f m = vl B f n := by
  induction m with
  | zero => obtain rfl : n = 0 := by omega
            rfl
  | succ m ih =>
    by_cases e : n = m + 1
    · rw [e]
    · rw [vl_succ, ih (by omega) (fun i h1 h2 => hz i h1 (by omega)), hz m (by omega) (by omega)]; simp
theorem vl_split (n m : Nat) : vl B f (n + m) = vl B f n + B ^ n * vl B (fun i => f (n + i)) m := by
  induction m with
  | zero => simp [vl_zero]
  | succ m ih =>
    rw [← Nat.add_assoc, vl_succ, ih, vl_succ, Nat.pow_add]
    grind
theorem vl_mono {n m : Nat} (h : n ≤ m) : vl B f n ≤ vl B f m := by
  obtain ⟨k, rfl⟩ := Nat.le.dest h
  rw [vl_split]; exact Nat.le_add_right _ _
theorem vl_top {n : Nat} (h : f n ≠ 0) : B ^ n ≤ vl B f (n + 1) := by
  rw [vl_succ]
  have : 1 * B ^ n ≤ f n * B ^ n := Nat.mul_le_mul_right _ (by omega)
  omega
theorem dg_lt (hB : 0 < B) (x i : Nat) : dg B x i < B := Nat.mod_lt _ hB
theorem dg_ge {x i : Nat} (h : x < B ^ i) : dg B x i = 0 := by
  unfold dg; rw [Nat.div_eq_of_lt h]; exact Nat.zero_mod _
theorem div_split {x i : Nat} : x / B ^ i = x / B ^ (i + 1) * B + dg B x i := by
  unfold dg
  rw [Nat.pow_succ, ← Nat.div_div_eq_div_mul]
  exact (Nat.div_add_mod' _ _).symm
theorem vl_dg (x n : Nat) : vl B (dg B x) n + B ^ n * (x / B ^ n) = x := by
  induction n with
  | zero => simp [vl_zero]
  | succ n ih =>
    have h := div_split (B := B) (x := x) (i := n)
    rw [vl_succ]
    rw [h] at ih
    rw [Nat.pow_succ] at *
    grind
theorem vl_dg_all {x n : Nat} (h : x < B ^ n) : vl B (dg B x) n = x := by
  have := vl_dg (B := B) x n
  rw [Nat.div_eq_of_lt h] at this
  simpa using this
theorem vl_div {n : Nat} (h : ∀ i, i < n → f i < B) (k : Nat) (hk : k ≤ n) : vl B f n / B ^ k = vl B (fun i => f (k + i)) (n - k) := by
  obtain ⟨m, rfl⟩ := Nat.le.dest hk
  have hp : vl B f k < B ^ k := vl_lt fun i hi => h i (by omega)
  rw [vl_split, Nat.add_sub_cancel_left, Nat.add_mul_div_left _ _ (by omega), Nat.div_eq_of_lt hp, Nat.zero_add]
theorem dg_vl {n : Nat} (h : ∀ i, i < n → f i < B) {i : Nat} (hi : i < n) : dg B (vl B f n) i = f i := by
  unfold dg
  rw [vl_div h i (by omega), show n - i = 1 + (n - i - 1) by omega, vl_split]
  simp only [vl_succ, vl_zero, Nat.pow_zero, Nat.pow_one]
  rw [Nat.zero_add, Nat.mul_one, Nat.add_zero, Nat.add_mul_mod_self_left]
  exact Nat.mod_eq_of_lt (h i hi)
theorem vl_inj {n : Nat} (hf : ∀ i, i < n → f i < B) (hg : ∀ i, i < n → g i < B) (h : vl B f n = vl B g n) {i : Nat} (hi : i < n) : f i = g i := by
  rw [← dg_vl hf hi, h, dg_vl hg hi]
theorem vl_one (b : Nat) : vl B (fun _ => b) 1 = b := by simp [vl_succ, vl_zero]

/-! ### How many digits -/
theorem Len.uniq {x n m : Nat} (hB : 0 < B) (h : Len B x n) (k : Len B x m) : n = m := by
  rcases Nat.lt_trichotomy n m with hlt | e | hlt
  · obtain ⟨p, hp⟩ : ∃ p, m = p + 1 := ⟨m - 1, by omega⟩
    have h1 := k.2 p hp
    have h2 : B ^ n ≤ B ^ p := Nat.pow_le_pow_right hB (by omega)
    have := h.1; omega
  · exact e
  · obtain ⟨p, hp⟩ : ∃ p, n = p + 1 := ⟨n - 1, by omega⟩
    have h1 := h.2 p hp
    have h2 : B ^ m ≤ B ^ p := Nat.pow_le_pow_right hB (by omega)
    have := k.1; omega
theorem ln_len (hB : 1 < B) (x : Nat) : Len B x (ln B x) := by
  induction x using Nat.strongRecOn with
  | ind x ih =>
    rw [ln]
    split
    · rename_i h
      obtain rfl : x = 0 := by omega
      exact ⟨by simp, fun m hm => absurd hm (by omega)⟩
    · rename_i h
      obtain ⟨h1, h2⟩ := ih (x / B) (Nat.div_lt_self (by omega) hB)
      refine ⟨?_, fun m hm => ?_⟩
      · rw [Nat.pow_succ]; exact (Nat.div_lt_iff_lt_mul (by omega)).1 h1
      · obtain rfl : ln B (x / B) = m := by omega
        rcases Nat.eq_zero_or_pos (ln B (x / B)) with e | e
        · rw [e]; simp; omega
        · obtain ⟨p, hp⟩ : ∃ p, ln B (x / B) = p + 1 := ⟨ln B (x / B) - 1, by omega⟩
          have := h2 p hp
          rw [hp, Nat.pow_succ]
          exact (Nat.le_div_iff_mul_le (by omega)).1 this
theorem Len.eq {x n : Nat} (hB : 1 < B) (h : Len B x n) : ln B x = n := (ln_len hB x).uniq (by omega) h
theorem ln_zero : ln B 0 = 0 := by rw [ln, dif_pos (by simp)]
theorem ln_pos (hB : 1 < B) {x : Nat} (h : x ≠ 0) : 0 < ln B x := by
  rcases Nat.eq_zero_or_pos (ln B x) with e | e
  · have := (ln_len hB x).1; rw [e] at this; simp at this; omega
  · exact e
theorem ln_zero_iff (hB : 1 < B) {x : Nat} : ln B x = 0 ↔ x = 0 := ⟨fun h => by
  rcases Nat.eq_zero_or_pos x with e | e
  · exact e
  · have := ln_pos hB (x := x) (by omega); omega, fun h => by rw [h, ln_zero]⟩
theorem ln_lt (hB : 1 < B) (x : Nat) : x < B ^ ln B x := (ln_len hB x).1
theorem ln_le_iff (hB : 1 < B) {x n : Nat} : ln B x ≤ n ↔ x < B ^ n := by
  refine ⟨fun h => Nat.lt_of_lt_of_le (ln_lt hB x) (Nat.pow_le_pow_right (by omega) h), fun h => ?_⟩
  rcases Nat.lt_or_ge n (ln B x) with hlt | hge
  · obtain ⟨p, hp⟩ : ∃ p, ln B x = p + 1 := ⟨ln B x - 1, by omega⟩
    have h1 := (ln_len hB x).2 p hp
    have h2 : B ^ n ≤ B ^ p := Nat.pow_le_pow_right (by omega) (by omega)
    omega
  · exact hge
theorem ln_top (hB : 1 < B) {x n : Nat} (h : ln B x = n + 1) : B ^ n ≤ x := (ln_len hB x).2 n h
theorem ln_mono (hB : 1 < B) {x y : Nat} (h : x ≤ y) : ln B x ≤ ln B y := (ln_le_iff hB).2 (Nat.lt_of_le_of_lt h (ln_lt hB y))
theorem dg_top (hB : 1 < B) {x n : Nat} (h : ln B x = n + 1) : dg B x n ≠ 0 := by
  have h1 := ln_top hB h
  have h2 := ln_lt hB x
  rw [h, Nat.pow_succ] at h2
  unfold dg
  have h3 : 1 ≤ x / B ^ n := (Nat.le_div_iff_mul_le (Nat.pow_pos (by omega))).2 (by omega)
  have h4 : x / B ^ n < B := (Nat.div_lt_iff_lt_mul (Nat.pow_pos (by omega))).2 (by rw [Nat.mul_comm]; exact h2)
  rw [Nat.mod_eq_of_lt h4]; omega
theorem dg_out (hB : 1 < B) {x i : Nat} (h : ln B x ≤ i) : dg B x i = 0 := dg_ge ((ln_le_iff hB).1 h)
/-- A row of digits whose last one is not 0 is the number's. -/
theorem ln_vl (hB : 1 < B) {n : Nat} (h : ∀ i, i < n → f i < B) (ht : ∀ m, n = m + 1 → f m ≠ 0) : ln B (vl B f n) = n :=
  Len.eq hB ⟨vl_lt h, fun m hm => by subst hm; exact vl_top (ht m rfl)⟩
/-- Taking a zero off at the end changes nothing. -/
theorem vl_drop {n : Nat} (h : f n = 0) : vl B f (n + 1) = vl B f n := by rw [vl_succ, h]; simp
/-! ### Order -/
theorem lt_of_ln (hB : 1 < B) {x y : Nat} (h : ln B x < ln B y) : x < y := by
  rcases Nat.lt_or_ge x y with h1 | h1
  · exact h1
  · have := ln_mono hB h1; omega
theorem lt_of_dg {x y i : Nat} (h : x / B ^ (i + 1) = y / B ^ (i + 1)) (hd : dg B x i < dg B y i) : x < y := by
  rcases Nat.lt_or_ge x y with h1 | h1
  · exact h1
  · have h2 : y / B ^ i ≤ x / B ^ i := Nat.div_le_div_right h1
    rw [div_split, div_split (x := x), h] at h2
    omega
theorem div_step {x y i : Nat} (h : x / B ^ (i + 1) = y / B ^ (i + 1)) (hd : dg B x i = dg B y i) : x / B ^ i = y / B ^ i := by
  rw [div_split, div_split (x := y), h, hd]

/-! ### Carries -/
/-- One digit of a row, with what is carried into it. -/
theorem carry_step {B P t V c : Nat} (h : V = c * P + t) (x : Nat) : V + x * P = ((x + c) / B) * (P * B) + ((x + c) % B * P + t) := by
  have e := Nat.div_add_mod' (x + c) B
  have e2 : (x + c) * P = ((x + c) / B * B + (x + c) % B) * P := by rw [e]
  grind
end

/-! ### One digit of a quotient -/
section
variable {B l b d : Nat}
/-- The estimate of a digit by the last limbs: X of the dividend, v of the divisor, P what is left out. -/
theorem est_lo {X v P l' b' : Nat} (hl : l = X * P + l') (hb : b = v * P + b') (hl' : l' < P) (hv : 0 < v) : l / b ≤ X / v := by
  have hP : 0 < P := by omega
  refine (Nat.le_div_iff_mul_le hv).2 ?_
  have h1 : l / b * b ≤ l := Nat.div_mul_le_self _ _
  have h2 : l / b * v * P ≤ l / b * b := by
    rw [Nat.mul_assoc]; exact Nat.mul_le_mul_left _ (by omega)
  have h3 : l / b * v * P < (X + 1) * P := by rw [Nat.add_mul]; omega
  have := Nat.lt_of_mul_lt_mul_right h3
  omega
theorem est_hi {X v P l' b' : Nat} (hl : l = X * P + l') (hb : b = v * P + b') (hb' : b' < P) (hv : B ≤ v) (hB : 0 < B) (hd : d ≤ X / v) (hd2 : d < B) : d ≤ l / b + 1 := by
  rcases Nat.lt_or_ge (l / b + 1) d with h | h
  · exfalso
    have hP : 0 < P := by omega
    have hvp : B * P ≤ v * P := Nat.mul_le_mul_right _ hv
    have hB2 : 0 < B * P := Nat.mul_pos hB hP
    have hbp : 0 < b := by omega
    have h1 : l < (l / b + 1) * b := by rw [Nat.mul_comm]; exact Nat.lt_mul_div_succ l hbp
    have h2 : d * v ≤ X := by
      have := Nat.div_mul_le_self X v
      have := Nat.mul_le_mul_right v hd
      omega
    have h3 : d * v * P ≤ X * P := Nat.mul_le_mul_right _ h2
    obtain ⟨k, rfl⟩ : ∃ k, d = l / b + 1 + (k + 1) := ⟨d - (l / b + 1) - 1, by omega⟩
    have h4 : (l / b + 1 + (k + 1)) * b' ≤ B * b' := Nat.mul_le_mul_right _ (by omega)
    have h5 : B * b' + B ≤ B * P := by
      have := Nat.mul_le_mul_left B (show b' + 1 ≤ P by omega)
      rw [Nat.mul_add] at this; omega
    have h6 : (l / b + 1 + (k + 1)) * b = (l / b + 1 + (k + 1)) * v * P + (l / b + 1 + (k + 1)) * b' := by
      rw [Nat.mul_assoc, ← Nat.mul_add, ← hb]
    have h7 : (l / b + 1 + (k + 1)) * b = (l / b + 1) * b + (k + 1) * b := Nat.add_mul _ _ _
    have h8 : b ≤ (k + 1) * b := Nat.le_mul_of_pos_left _ (by omega)
    omega
  · exact h
/-- The trial digit was not too great: what is left is the remainder, and what is owed is the dividend's last limb. -/
theorem red_ok {P lo ln d N o : Nat} (h : N + d * b = lo + o * P) (hl : l = lo + ln * P) (ho : ¬ ln < o) (hd : l / b ≤ d) (hb : 0 < b) (hbP : b ≤ P) : N = l % b ∧ d = l / b := by
  have e := Nat.div_add_mod' l b
  have hr := Nat.mod_lt l hb
  have ho2 : o * P ≤ ln * P := Nat.mul_le_mul_right _ (by omega)
  have h1 : d * b ≤ l := by omega
  have h2 : d ≤ l / b := (Nat.le_div_iff_mul_le hb).2 h1
  obtain rfl : d = l / b := by omega
  have h3 : l % b + (o * P) = N + ln * P := by omega
  have h4 : o = ln := by
    rcases Nat.lt_or_ge o ln with hlt | hge
    · have := Nat.mul_le_mul_right P (show o + 1 ≤ ln from hlt)
      rw [Nat.add_mul] at this; omega
    · omega
  subst h4
  exact ⟨by omega, rfl⟩
/-- The trial digit was one too great. -/
theorem red_back {P lo ln d N o N' c : Nat} (h : N + d * b = lo + o * P) (hN : N < P) (hl : l = lo + ln * P) (ho : ln < o) (hd : d ≤ l / b + 1) (hb : 0 < b) (hbP : b ≤ P)
    (h2 : N' + c * P = N + b) (hN' : N' < P) : N' = l % b ∧ d = l / b + 1 := by
  have e := Nat.div_add_mod' l b
  have hr := Nat.mod_lt l hb
  have ho2 : (ln + 1) * P ≤ o * P := Nat.mul_le_mul_right _ ho
  rw [Nat.add_mul, Nat.one_mul] at ho2
  have h1 : l < d * b := by omega
  have h3 : l / b < d := (Nat.div_lt_iff_lt_mul hb).2 h1
  obtain rfl : d = l / b + 1 := by omega
  rw [Nat.add_mul, Nat.one_mul] at h
  have h4 : N' + c * P + ln * P = l % b + o * P := by omega
  have h5 : N' + (c + ln) * P = l % b + o * P := by rw [Nat.add_mul]; omega
  have h6 : c + ln = o := by
    rcases Nat.lt_trichotomy (c + ln) o with hlt | hh | hlt
    · have := Nat.mul_le_mul_right P (show c + ln + 1 ≤ o from hlt)
      rw [Nat.add_mul] at this; omega
    · exact hh
    · have := Nat.mul_le_mul_right P (show o + 1 ≤ c + ln from hlt)
      rw [Nat.add_mul] at this; omega
  rw [h6] at h5
  exact ⟨by omega, rfl⟩
end
end Go.Proofs.Ytfjnpmkklanopaa.Nt
