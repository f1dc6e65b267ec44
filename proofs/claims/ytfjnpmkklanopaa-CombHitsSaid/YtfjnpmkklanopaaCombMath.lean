/- Binomial coefficients, combinations by rank: plain mathematics. -/
import Derived.Test.YtfjnpmkklanopaaNumMath
namespace Go.Proofs.Ytfjnpmkklanopaa
set_option maxRecDepth 20000
namespace Cb
/-- How many subsets of k elements a set of n elements has. -/
def bin : Nat → Nat → Nat
  | _, 0 => 1
  | 0, _ + 1 => 0
  | n + 1, k + 1 => bin n k + bin n (k + 1)
theorem bin_zero (n : Nat) : bin n 0 = 1 := by cases n <;> rfl
theorem bin_none (k : Nat) : bin 0 (k + 1) = 0 := rfl
theorem bin_succ (n k : Nat) : bin (n + 1) (k + 1) = bin n k + bin n (k + 1) := rfl
theorem bin_gt : ∀ {n k : Nat}, n < k → bin n k = 0
  | 0, k + 1, _ => rfl
  | n + 1, k + 1, h => by rw [bin_succ, bin_gt (n := n) (k := k) (by omega), bin_gt (n := n) (k := k + 1) (by omega)]
  | n, 0, h => absurd h (by omega)
theorem bin_self : ∀ n : Nat, bin n n = 1
  | 0 => rfl
  | n + 1 => by rw [bin_succ, bin_self n, bin_gt (by omega)]
theorem bin_one : ∀ n : Nat, bin n 1 = n
  | 0 => rfl
  | n + 1 => by rw [bin_succ, bin_zero, bin_one n]; omega
theorem bin_pos : ∀ {n k : Nat}, k ≤ n → 0 < bin n k
  | n, 0, _ => by rw [bin_zero]; omega
  | n + 1, k + 1, h => by rw [bin_succ]; have := bin_pos (n := n) (k := k) (by omega); omega
  | 0, k + 1, h => absurd h (by omega)
/-- A coefficient grows with both numbers. -/
theorem bin_up (n k : Nat) : bin n k ≤ bin (n + 1) (k + 1) := by rw [bin_succ]; omega
theorem bin_mono1 (n k : Nat) : bin n k ≤ bin (n + 1) k := by
  cases k with
  | zero => rw [bin_zero, bin_zero]; omega
  | succ k => rw [bin_succ]; omega
theorem bin_le {n m : Nat} (k : Nat) (h : n ≤ m) : bin n k ≤ bin m k := by
  induction m with
  | zero => rw [show n = 0 by omega]; exact Nat.le_refl _
  | succ m ih =>
    rcases Nat.lt_or_ge n (m + 1) with h1 | h1
    · exact Nat.le_trans (ih (by omega)) (bin_mono1 m k)
    · rw [show n = m + 1 by omega]; exact Nat.le_refl _
theorem bin_ups (n k : Nat) : ∀ j, bin n k ≤ bin (n + j) (k + j)
  | 0 => Nat.le_refl _
  | j + 1 => Nat.le_trans (bin_ups n k j) (bin_up _ _)
theorem bin_two : ∀ n k : Nat, bin n k ≤ 2 ^ n
  | 0, 0 => by rw [bin_zero]; omega
  | 0, k + 1 => by rw [bin_none]; omega
  | n + 1, 0 => by rw [bin_zero]; exact Nat.pow_pos (by omega)
  | n + 1, k + 1 => by rw [bin_succ, Nat.pow_succ]; have := bin_two n k; have := bin_two n (k + 1); omega
/-- (k + 1) C(n + 1, k + 1) = (n + 1) C(n, k). -/
theorem bin_absorb : ∀ n k : Nat, (k + 1) * bin (n + 1) (k + 1) = (n + 1) * bin n k
  | 0, 0 => rfl
  | 0, k + 1 => by rw [bin_succ, bin_none, bin_none]; simp
  | n + 1, 0 => by rw [bin_succ, bin_zero, bin_one]; omega
  | n + 1, k + 1 => by
    have h1 := bin_absorb n k
    have h2 := bin_absorb n (k + 1)
    have h3 := bin_succ n k
    rw [bin_succ (n + 1) (k + 1), Nat.mul_add]
    have e1 : (k + 1 + 1) * bin (n + 1) (k + 1) = (k + 1) * bin (n + 1) (k + 1) + bin (n + 1) (k + 1) := by rw [Nat.add_mul (k + 1) 1, Nat.one_mul]
    rw [e1, h1, h2, Nat.add_mul (n + 1) 1, Nat.one_mul, Nat.add_right_comm, ← Nat.mul_add, ← h3]
/-- (k + 1) C(n, k + 1) = (n - k) C(n, k). -/
theorem bin_next (n k : Nat) : (k + 1) * bin n (k + 1) = (n - k) * bin n k := by
  have h1 := bin_absorb n k
  rw [bin_succ, Nat.mul_add, Nat.add_mul n 1, Nat.one_mul] at h1
  rcases Nat.lt_or_ge n k with h | h
  · rw [bin_gt h, bin_gt (show n < k + 1 by omega), Nat.mul_zero, Nat.mul_zero]
  · have e : n * bin n k = (n - k) * bin n k + k * bin n k := by rw [← Nat.add_mul, Nat.sub_add_cancel h]
    rw [e, Nat.add_mul k 1, Nat.one_mul] at h1
    omega
theorem bin_symm : ∀ {n k : Nat}, k ≤ n → bin n k = bin n (n - k)
  | n, 0, _ => by rw [bin_zero, Nat.sub_zero, bin_self]
  | n + 1, k + 1, h => by
    rcases Nat.lt_or_ge k n with h1 | h1
    · have e : n + 1 - (k + 1) = (n - (k + 1)) + 1 := by omega
      rw [bin_succ, e, bin_succ, bin_symm (n := n) (k := k) (by omega), bin_symm (n := n) (k := k + 1) (by omega), show n - k = n - (k + 1) + 1 by omega]
      omega
    · rw [show k = n by omega, bin_self, show n + 1 - (n + 1) = 0 by omega, bin_zero]
  | 0, k + 1, h => absurd h (by omega)
/-- The step of a product: C(m + i + 1, i + 1) is C(m + i, i) (m + i + 1) / (i + 1), without a remainder. -/
theorem bin_step (m i : Nat) : bin (m + i) i * (m + i + 1) / (i + 1) = bin (m + i + 1) (i + 1) := by
  rw [Nat.mul_comm (bin (m + i) i), ← bin_absorb, Nat.mul_comm]
  exact Nat.mul_div_cancel _ (by omega)
theorem bin_step' (n i : Nat) : bin n i * (n - i) / (i + 1) = bin n (i + 1) := by
  rw [Nat.mul_comm (bin n i), ← bin_next, Nat.mul_comm]
  exact Nat.mul_div_cancel _ (by omega)
theorem bin_rest (m i : Nat) : bin (m + i) i * (m + i + 1) % (i + 1) = 0 := by
  rw [Nat.mul_comm (bin (m + i) i), ← bin_absorb]
  exact Nat.mul_mod_right _ _
/-! ### Subsets by hits -/
/-- The sum of f over 0 .. m. -/
def sum (f : Nat → Nat) : Nat → Nat
  | 0 => f 0
  | m + 1 => sum f m + f (m + 1)
theorem sum_congr {f g : Nat → Nat} : ∀ {m : Nat}, (∀ i, i ≤ m → f i = g i) → sum f m = sum g m
  | 0, h => h 0 (by omega)
  | m + 1, h => by rw [sum, sum, sum_congr (fun i hi => h i (by omega)), h (m + 1) (by omega)]
theorem sum_add (f g : Nat → Nat) : ∀ m, sum (fun i => f i + g i) m = sum f m + sum g m
  | 0 => rfl
  | m + 1 => by rw [sum, sum, sum, sum_add f g m]; omega
theorem sum_shift (f : Nat → Nat) : ∀ m, sum f (m + 1) = f 0 + sum (fun i => f (i + 1)) m
  | 0 => rfl
  | m + 1 => by rw [sum, sum_shift f m, sum]; omega
theorem sum_zero : ∀ m, sum (fun _ => 0) m = 0
  | 0 => rfl
  | m + 1 => by rw [sum, sum_zero m]
/-- How many subsets of k of n elements have h in common with d given ones. -/
def hit (n k d h : Nat) : Nat := if h ≤ k then bin d h * bin (n - d) (k - h) else 0
theorem hit_le {n k d h : Nat} (hh : h ≤ k) : hit n k d h = bin d h * bin (n - d) (k - h) := if_pos hh
theorem hit_gt {n k d h : Nat} (hh : k < h) : hit n k d h = 0 := if_neg (by omega)
/-- The identity of Vandermonde. -/
theorem hit_sum (m : Nat) : ∀ d k : Nat, sum (fun h => if h ≤ k then bin d h * bin m (k - h) else 0) d = bin (m + d) k
  | 0, k => by
    show (if 0 ≤ k then bin 0 0 * bin m (k - 0) else 0) = _
    rw [if_pos (by omega), bin_zero, Nat.one_mul, Nat.sub_zero, Nat.add_zero]
  | d + 1, 0 => by
    rw [sum_shift, bin_zero, sum_congr (g := fun _ => 0) (fun i _ => if_neg (by omega)), sum_zero, if_pos (by omega), bin_zero, bin_zero]
  | d + 1, k + 1 => by
    have e : m + (d + 1) = (m + d) + 1 := by omega
    rw [e, bin_succ, ← hit_sum m d k, ← hit_sum m d (k + 1), sum_shift]
    have h1 : sum (fun i => if i + 1 ≤ k + 1 then bin (d + 1) (i + 1) * bin m (k + 1 - (i + 1)) else 0) d = sum (fun h => if h ≤ k then bin d h * bin m (k - h) else 0) d + sum (fun i => if i + 1 ≤ k + 1 then bin d (i + 1) * bin m (k - i) else 0) d := by
      rw [← sum_add]
      refine sum_congr fun i _ => ?_
      by_cases hi : i ≤ k
      · rw [if_pos (by omega), if_pos hi, if_pos (by omega), bin_succ, Nat.add_mul, show k + 1 - (i + 1) = k - i by omega]
      · rw [if_neg (by omega), if_neg hi, if_neg (by omega)]
    have h2 : sum (fun h => if h ≤ k + 1 then bin d h * bin m (k + 1 - h) else 0) d = (if 0 ≤ k + 1 then bin (d + 1) 0 * bin m (k + 1 - 0) else 0) + sum (fun i => if i + 1 ≤ k + 1 then bin d (i + 1) * bin m (k - i) else 0) d := by
      have h3 := sum_shift (fun h => if h ≤ k + 1 then bin d h * bin m (k + 1 - h) else 0) d
      have h4 : sum (fun h => if h ≤ k + 1 then bin d h * bin m (k + 1 - h) else 0) (d + 1) = sum (fun h => if h ≤ k + 1 then bin d h * bin m (k + 1 - h) else 0) d := by
        rw [sum, bin_gt (show d < d + 1 by omega), Nat.zero_mul]; simp
      rw [← h4, h3, if_pos (by omega), if_pos (by omega), bin_zero, bin_zero]
      congr 1
      refine sum_congr fun i _ => ?_
      rw [show k + 1 - (i + 1) = k - i by omega]
    rw [h1, h2]; omega
theorem hits_sum {n k d : Nat} (h : d ≤ n) : sum (hit n k d) d = bin n k := by
  have := hit_sum (n - d) d k
  rw [Nat.sub_add_cancel h] at this
  exact this
/-! ### Combinations by rank -/
/-- Numbers that ascend, above a and up to n. -/
def Asc (n : Nat) : Nat → List Nat → Prop
  | _, [] => True
  | a, x :: t => a < x ∧ x ≤ n ∧ Asc n x t
/-- The rank of the first elements of a combination that has k elements above a. -/
def rks (n : Nat) : Nat → Nat → List Nat → Nat
  | _, _, [] => 0
  | a, k, x :: t => (bin (n - a) k - bin (n + 1 - x) k) + rks n x (k - 1) t
def rk (n a : Nat) (l : List Nat) : Nat := rks n a l.length l
theorem rk_nil (n a : Nat) : rk n a [] = 0 := rfl
theorem rk_cons (n a x : Nat) (t : List Nat) : rk n a (x :: t) = (bin (n - a) (t.length + 1) - bin (n + 1 - x) (t.length + 1)) + rk n x t := rfl
theorem asc_len : ∀ {n a : Nat} {l : List Nat}, Asc n a l → a ≤ n → a + l.length ≤ n
  | n, a, [], _, h => h
  | n, a, x :: t, h, _ => by
    have := asc_len (l := t) h.2.2 h.2.1
    have := h.1
    rw [List.length_cons]; omega
/-- A round of a rank's sum: the combinations that begin with v. -/
theorem bin_round {n a v k : Nat} (h1 : a < v) (h2 : v ≤ n) : (bin (n - a) (k + 1) - bin (n + 1 - v) (k + 1)) + bin (n - v) k = bin (n - a) (k + 1) - bin (n + 1 - (v + 1)) (k + 1) := by
  have e : n + 1 - v = (n - v) + 1 := by omega
  have h3 : bin (n + 1 - v) (k + 1) ≤ bin (n - a) (k + 1) := bin_le _ (by omega)
  rw [e, bin_succ] at h3 ⊢
  rw [show n + 1 - (v + 1) = n - v by omega]
  omega
theorem rk_lt : ∀ {n a : Nat} {l : List Nat}, Asc n a l → a ≤ n → rk n a l < bin (n - a) l.length
  | n, a, [], _, _ => by rw [rk_nil, List.length_nil, bin_zero]; omega
  | n, a, x :: t, h, ha => by
    have h1 := rk_lt (l := t) h.2.2 h.2.1
    rw [rk_cons, List.length_cons]
    have e : n + 1 - x = (n - x) + 1 := by have := h.2.1; omega
    have h2 : bin (n + 1 - x) (t.length + 1) ≤ bin (n - a) (t.length + 1) := bin_le _ (by have := h.1; omega)
    rw [e, bin_succ] at h2 ⊢
    omega
/-- The combination above n - m with k elements and rank r. -/
def unrk (n : Nat) : Nat → Nat → Nat → List Nat
  | 0, _, _ => []
  | _ + 1, 0, _ => []
  | m + 1, k + 1, r => if r < bin m k then (n - m) :: unrk n m k r else unrk n m (k + 1) (r - bin m k)
theorem unrk_zero (n m r : Nat) : unrk n m 0 r = [] := by cases m <;> rfl
theorem unrk_yes {n m k r : Nat} (h : r < bin m k) : unrk n (m + 1) (k + 1) r = (n - m) :: unrk n m k r := if_pos h
theorem unrk_no {n m k r : Nat} (h : ¬ r < bin m k) : unrk n (m + 1) (k + 1) r = unrk n m (k + 1) (r - bin m k) := if_neg h
theorem asc_less : ∀ {n a b : Nat} {l : List Nat}, Asc n b l → a ≤ b → Asc n a l
  | _, _, _, [], _, _ => trivial
  | _, _, _, _ :: _, h, hab => ⟨Nat.lt_of_le_of_lt hab h.1, h.2⟩
theorem rk_down {n a : Nat} {l : List Nat} (hl : l ≠ []) (ha : a < n) (h : Asc n (a + 1) l) : rk n a l = rk n (a + 1) l + bin (n - (a + 1)) (l.length - 1) := by
  cases l with
  | nil => exact absurd rfl hl
  | cons x t =>
    rw [rk_cons, rk_cons, List.length_cons, Nat.add_sub_cancel]
    have e : n - a = (n - (a + 1)) + 1 := by omega
    have h1 : bin (n + 1 - x) (t.length + 1) ≤ bin (n - (a + 1)) (t.length + 1) := bin_le _ (by have := h.1; omega)
    rw [e, bin_succ]
    omega
theorem unrk_spec (n : Nat) : ∀ (m k r : Nat), m ≤ n → r < bin m k → (unrk n m k r).length = k ∧ Asc n (n - m) (unrk n m k r) ∧ rk n (n - m) (unrk n m k r) = r
  | m, 0, r, _, h => by
    rw [bin_zero] at h
    rw [unrk_zero]
    exact ⟨rfl, trivial, by rw [rk_nil]; omega⟩
  | 0, k + 1, r, _, h => by rw [bin_none] at h; omega
  | m + 1, k + 1, r, hm, h => by
    rw [bin_succ] at h
    by_cases hr : r < bin m k
    · obtain ⟨h1, h2, h3⟩ := unrk_spec n m k r (by omega) hr
      rw [unrk_yes hr]
      refine ⟨by rw [List.length_cons, h1], ⟨by omega, by omega, h2⟩, ?_⟩
      rw [rk_cons, h3, h1, show n - (n - (m + 1)) = m + 1 by omega, show n + 1 - (n - m) = m + 1 by omega, Nat.sub_self, Nat.zero_add]
    · obtain ⟨h1, h2, h3⟩ := unrk_spec n m (k + 1) (r - bin m k) (by omega) (by omega)
      rw [unrk_no hr]
      have e : n - m = n - (m + 1) + 1 := by omega
      rw [e] at h2 h3
      refine ⟨h1, asc_less h2 (by omega), ?_⟩
      have hne : unrk n m (k + 1) (r - bin m k) ≠ [] := by intro e; rw [e] at h1; simp at h1
      rw [rk_down hne (by omega) h2, h3, h1, show n - (n - (m + 1) + 1) = m by omega, Nat.add_sub_cancel]
      omega
theorem rk_inj : ∀ {n a : Nat} {l t : List Nat}, a ≤ n → Asc n a l → Asc n a t → l.length = t.length → rk n a l = rk n a t → l = t
  | _, _, [], [], _, _, _, _, _ => rfl
  | _, _, [], _ :: _, _, _, _, h, _ => absurd h (by simp)
  | _, _, _ :: _, [], _, _, _, h, _ => absurd h (by simp)
  | n, a, x :: l, y :: t, ha, hl, ht, hlen, hr => by
    have hlen' : l.length = t.length := by simpa using hlen
    have one : ∀ {x y : Nat} {l t : List Nat}, l.length = t.length → Asc n a (x :: l) → Asc n a (y :: t) → x < y → rk n a (x :: l) < rk n a (y :: t) := by
      intro x y l t hlen hl ht hxy
      rw [rk_cons, rk_cons, hlen]
      have h1 := rk_lt hl.2.2 hl.2.1
      rw [hlen] at h1
      have e : n + 1 - x = (n - x) + 1 := by have := hl.2.1; omega
      have h2 : bin (n + 1 - y) (t.length + 1) ≤ bin (n - x) (t.length + 1) := bin_le _ (by have := ht.2.1; omega)
      have h3 : bin (n - x + 1) (t.length + 1) ≤ bin (n - a) (t.length + 1) := bin_le _ (by have := hl.1; have := hl.2.1; omega)
      rw [e]
      rw [bin_succ] at h3 ⊢
      omega
    rcases Nat.lt_trichotomy x y with h | h | h
    · have := one hlen' hl ht h; omega
    · subst h
      rw [rk_cons, rk_cons, hlen'] at hr
      rw [rk_inj hl.2.1 hl.2.2 ht.2.2 hlen' (by omega)]
    · have := one hlen'.symm ht hl h; omega
/-- The combination with a combination's rank is this combination. -/
theorem unrk_rk {n a : Nat} {l : List Nat} (ha : a ≤ n) (h : Asc n a l) : unrk n (n - a) l.length (rk n a l) = l := by
  obtain ⟨h1, h2, h3⟩ := unrk_spec n (n - a) l.length (rk n a l) (by omega) (rk_lt h ha)
  rw [show n - (n - a) = a by omega] at h2 h3
  exact rk_inj ha h2 h h1 h3
/-! ### The next combination -/
/-- k numbers from a on. -/
def run : Nat → Nat → List Nat
  | _, 0 => []
  | a, k + 1 => a :: run (a + 1) k
theorem run_len : ∀ a k, (run a k).length = k
  | _, 0 => rfl
  | a, k + 1 => by rw [run, List.length_cons, run_len (a + 1) k]
theorem run_asc : ∀ {n a k b : Nat}, b < a → a + k ≤ n + 1 → Asc n b (run a k)
  | _, _, 0, _, _, _ => trivial
  | n, a, k + 1, b, h, hk => ⟨h, by omega, run_asc (by omega) (by omega)⟩
theorem rk_run : ∀ (n a k : Nat), rk n a (run (a + 1) k) = 0
  | _, _, 0 => rfl
  | n, a, k + 1 => by rw [run, rk_cons, rk_run n (a + 1) k, show n + 1 - (a + 1) = n - a by omega, Nat.sub_self]
/-- The next combination of the same length, if there is one. -/
def nxt (n : Nat) : List Nat → Option (List Nat)
  | [] => none
  | x :: t => match nxt n t with
    | some u => some (x :: u)
    | none => if x + t.length < n then some (run (x + 1) (t.length + 1)) else none
theorem nxt_some {n x : Nat} {t u : List Nat} (h : nxt n t = some u) : nxt n (x :: t) = some (x :: u) := by rw [nxt, h]
theorem nxt_here {n x : Nat} {t : List Nat} (h : nxt n t = none) (hx : x + t.length < n) : nxt n (x :: t) = some (run (x + 1) (t.length + 1)) := by rw [nxt, h]; exact if_pos hx
theorem nxt_none {n x : Nat} {t : List Nat} (h : nxt n t = none) (hx : ¬ x + t.length < n) : nxt n (x :: t) = none := by rw [nxt, h]; exact if_neg hx
theorem nxt_spec : ∀ {n a : Nat} {l : List Nat}, a ≤ n → Asc n a l →
    (∀ u, nxt n l = some u → u.length = l.length ∧ Asc n a u ∧ rk n a u = rk n a l + 1) ∧ (nxt n l = none → rk n a l + 1 = bin (n - a) l.length)
  | n, a, [], _, _ => ⟨fun u h => (by cases h), fun _ => by rw [rk_nil, List.length_nil, bin_zero]⟩
  | n, a, x :: t, ha, h => by
    obtain ⟨h1, h2⟩ := nxt_spec (n := n) (a := x) (l := t) h.2.1 h.2.2
    have hl := asc_len h.2.2 h.2.1
    have e : n + 1 - x = (n - x) + 1 := by have := h.2.1; omega
    have h3 : bin (n - x + 1) (t.length + 1) ≤ bin (n - a) (t.length + 1) := bin_le _ (by have := h.1; have := h.2.1; omega)
    cases hn : nxt n t with
    | some u =>
      obtain ⟨u1, u2, u3⟩ := h1 u hn
      refine ⟨fun v hv => ?_, fun hv => ?_⟩
      · rw [nxt_some hn] at hv
        injection hv with hv
        subst hv
        refine ⟨by rw [List.length_cons, List.length_cons, u1], ⟨h.1, h.2.1, u2⟩, ?_⟩
        rw [rk_cons, rk_cons, u1, u3]; omega
      · rw [nxt_some hn] at hv; cases hv
    | none =>
      have h4 := h2 hn
      by_cases hx : x + t.length < n
      · refine ⟨fun v hv => ?_, fun hv => ?_⟩
        · rw [nxt_here hn hx] at hv
          injection hv with hv
          subst hv
          refine ⟨by rw [run_len, List.length_cons], run_asc (by have := h.1; omega) (by omega), ?_⟩
          rw [run, rk_cons, rk_run, run_len, rk_cons, e, show n + 1 - (x + 1) = n - x by omega]
          rw [bin_succ] at h3 ⊢
          omega
        · rw [nxt_here hn hx] at hv; cases hv
      · refine ⟨fun v hv => ?_, fun hv => ?_⟩
        · rw [nxt_none hn hx] at hv; cases hv
        · rw [rk_cons, List.length_cons, e]
          have hb : bin (n - x) (t.length + 1) = 0 := bin_gt (by omega)
          rw [bin_succ] at h3 ⊢
          omega
end Cb
end Go.Proofs.Ytfjnpmkklanopaa
