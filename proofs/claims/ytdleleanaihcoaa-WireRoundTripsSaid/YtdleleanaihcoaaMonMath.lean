/- Plain mathematics under layer 2 (money): no Go in this text. Sums; quotients and remainders of a division by weights; the units that are left go to the greatest remainders. -/
import Derived.Lib.Slices
namespace Go.Proofs.Ytdleleanaihcoaa.Mn
set_option maxRecDepth 20000

def vld (n : Int) : Bool := decide (0 ≤ n ∧ n ≤ 1000000000000)
theorem vld_iff (n : Int) : vld n = true ↔ 0 ≤ n ∧ n ≤ 1000000000000 := by simp [vld]
theorem vld_not {n : Int} (h : n < 0 ∨ 1000000000000 < n) : vld n = false := by
  rw [Bool.eq_false_iff]; intro e; have := (vld_iff n).1 e; omega

def lsum : List Int → Int
  | [] => 0
  | z :: zs => z + lsum zs
theorem lsum_append (a b : List Int) : lsum (a ++ b) = lsum a + lsum b := by
  induction a with
  | nil => simp [lsum]
  | cons z zs ih => simp only [List.cons_append, lsum, ih]; omega
theorem lsum_take (l : List Int) (k : Nat) (h : k < l.length) : lsum (l.take (k + 1)) = lsum (l.take k) + l.getD k 0 := by
  rw [List.take_succ_eq_append_getElem h, lsum_append]
  simp [lsum, List.getD, h]
theorem lsum_set (v : Int) : ∀ (l : List Int) (a : Nat), a < l.length → lsum (l.set a v) = lsum l - l.getD a 0 + v
  | z :: zs, 0, _ => by simp [lsum]; omega
  | z :: zs, a + 1, h => by
    have ih := lsum_set v zs a (by simpa using h)
    simp only [List.set_cons_succ, lsum, ih]
    simp [List.getD]; omega
theorem getD_set (l : List Int) (a i : Nat) (v : Int) (h : a < l.length) : (l.set a v).getD i 0 = if i = a then v else l.getD i 0 := by
  simp only [List.getD, List.getElem?_set]
  by_cases e : a = i
  · subst e; simp [h]
  · have : ¬ i = a := fun x => e x.symm
    simp [e, this]
theorem lsum_nonneg : ∀ (l : List Int), (∀ i, i < l.length → 0 ≤ l.getD i 0) → 0 ≤ lsum l
  | [], _ => by simp [lsum]
  | z :: zs, h => by
    have h0 := h 0 (by simp)
    have ih := lsum_nonneg zs (fun i hi => by simpa using h (i + 1) (by simpa using hi))
    simp [lsum] at h0 ⊢; omega
theorem lsum_le (c : Int) : ∀ (l : List Int), (∀ i, i < l.length → l.getD i 0 ≤ c) → lsum l ≤ c * l.length
  | [], _ => by simp [lsum]
  | z :: zs, h => by
    have h0 := h 0 (by simp)
    have ih := lsum_le c zs (fun i hi => by simpa using h (i + 1) (by simpa using hi))
    have e : c * ((zs.length + 1 : Nat) : Int) = c * zs.length + c := by rw [Int.natCast_add, Int.mul_add]; simp
    simp only [List.length_cons, e, lsum]
    simp at h0; omega
theorem lsum_pos_ex : ∀ (l : List Int), 0 < lsum l → ∃ i, i < l.length ∧ 0 < l.getD i 0
  | [], h => by simp [lsum] at h
  | z :: zs, h => by
    by_cases hz : 0 < z
    · exact ⟨0, by simp, by simpa using hz⟩
    · obtain ⟨i, hi, hp⟩ := lsum_pos_ex zs (by simp [lsum] at h; omega)
      exact ⟨i + 1, by simpa using hi, by simpa using hp⟩

/-! ### The first greatest element -/
/-- The place of the first greatest one of the elements up to k. -/
def amx (R : List Int) : Nat → Nat
  | 0 => 0
  | k + 1 => if R.getD (amx R k) 0 < R.getD (k + 1) 0 then k + 1 else amx R k
def amax (R : List Int) : Nat := amx R (R.length - 1)
theorem amx_le (R : List Int) : ∀ k, amx R k ≤ k
  | 0 => Nat.le_refl _
  | k + 1 => by
    have := amx_le R k
    rw [amx]; split <;> omega
theorem amx_spec (R : List Int) : ∀ k j, j ≤ k → R.getD j 0 ≤ R.getD (amx R k) 0 ∧ (j < amx R k → R.getD j 0 < R.getD (amx R k) 0)
  | 0, j, h => by
    have : j = 0 := by omega
    subst this
    exact ⟨Int.le_refl _, fun h => absurd h (by simp [amx])⟩
  | k + 1, j, h => by
    rw [amx]
    have hk := amx_spec R k
    split
    · rename_i hc
      by_cases e : j = k + 1
      · subst e; exact ⟨Int.le_refl _, fun h => absurd h (by omega)⟩
      · have := (hk j (by omega)).1
        exact ⟨by omega, fun _ => by omega⟩
    · rename_i hc
      by_cases e : j = k + 1
      · subst e
        exact ⟨by omega, fun h => absurd h (by have := amx_le R k; omega)⟩
      · exact hk j (by omega)
theorem amax_lt {R : List Int} (h : 0 < R.length) : amax R < R.length := by
  have := amx_le R (R.length - 1)
  unfold amax; omega
theorem amax_spec {R : List Int} {j : Nat} (h : j < R.length) : R.getD j 0 ≤ R.getD (amax R) 0 ∧ (j < amax R → R.getD j 0 < R.getD (amax R) 0) :=
  amx_spec R _ j (by omega)
/-- What makes it the one. -/
theorem amax_of {R : List Int} {a : Nat} (ha : a < R.length) (h1 : ∀ j, j < R.length → R.getD j 0 ≤ R.getD a 0) (h2 : ∀ j, j < a → R.getD j 0 < R.getD a 0) : amax R = a := by
  have hb := amax_lt (R := R) (by omega)
  rcases Nat.lt_trichotomy (amax R) a with h | h | h
  · have := h2 _ h; have := (amax_spec ha).1; omega
  · exact h
  · have := (amax_spec ha).2 h; have := h1 _ hb; omega

/-! ### The greatest element, as the library's loop finds it -/
def mxo (R : List Int) : Int := R.getD (amax R) 0

/-! ### Units that are given out -/
def step (z : Int) (s : List Int × List Int) : List Int × List Int := (s.1.set (amax s.2) (s.1.getD (amax s.2) 0 + 1), s.2.set (amax s.2) z)
def giv (z : Int) (s : List Int × List Int) : Nat → List Int × List Int
  | 0 => s
  | k + 1 => step z (giv z s k)
theorem giv_len (z : Int) (s : List Int × List Int) : ∀ k, (giv z s k).1.length = s.1.length ∧ (giv z s k).2.length = s.2.length
  | 0 => ⟨rfl, rfl⟩
  | k + 1 => by
    have := giv_len z s k
    simp only [giv, step, List.length_set]; exact this

/-- What is so after k units. -/
structure Inv (q r : List Int) (T L : Int) (k : Nat) (P R : List Int) : Prop where
  lp : P.length = q.length
  lr : R.length = q.length
  one : ∀ i, i < q.length → (R.getD i 0 = r.getD i 0 ∧ P.getD i 0 = q.getD i 0) ∨ (R.getD i 0 = 0 ∧ P.getD i 0 = q.getD i 0 + 1 ∧ 0 < r.getD i 0)
  sr : T * (L - k) ≤ lsum R
  sp : lsum P = lsum q + k
  ord : ∀ i j, i < q.length → j < q.length → P.getD j 0 = q.getD j 0 + 1 → (r.getD j 0 < r.getD i 0 ∨ (r.getD j 0 = r.getD i 0 ∧ i < j)) → P.getD i 0 = q.getD i 0 + 1

section
variable {q r : List Int} {T L : Int}
theorem inv_zero (hlen : r.length = q.length) (hs : lsum r = T * L) : Inv q r T L 0 q r where
  lp := rfl
  lr := hlen
  one := fun i hi => .inl ⟨rfl, rfl⟩
  sr := by rw [hs]; simp
  sp := by simp
  ord := fun i j _ _ h _ => absurd h (by omega)

/-- Where a unit is left, a remainder is left. -/
theorem inv_pos {k : Nat} {P R : List Int} (h : Inv q r T L k P R) (hT : 0 < T) (hk : (k : Int) < L) : amax R < q.length ∧ 0 < R.getD (amax R) 0 := by
  have h1 : T * 1 ≤ T * (L - k) := Int.mul_le_mul_of_nonneg_left (by omega) (by omega)
  have h2 := h.sr
  obtain ⟨i, hi, hp⟩ := lsum_pos_ex R (by omega)
  have h3 := (amax_spec hi).1
  have h4 := amax_lt (R := R) (by omega)
  have h5 := h.lr
  exact ⟨by omega, by omega⟩
theorem inv_step {k : Nat} {P R : List Int} (h : Inv q r T L k P R) (hT : 0 < T) (hk : (k : Int) < L) (hr : ∀ i, i < q.length → r.getD i 0 < T) : Inv q r T L (k + 1) (step 0 (P, R)).1 (step 0 (P, R)).2 := by
  obtain ⟨ha, hp⟩ := inv_pos h hT hk
  have lp := h.lp
  have lr := h.lr
  have haR : R.getD (amax R) 0 = r.getD (amax R) 0 ∧ P.getD (amax R) 0 = q.getD (amax R) 0 := by
    rcases h.one _ ha with h1 | h1
    · exact h1
    · omega
  generalize ea : amax R = a at *
  refine ⟨by simp [step, lp], by simp [step, lr], ?_, ?_, ?_, ?_⟩
  · intro i hi
    simp only [step, ea]
    rw [getD_set _ _ _ _ (by omega), getD_set _ _ _ _ (by omega)]
    by_cases e : i = a
    · subst e
      rw [if_pos rfl, if_pos rfl]
      exact .inr ⟨rfl, by omega, by omega⟩
    · rw [if_neg e, if_neg e]
      exact h.one i hi
  · simp only [step, ea]
    rw [lsum_set _ _ _ (by omega)]
    have h1 := h.sr
    have h2 := hr a ha
    have e : T * (L - ((k + 1 : Nat) : Int)) = T * (L - k) - T := by rw [show L - ((k + 1 : Nat) : Int) = (L - k) - 1 by omega, Int.mul_sub, Int.mul_one]
    rw [e]; omega
  · simp only [step, ea]
    rw [lsum_set _ _ _ (by omega), h.sp]; omega
  · intro i j hi hj
    simp only [step, ea]
    rw [getD_set _ _ _ _ (by omega), getD_set _ _ _ _ (by omega)]
    intro h1 h2
    by_cases ei : i = a
    · rw [if_pos ei, ei]; omega
    · rw [if_neg ei]
      by_cases ej : j = a
      · subst ej
        rcases h.one i hi with h3 | h3
        · exfalso
          have h4 := amax_spec (R := R) (j := i) (by omega)
          rw [ea] at h4
          rcases h2 with h2 | h2
          · omega
          · have := h4.2 h2.2; omega
        · exact h3.2.1
      · rw [if_neg ej] at h1
        exact h.ord i j hi hj h1 h2
theorem inv_giv (hlen : r.length = q.length) (hs : lsum r = T * L) (hT : 0 < T) (hr : ∀ i, i < q.length → r.getD i 0 < T) : ∀ k : Nat, (k : Int) ≤ L → Inv q r T L k (giv 0 (q, r) k).1 (giv 0 (q, r) k).2
  | 0, _ => inv_zero hlen hs
  | k + 1, hk => inv_step (inv_giv hlen hs hT hr k (by omega)) hT (by omega) hr

/-- Remainders that are used up are 0 for the one and -1 for the other. -/
def Twin (R S : List Int) : Prop := S.length = R.length ∧ ∀ i, i < R.length → S.getD i 0 = R.getD i 0 ∨ (R.getD i 0 = 0 ∧ S.getD i 0 = -1)
theorem Twin.refl (R : List Int) : Twin R R := ⟨rfl, fun _ _ => .inl rfl⟩
theorem Twin.amax {R S : List Int} (h : Twin R S) (hl : 0 < R.length) (hp : 0 < R.getD (amax R) 0) : Mn.amax S = Mn.amax R := by
  obtain ⟨h1, h2⟩ := h
  have ha := amax_lt hl
  have eS : S.getD (Mn.amax R) 0 = R.getD (Mn.amax R) 0 := by
    rcases h2 _ ha with e | e
    · exact e
    · omega
  refine amax_of (by omega) (fun j hj => ?_) (fun j hj => ?_)
  · have := (amax_spec (R := R) (j := j) (by omega)).1
    rcases h2 j (by omega) with e | e <;> omega
  · have := (amax_spec (R := R) (j := j) (by omega)).2 hj
    rcases h2 j (by omega) with e | e <;> omega
theorem Twin.set {R S : List Int} (h : Twin R S) {a : Nat} (ha : a < R.length) : Twin (R.set a 0) (S.set a (-1)) := by
  obtain ⟨h1, h2⟩ := h
  refine ⟨by simp [h1], fun i hi => ?_⟩
  rw [List.length_set] at hi
  rw [getD_set _ _ _ _ (by omega), getD_set _ _ _ _ (by omega)]
  by_cases e : i = a
  · rw [if_pos e, if_pos e]; exact .inr ⟨rfl, rfl⟩
  · rw [if_neg e, if_neg e]; exact h2 i hi
theorem giv_twin (hlen : r.length = q.length) (hs : lsum r = T * L) (hT : 0 < T) (hr : ∀ i, i < q.length → r.getD i 0 < T) : ∀ k : Nat, (k : Int) ≤ L → (giv (-1) (q, r) k).1 = (giv 0 (q, r) k).1 ∧ Twin (giv 0 (q, r) k).2 (giv (-1) (q, r) k).2
  | 0, _ => ⟨rfl, Twin.refl _⟩
  | k + 1, hk => by
    obtain ⟨e1, e2⟩ := giv_twin hlen hs hT hr k (by omega)
    have hi := inv_giv hlen hs hT hr k (by omega)
    obtain ⟨ha, hp⟩ := inv_pos hi hT (by omega)
    have lr := hi.lr
    have e3 := e2.amax (by omega) hp
    refine ⟨by simp only [giv, step, e1, e3], ?_⟩
    simp only [giv, step, e3]
    exact e2.set (by omega)
end

/-! ### A division by weights -/
def qs (m T : Int) (ws : List Int) : List Int := ws.map fun w => m * w / T
def rs (m T : Int) (ws : List Int) : List Int := ws.map fun w => m * w % T
theorem qs_getD (m T : Int) (ws : List Int) (i : Nat) (h : i < ws.length) : (qs m T ws).getD i 0 = m * ws.getD i 0 / T := by simp [qs, List.getD, h]
theorem rs_getD (m T : Int) (ws : List Int) (i : Nat) (h : i < ws.length) : (rs m T ws).getD i 0 = m * ws.getD i 0 % T := by simp [rs, List.getD, h]
theorem qr_sum (m T : Int) : ∀ (ws : List Int), T * lsum (qs m T ws) + lsum (rs m T ws) = m * lsum ws
  | [] => by simp [qs, rs, lsum]
  | w :: ws => by
    have ih := qr_sum m T ws
    have h := Int.mul_ediv_add_emod (m * w) T
    simp only [qs, rs, List.map_cons, lsum] at ih ⊢
    rw [Int.mul_add, Int.mul_add, ← ih]; omega
/-- Units that rounding down leaves. -/
def left (m : Int) (ws : List Int) : Int := m - lsum (qs m (lsum ws) ws)
def parts (m : Int) (ws : List Int) : List Int := (giv 0 (qs m (lsum ws) ws, rs m (lsum ws) ws) (left m ws).toNat).1
/-- What stands when Split divides: an amount, weights that are amounts, not all 0. -/
structure Good (m : Int) (ws : List Int) : Prop where
  m0 : 0 ≤ m
  m1 : m ≤ 1000000000000
  w0 : ∀ i, i < ws.length → 0 ≤ ws.getD i 0
  w1 : ∀ i, i < ws.length → ws.getD i 0 ≤ 1000000000000
  n0 : 0 < ws.length
  n1 : ws.length ≤ 64
  t : 0 < lsum ws
section
variable {m : Int} {ws : List Int}
theorem Good.r0 (h : Good m ws) (i : Nat) (hi : i < ws.length) : 0 ≤ (rs m (lsum ws) ws).getD i 0 ∧ (rs m (lsum ws) ws).getD i 0 < lsum ws := by
  rw [rs_getD _ _ _ _ hi]
  have := h.t
  exact ⟨Int.emod_nonneg _ (by omega), Int.emod_lt_of_pos _ this⟩
theorem w_le_sum : ∀ (ws : List Int), (∀ i, i < ws.length → 0 ≤ ws.getD i 0) → ∀ i, i < ws.length → ws.getD i 0 ≤ lsum ws
  | z :: zs, h, 0, _ => by
    have := lsum_nonneg zs (fun i hi => by simpa using h (i + 1) (by simpa using hi))
    simp [lsum]; omega
  | z :: zs, h, i + 1, hi => by
    have h0 := h 0 (by simp)
    have ih := w_le_sum zs (fun i hi => by simpa using h (i + 1) (by simpa using hi)) i (by simpa using hi)
    simp [lsum] at h0 ih ⊢; omega
theorem Good.q0 (h : Good m ws) (i : Nat) (hi : i < ws.length) : 0 ≤ (qs m (lsum ws) ws).getD i 0 ∧ (qs m (lsum ws) ws).getD i 0 ≤ m := by
  rw [qs_getD _ _ _ _ hi]
  have h0 := h.w0 i hi
  have h1 := w_le_sum ws h.w0 i hi
  have hm := h.m0
  have ht := h.t
  constructor
  · exact Int.ediv_nonneg (Int.mul_nonneg hm h0) (by omega)
  · have : m * ws.getD i 0 / lsum ws ≤ m * lsum ws / lsum ws := Int.ediv_le_ediv ht (Int.mul_le_mul_of_nonneg_left h1 hm)
    rwa [Int.mul_ediv_cancel _ (by omega)] at this
theorem Good.sum (_h : Good m ws) : lsum (rs m (lsum ws) ws) = lsum ws * left m ws := by
  have := qr_sum m (lsum ws) ws
  unfold left
  rw [Int.mul_sub, Int.mul_comm (lsum ws) m]; omega
theorem Good.left0 (h : Good m ws) : 0 ≤ left m ws := by
  have h1 := lsum_nonneg (rs m (lsum ws) ws) (fun i hi => (h.r0 i (by simpa [rs] using hi)).1)
  rw [h.sum] at h1
  have ht := h.t
  by_cases hn : 0 ≤ left m ws
  · exact hn
  · have := Int.mul_neg_of_pos_of_neg ht (show left m ws < 0 by omega); omega
theorem Good.left1 (h : Good m ws) : left m ws ≤ ws.length := by
  have h1 := lsum_le (lsum ws) (rs m (lsum ws) ws) (fun i hi => by have := (h.r0 i (by simpa [rs] using hi)).2; omega)
  rw [h.sum] at h1
  have h2 := Int.le_of_mul_le_mul_left h1 h.t
  simpa [rs] using h2
theorem Good.inv (h : Good m ws) (k : Nat) (hk : (k : Int) ≤ left m ws) : Inv (qs m (lsum ws) ws) (rs m (lsum ws) ws) (lsum ws) (left m ws) k (giv 0 (qs m (lsum ws) ws, rs m (lsum ws) ws) k).1 (giv 0 (qs m (lsum ws) ws, rs m (lsum ws) ws) k).2 :=
  inv_giv (by simp [qs, rs]) h.sum h.t (fun i hi => (h.r0 i (by simpa [qs] using hi)).2) k hk
theorem Good.twin (h : Good m ws) (k : Nat) (hk : (k : Int) ≤ left m ws) : (giv (-1) (qs m (lsum ws) ws, rs m (lsum ws) ws) k).1 = (giv 0 (qs m (lsum ws) ws, rs m (lsum ws) ws) k).1 :=
  (giv_twin (by simp [qs, rs]) h.sum h.t (fun i hi => (h.r0 i (by simpa [qs] using hi)).2) k hk).1
theorem Good.fin (h : Good m ws) : Inv (qs m (lsum ws) ws) (rs m (lsum ws) ws) (lsum ws) (left m ws) (left m ws).toNat (parts m ws) (giv 0 (qs m (lsum ws) ws, rs m (lsum ws) ws) (left m ws).toNat).2 :=
  h.inv _ (by have := h.left0; omega)
theorem parts_len (m : Int) (ws : List Int) : (parts m ws).length = ws.length := by
  unfold parts; rw [(giv_len _ _ _).1]; simp [qs]
/-- The parts add up to the amount. -/
theorem Good.parts_sum (h : Good m ws) : lsum (parts m ws) = m := by
  have h1 := h.fin.sp
  have h2 := h.left0
  rw [h1]
  unfold left at h2 ⊢
  omega
/-- Each part is its share, rounded down, or one more where the share is not whole. -/
theorem Good.part (h : Good m ws) (i : Nat) (hi : i < ws.length) : (parts m ws).getD i 0 = m * ws.getD i 0 / lsum ws ∨ ((parts m ws).getD i 0 = m * ws.getD i 0 / lsum ws + 1 ∧ 0 < m * ws.getD i 0 % lsum ws) := by
  rcases h.fin.one i (by simpa [qs] using hi) with h1 | h1
  · rw [qs_getD _ _ _ _ hi] at h1; exact .inl h1.2
  · rw [qs_getD _ _ _ _ hi, rs_getD _ _ _ _ hi] at h1; exact .inr h1.2
theorem Good.part_bd (h : Good m ws) (i : Nat) (hi : i < ws.length) : 0 ≤ (parts m ws).getD i 0 ∧ (parts m ws).getD i 0 ≤ 1000000000001 := by
  have h1 := h.q0 i hi
  rw [qs_getD _ _ _ _ hi] at h1
  have := h.m1
  rcases h.part i hi with h2 | h2 <;> omega
/-- Greater weights have parts that are not smaller. -/
theorem Good.order (h : Good m ws) (i k : Nat) (hi : i < ws.length) (hk : k < ws.length) (hw : ws.getD k 0 < ws.getD i 0) : (parts m ws).getD k 0 ≤ (parts m ws).getD i 0 := by
  have ht := h.t
  have hm := h.m0
  have hq : m * ws.getD k 0 / lsum ws ≤ m * ws.getD i 0 / lsum ws := Int.ediv_le_ediv ht (Int.mul_le_mul_of_nonneg_left (by omega) hm)
  rcases h.part i hi with h1 | h1
  · rcases h.part k hk with h2 | h2
    · omega
    · by_cases he : m * ws.getD k 0 / lsum ws = m * ws.getD i 0 / lsum ws
      · exfalso
        have e1 := Int.mul_ediv_add_emod (m * ws.getD k 0) (lsum ws)
        have e2 := Int.mul_ediv_add_emod (m * ws.getD i 0) (lsum ws)
        rw [he] at e1
        have hmp : 0 < m := by
          rcases Int.lt_or_eq_of_le hm with e | e
          · exact e
          · rw [← e] at h2; simp at h2
        have hlt : m * ws.getD k 0 < m * ws.getD i 0 := Int.mul_lt_mul_of_pos_left hw hmp
        have := h.fin.ord i k (by simpa [qs] using hi) (by simpa [qs] using hk) (by rw [qs_getD _ _ _ _ hk]; exact h2.1) (.inl (by rw [rs_getD _ _ _ _ hk, rs_getD _ _ _ _ hi]; omega))
        rw [qs_getD _ _ _ _ hi] at this
        omega
      · omega
  · rcases h.part k hk with h2 | h2 <;> omega
/-- Equal weights have parts that differ by at most 1, the earlier one not being smaller. -/
theorem Good.equal (h : Good m ws) (i k : Nat) (hi : i < ws.length) (hk : k < ws.length) (hw : ws.getD i 0 = ws.getD k 0) (hlt : i < k) : (parts m ws).getD k 0 ≤ (parts m ws).getD i 0 ∧ (parts m ws).getD i 0 - (parts m ws).getD k 0 ≤ 1 := by
  have h1 := h.part i hi
  have h2 := h.part k hk
  rw [hw] at h1
  refine ⟨?_, by omega⟩
  rcases h2 with h2 | h2
  · omega
  · have := h.fin.ord i k (by simpa [qs] using hi) (by simpa [qs] using hk) (by rw [qs_getD _ _ _ _ hk]; exact h2.1) (.inr ⟨by rw [rs_getD _ _ _ _ hk, rs_getD _ _ _ _ hi, hw], hlt⟩)
    rw [qs_getD _ _ _ _ hi, hw] at this
    omega
end
/-! ### What the small functions return -/
theorem lsum_take_le (zs : List Int) (h : zs.all vld = true) (k : Nat) : lsum (zs.take k) ≤ lsum zs ∧ 0 ≤ lsum (zs.take k) := by
  have h2 : ∀ (l : List Int), (∀ x ∈ l, vld x = true) → 0 ≤ lsum l := by
    intro l
    induction l with
    | nil => intro _; simp [lsum]
    | cons z zs ih =>
      intro hl
      have h1 := (vld_iff z).1 (hl z (by simp))
      have h3 := ih (fun x hx => hl x (by simp [hx]))
      simp only [lsum]; omega
  rw [List.all_eq_true] at h
  have h3 := h2 (zs.take k) (fun x hx => h x (List.mem_of_mem_take hx))
  have h4 := h2 (zs.drop k) (fun x hx => h x (List.mem_of_mem_drop hx))
  have h5 := lsum_append (zs.take k) (zs.drop k)
  rw [List.take_append_drop] at h5
  omega
def sumV (zs : List Int) : Int := if zs.all vld = true ∧ lsum zs ≤ 1000000000000 then lsum zs else 0
def sumE (zs : List Int) : Int := if zs.all vld = true then (if lsum zs ≤ 1000000000000 then 0 else 9) else 2
theorem sum_bad {zs : List Int} (h : zs.all vld = false) : sumV zs = 0 ∧ sumE zs = 2 := by simp [sumV, sumE, h]
theorem sum_over {zs : List Int} (h : zs.all vld = true) (ha : 1000000000000 < lsum zs) : sumV zs = 0 ∧ sumE zs = 9 := by
  have : ¬ lsum zs ≤ 1000000000000 := by omega
  simp [sumV, sumE, h, this]
theorem sum_ok {zs : List Int} (h : zs.all vld = true) (ha : lsum zs ≤ 1000000000000) : sumV zs = lsum zs ∧ sumE zs = 0 := by simp [sumV, sumE, h, ha]

def ptOk (m bp : Int) : Bool := decide ((0 ≤ m ∧ m ≤ 1000000000000) ∧ 0 ≤ bp ∧ bp ≤ 10000)
def ptV (m bp : Int) : Int := if ptOk m bp then m * bp / 10000 else 0
def ptE (m bp : Int) : Int := if ptOk m bp then 0 else 2
theorem pt_no {m bp : Int} (h : ¬ ((0 ≤ m ∧ m ≤ 1000000000000) ∧ 0 ≤ bp ∧ bp ≤ 10000)) : ptV m bp = 0 ∧ ptE m bp = 2 := by simp only [ptV, ptE, ptOk, decide_eq_false h]; simp
theorem pt_yes {m bp : Int} (h : (0 ≤ m ∧ m ≤ 1000000000000) ∧ 0 ≤ bp ∧ bp ≤ 10000) : ptV m bp = m * bp / 10000 ∧ ptE m bp = 0 := by simp only [ptV, ptE, ptOk, decide_eq_true h]; simp
theorem mul_bd {a b A B : Int} (a0 : 0 ≤ a) (a1 : a ≤ A) (b0 : 0 ≤ b) (b1 : b ≤ B) : 0 ≤ a * b ∧ a * b ≤ A * B :=
  ⟨Int.mul_nonneg a0 b0, Int.mul_le_mul a1 b1 b0 (by omega)⟩

def rdOk (m u : Int) : Bool := decide ((0 ≤ m ∧ m ≤ 1000000000000) ∧ 1 ≤ u ∧ u ≤ 1000000000000)
def rdQ (m u : Int) : Int := if rdOk m u then m - m % u else 0
def rdR (m u : Int) : Int := if rdOk m u then m % u else 0
def rdE (m u : Int) : Int := if rdOk m u then 0 else 2
theorem rd_no {m u : Int} (h : ¬ ((0 ≤ m ∧ m ≤ 1000000000000) ∧ 1 ≤ u ∧ u ≤ 1000000000000)) : rdQ m u = 0 ∧ rdR m u = 0 ∧ rdE m u = 2 := by simp only [rdQ, rdR, rdE, rdOk, decide_eq_false h]; simp
theorem rd_yes {m u : Int} (h : (0 ≤ m ∧ m ≤ 1000000000000) ∧ 1 ≤ u ∧ u ≤ 1000000000000) : rdQ m u = m - m % u ∧ rdR m u = m % u ∧ rdE m u = 0 := by simp only [rdQ, rdR, rdE, rdOk, decide_eq_true h]; simp
theorem div_mul_mod (m u : Int) : m / u * u = m - m % u := by
  have := Int.mul_ediv_add_emod m u
  rw [Int.mul_comm] at this; omega
theorem mod_bd {m u : Int} (m0 : 0 ≤ m) (u0 : 1 ≤ u) : 0 ≤ m % u ∧ m % u < u ∧ m % u ≤ m ∧ 0 ≤ m / u ∧ m / u ≤ m := by
  have h1 := Int.emod_nonneg m (show u ≠ 0 by omega)
  have h2 := Int.emod_lt_of_pos m (show 0 < u by omega)
  have h3 := Int.ediv_nonneg m0 (show 0 ≤ u by omega)
  have h4 := Int.ediv_le_self u m0
  have h5 := Int.mul_ediv_add_emod m u
  have h6 := Int.mul_nonneg (show 0 ≤ u by omega) h3
  omega

def evOk (m n : Int) : Bool := decide ((0 ≤ m ∧ m ≤ 1000000000000) ∧ 1 ≤ n)
def evQ (m n : Int) : Int := if evOk m n then m / n else 0
def evR (m n : Int) : Int := if evOk m n then m % n else 0
def evE (m n : Int) : Int := if evOk m n then 0 else 2
theorem ev_no {m n : Int} (h : ¬ ((0 ≤ m ∧ m ≤ 1000000000000) ∧ 1 ≤ n)) : evQ m n = 0 ∧ evR m n = 0 ∧ evE m n = 2 := by simp only [evQ, evR, evE, evOk, decide_eq_false h]; simp
theorem ev_yes {m n : Int} (h : (0 ≤ m ∧ m ≤ 1000000000000) ∧ 1 ≤ n) : evQ m n = m / n ∧ evR m n = m % n ∧ evE m n = 0 := by simp only [evQ, evR, evE, evOk, decide_eq_true h]; simp

/-! ### The error of a split, and the sum of its weights -/
def twE (m : Int) (ws : List Int) : Int :=
  if vld m = true then (if 1 ≤ ws.length ∧ ws.length ≤ 64 then (if ws.all vld = true then (if lsum ws = 0 then 10 else 0) else 2) else 3) else 2
def twV (m : Int) (ws : List Int) : Int := if twE m ws = 0 then lsum ws else 0
theorem tw_m {m : Int} {ws : List Int} (h : vld m = false) : twV m ws = 0 ∧ twE m ws = 2 := by
  have : twE m ws = 2 := by simp [twE, h]
  simp [twV, this]
theorem tw_n {m : Int} {ws : List Int} (h : vld m = true) (h2 : ws.length < 1 ∨ 64 < ws.length) : twV m ws = 0 ∧ twE m ws = 3 := by
  have : twE m ws = 3 := by
    unfold twE
    rw [if_pos h, if_neg (by omega)]
  simp [twV, this]
theorem tw_w {m : Int} {ws : List Int} (h : vld m = true) (h1 : 1 ≤ ws.length) (h2 : ws.length ≤ 64) (h3 : ws.all vld = false) : twV m ws = 0 ∧ twE m ws = 2 := by
  have : twE m ws = 2 := by
    unfold twE
    rw [if_pos h, if_pos ⟨h1, h2⟩, h3]; rfl
  simp [twV, this]
theorem tw_z {m : Int} {ws : List Int} (h : vld m = true) (h1 : 1 ≤ ws.length) (h2 : ws.length ≤ 64) (h3 : ws.all vld = true) (h4 : lsum ws = 0) : twV m ws = 0 ∧ twE m ws = 10 := by
  have : twE m ws = 10 := by
    unfold twE
    rw [if_pos h, if_pos ⟨h1, h2⟩, if_pos h3, if_pos h4]
  simp [twV, this]
theorem tw_ok {m : Int} {ws : List Int} (h : vld m = true) (h1 : 1 ≤ ws.length) (h2 : ws.length ≤ 64) (h3 : ws.all vld = true) (h4 : lsum ws ≠ 0) : twV m ws = lsum ws ∧ twE m ws = 0 := by
  have : twE m ws = 0 := by
    unfold twE
    rw [if_pos h, if_pos ⟨h1, h2⟩, if_pos h3, if_neg h4]
  simp [twV, this]
theorem tw_good {m : Int} {ws : List Int} (h : twE m ws = 0) : Good m ws ∧ twV m ws = lsum ws := by
  refine ⟨?_, by simp [twV, h]⟩
  unfold twE at h
  split at h
  · split at h
    · split at h
      · split at h
        · omega
        · rename_i h1 h2 h3 h4
          have hm := (vld_iff m).1 h1
          have h0 : ∀ i, i < ws.length → 0 ≤ ws.getD i 0 ∧ ws.getD i 0 ≤ 1000000000000 := fun i hi => by
            rw [List.all_eq_true] at h3
            have := (vld_iff _).1 (h3 ws[i] (List.getElem_mem hi))
            simpa [List.getD, hi] using this
          have h5 := lsum_nonneg ws (fun i hi => (h0 i hi).1)
          exact ⟨hm.1, hm.2, fun i hi => (h0 i hi).1, fun i hi => (h0 i hi).2, by omega, by omega, by omega⟩
      · omega
    · omega
  · omega
theorem sum_bd (zs : List Int) (h : zs.all vld = true) (k : Nat) (hk : k ≤ zs.length) : 0 ≤ lsum (zs.take k) ∧ lsum (zs.take k) ≤ 1000000000000 * k := by
  have h0 : ∀ i, i < zs.length → 0 ≤ zs.getD i 0 ∧ zs.getD i 0 ≤ 1000000000000 := fun i hi => by
    rw [List.all_eq_true] at h
    have := (vld_iff _).1 (h zs[i] (List.getElem_mem hi))
    simpa [List.getD, hi] using this
  have hl : (zs.take k).length = k := by rw [List.length_take]; omega
  have e : ∀ i, i < (zs.take k).length → (zs.take k).getD i 0 = zs.getD i 0 := fun i hi => by
    have : i < k := by omega
    simp [List.getD, this]
  refine ⟨lsum_nonneg _ (fun i hi => by rw [e i hi]; exact (h0 i (by omega)).1), ?_⟩
  have := lsum_le 1000000000000 (zs.take k) (fun i hi => by rw [e i hi]; exact (h0 i (by omega)).2)
  rwa [hl] at this

/-! ### A row that is filled from its beginning -/
def pk (q : List Int) (k : Nat) : List Int := q.take k ++ List.replicate (q.length - k) 0
theorem pk_len (q : List Int) (k : Nat) (h : k ≤ q.length) : (pk q k).length = q.length := by simp [pk]; omega
theorem pk_zero (q : List Int) : pk q 0 = List.replicate q.length 0 := by simp [pk]
theorem pk_full (q : List Int) : pk q q.length = q := by simp [pk]
theorem pk_set (q : List Int) (k : Nat) (h : k < q.length) : (pk q k).set k (q.getD k 0) = pk q (k + 1) := by
  have e1 : q.length - k = (q.length - (k + 1)) + 1 := by omega
  have e2 : (q.take k).length = k := by simp; omega
  unfold pk
  rw [e1, List.replicate_succ, List.set_append_right _ _ (by omega), e2, Nat.sub_self, List.set_cons_zero, List.take_succ_eq_append_getElem h, List.append_assoc]
  simp [List.getD, h]
theorem qs_len (m T : Int) (ws : List Int) : (qs m T ws).length = ws.length := by simp [qs]
theorem rs_len (m T : Int) (ws : List Int) : (rs m T ws).length = ws.length := by simp [rs]
section
variable {m : Int} {ws : List Int}
/-- What is left behind k quotients. -/
def lft (m : Int) (ws : List Int) (k : Nat) : Int := m - lsum ((qs m (lsum ws) ws).take k)
theorem lft_zero : lft m ws 0 = m := by simp [lft, lsum]
theorem lft_full : lft m ws ws.length = left m ws := by rw [lft, ← qs_len m (lsum ws) ws, List.take_length]; rfl
theorem lft_step (k : Nat) (h : k < ws.length) : lft m ws (k + 1) = lft m ws k - m * ws.getD k 0 / lsum ws := by
  unfold lft
  rw [lsum_take _ _ (by rw [qs_len]; exact h), qs_getD _ _ _ _ h]; omega
theorem Good.lft0 (h : Good m ws) (k : Nat) : 0 ≤ lft m ws k ∧ lft m ws k ≤ 1000000000000 := by
  have h1 := h.left0
  have h2 : ∀ (l : List Int), (∀ i, i < l.length → 0 ≤ l.getD i 0) → ∀ k, 0 ≤ lsum (l.take k) ∧ lsum (l.take k) ≤ lsum l := by
    intro l hl k
    have e := lsum_append (l.take k) (l.drop k)
    rw [List.take_append_drop] at e
    have e1 : 0 ≤ lsum (l.take k) := lsum_nonneg _ (fun i hi => by
      simp only [List.length_take] at hi
      have := hl i (by omega)
      simp only [List.getD, List.getElem?_take, show i < k by omega, if_true] at this ⊢
      exact this)
    have e2 : 0 ≤ lsum (l.drop k) := lsum_nonneg _ (fun i hi => by
      simp only [List.length_drop] at hi
      have := hl (k + i) (by omega)
      simp only [List.getD, List.getElem?_drop] at this ⊢
      exact this)
    omega
  have h3 := h2 (qs m (lsum ws) ws) (fun i hi => by rw [qs_len] at hi; exact (h.q0 i hi).1) k
  have h4 := h.m1
  unfold left at h1
  unfold lft
  omega
/-- What MulDiv is asked. -/
theorem Good.quo (h : Good m ws) (k : Nat) (hk : k < ws.length) : 0 ≤ m * ws.getD k 0 / lsum ws ∧ m * ws.getD k 0 / lsum ws ≤ 1000000000000 ∧ 0 ≤ m * ws.getD k 0 % lsum ws ∧ m * ws.getD k 0 % lsum ws < lsum ws := by
  have h1 := h.q0 k hk
  have h2 := h.r0 k hk
  rw [qs_getD _ _ _ _ hk] at h1
  rw [rs_getD _ _ _ _ hk] at h2
  have := h.m1
  omega
theorem Good.tmax (h : Good m ws) : lsum ws ≤ 64000000000000 := by
  have h1 := lsum_le 1000000000000 ws (fun i hi => h.w1 i hi)
  have h2 := h.n1
  omega
theorem Good.giv_bd (h : Good m ws) (k : Nat) (hk : (k : Int) ≤ left m ws) (i : Nat) (hi : i < ws.length) :
    0 ≤ (giv 0 (qs m (lsum ws) ws, rs m (lsum ws) ws) k).1.getD i 0 ∧ (giv 0 (qs m (lsum ws) ws, rs m (lsum ws) ws) k).1.getD i 0 ≤ 1000000000001 := by
  have h1 := (h.inv k hk).one i (by rw [qs_len]; exact hi)
  have h2 := h.q0 i hi
  have := h.m1
  omega
end
theorem lsum_pre (l : List Int) (hl : ∀ i, i < l.length → 0 ≤ l.getD i 0) (k : Nat) : 0 ≤ lsum (l.take k) ∧ lsum (l.take k) ≤ lsum l := by
  have e := lsum_append (l.take k) (l.drop k)
  rw [List.take_append_drop] at e
  have e1 : 0 ≤ lsum (l.take k) := lsum_nonneg _ (fun i hi => by
    simp only [List.length_take] at hi
    have := hl i (by omega)
    simp only [List.getD, List.getElem?_take, show i < k by omega, if_true] at this ⊢
    exact this)
  have e2 : 0 ≤ lsum (l.drop k) := lsum_nonneg _ (fun i hi => by
    simp only [List.length_drop] at hi
    have := hl (k + i) (by omega)
    simp only [List.getD, List.getElem?_drop] at this ⊢
    exact this)
  omega
theorem Good.pre {m : Int} {ws : List Int} (h : Good m ws) (k : Nat) : 0 ≤ lsum ((parts m ws).take k) ∧ lsum ((parts m ws).take k) ≤ m := by
  have := lsum_pre (parts m ws) (fun i hi => (h.part_bd i (by rw [parts_len] at hi; exact hi)).1) k
  rwa [h.parts_sum] at this
end Go.Proofs.Ytdleleanaihcoaa.Mn
