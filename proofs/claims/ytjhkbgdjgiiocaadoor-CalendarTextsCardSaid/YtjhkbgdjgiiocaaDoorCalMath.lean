/- Dates: leap years, days before years and months, the date of a day; plain mathematics. -/
import Derived.Test.YtjhkbgdjgiiocaaDoorNumMath
namespace Go.Proofs.YtjhkbgdjgiiocaaDoor
set_option maxRecDepth 20000
namespace Cl
def leap (y : Nat) : Bool := y % 4 == 0 && (y % 100 != 0 || y % 400 == 0)
/-- How many days a month has. -/
def mlen (y m : Nat) : Nat := if m = 2 then (if leap y then 29 else 28) else if m = 4 ∨ m = 6 ∨ m = 9 ∨ m = 11 then 30 else 31
/-- How many days a year has. -/
def ylen (y : Nat) : Nat := if leap y then 366 else 365
theorem mlen_bd (y m : Nat) : 28 ≤ mlen y m ∧ mlen y m ≤ 31 := by
  unfold mlen; split
  · split <;> omega
  · split <;> omega
theorem ylen_bd (y : Nat) : 365 ≤ ylen y ∧ ylen y ≤ 366 := by unfold ylen; split <;> omega
/-- The days before year 2000 + i. -/
def yd : Nat → Nat
  | 0 => 0
  | i + 1 => yd i + ylen (2000 + i)
/-- The days of a year before its month j + 1. -/
def md (y : Nat) : Nat → Nat
  | 0 => 0
  | j + 1 => md y j + mlen y (j + 1)
theorem md_12 (y : Nat) : md y 12 = ylen y := by
  simp only [md, mlen, ylen]
  cases leap y <;> rfl
theorem yd_lt (i : Nat) : yd i < yd (i + 1) := by rw [yd]; have := ylen_bd (2000 + i); omega
theorem md_lt (y j : Nat) : md y j < md y (j + 1) := by rw [md]; have := mlen_bd y (j + 1); omega
theorem yd_mono {i j : Nat} (h : i ≤ j) : yd i ≤ yd j := by
  induction j with
  | zero => rw [show i = 0 by omega]; exact Nat.le_refl _
  | succ j ih =>
    rcases Nat.lt_or_ge i (j + 1) with h1 | h1
    · have := ih (by omega); have := yd_lt j; omega
    · rw [show i = j + 1 by omega]; exact Nat.le_refl _
theorem md_mono {y i j : Nat} (h : i ≤ j) : md y i ≤ md y j := by
  induction j with
  | zero => rw [show i = 0 by omega]; exact Nat.le_refl _
  | succ j ih =>
    rcases Nat.lt_or_ge i (j + 1) with h1 | h1
    · have := ih (by omega); have := md_lt y j; omega
    · rw [show i = j + 1 by omega]; exact Nat.le_refl _
theorem yd_ge (i : Nat) : 365 * i ≤ yd i := by
  induction i with
  | zero => exact Nat.zero_le _
  | succ i ih => rw [yd]; have := ylen_bd (2000 + i); omega
theorem yd_le (i : Nat) : yd i ≤ 366 * i := by
  induction i with
  | zero => exact Nat.le_refl _
  | succ i ih => rw [yd]; have := ylen_bd (2000 + i); omega
theorem yd_one {d i j : Nat} (h1 : yd i ≤ d) (h2 : d < yd (i + 1)) (h3 : yd j ≤ d) (h4 : d < yd (j + 1)) : i = j := by
  rcases Nat.lt_trichotomy i j with h | h | h
  · have := yd_mono (i := i + 1) (j := j) h; omega
  · exact h
  · have := yd_mono (i := j + 1) (j := i) h; omega
theorem md_one {y r i j : Nat} (h1 : md y i ≤ r) (h2 : r < md y (i + 1)) (h3 : md y j ≤ r) (h4 : r < md y (j + 1)) : i = j := by
  rcases Nat.lt_trichotomy i j with h | h | h
  · have := md_mono (y := y) (i := i + 1) (j := j) h; omega
  · exact h
  · have := md_mono (y := y) (i := j + 1) (j := i) h; omega
/-- The year of a day, from 2000; the month of a day of a year, from 0. -/
def civY : Nat → Nat
  | 0 => 0
  | d + 1 => if d + 1 < yd (civY d + 1) then civY d else civY d + 1
def civM (y : Nat) : Nat → Nat
  | 0 => 0
  | r + 1 => if r + 1 < md y (civM y r + 1) then civM y r else civM y r + 1
theorem civY_spec : ∀ d, yd (civY d) ≤ d ∧ d < yd (civY d + 1)
  | 0 => ⟨Nat.le_refl _, Nat.lt_of_le_of_lt (Nat.zero_le _) (yd_lt 0)⟩
  | d + 1 => by
    obtain ⟨h1, h2⟩ := civY_spec d
    rw [civY]
    by_cases h : d + 1 < yd (civY d + 1)
    · rw [if_pos h]; omega
    · rw [if_neg h]; have := yd_lt (civY d + 1); omega
theorem civM_spec (y : Nat) : ∀ r, md y (civM y r) ≤ r ∧ r < md y (civM y r + 1)
  | 0 => ⟨Nat.le_refl _, Nat.lt_of_le_of_lt (Nat.zero_le _) (md_lt y 0)⟩
  | r + 1 => by
    obtain ⟨h1, h2⟩ := civM_spec y r
    rw [civM]
    by_cases h : r + 1 < md y (civM y r + 1)
    · rw [if_pos h]; omega
    · rw [if_neg h]; have := md_lt y (civM y r + 1); omega
def yr (d : Nat) : Nat := 2000 + civY d
/-- The day of its year, from 0. -/
def rest (d : Nat) : Nat := d - yd (civY d)
def mo (d : Nat) : Nat := civM (yr d) (rest d) + 1
def dy (d : Nat) : Nat := rest d - md (yr d) (mo d - 1) + 1
theorem rest_lt (d : Nat) : rest d < ylen (yr d) := by
  have h := civY_spec d
  rw [yd] at h
  unfold rest yr
  omega
/-- A date, and the day that it is. -/
structure IsCiv (n y m d : Nat) : Prop where
  y0 : 2000 ≤ y
  m0 : 1 ≤ m
  m1 : m ≤ 12
  d0 : 1 ≤ d
  d1 : d ≤ mlen y m
  n : n = yd (y - 2000) + md y (m - 1) + (d - 1)
theorem IsCiv.rest_lt {n y m d : Nat} (h : IsCiv n y m d) : md y (m - 1) + (d - 1) < ylen y := by
  have h1 := md_mono (y := y) (i := m) (j := 12) h.m1
  rw [md_12] at h1
  have h2 : md y m = md y (m - 1) + mlen y m := by
    have e : m = (m - 1) + 1 := by have := h.m0; omega
    conv => lhs; rw [e]
    rw [md, ← e]
  have := h.d0; have := h.d1
  omega
theorem civ_is (n : Nat) : IsCiv n (yr n) (mo n) (dy n) := by
  have hy := civY_spec n
  have hr := rest_lt n
  have hm := civM_spec (yr n) (rest n)
  have hm12 : civM (yr n) (rest n) < 12 := by
    rcases Nat.lt_or_ge (civM (yr n) (rest n)) 12 with h | h
    · exact h
    · have := md_mono (y := yr n) (i := 12) (j := civM (yr n) (rest n)) h
      rw [md_12] at this; omega
  have e1 : mo n - 1 = civM (yr n) (rest n) := by unfold mo; omega
  have e2 : mo n = civM (yr n) (rest n) + 1 := rfl
  have hm2 : md (yr n) (mo n) = md (yr n) (civM (yr n) (rest n)) + mlen (yr n) (mo n) := by rw [e2, md]
  rw [← e2] at hm
  refine ⟨by unfold yr; omega, by omega, by omega, by unfold dy; omega, ?_, ?_⟩
  · unfold dy; rw [e1]; omega
  · unfold dy
    rw [e1, show yr n - 2000 = civY n by unfold yr; omega]
    have : rest n = n - yd (civY n) := rfl
    omega
theorem civ_one {n y m d y' m' d' : Nat} (h : IsCiv n y m d) (h' : IsCiv n y' m' d') : y = y' ∧ m = m' ∧ d = d' := by
  have r1 := h.rest_lt
  have r2 := h'.rest_lt
  have hy : y - 2000 = y' - 2000 := by
    have a1 : yd (y - 2000 + 1) = yd (y - 2000) + ylen y := by rw [yd, show 2000 + (y - 2000) = y by have := h.y0; omega]
    have a2 : yd (y' - 2000 + 1) = yd (y' - 2000) + ylen y' := by rw [yd, show 2000 + (y' - 2000) = y' by have := h'.y0; omega]
    have := h.n; have := h'.n
    exact yd_one (d := n) (by omega) (by omega) (by omega) (by omega)
  have hy2 : y = y' := by have := h.y0; have := h'.y0; omega
  subst hy2
  have hm : m - 1 = m' - 1 := by
    have a1 : md y (m - 1 + 1) = md y (m - 1) + mlen y m := by rw [md, show m - 1 + 1 = m by have := h.m0; omega]
    have a2 : md y (m' - 1 + 1) = md y (m' - 1) + mlen y m' := by rw [md, show m' - 1 + 1 = m' by have := h'.m0; omega]
    have := h.n; have := h'.n; have := h.d1; have := h'.d1; have := h.d0; have := h'.d0
    exact md_one (y := y) (r := md y (m - 1) + (d - 1)) (by omega) (by omega) (by omega) (by omega)
  have hm2 : m = m' := by have := h.m0; have := h'.m0; omega
  subst hm2
  refine ⟨rfl, rfl, ?_⟩
  have := h.n; have := h'.n; have := h.d0; have := h'.d0
  omega
theorem civ_eq {n y m d : Nat} (h : IsCiv n y m d) : y = yr n ∧ m = mo n ∧ d = dy n := civ_one h (civ_is n)
theorem civ_next {n y m d : Nat} (h : IsCiv n y m d) : (d < mlen y m ∧ IsCiv (n + 1) y m (d + 1)) ∨ (d = mlen y m ∧ m < 12 ∧ IsCiv (n + 1) y (m + 1) 1) ∨ (d = mlen y m ∧ m = 12 ∧ IsCiv (n + 1) (y + 1) 1 1) := by
  have hn := h.n
  have hm0 := h.m0
  have hd0 := h.d0
  have a1 : md y m = md y (m - 1) + mlen y m := by
    have e : m = (m - 1) + 1 := by omega
    conv => lhs; rw [e]
    rw [md, ← e]
  rcases Nat.lt_or_ge d (mlen y m) with h1 | h1
  · exact .inl ⟨h1, h.y0, h.m0, h.m1, by omega, h1, by omega⟩
  · have hd : d = mlen y m := by have := h.d1; omega
    rcases Nat.lt_or_ge m 12 with h2 | h2
    · refine .inr (.inl ⟨hd, h2, h.y0, by omega, by omega, by omega, by have := mlen_bd y (m + 1); omega, ?_⟩)
      rw [Nat.add_sub_cancel]; omega
    · have hm : m = 12 := by have := h.m1; omega
      refine .inr (.inr ⟨hd, hm, by have := h.y0; omega, by omega, by omega, by omega, by have := mlen_bd (y + 1) 1; omega, ?_⟩)
      rw [hm, md_12] at a1
      have e : y + 1 - 2000 = (y - 2000) + 1 := by have := h.y0; omega
      rw [e, yd, show 2000 + (y - 2000) = y by have := h.y0; omega]
      show _ = _ + md (y + 1) 0 + 0
      rw [show md (y + 1) 0 = 0 from rfl]
      rw [hm] at hn hd
      omega
/-- The year of a day that is one. -/
theorem yr_bd {n : Nat} (h : n ≤ 745654) : 2000 ≤ yr n ∧ yr n ≤ 4042 := by
  have h1 := civY_spec n
  have h2 := yd_ge (civY n)
  unfold yr
  omega
/-- Full years between two dates. -/
def age (b n : Nat) : Nat := yr n - yr b - (if mo n < mo b ∨ mo n = mo b ∧ dy n < dy b then 1 else 0)
theorem yr_mono {b n : Nat} (h : b ≤ n) : yr b ≤ yr n := by
  rcases Nat.lt_or_ge (yr n) (yr b) with h1 | h1
  · have h2 := civY_spec b
    have h3 := civY_spec n
    have h4 : civY n + 1 ≤ civY b := by unfold yr at h1; omega
    have := yd_mono h4
    omega
  · exact h1
/-- Of two days of one year the later one has the later month, or the later day of it. -/
theorem same_year {b n : Nat} (h : b ≤ n) (hy : yr b = yr n) : ¬ (mo n < mo b ∨ mo n = mo b ∧ dy n < dy b) := by
  have h1 := civ_is b
  have h2 := civ_is n
  intro hc
  have e1 := h1.n
  have e2 := h2.n
  rw [hy] at e1
  rcases hc with hc | ⟨hc, hd⟩
  · have a := md_mono (y := yr n) (i := mo n) (j := mo b - 1) (by omega)
    have a1 : md (yr n) (mo n) = md (yr n) (mo n - 1) + mlen (yr n) (mo n) := by
      have e : mo n = (mo n - 1) + 1 := by have := h2.m0; omega
      conv => lhs; rw [e]
      rw [md, ← e]
    have := h2.d1; have := h2.d0; have := h1.d0
    omega
  · rw [hc] at e2
    have := h2.d0; have := h1.d0
    omega
theorem age_int {b n : Nat} (h : b ≤ n) : (yr n : Int) - (yr b : Int) - (if mo n < mo b ∨ mo n = mo b ∧ dy n < dy b then 1 else 0) = (age b n : Nat) := by
  have h1 := yr_mono h
  unfold age
  by_cases hc : mo n < mo b ∨ mo n = mo b ∧ dy n < dy b
  · rw [if_pos hc, if_pos hc]
    have : yr b ≠ yr n := fun e => same_year h e hc
    omega
  · rw [if_neg hc, if_neg hc]; omega
theorem age_next {b n : Nat} (h : b ≤ n) : age b n ≤ age b (n + 1) ∧ age b (n + 1) ≤ age b n + 1 := by
  have hb := civ_is b
  have hn := civ_is n
  have h0 := age_int h
  have h1 := age_int (b := b) (n := n + 1) (by omega)
  rcases civ_next hn with ⟨g1, g2⟩ | ⟨g1, g2, g3⟩ | ⟨g1, g2, g3⟩
  · obtain ⟨e1, e2, e3⟩ := civ_eq g2
    rw [← e1, ← e2, ← e3] at h1
    split at h0 <;> split at h1 <;> omega
  · obtain ⟨e1, e2, e3⟩ := civ_eq g3
    rw [← e1, ← e2, ← e3] at h1
    have := hb.d0
    split at h0 <;> split at h1 <;> omega
  · obtain ⟨e1, e2, e3⟩ := civ_eq g3
    rw [← e1, ← e2, ← e3] at h1
    have := hb.d0; have := hb.m0; have := hb.m1
    split at h0 <;> split at h1 <;> omega
/-- The weekday of a day. -/
def wd (n : Nat) : Nat := (n + 5) % 7
end Cl
end Go.Proofs.YtjhkbgdjgiiocaaDoor
