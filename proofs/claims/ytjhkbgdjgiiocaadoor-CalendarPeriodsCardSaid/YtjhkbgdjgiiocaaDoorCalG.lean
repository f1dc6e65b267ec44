/- Layer 6: the project's tables of days before months and years, as sums; dates up to the year 9999; plain mathematics. -/
import Derived.Test.YtjhkbgdjgiiocaaDoorCalC
import Derived.Test.YtjhkbgdjgiiocaaDoorCalE
namespace Go.Proofs.YtjhkbgdjgiiocaaDoor
set_option maxRecDepth 20000
namespace Cl
def monTab : List Int := [0, 31, 59, 90, 120, 151, 181, 212, 243, 273, 304, 334, 365]
theorem yd_sum : ∀ i, yd i + (i + 99) / 100 = 365 * i + (i + 3) / 4 + (i + 399) / 400
  | 0 => rfl
  | i + 1 => by
    have ih := yd_sum i
    rw [yd]
    have hl : ylen (2000 + i) = 365 + (if i % 4 = 0 ∧ (i % 100 ≠ 0 ∨ i % 400 = 0) then 1 else 0) := by
      unfold ylen leap
      by_cases h4 : i % 4 = 0
      · have g4 : (2000 + i) % 4 = 0 := by omega
        by_cases h100 : i % 100 = 0
        · have g100 : (2000 + i) % 100 = 0 := by omega
          by_cases h400 : i % 400 = 0
          · have g400 : (2000 + i) % 400 = 0 := by omega
            simp [g4, g100, g400, h4, h100, h400]
          · have g400 : ¬ (2000 + i) % 400 = 0 := by omega
            simp [g4, g100, g400, h4, h100, h400]
        · have g100 : ¬ (2000 + i) % 100 = 0 := by omega
          simp [g4, g100, h4, h100]
      · have g4 : ¬ (2000 + i) % 4 = 0 := by omega
        simp [g4, h4]
    rw [hl]
    split <;> omega
theorem md_tab (y j : Nat) (h : j ≤ 12) : (md y j : Int) = monTab.getD j 0 + (if 2 ≤ j ∧ leap y = true then 1 else 0) := by
  have cs : j = 0 ∨ j = 1 ∨ j = 2 ∨ j = 3 ∨ j = 4 ∨ j = 5 ∨ j = 6 ∨ j = 7 ∨ j = 8 ∨ j = 9 ∨ j = 10 ∨ j = 11 ∨ j = 12 := by omega
  rcases cs with rfl | rfl | rfl | rfl | rfl | rfl | rfl | rfl | rfl | rfl | rfl | rfl | rfl <;> cases hl : leap y <;> simp [md, mlen, hl, monTab]
theorem monTab_bd (j : Nat) : 0 ≤ monTab.getD j 0 ∧ monTab.getD j 0 ≤ 365 := by
  by_cases h : j < 13
  · have : ∀ j, j < 13 → 0 ≤ monTab.getD j 0 ∧ monTab.getD j 0 ≤ 365 := by decide
    exact this j h
  · have e : monTab.getD j 0 = 0 := by
      unfold monTab
      match j, h with
      | n + 13, _ => rfl
    rw [e]; omega
theorem md_bd {y j : Nat} (h : j ≤ 12) : md y j ≤ 366 := by
  have h1 := md_mono (y := y) h
  rw [md_12] at h1
  have := ylen_bd y
  omega
/-- Is there such a date from 2000 to 9999? -/
def ex9 (y m d : Int) : Bool := decide (2000 ≤ y ∧ y ≤ 9999 ∧ 1 ≤ m ∧ m ≤ 12 ∧ 1 ≤ d ∧ d ≤ (mlen y.toNat m.toNat : Nat))
theorem ex9_iff {y m d : Int} : ex9 y m d = true ↔ 2000 ≤ y ∧ y ≤ 9999 ∧ 1 ≤ m ∧ m ≤ 12 ∧ 1 ≤ d ∧ d ≤ (mlen y.toNat m.toNat : Nat) := by simp [ex9]
theorem ex9_no {y m d : Int} (h : ¬ (2000 ≤ y ∧ y ≤ 9999 ∧ 1 ≤ m ∧ m ≤ 12 ∧ 1 ≤ d ∧ d ≤ (mlen y.toNat m.toNat : Nat))) : false = ex9 y m d := by
  rw [eq_comm, Bool.eq_false_iff]; intro e; exact h (ex9_iff.1 e)
/-- The day of such a date; 0 where there is none. -/
def num9 (y m d : Int) : Nat := if ex9 y m d then num y.toNat m.toNat d.toNat else 0
theorem num9_bd (y m d : Int) : num9 y m d ≤ 3000000 := by
  unfold num9
  split
  · rename_i h
    obtain ⟨y0, y1, m0, m1, d0, d1⟩ := ex9_iff.1 h
    have h1 := yd_le (y.toNat - 2000)
    have h2 := md_bd (y := y.toNat) (j := m.toNat - 1) (by omega)
    have h3 := mlen_bd y.toNat m.toNat
    unfold num; omega
  · omega
theorem dayO_9 (y m d : Int) : dayO y m d = (ex9 y m d && decide (num9 y m d < 745654)) := by
  cases h9 : ex9 y m d
  · have : ex y m d = false := by
      rw [Bool.eq_false_iff]; intro e
      have h := ex_iff.1 e
      have := ex9_iff.2 ⟨h.1, by omega, h.2.2⟩
      rw [h9] at this; cases this
    rw [dayO, this]; rfl
  · have e : num9 y m d = num y.toNat m.toNat d.toNat := by rw [num9, h9]; rfl
    rw [e]
    obtain ⟨y0, y1, m0, m1, d0, d1⟩ := ex9_iff.1 h9
    by_cases hy : y ≤ 4100
    · rw [dayO, ex_iff.2 ⟨y0, hy, m0, m1, d0, d1⟩]
    · have hx : ex y m d = false := by rw [Bool.eq_false_iff]; intro e; exact hy (ex_iff.1 e).2.1
      have h1 := yd_ge (y.toNat - 2000)
      have hn : ¬ num y.toNat m.toNat d.toNat < 745654 := by unfold num; omega
      rw [dayO, hx, decide_eq_false hn]; rfl
/-- What Parse answers, over dates up to 9999. -/
theorem par_9 (L : List UInt8) : (parO L && decide (parT L ≤ 1073741824)) = (ex9 (pY L : Nat) (nm L 5 : Nat) (nm L 8 : Nat) && (decide (nm L 11 ≤ 23) && decide (nm L 14 ≤ 59)) && decide (parT L ≤ 1073741824)) := by
  unfold parO
  cases h9 : ex9 (pY L : Nat) (nm L 5 : Nat) (nm L 8 : Nat)
  · have : ex (pY L : Nat) (nm L 5 : Nat) (nm L 8 : Nat) = false := by
      rw [Bool.eq_false_iff]; intro e
      have h := ex_iff.1 e
      have := ex9_iff.2 ⟨h.1, by omega, h.2.2⟩
      rw [h9] at this; cases this
    rw [this]
  · obtain ⟨y0, y1, m0, m1, d0, d1⟩ := ex9_iff.1 h9
    by_cases hy : ((pY L : Nat) : Int) ≤ 4100
    · rw [ex_iff.2 ⟨y0, hy, m0, m1, d0, d1⟩]
    · have hx : ex (pY L : Nat) (nm L 5 : Nat) (nm L 8 : Nat) = false := by rw [Bool.eq_false_iff]; intro e; exact hy (ex_iff.1 e).2.1
      have h1 := yd_ge (pY L - 2000)
      have hn : ¬ parT L ≤ 1073741824 := by unfold parT num; omega
      rw [hx, decide_eq_false hn, Bool.and_false, Bool.and_false]
/-- The year and the month of a day, found from below. -/
theorem yr_found {n Y : Nat} (h : 2000 ≤ Y) (h1 : yd (Y - 2000) ≤ n) (h2 : n < yd (Y + 1 - 2000)) : Y = yr n ∧ n - yd (Y - 2000) = rest n := by
  have e := yd_next h
  exact yr_of h (r := n - yd (Y - 2000)) (by omega) (by omega)
theorem mo_found {n M : Nat} (h : 1 ≤ M) (h1 : md (yr n) (M - 1) ≤ rest n) (h2 : rest n < md (yr n) (M + 1 - 1)) : M = mo n ∧ rest n - md (yr n) (M - 1) + 1 = dy n := by
  have e := md_next (y := yr n) h
  exact mo_of h (r := rest n - md (yr n) (M - 1)) (by omega) (by omega)
theorem mo_up {n M : Nat} (h : 1 ≤ M) (hM : M ≤ 12) (h1 : md (yr n) (M + 1 - 1) ≤ rest n) : M + 1 ≤ 12 := by
  rcases Nat.lt_or_ge M 12 with h3 | h3
  · omega
  · have e : M = 12 := by omega
    rw [e] at h1
    have : md (yr n) (12 + 1 - 1) = md (yr n) 12 := rfl
    rw [this, md_12] at h1
    have := rest_lt n
    omega
theorem yr_up {n Y : Nat} (hn : n ≤ 745654) (h1 : yd (Y + 1 - 2000) ≤ n) : Y + 1 ≤ 4050 := by
  have := yd_ge (Y + 1 - 2000)
  omega
end Cl
end Go.Proofs.YtjhkbgdjgiiocaaDoor
