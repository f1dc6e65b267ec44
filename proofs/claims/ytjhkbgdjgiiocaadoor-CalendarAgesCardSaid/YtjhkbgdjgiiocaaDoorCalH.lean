/- Layer 6, the project's package calendar: isDay, isTime, weekdayOf, isLeap, daysBeforeMonth, daysBeforeYear, monthDays, dayOf, dateOf. -/
import Derived.Test.YtjhkbgdjgiiocaaDoorCalG
import Derived.Lib.LaidTab
import Derived.Lib.AppendIntMem
namespace Go.Proofs.YtjhkbgdjgiiocaaDoor
set_option maxRecDepth 20000
open Go.RowKit
set_option linter.unusedVariables false
set_option linter.unusedSimpArgs false
theorem g_mon : Tryd.prog.globalNamed "lottery/calendar.daysToMonth" = some 0 := by kernel_rfl
/-- The table of the days before the months reads as it was laid, now and behind whatever turns nothing of what is there. -/
def CEnv (w : World) : Prop := ∀ w', Below w.heap.size w w' → Lib.TabIs Tryd.prog w' "lottery/calendar.daysToMonth" .i64 Cl.monTab
theorem CEnv.here {w : World} (h : CEnv w) : Lib.TabIs Tryd.prog w "lottery/calendar.daysToMonth" .i64 Cl.monTab := h w (Below.refl _ _)
theorem CEnv.on {w w1 : World} (h : CEnv w) (hb : Below w.heap.size w w1) : CEnv w1 := fun w' h' => h w' (bth hb h')
theorem cenv_mk {w : World} (ht : Lib.TabIs Tryd.prog w "lottery/calendar.daysToMonth" .i64 Cl.monTab) : CEnv w := fun w' hb => Lib.tabBelow_of_tabIs ht w' hb
theorem CEnv.cell {w : World} (h : CEnv w) {J : Nat} (hJ : J ≤ 12) : w.cell? ⟨0, J, none⟩ = some (.int .i64 (Cl.monTab.getD J 0)) :=
  h.here.cell g_mon J (by unfold Cl.monTab; simp; omega)
theorem cal_isDay {n : Int} {b : Bool} (h : Cl.isd n = b) (w : World) : Calls Tryd.prog 25 #[.int .i64 n] w fun e w' => e = .returned (.bool b) ∧ w = w' := by
  subst h
  by_cases h0 : 0 ≤ n
  · by_cases h1 : n < 745654
    · have F : Hid (true = Cl.isd n) := (Cl.isd_iff.2 ⟨h0, h1⟩).symm
      go_enter Tryd.func25, Tryd.ntmps25
      go_wp2_with fail
      go_ret
      exact ⟨ret_bool F.out, rfl⟩
    · have F : Hid (false = Cl.isd n) := by show _ = _; rw [eq_comm, Bool.eq_false_iff]; intro e; exact h1 (Cl.isd_iff.1 e).2
      go_enter Tryd.func25, Tryd.ntmps25
      go_wp2_with fail
      go_ret
      exact ⟨ret_bool F.out, rfl⟩
  · have F : Hid (false = Cl.isd n) := by show _ = _; rw [eq_comm, Bool.eq_false_iff]; intro e; exact h0 (Cl.isd_iff.1 e).1
    go_enter Tryd.func25, Tryd.ntmps25
    go_wp2_with fail
    go_ret
    exact ⟨ret_bool F.out, rfl⟩
theorem cal_isTime {n : Int} {b : Bool} (h : Cl.ist n = b) (w : World) : Calls Tryd.prog 33 #[.int .i64 n] w fun e w' => e = .returned (.bool b) ∧ w = w' := by
  subst h
  by_cases h0 : 0 ≤ n
  · by_cases h1 : n ≤ 1073741824
    · have F : Hid (true = Cl.ist n) := (Cl.ist_iff.2 ⟨h0, h1⟩).symm
      go_enter Tryd.func33, Tryd.ntmps33
      go_wp2_with fail
      go_ret
      exact ⟨ret_bool F.out, rfl⟩
    · have F : Hid (false = Cl.ist n) := by show _ = _; rw [eq_comm, Bool.eq_false_iff]; intro e; exact h1 (Cl.ist_iff.1 e).2
      go_enter Tryd.func33, Tryd.ntmps33
      go_wp2_with fail
      go_ret
      exact ⟨ret_bool F.out, rfl⟩
  · have F : Hid (false = Cl.ist n) := by show _ = _; rw [eq_comm, Bool.eq_false_iff]; intro e; exact h0 (Cl.ist_iff.1 e).1
    go_enter Tryd.func33, Tryd.ntmps33
    go_wp2_with fail
    go_ret
    exact ⟨ret_bool F.out, rfl⟩
theorem cal_weekdayOf (n : Nat) (w : World) (hn : n ≤ 800000) : Calls Tryd.prog 31 #[.int .i64 (n : Int)] w fun e w' => e = .returned (.int .i64 (Cl.wd n : Nat)) ∧ w = w' := by
  have F : Hid (((n : Int) + 5) % 7 = (Cl.wd n : Nat)) := by show _ = _; unfold Cl.wd; omega
  have n0 : (0 : Int) ≤ (n : Int) := by omega
  go_enter Tryd.func31, Tryd.ntmps31
  go_wp2_with fail
  go_ret
  exact ⟨ret_int F.out, rfl⟩
theorem cal_isLeap (y : Nat) (w : World) (hy : y ≤ 10000) : Calls Tryd.prog 47 #[.int .i64 (y : Int)] w fun e w' => e = .returned (.bool (Cl.leap y)) ∧ w = w' := by
  have y0 : (0 : Int) ≤ (y : Int) := by omega
  have y1 : (y : Int) ≤ 10000 := by omega
  by_cases h4 : y % 4 = 0
  · by_cases h100 : y % 100 = 0
    · by_cases h400 : y % 400 = 0
      · have F : Hid (true = Cl.leap y) := by show _ = _; simp [Cl.leap, h4, h400]
        have g1 : (y : Int) % 4 = 0 := by omega
        have g2 : (y : Int) % 100 = 0 := by omega
        have g3 : (y : Int) % 400 = 0 := by omega
        clear h4 h100 h400
        go_enter Tryd.func47, Tryd.ntmps47
        go_wp2_with fail
        go_ret
        exact ⟨ret_bool F.out, rfl⟩
      · have F : Hid (((y : Int) % 400 == 0) = Cl.leap y) := by
          show _ = _
          rw [show ((y : Int) % 400 == 0) = false by rw [beq_eq_false_iff_ne]; omega]
          simp [Cl.leap, h4, h100, h400]
        have g1 : (y : Int) % 4 = 0 := by omega
        have g2 : (y : Int) % 100 = 0 := by omega
        have g3 : ¬ (y : Int) % 400 = 0 := by omega
        clear h4 h100 h400
        go_enter Tryd.func47, Tryd.ntmps47
        go_wp2_with fail
        go_ret
        exact ⟨ret_bool F.out, rfl⟩
    · have F : Hid (true = Cl.leap y) := by show _ = _; simp [Cl.leap, h4, h100]
      have g1 : (y : Int) % 4 = 0 := by omega
      have g2 : ¬ (y : Int) % 100 = 0 := by omega
      clear h4 h100
      go_enter Tryd.func47, Tryd.ntmps47
      go_wp2_with fail
      go_ret
      exact ⟨ret_bool F.out, rfl⟩
  · have F : Hid (false = Cl.leap y) := by show _ = _; simp [Cl.leap, h4]
    have g1 : ¬ (y : Int) % 4 = 0 := by omega
    clear h4
    go_enter Tryd.func47, Tryd.ntmps47
    go_wp2_with fail
    go_ret
    exact ⟨ret_bool F.out, rfl⟩
/-- The days of the year y before its month J + 1. -/
theorem cal_dbm (y J : Nat) (w : World) (hE : CEnv w) (hy : y ≤ 10000) (hJ : J ≤ 12) : Calls Tryd.prog 42 #[.int .i64 (y : Int), .int .i64 ((J : Int) + 1)] w fun e w' => e = .returned (.int .i64 (Cl.md y J : Nat)) ∧ w = w' := by
  have hc := hE.cell hJ
  have ht := Cl.md_tab y J hJ
  obtain ⟨b0, b1⟩ := Cl.monTab_bd J
  obtain ⟨z, ez⟩ : ∃ z, z = Cl.monTab.getD J 0 := ⟨_, rfl⟩
  rw [← ez] at hc ht b0 b1
  by_cases h2 : 2 ≤ J
  · have g2 : (2 : Int) < (J : Int) + 1 := by omega
    have L := Lib.hid fun W => cal_isLeap y W hy
    cases hl : Cl.leap y
    · rw [hl] at L
      have F : Hid (z = (Cl.md y J : Nat)) := by show _ = _; rw [ht, hl, if_neg (by simp)]; omega
      clear ht hl ez
      go_enter Tryd.func42, Tryd.ntmps42
      go_wp2_with fail
      refine (L.out _).mono ?_
      rintro e w' ⟨rfl, rfl⟩
      go_wp2_with fail
      go_ret
      exact ⟨ret_int F.out, rfl⟩
    · rw [hl] at L
      have F : Hid (z + 1 = (Cl.md y J : Nat)) := by show _ = _; rw [ht, hl, if_pos ⟨h2, rfl⟩]
      clear ht hl ez
      go_enter Tryd.func42, Tryd.ntmps42
      go_wp2_with fail
      refine (L.out _).mono ?_
      rintro e w' ⟨rfl, rfl⟩
      go_wp2_with fail
      go_ret
      exact ⟨ret_int F.out, rfl⟩
  · have g2 : ¬ (2 : Int) < (J : Int) + 1 := by omega
    have F : Hid (z = (Cl.md y J : Nat)) := by show _ = _; rw [ht, if_neg (by omega)]; omega
    clear ht ez h2
    go_enter Tryd.func42, Tryd.ntmps42
    go_wp2_with fail
    go_ret
    exact ⟨ret_int F.out, rfl⟩
theorem cal_dby (i : Nat) (w : World) (hi : i ≤ 8000) : Calls Tryd.prog 41 #[.int .i64 ((i : Int) + 2000)] w fun e w' => e = .returned (.int .i64 (Cl.yd i : Nat)) ∧ w = w' := by
  have hs := Cl.yd_sum i
  have F : Hid (365 * (i : Int) + ((i : Int) + 3) / 4 - ((i : Int) + 99) / 100 + ((i : Int) + 399) / 400 = (Cl.yd i : Nat)) := by show _ = _; omega
  have i0 : (0 : Int) ≤ (i : Int) := by omega
  have i1 : (i : Int) ≤ 8000 := by omega
  clear hs
  go_enter Tryd.func41, Tryd.ntmps41
  go_wp2_with fail
  go_ret
  exact ⟨ret_int F.out, rfl⟩
end Go.Proofs.YtjhkbgdjgiiocaaDoor
