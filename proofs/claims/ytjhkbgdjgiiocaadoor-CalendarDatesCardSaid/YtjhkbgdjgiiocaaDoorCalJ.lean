/- Layer 6, the project's package calendar: Day, Date, Weekday, Age, Period. -/
import Derived.Test.YtjhkbgdjgiiocaaDoorCalI
namespace Go.Proofs.YtjhkbgdjgiiocaaDoor
set_option maxRecDepth 20000
open Go.RowKit
set_option linter.unusedVariables false
set_option linter.unusedSimpArgs false
theorem cal_Day (y m d : Int) (w : World) (hE : CEnv w) :
    Calls Tryd.prog 9 #[.int .i64 y, .int .i64 m, .int .i64 d] w fun e w' => e = .returned (.tuple #[.int .i64 (Cl.dayV y m d), .int .i64 (Cl.dayE y m d)]) ∧ Below w.heap.size w w' := by
  have c1 := cal_dayOf y m d w hE
  have ho := Cl.dayO_9 y m d
  have hn9 := Cl.num9_bd y m d
  have B0 := Lib.hid (Below.refl w.heap.size w)
  cases h9 : Cl.ex9 y m d
  · obtain ⟨e1, e2⟩ := Cl.day_no (y := y) (m := m) (d := d) (by rw [ho, h9]; rfl)
    rw [e1, e2]
    have hz : Cl.num9 y m d = 0 := by rw [Cl.num9, h9]; rfl
    rw [h9, hz] at c1
    have C1 := Lib.hid c1
    clear c1 ho hn9 h9 hz e1 e2
    go_enter Tryd.func9, Tryd.ntmps9
    go_wp2_with fail
    refine C1.out.mono ?_
    rintro e w' ⟨rfl, rfl⟩
    go_wp2_with fail
    go_ret2
    exact ⟨rfl, B0.out⟩
  · rw [h9] at c1
    have hN : Cl.num9 y m d = Cl.num y.toNat m.toNat d.toNat := by rw [Cl.num9, h9]; rfl
    by_cases hlt : Cl.num9 y m d < 745654
    · obtain ⟨e1, e2⟩ := Cl.day_ok (y := y) (m := m) (d := d) (by rw [ho, h9, decide_eq_true hlt]; rfl)
      rw [e1, e2, ← hN]
      have I1 := fun W => cal_isDay (Cl.isd_iff.2 ⟨by omega, by omega⟩ : Cl.isd ((Cl.num9 y m d : Nat) : Int) = true) W
      obtain ⟨N, eN⟩ : ∃ N, N = Cl.num9 y m d := ⟨_, rfl⟩
      rw [← eN] at c1 I1 ⊢
      have C1 := Lib.hid c1
      have C2 := Lib.hid I1
      clear c1 I1 ho h9 e1 e2 hN eN hn9 hlt
      go_enter Tryd.func9, Tryd.ntmps9
      go_wp2_with fail
      refine C1.out.mono ?_
      rintro e w' ⟨rfl, rfl⟩
      go_wp2_with fail
      refine (C2.out _).mono ?_
      rintro e w' ⟨rfl, rfl⟩
      go_wp2_with fail
      go_ret2
      exact ⟨rfl, B0.out⟩
    · obtain ⟨e1, e2⟩ := Cl.day_no (y := y) (m := m) (d := d) (by rw [ho, h9, decide_eq_false hlt]; rfl)
      rw [e1, e2]
      have I1 := fun W => cal_isDay (by rw [Bool.eq_false_iff]; intro e; have := (Cl.isd_iff.1 e).2; omega : Cl.isd ((Cl.num9 y m d : Nat) : Int) = false) W
      obtain ⟨N, eN⟩ : ∃ N, N = Cl.num9 y m d := ⟨_, rfl⟩
      rw [← eN] at c1 I1
      have C1 := Lib.hid c1
      have C2 := Lib.hid I1
      clear c1 I1 ho h9 e1 e2 hN eN hn9 hlt
      go_enter Tryd.func9, Tryd.ntmps9
      go_wp2_with fail
      refine C1.out.mono ?_
      rintro e w' ⟨rfl, rfl⟩
      go_wp2_with fail
      refine (C2.out _).mono ?_
      rintro e w' ⟨rfl, rfl⟩
      go_wp2_with fail
      go_ret2
      exact ⟨rfl, B0.out⟩
theorem cal_Date (n : Int) (w : World) (hE : CEnv w) :
    Calls Tryd.prog 11 #[.int .i64 n] w fun e w' => e = .returned (.tuple #[.int .i64 (Cl.datY n), .int .i64 (Cl.datM n), .int .i64 (Cl.datD n), .int .i64 (Cl.datE n)]) ∧ Below w.heap.size w w' := by
  unfold Cl.datY Cl.datM Cl.datD Cl.datE
  have B0 := Lib.hid (Below.refl w.heap.size w)
  cases hd : Cl.isd n
  · have I1 := Lib.hid fun W => cal_isDay hd W
    clear hd
    go_enter Tryd.func11, Tryd.ntmps11
    go_wp2_with fail
    refine (I1.out _).mono ?_
    rintro e w' ⟨rfl, rfl⟩
    go_wp2_with fail
    refine bodyPost_ret (v := .tuple #[.int .i64 0, .int .i64 0, .int .i64 0, .int .i64 2]) (by simp [results, Tryd.results11, go_sem]) rfl ?_
    exact ⟨rfl, B0.out⟩
  · have I1 := Lib.hid fun W => cal_isDay hd W
    obtain ⟨h0, h1⟩ := Cl.isd_iff.1 hd
    obtain ⟨N, eN⟩ : ∃ N : Nat, n = (N : Int) := ⟨n.toNat, by omega⟩
    subst eN
    rw [if_pos rfl, if_pos rfl, if_pos rfl, if_pos rfl, Int.toNat_natCast]
    have cv := cal_dateOf N w hE (by omega)
    obtain ⟨a, ea⟩ : ∃ a, a = Cl.yr N := ⟨_, rfl⟩
    obtain ⟨b, eb⟩ : ∃ a, a = Cl.mo N := ⟨_, rfl⟩
    obtain ⟨c, ec⟩ : ∃ a, a = Cl.dy N := ⟨_, rfl⟩
    rw [← ea, ← eb, ← ec] at cv ⊢
    have CV := Lib.hid cv
    clear hd cv ea eb ec
    go_enter Tryd.func11, Tryd.ntmps11
    go_wp2_with fail
    refine (I1.out _).mono ?_
    rintro e w' ⟨rfl, rfl⟩
    go_wp2_with fail
    refine CV.out.mono ?_
    rintro e w' ⟨rfl, rfl⟩
    go_wp2_with fail
    refine bodyPost_ret (v := .tuple #[.int .i64 (a : Int), .int .i64 (b : Int), .int .i64 (c : Int), .int .i64 0]) (by simp [results, Tryd.results11, go_sem]) rfl ?_
    exact ⟨rfl, B0.out⟩
theorem cal_Weekday (n : Int) (w : World) :
    Calls Tryd.prog 13 #[.int .i64 n] w fun e w' => e = .returned (.tuple #[.int .i64 (Cl.wdV n), .int .i64 (Cl.datE n)]) ∧ Below w.heap.size w w' := by
  unfold Cl.wdV Cl.datE
  have B0 := Lib.hid (Below.refl w.heap.size w)
  cases hd : Cl.isd n
  · have I1 := Lib.hid fun W => cal_isDay hd W
    clear hd
    go_enter Tryd.func13, Tryd.ntmps13
    go_wp2_with fail
    refine (I1.out _).mono ?_
    rintro e w' ⟨rfl, rfl⟩
    go_wp2_with fail
    go_ret2
    exact ⟨rfl, B0.out⟩
  · have I1 := Lib.hid fun W => cal_isDay hd W
    obtain ⟨h0, h1⟩ := Cl.isd_iff.1 hd
    obtain ⟨N, eN⟩ : ∃ N : Nat, n = (N : Int) := ⟨n.toNat, by omega⟩
    subst eN
    rw [if_pos rfl, if_pos rfl, Int.toNat_natCast]
    have ON := Lib.hid (cal_weekdayOf N w (by omega))
    clear hd
    go_enter Tryd.func13, Tryd.ntmps13
    go_wp2_with fail
    refine (I1.out _).mono ?_
    rintro e w' ⟨rfl, rfl⟩
    go_wp2_with fail
    refine ON.out.mono ?_
    rintro e w' ⟨rfl, rfl⟩
    go_wp2_with fail
    go_ret2
    exact ⟨rfl, B0.out⟩
end Go.Proofs.YtjhkbgdjgiiocaaDoor
