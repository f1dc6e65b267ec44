/- Contracts of money.Round, money.Even and of the reference's Part, Round, Even. -/
import Derived.Test.YtckimajnhdefcaaDoorMonB
namespace Go.Proofs.YtckimajnhdefcaaDoor
open Go.RowKit

theorem ref2_Part (m bp : Int) (w : World) :
    Calls Tryd.prog 17 #[.int .i64 m, .int .i64 bp] w fun e w' => e = .returned (.tuple #[.int .i64 (Mn.ptV m bp), .int .i64 (Mn.ptE m bp)]) ∧ w = w' := by
  cases hv : Mn.vld m
  · obtain ⟨e1, e2⟩ := Mn.pt_no (m := m) (bp := bp) (fun h => by rw [(Mn.vld_iff m).2 h.1] at hv; cases hv)
    have E1 := Lib.hid e1
    have E2 := Lib.hid e2
    clear e1 e2
    go_enter Tryd.func17, Tryd.ntmps17
    go_wp2_with (go_at_call 15; refine (ref2_Valid _ _).mono ?_; rintro e w' ⟨rfl, rfl⟩)
    go_ret2
    exact ⟨ret2_int E1.out.symm E2.out.symm, rfl⟩
  · obtain ⟨m0, m1⟩ := (Mn.vld_iff m).1 hv
    by_cases hb : 0 ≤ bp ∧ bp ≤ 10000
    · obtain ⟨e1, e2⟩ := Mn.pt_yes ⟨⟨m0, m1⟩, hb⟩
      have E1 := Lib.hid e1
      have E2 := Lib.hid e2
      clear e1 e2
      obtain ⟨b0, b1⟩ := hb
      obtain ⟨p0, p1⟩ := Mn.mul_bd m0 m1 b0 b1
      go_enter Tryd.func17, Tryd.ntmps17
      go_wp2_with (go_at_call 15; refine (ref2_Valid _ _).mono ?_; rintro e w' ⟨rfl, rfl⟩)
      go_ret2
      exact ⟨ret2_int E1.out.symm E2.out.symm, rfl⟩
    · obtain ⟨e1, e2⟩ := Mn.pt_no (m := m) (bp := bp) (fun h => hb h.2)
      have E1 := Lib.hid e1
      have E2 := Lib.hid e2
      clear e1 e2
      by_cases b0 : bp < 0
      · clear hb
        go_enter Tryd.func17, Tryd.ntmps17
        go_wp2_with (go_at_call 15; refine (ref2_Valid _ _).mono ?_; rintro e w' ⟨rfl, rfl⟩)
        go_ret2
        exact ⟨ret2_int E1.out.symm E2.out.symm, rfl⟩
      · have b1 : 10000 < bp := by omega
        clear hb
        go_enter Tryd.func17, Tryd.ntmps17
        go_wp2_with (go_at_call 15; refine (ref2_Valid _ _).mono ?_; rintro e w' ⟨rfl, rfl⟩)
        go_ret2
        exact ⟨ret2_int E1.out.symm E2.out.symm, rfl⟩

theorem money_Round (m u : Int) (w : World) :
    Calls Tryd.prog 18 #[.int .i64 m, .int .i64 u] w fun e w' => e = .returned (.tuple #[.int .i64 (Mn.rdQ m u), .int .i64 (Mn.rdR m u), .int .i64 (Mn.rdE m u)]) ∧ w = w' := by
  cases hv : Mn.vld m
  · obtain ⟨e1, e2, e3⟩ := Mn.rd_no (m := m) (u := u) (fun h => by rw [(Mn.vld_iff m).2 h.1] at hv; cases hv)
    have E1 := Lib.hid e1
    have E2 := Lib.hid e2
    have E3 := Lib.hid e3
    clear e1 e2 e3
    go_enter Tryd.func18, Tryd.ntmps18
    go_wp2_with (go_at_call 14; refine (money_Valid _ _).mono ?_; rintro e w' ⟨rfl, rfl⟩)
    go_ret3
    exact ⟨ret3_int E1.out.symm E2.out.symm E3.out.symm, rfl⟩
  · obtain ⟨m0, m1⟩ := (Mn.vld_iff m).1 hv
    by_cases hb : 1 ≤ u ∧ u ≤ 1000000000000
    · obtain ⟨e1, e2, e3⟩ := Mn.rd_yes ⟨⟨m0, m1⟩, hb⟩
      have E1 := Lib.hid e1
      have E2 := Lib.hid e2
      have E3 := Lib.hid e3
      clear e1 e2 e3
      obtain ⟨u0, u1⟩ := hb
      obtain ⟨p0, p1, p2, p3, p4⟩ := Mn.mod_bd m0 u0
      go_enter Tryd.func18, Tryd.ntmps18
      go_wp2_with (go_at_call 14; refine (money_Valid _ _).mono ?_; rintro e w' ⟨rfl, rfl⟩)
      go_ret3
      exact ⟨ret3_int E1.out.symm E2.out.symm E3.out.symm, rfl⟩
    · obtain ⟨e1, e2, e3⟩ := Mn.rd_no (m := m) (u := u) (fun h => hb h.2)
      have E1 := Lib.hid e1
      have E2 := Lib.hid e2
      have E3 := Lib.hid e3
      clear e1 e2 e3
      by_cases b0 : u < 1
      · clear hb
        go_enter Tryd.func18, Tryd.ntmps18
        go_wp2_with (go_at_call 14; refine (money_Valid _ _).mono ?_; rintro e w' ⟨rfl, rfl⟩)
        go_ret3
        exact ⟨ret3_int E1.out.symm E2.out.symm E3.out.symm, rfl⟩
      · have b1 : 1000000000000 < u := by omega
        clear hb
        go_enter Tryd.func18, Tryd.ntmps18
        go_wp2_with (go_at_call 14; refine (money_Valid _ _).mono ?_; rintro e w' ⟨rfl, rfl⟩)
        go_ret3
        exact ⟨ret3_int E1.out.symm E2.out.symm E3.out.symm, rfl⟩

theorem ref2_Round (m u : Int) (w : World) :
    Calls Tryd.prog 19 #[.int .i64 m, .int .i64 u] w fun e w' => e = .returned (.tuple #[.int .i64 (Mn.rdQ m u), .int .i64 (Mn.rdR m u), .int .i64 (Mn.rdE m u)]) ∧ ∃ k, w' = w.drewN k := by
  cases hv : Mn.vld m
  · obtain ⟨e1, e2, e3⟩ := Mn.rd_no (m := m) (u := u) (fun h => by rw [(Mn.vld_iff m).2 h.1] at hv; cases hv)
    have E1 := Lib.hid e1
    have E2 := Lib.hid e2
    have E3 := Lib.hid e3
    clear e1 e2 e3
    go_enter Tryd.func19, Tryd.ntmps19
    go_wp2_with (go_at_call 15; refine (ref2_Valid _ _).mono ?_; rintro e w' ⟨rfl, rfl⟩)
    go_ret3
    exact ⟨ret3_int E1.out.symm E2.out.symm E3.out.symm, 0, rfl⟩
  · obtain ⟨m0, m1⟩ := (Mn.vld_iff m).1 hv
    by_cases hb : 1 ≤ u ∧ u ≤ 1000000000000
    · obtain ⟨e1, e2, e3⟩ := Mn.rd_yes ⟨⟨m0, m1⟩, hb⟩
      rw [← Mn.div_mul_mod] at e1
      have E1 := Lib.hid e1
      have E2 := Lib.hid e2
      have E3 := Lib.hid e3
      clear e1 e2 e3
      obtain ⟨u0, u1⟩ := hb
      obtain ⟨p0, p1, p2, p3, p4⟩ := Mn.mod_bd m0 u0
      have p5 : 0 ≤ m / u * u ∧ m / u * u ≤ m := by rw [Mn.div_mul_mod]; omega
      obtain ⟨p5, p6⟩ := p5
      go_enter Tryd.func19, Tryd.ntmps19
      go_wp2_with (go_at_call 15; refine (ref2_Valid _ _).mono ?_; rintro e w' ⟨rfl, rfl⟩)
      go_quiet (fail)
      go_wp2
      go_ret3
      exact ⟨ret3_int E1.out.symm E2.out.symm E3.out.symm, _, rfl⟩
    · obtain ⟨e1, e2, e3⟩ := Mn.rd_no (m := m) (u := u) (fun h => hb h.2)
      have E1 := Lib.hid e1
      have E2 := Lib.hid e2
      have E3 := Lib.hid e3
      clear e1 e2 e3
      by_cases b0 : u < 1
      · clear hb
        go_enter Tryd.func19, Tryd.ntmps19
        go_wp2_with (go_at_call 15; refine (ref2_Valid _ _).mono ?_; rintro e w' ⟨rfl, rfl⟩)
        go_ret3
        exact ⟨ret3_int E1.out.symm E2.out.symm E3.out.symm, 0, rfl⟩
      · have b1 : 1000000000000 < u := by omega
        clear hb
        go_enter Tryd.func19, Tryd.ntmps19
        go_wp2_with (go_at_call 15; refine (ref2_Valid _ _).mono ?_; rintro e w' ⟨rfl, rfl⟩)
        go_ret3
        exact ⟨ret3_int E1.out.symm E2.out.symm E3.out.symm, 0, rfl⟩

theorem money_Even (m u : Int) (w : World) :
    Calls Tryd.prog 20 #[.int .i64 m, .int .i64 u] w fun e w' => e = .returned (.tuple #[.int .i64 (Mn.evQ m u), .int .i64 (Mn.evR m u), .int .i64 (Mn.evE m u)]) ∧ ∃ k, w' = w.drewN k := by
  cases hv : Mn.vld m
  · obtain ⟨e1, e2, e3⟩ := Mn.ev_no (m := m) (n := u) (fun h => by rw [(Mn.vld_iff m).2 h.1] at hv; cases hv)
    have E1 := Lib.hid e1
    have E2 := Lib.hid e2
    have E3 := Lib.hid e3
    clear e1 e2 e3
    go_enter Tryd.func20, Tryd.ntmps20
    go_wp2_with (go_at_call 14; refine (money_Valid _ _).mono ?_; rintro e w' ⟨rfl, rfl⟩)
    go_ret3
    exact ⟨ret3_int E1.out.symm E2.out.symm E3.out.symm, 0, rfl⟩
  · obtain ⟨m0, m1⟩ := (Mn.vld_iff m).1 hv
    by_cases hb : 1 ≤ u
    · obtain ⟨e1, e2, e3⟩ := Mn.ev_yes ⟨⟨m0, m1⟩, hb⟩
      have E1 := Lib.hid e1
      have E2 := Lib.hid e2
      have E3 := Lib.hid e3
      clear e1 e2 e3
      obtain ⟨p0, p1, p2, p3, p4⟩ := Mn.mod_bd m0 hb
      go_enter Tryd.func20, Tryd.ntmps20
      go_wp2_with (go_at_call 14; refine (money_Valid _ _).mono ?_; rintro e w' ⟨rfl, rfl⟩)
      go_quiet (fail)
      go_wp2
      go_ret3
      exact ⟨ret3_int E1.out.symm E2.out.symm E3.out.symm, _, rfl⟩
    · obtain ⟨e1, e2, e3⟩ := Mn.ev_no (m := m) (n := u) (fun h => hb h.2)
      have E1 := Lib.hid e1
      have E2 := Lib.hid e2
      have E3 := Lib.hid e3
      clear e1 e2 e3
      have b0 : u < 1 := by omega
      clear hb
      go_enter Tryd.func20, Tryd.ntmps20
      go_wp2_with (go_at_call 14; refine (money_Valid _ _).mono ?_; rintro e w' ⟨rfl, rfl⟩)
      go_ret3
      exact ⟨ret3_int E1.out.symm E2.out.symm E3.out.symm, 0, rfl⟩

theorem ref2_Even (m u : Int) (w : World) :
    Calls Tryd.prog 21 #[.int .i64 m, .int .i64 u] w fun e w' => e = .returned (.tuple #[.int .i64 (Mn.evQ m u), .int .i64 (Mn.evR m u), .int .i64 (Mn.evE m u)]) ∧ ∃ k, w' = w.drewN k := by
  cases hv : Mn.vld m
  · obtain ⟨e1, e2, e3⟩ := Mn.ev_no (m := m) (n := u) (fun h => by rw [(Mn.vld_iff m).2 h.1] at hv; cases hv)
    have E1 := Lib.hid e1
    have E2 := Lib.hid e2
    have E3 := Lib.hid e3
    clear e1 e2 e3
    go_enter Tryd.func21, Tryd.ntmps21
    go_wp2_with (go_at_call 15; refine (ref2_Valid _ _).mono ?_; rintro e w' ⟨rfl, rfl⟩)
    go_ret3
    exact ⟨ret3_int E1.out.symm E2.out.symm E3.out.symm, 0, rfl⟩
  · obtain ⟨m0, m1⟩ := (Mn.vld_iff m).1 hv
    by_cases hb : 1 ≤ u
    · obtain ⟨e1, e2, e3⟩ := Mn.ev_yes ⟨⟨m0, m1⟩, hb⟩
      have E1 := Lib.hid e1
      have E2 := Lib.hid e2
      have E3 := Lib.hid e3
      clear e1 e2 e3
      obtain ⟨p0, p1, p2, p3, p4⟩ := Mn.mod_bd m0 hb
      go_enter Tryd.func21, Tryd.ntmps21
      go_wp2_with (go_at_call 15; refine (ref2_Valid _ _).mono ?_; rintro e w' ⟨rfl, rfl⟩)
      go_quiet (fail)
      go_wp2
      go_ret3
      exact ⟨ret3_int E1.out.symm E2.out.symm E3.out.symm, _, rfl⟩
    · obtain ⟨e1, e2, e3⟩ := Mn.ev_no (m := m) (n := u) (fun h => hb h.2)
      have E1 := Lib.hid e1
      have E2 := Lib.hid e2
      have E3 := Lib.hid e3
      clear e1 e2 e3
      have b0 : u < 1 := by omega
      clear hb
      go_enter Tryd.func21, Tryd.ntmps21
      go_wp2_with (go_at_call 15; refine (ref2_Valid _ _).mono ?_; rintro e w' ⟨rfl, rfl⟩)
      go_ret3
      exact ⟨ret3_int E1.out.symm E2.out.symm E3.out.symm, 0, rfl⟩
end Go.Proofs.YtckimajnhdefcaaDoor
