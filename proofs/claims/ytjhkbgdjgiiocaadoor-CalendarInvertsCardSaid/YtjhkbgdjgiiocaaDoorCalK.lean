/- Layer 6, the project's package calendar: Age, Period. -/
import Derived.Test.YtjhkbgdjgiiocaaDoorCalJ
namespace Go.Proofs.YtjhkbgdjgiiocaaDoor
set_option maxRecDepth 20000
open Go.RowKit
set_option linter.unusedVariables false
set_option linter.unusedSimpArgs false
theorem Cl.low_at {x a : Int} (h : (0 ≤ x ∧ a = x) ∨ (x < 0 ∧ a = 0)) : a = Cl.lowO x := by
  unfold Cl.lowO
  rcases h with ⟨h1, h2⟩ | ⟨h1, h2⟩
  · rw [if_neg (by omega)]; exact h2
  · rw [if_pos h1]; exact h2
theorem Cl.top_at {x a : Int} (h : (x ≤ 1073741824 ∧ a = x) ∨ (1073741824 < x ∧ a = 1073741824)) : a = Cl.topO x := by
  unfold Cl.topO
  rcases h with ⟨h1, h2⟩ | ⟨h1, h2⟩
  · rw [if_neg (by omega)]; exact h2
  · rw [if_pos h1]; exact h2
theorem cal_dateOf_b (n : Nat) (w : World) (hE : CEnv w) (hn : n ≤ 745654) : Calls Tryd.prog 28 #[.int .i64 (n : Int)] w fun e w' => e = .returned (.tuple #[.int .i64 (Cl.yr n : Nat), .int .i64 (Cl.mo n : Nat), .int .i64 (Cl.dy n : Nat)]) ∧ Below w.heap.size w w' :=
  (cal_dateOf n w hE hn).mono fun e w' h => ⟨h.1, by rw [← h.2]; exact Below.refl _ _⟩
theorem cal_Age (b n : Int) (w : World) (hE : CEnv w) : Calls Tryd.prog 16 #[.int .i64 b, .int .i64 n] w fun e w' => e = .returned (.tuple #[.int .i64 (Cl.ageV b n), .int .i64 (Cl.ageE b n)]) ∧ Below w.heap.size w w' := by
  unfold Cl.ageV Cl.ageE Cl.ageO
  have B0 := Lib.hid (Below.refl w.heap.size w)
  cases hb : Cl.isd b
  · have I1 := Lib.hid fun W => cal_isDay hb W
    clear hb
    go_enter Tryd.func16, Tryd.ntmps16
    go_wp2_with fail
    refine (I1.out _).mono ?_
    rintro e w' ⟨rfl, rfl⟩
    go_wp2_with fail
    go_ret2
    exact ⟨rfl, B0.out⟩
  · have I1 := Lib.hid fun W => cal_isDay hb W
    cases hn : Cl.isd n
    · have I2 := Lib.hid fun W => cal_isDay hn W
      clear hb hn
      go_enter Tryd.func16, Tryd.ntmps16
      go_wp2_with fail
      refine (I1.out _).mono ?_
      rintro e w' ⟨rfl, rfl⟩
      go_wp2_with fail
      refine (I2.out _).mono ?_
      rintro e w' ⟨rfl, rfl⟩
      go_wp2_with fail
      go_ret2
      exact ⟨rfl, B0.out⟩
    · have I2 := Lib.hid fun W => cal_isDay hn W
      by_cases hle : b ≤ n
      · have h1 : ¬ n < b := by omega
        obtain ⟨b0, b1⟩ := Cl.isd_iff.1 hb
        obtain ⟨n0, n1⟩ := Cl.isd_iff.1 hn
        obtain ⟨P, eP⟩ : ∃ N : Nat, b = (N : Int) := ⟨b.toNat, by omega⟩
        obtain ⟨N, eN⟩ : ∃ N : Nat, n = (N : Int) := ⟨n.toNat, by omega⟩
        subst eP eN
        have hag := Cl.age_int (b := P) (n := N) (by omega)
        rw [decide_eq_true hle]
        simp only [Bool.and_self, if_true, Int.toNat_natCast]
        have c1 := fun W (hW : Below w.heap.size w W) => cal_dateOf_b P W (hE.on hW) (by omega)
        have c2 := fun W (hW : Below w.heap.size w W) => cal_dateOf_b N W (hE.on hW) (by omega)
        obtain ⟨y1, y2⟩ := Cl.yr_bd (n := P) (by omega)
        obtain ⟨z1, z2⟩ := Cl.yr_bd (n := N) (by omega)
        have u1 := Cl.dy_bd P
        have u2 := Cl.dy_bd N
        obtain ⟨ya, ea⟩ : ∃ a : Int, a = (Cl.yr P : Nat) := ⟨_, rfl⟩
        obtain ⟨ma, eb⟩ : ∃ a : Int, a = (Cl.mo P : Nat) := ⟨_, rfl⟩
        obtain ⟨da, ec⟩ : ∃ a : Int, a = (Cl.dy P : Nat) := ⟨_, rfl⟩
        obtain ⟨yb, ed⟩ : ∃ a : Int, a = (Cl.yr N : Nat) := ⟨_, rfl⟩
        obtain ⟨mb, ee⟩ : ∃ a : Int, a = (Cl.mo N : Nat) := ⟨_, rfl⟩
        obtain ⟨db, ef⟩ : ∃ a : Int, a = (Cl.dy N : Nat) := ⟨_, rfl⟩
        obtain ⟨g, eg⟩ : ∃ g : Int, g = (Cl.age P N : Nat) := ⟨_, rfl⟩
        have hag2 : yb - ya - (if mb < ma ∨ mb = ma ∧ db < da then 1 else 0) = g := by
          rw [ea, ed, eg, ← hag]
          by_cases hc : Cl.mo N < Cl.mo P ∨ Cl.mo N = Cl.mo P ∧ Cl.dy N < Cl.dy P
          · rw [if_pos hc, if_pos (by omega)]
          · rw [if_neg hc, if_neg (by omega)]
        have a0 : 2000 ≤ ya := by omega
        have a1 : ya ≤ 4042 := by omega
        have a2 : 2000 ≤ yb := by omega
        have a3 : yb ≤ 4042 := by omega
        rw [← ea, ← eb, ← ec] at c1
        rw [← ed, ← ee, ← ef] at c2
        rw [← eg]
        have C1 := Lib.hid c1
        have C2 := Lib.hid c2
        obtain ⟨PI, ePI⟩ : ∃ p : Int, p = (P : Int) := ⟨_, rfl⟩
        obtain ⟨NI, eNI⟩ : ∃ p : Int, p = (N : Int) := ⟨_, rfl⟩
        rw [← ePI] at C1 I1 h1 ⊢
        rw [← eNI] at C2 I2 h1 ⊢
        clear hb hn c1 c2 ea eb ec ed ee ef eg hag y1 y2 z1 z2 u1 u2 b0 b1 n0 n1 hle ePI eNI
        by_cases m1 : mb < ma
        · have F : Hid (yb - ya - 1 = g) := by show _ = _; rw [if_pos (.inl m1)] at hag2; exact hag2
          clear hag2
          go_enter Tryd.func16, Tryd.ntmps16
          go_wp2_with fail
          refine (I1.out _).mono ?_
          rintro e w' ⟨rfl, rfl⟩
          go_wp2_with fail
          refine (I2.out _).mono ?_
          rintro e w' ⟨rfl, rfl⟩
          go_wp2_with fail
          refine (C1.out _ B0.out).mono ?_
          rintro e w1 ⟨rfl, B1⟩
          have K1 := Lib.hid B1
          clear B1
          go_wp2_with fail
          refine (C2.out _ K1.out).mono ?_
          rintro e w2 ⟨rfl, B2⟩
          have K2 := Lib.hid (bth K1.out B2)
          clear B2
          go_wp2_with fail
          go_ret2
          exact ⟨ret2_int F.out rfl, K2.out⟩
        · by_cases m2 : mb = ma
          · subst m2
            by_cases m3 : db < da
            · have F : Hid (yb - ya - 1 = g) := by show _ = _; rw [if_pos (.inr ⟨rfl, m3⟩)] at hag2; exact hag2
              clear hag2
              go_enter Tryd.func16, Tryd.ntmps16
              go_wp2_with fail
              refine (I1.out _).mono ?_
              rintro e w' ⟨rfl, rfl⟩
              go_wp2_with fail
              refine (I2.out _).mono ?_
              rintro e w' ⟨rfl, rfl⟩
              go_wp2_with fail
              refine (C1.out _ B0.out).mono ?_
              rintro e w1 ⟨rfl, B1⟩
              have K1 := Lib.hid B1
              clear B1
              go_wp2_with fail
              refine (C2.out _ K1.out).mono ?_
              rintro e w2 ⟨rfl, B2⟩
              have K2 := Lib.hid (bth K1.out B2)
              clear B2
              go_wp2_with fail
              go_ret2
              exact ⟨ret2_int F.out rfl, K2.out⟩
            · have F : Hid (yb - ya = g) := by show _ = _; rw [if_neg (by omega)] at hag2; omega
              clear hag2
              go_enter Tryd.func16, Tryd.ntmps16
              go_wp2_with fail
              refine (I1.out _).mono ?_
              rintro e w' ⟨rfl, rfl⟩
              go_wp2_with fail
              refine (I2.out _).mono ?_
              rintro e w' ⟨rfl, rfl⟩
              go_wp2_with fail
              refine (C1.out _ B0.out).mono ?_
              rintro e w1 ⟨rfl, B1⟩
              have K1 := Lib.hid B1
              clear B1
              go_wp2_with fail
              refine (C2.out _ K1.out).mono ?_
              rintro e w2 ⟨rfl, B2⟩
              have K2 := Lib.hid (bth K1.out B2)
              clear B2
              go_wp2_with fail
              go_ret2
              exact ⟨ret2_int F.out rfl, K2.out⟩
          · have k3 : (mb == ma) = false := by rw [beq_eq_false_iff_ne]; exact m2
            have F : Hid (yb - ya = g) := by show _ = _; rw [if_neg (by omega)] at hag2; omega
            clear hag2
            go_enter Tryd.func16, Tryd.ntmps16
            go_wp2_with fail
            refine (I1.out _).mono ?_
            rintro e w' ⟨rfl, rfl⟩
            go_wp2_with fail
            refine (I2.out _).mono ?_
            rintro e w' ⟨rfl, rfl⟩
            go_wp2_with fail
            refine (C1.out _ B0.out).mono ?_
            rintro e w1 ⟨rfl, B1⟩
            have K1 := Lib.hid B1
            clear B1
            go_wp2_with fail
            refine (C2.out _ K1.out).mono ?_
            rintro e w2 ⟨rfl, B2⟩
            have K2 := Lib.hid (bth K1.out B2)
            clear B2
            go_wp2_with fail
            go_ret2
            exact ⟨ret2_int F.out rfl, K2.out⟩
      · have h1 : n < b := by omega
        rw [decide_eq_false hle]
        clear hb hn
        go_enter Tryd.func16, Tryd.ntmps16
        go_wp2_with fail
        refine (I1.out _).mono ?_
        rintro e w' ⟨rfl, rfl⟩
        go_wp2_with fail
        refine (I2.out _).mono ?_
        rintro e w' ⟨rfl, rfl⟩
        go_wp2_with fail
        go_ret2
        exact ⟨rfl, B0.out⟩
set_option maxHeartbeats 1000000 in
theorem cal_Period (t k : Int) (w : World) (hE : CEnv w) : Calls Tryd.prog 18 #[.int .i64 t, .int .i64 k] w fun e w' => e = .returned (.tuple #[.int .i64 (Cl.perA t k), .int .i64 (Cl.perB t k), .int .i64 (Cl.perE t k)]) ∧ Below w.heap.size w w' := by
  have B0 := Lib.hid (Below.refl w.heap.size w)
  cases ht : Cl.ist t
  · have I1 := Lib.hid fun W => cal_isTime ht W
    obtain ⟨e1, e2, e3⟩ := Cl.per_t (k := k) ht
    rw [e1, e2, e3]
    clear ht e1 e2 e3
    go_enter Tryd.func18, Tryd.ntmps18
    go_wp2_with fail
    refine (I1.out _).mono ?_
    rintro e w' ⟨rfl, rfl⟩
    go_wp2_with fail
    refine bodyPost_ret (v := .tuple #[.int .i64 0, .int .i64 0, .int .i64 2]) (by simp [results, Tryd.results18, go_sem]) rfl ?_
    exact ⟨rfl, B0.out⟩
  · have I1 := Lib.hid fun W => cal_isTime ht W
    obtain ⟨t0, t1⟩ := Cl.ist_iff.1 ht
    obtain ⟨n, en⟩ : ∃ n : Nat, n = t.toNat / 1440 := ⟨_, rfl⟩
    have hn : n ≤ 745654 := by omega
    obtain ⟨m, em⟩ : ∃ m : Int, m = (n : Nat) := ⟨_, rfl⟩
    have hdiv : t / 1440 = m := by omega
    have hdiv2 : t.tdiv 1440 = m := by rw [Int.tdiv_eq_ediv_of_nonneg t0]; exact hdiv
    have g0 : 0 ≤ m := by omega
    have g1 : m ≤ 745654 := by omega
    cases hk : Cl.perO k
    · obtain ⟨e1, e2, e3⟩ := Cl.per_k ht hk
      rw [e1, e2, e3]
      have hk3 : ¬ (k = 1 ∨ k = 2 ∨ k = 3) := by simpa [Cl.perO] using hk
      have k1 : (k == 1) = false := by rw [beq_eq_false_iff_ne]; omega
      have k2 : (k == 2) = false := by rw [beq_eq_false_iff_ne]; omega
      have k3 : (k == 3) = false := by rw [beq_eq_false_iff_ne]; omega
      have q1 : ¬ k = 1 := by omega
      have q2 : ¬ k = 2 := by omega
      have q3 : ¬ k = 3 := by omega
      clear ht e1 e2 e3 hk hk3 en em hn
      go_enter Tryd.func18, Tryd.ntmps18
      go_wp2_with fail
      refine (I1.out _).mono ?_
      rintro e w' ⟨rfl, rfl⟩
      go_wp2_with fail
      refine bodyPost_ret (v := .tuple #[.int .i64 0, .int .i64 0, .int .i64 7]) (by simp [results, Tryd.results18, go_sem]) rfl ?_
      exact ⟨rfl, B0.out⟩
    · obtain ⟨e1, e2, e3⟩ := Cl.per_ok ht hk
      rw [← en] at e1 e2
      have hk3 : k = 1 ∨ k = 2 ∨ k = 3 := by simpa [Cl.perO] using hk
      rw [e3]
      clear e3 hk ht en
      rcases hk3 with rfl | rfl | rfl
      · have p1 : Cl.pf n 1 = m := em.symm
        have p2 : Cl.pn n 1 = 1 := rfl
        rw [p1] at e1
        rw [p1, p2] at e2
        rw [e1, e2]
        clear em hn p1 p2 e1 e2
        go_enter Tryd.func18, Tryd.ntmps18
        go_wp2_with fail
        refine (I1.out _).mono ?_
        rintro e w' ⟨rfl, rfl⟩
        go_wp2_with fail
        all_goals (first
          | (refine bodyPost_ret (v := .tuple #[.int .i64 (m * 1440), .int .i64 ((m + 1) * 1440 - 1), .int .i64 0]) (by simp [results, Tryd.results18, go_sem]) rfl ?_; exact ⟨ret3_int (Cl.low_at (by omega)) (Cl.top_at (by omega)) rfl, B0.out⟩)
          | (refine bodyPost_ret (v := .tuple #[.int .i64 (m * 1440), .int .i64 (1073741824), .int .i64 0]) (by simp [results, Tryd.results18, go_sem]) rfl ?_; exact ⟨ret3_int (Cl.low_at (by omega)) (Cl.top_at (by omega)) rfl, B0.out⟩)
          | (refine bodyPost_ret (v := .tuple #[.int .i64 (0), .int .i64 ((m + 1) * 1440 - 1), .int .i64 0]) (by simp [results, Tryd.results18, go_sem]) rfl ?_; exact ⟨ret3_int (Cl.low_at (by omega)) (Cl.top_at (by omega)) rfl, B0.out⟩)
          | (refine bodyPost_ret (v := .tuple #[.int .i64 (0), .int .i64 (1073741824), .int .i64 0]) (by simp [results, Tryd.results18, go_sem]) rfl ?_; exact ⟨ret3_int (Cl.low_at (by omega)) (Cl.top_at (by omega)) rfl, B0.out⟩))
      · obtain ⟨v, ev⟩ : ∃ v : Int, v = (Cl.wd n : Nat) := ⟨_, rfl⟩
        have p1 : Cl.pf n 2 = m - v := by rw [em, ev]; rfl
        have p2 : Cl.pn n 2 = 7 := rfl
        have hw := Cl.wd_lt n
        have v0 : 0 ≤ v := by omega
        have v1 : v ≤ 6 := by omega
        rw [p1] at e1
        rw [p1, p2] at e2
        have cw := cal_weekdayOf n w (by omega)
        rw [← em, ← ev] at cw
        have CW := Lib.hid cw
        rw [e1, e2]
        clear em hn p1 p2 e1 e2 ev hw cw
        go_enter Tryd.func18, Tryd.ntmps18
        go_wp2_with fail
        refine (I1.out _).mono ?_
        rintro e w' ⟨rfl, rfl⟩
        go_wp2_with fail
        refine CW.out.mono ?_
        rintro e w' ⟨rfl, rfl⟩
        go_wp2_with fail
        all_goals (first
          | (refine bodyPost_ret (v := .tuple #[.int .i64 ((m - v) * 1440), .int .i64 (((m - v) + 7) * 1440 - 1), .int .i64 0]) (by simp [results, Tryd.results18, go_sem]) rfl ?_; exact ⟨ret3_int (Cl.low_at (by omega)) (Cl.top_at (by omega)) rfl, B0.out⟩)
          | (refine bodyPost_ret (v := .tuple #[.int .i64 ((m - v) * 1440), .int .i64 (1073741824), .int .i64 0]) (by simp [results, Tryd.results18, go_sem]) rfl ?_; exact ⟨ret3_int (Cl.low_at (by omega)) (Cl.top_at (by omega)) rfl, B0.out⟩)
          | (refine bodyPost_ret (v := .tuple #[.int .i64 (0), .int .i64 (((m - v) + 7) * 1440 - 1), .int .i64 0]) (by simp [results, Tryd.results18, go_sem]) rfl ?_; exact ⟨ret3_int (Cl.low_at (by omega)) (Cl.top_at (by omega)) rfl, B0.out⟩)
          | (refine bodyPost_ret (v := .tuple #[.int .i64 (0), .int .i64 (1073741824), .int .i64 0]) (by simp [results, Tryd.results18, go_sem]) rfl ?_; exact ⟨ret3_int (Cl.low_at (by omega)) (Cl.top_at (by omega)) rfl, B0.out⟩))
      · obtain ⟨y1, y2⟩ := Cl.yr_bd (n := n) (by omega)
        obtain ⟨u1, u2, u3, u4⟩ := Cl.dy_bd n
        have cd := cal_dateOf n w hE (by omega)
        have cm := cal_monthDays (Cl.yr n) (Cl.mo n) w hE (by omega) u3 u4
        have hl := Cl.mlen_bd (Cl.yr n) (Cl.mo n)
        obtain ⟨d, ed⟩ : ∃ d : Int, d = (Cl.dy n : Nat) := ⟨_, rfl⟩
        obtain ⟨L, eL⟩ : ∃ L : Int, L = (Cl.mlen (Cl.yr n) (Cl.mo n) : Nat) := ⟨_, rfl⟩
        have p1 : Cl.pf n 3 = m - (d - 1) := by rw [em, ed]; show (n : Int) - _ + 1 = _; omega
        have p2 : Cl.pn n 3 = L := by rw [eL]; rfl
        rw [p1] at e1
        rw [p1, p2] at e2
        rw [← em, ← ed] at cd
        rw [← eL] at cm
        have d0 : 1 ≤ d := by omega
        have d1 : d ≤ 31 := by omega
        have L0 : 28 ≤ L := by omega
        have L1 : L ≤ 31 := by omega
        obtain ⟨a, ea⟩ : ∃ a, a = Cl.yr n := ⟨_, rfl⟩
        obtain ⟨b, eb⟩ : ∃ b, b = Cl.mo n := ⟨_, rfl⟩
        rw [← ea, ← eb] at cd cm
        have CD := Lib.hid cd
        have CM := Lib.hid cm
        rw [e1, e2]
        clear em hn p1 p2 e1 e2 ed eL ea eb hl cd cm y1 y2 u1 u2 u3 u4
        go_enter Tryd.func18, Tryd.ntmps18
        go_wp2_with fail
        refine (I1.out _).mono ?_
        rintro e w' ⟨rfl, rfl⟩
        go_wp2_with fail
        refine CD.out.mono ?_
        rintro e w' ⟨rfl, rfl⟩
        go_wp2_with fail
        refine CM.out.mono ?_
        rintro e w' ⟨rfl, rfl⟩
        go_wp2_with fail
        all_goals (first
          | (refine bodyPost_ret (v := .tuple #[.int .i64 ((m - (d - 1)) * 1440), .int .i64 (((m - (d - 1)) + L) * 1440 - 1), .int .i64 0]) (by simp [results, Tryd.results18, go_sem]) rfl ?_; exact ⟨ret3_int (Cl.low_at (by omega)) (Cl.top_at (by omega)) rfl, B0.out⟩)
          | (refine bodyPost_ret (v := .tuple #[.int .i64 ((m - (d - 1)) * 1440), .int .i64 (1073741824), .int .i64 0]) (by simp [results, Tryd.results18, go_sem]) rfl ?_; exact ⟨ret3_int (Cl.low_at (by omega)) (Cl.top_at (by omega)) rfl, B0.out⟩)
          | (refine bodyPost_ret (v := .tuple #[.int .i64 (0), .int .i64 (((m - (d - 1)) + L) * 1440 - 1), .int .i64 0]) (by simp [results, Tryd.results18, go_sem]) rfl ?_; exact ⟨ret3_int (Cl.low_at (by omega)) (Cl.top_at (by omega)) rfl, B0.out⟩)
          | (refine bodyPost_ret (v := .tuple #[.int .i64 (0), .int .i64 (1073741824), .int .i64 0]) (by simp [results, Tryd.results18, go_sem]) rfl ?_; exact ⟨ret3_int (Cl.low_at (by omega)) (Cl.top_at (by omega)) rfl, B0.out⟩))
end Go.Proofs.YtjhkbgdjgiiocaaDoor
