/- CalendarParts (P6.4): every time is in its period, and the periods of two times are the same or do not overlap; an example holds: the law returns true. No condition. -/
import Derived.Test.YtjhkbgdjgiiocaaDoorCalLaid
import Derived.Test.YtjhkbgdjgiiocaaDoorCalAw
namespace Go.Proofs.YtjhkbgdjgiiocaaDoor.calendarParts
set_option maxRecDepth 20000
open Go.RowKit Go.ChangeShapes Go.WideShapes Go.ChangeAt Go.WideElems
open Go.ChangeMaps (open_string shut_string)
set_option linter.unusedVariables false

/-- A day of a month is one of the month's days. -/
theorem month_one {n x y m d : Nat} (h : Cl.IsCiv n y m d) (h1 : n + 1 - d ≤ x) (h2 : x < n + 1 - d + Cl.mlen y m) : Cl.IsCiv x y m (x - (n + 1 - d) + 1) :=
  ⟨h.y0, h.m0, h.m1, by omega, by omega, by have := h.n; have := h.d0; omega⟩
/-- The first days of the months of two days, with their lengths. -/
theorem months (n m : Nat) : (Cl.pf n 3 = Cl.pf m 3 ∧ Cl.pn n 3 = Cl.pn m 3) ∨ Cl.pf n 3 + Cl.pn n 3 ≤ Cl.pf m 3 ∨ Cl.pf m 3 + Cl.pn m 3 ≤ Cl.pf n 3 := by
  have one : ∀ n m : Nat, n ≤ m → (Cl.pf n 3 = Cl.pf m 3 ∧ Cl.pn n 3 = Cl.pn m 3) ∨ Cl.pf n 3 + Cl.pn n 3 ≤ Cl.pf m 3 := by
    intro n m hle
    have hn := Cl.civ_is n
    have hm := Cl.civ_is m
    have b1 := hn.d0; have b2 := hn.d1; have b3 := hn.n
    have c1 := hm.d0; have c2 := hm.d1; have c3 := hm.n
    have p1 : Cl.pf n 3 = (n : Int) - (Cl.dy n : Nat) + 1 := rfl
    have p2 : Cl.pn n 3 = (Cl.mlen (Cl.yr n) (Cl.mo n) : Nat) := rfl
    have p3 : Cl.pf m 3 = (m : Int) - (Cl.dy m : Nat) + 1 := rfl
    have p4 : Cl.pn m 3 = (Cl.mlen (Cl.yr m) (Cl.mo m) : Nat) := rfl
    rcases Nat.lt_or_ge m (n + 1 - Cl.dy n + Cl.mlen (Cl.yr n) (Cl.mo n)) with h | h
    · obtain ⟨e1, e2, e3⟩ := Cl.civ_at (month_one hn (x := m) (by omega) h)
      left
      rw [p1, p2, p3, p4, e1, e2, e3]
      omega
    · right
      rcases Nat.lt_or_ge (m + 1 - Cl.dy m) (n + 1 - Cl.dy n + Cl.mlen (Cl.yr n) (Cl.mo n)) with h1 | h1
      · exfalso
        have q1 := Cl.civ_at (month_one hn (x := n + 1 - Cl.dy n + Cl.mlen (Cl.yr n) (Cl.mo n) - 1) (by omega) (by omega))
        have q2 := Cl.civ_at (month_one hm (x := n + 1 - Cl.dy n + Cl.mlen (Cl.yr n) (Cl.mo n) - 1) (by omega) (by omega))
        have e1 := q1.1.symm.trans q2.1
        have e2 := q1.2.1.symm.trans q2.2.1
        have e3 := q1.2.2.symm.trans q2.2.2
        have hL : Cl.mlen (Cl.yr n) (Cl.mo n) = Cl.mlen (Cl.yr m) (Cl.mo m) := by rw [e1, e2]
        omega
      · rw [p1, p2, p3]; omega
  rcases Nat.le_total n m with h | h
  · rcases one n m h with h1 | h1
    · exact .inl h1
    · exact .inr (.inl h1)
  · rcases one m n h with h1 | h1
    · exact .inl ⟨h1.1.symm, h1.2.symm⟩
    · exact .inr (.inr h1)
theorem firsts {k : Int} (hk : Cl.perO k = true) (n m : Nat) : (Cl.pf n k = Cl.pf m k ∧ Cl.pn n k = Cl.pn m k) ∨ Cl.pf n k + Cl.pn n k ≤ Cl.pf m k ∨ Cl.pf m k + Cl.pn m k ≤ Cl.pf n k := by
  have h3 : k = 1 ∨ k = 2 ∨ k = 3 := by simpa [Cl.perO] using hk
  rcases h3 with rfl | rfl | rfl
  · show ((n : Int) = (m : Int) ∧ (1 : Int) = 1) ∨ (n : Int) + 1 ≤ (m : Int) ∨ (m : Int) + 1 ≤ (n : Int)
    omega
  · show ((n : Int) - (Cl.wd n : Nat) = (m : Int) - (Cl.wd m : Nat) ∧ (7 : Int) = 7) ∨ (n : Int) - (Cl.wd n : Nat) + 7 ≤ (m : Int) - (Cl.wd m : Nat) ∨ (m : Int) - (Cl.wd m : Nat) + 7 ≤ (n : Int) - (Cl.wd n : Nat)
    unfold Cl.wd
    omega
  · exact months n m
theorem within {k : Int} (hk : Cl.perO k = true) (n : Nat) : Cl.pf n k ≤ n ∧ (n : Int) < Cl.pf n k + Cl.pn n k := by
  have h3 : k = 1 ∨ k = 2 ∨ k = 3 := by simpa [Cl.perO] using hk
  rcases h3 with rfl | rfl | rfl
  · show (n : Int) ≤ n ∧ (n : Int) < (n : Int) + 1
    omega
  · show (n : Int) - (Cl.wd n : Nat) ≤ n ∧ (n : Int) < (n : Int) - (Cl.wd n : Nat) + 7
    have := Cl.wd_lt n
    omega
  · show (n : Int) - (Cl.dy n : Nat) + 1 ≤ n ∧ (n : Int) < (n : Int) - (Cl.dy n : Nat) + 1 + (Cl.mlen (Cl.yr n) (Cl.mo n) : Nat)
    have h := Cl.civ_is n
    have := h.d0; have := h.d1
    omega
theorem low_bd (x : Int) : x ≤ Cl.lowO x ∧ 0 ≤ Cl.lowO x ∧ (Cl.lowO x = x ∨ Cl.lowO x = 0) := by unfold Cl.lowO; split <;> omega
theorem top_bd (x : Int) : Cl.topO x ≤ x ∧ Cl.topO x ≤ 1073741824 ∧ (Cl.topO x = x ∨ Cl.topO x = 1073741824) := by unfold Cl.topO; split <;> omega
theorem ok_of {t k : Int} (h : Cl.perE t k = 0) : Cl.ist t = true ∧ Cl.perO k = true := by
  cases h1 : Cl.ist t
  · rw [(Cl.per_t h1).2.2] at h; exact absurd h (by decide)
  · cases h2 : Cl.perO k
    · rw [(Cl.per_k h1 h2).2.2] at h; exact absurd h (by decide)
    · exact ⟨rfl, rfl⟩
theorem parts {t u k : Int} (ht : Cl.perE t k = 0) (hu : Cl.perE u k = 0) : (Cl.perA t k ≤ t ∧ t ≤ Cl.perB t k) ∧ (Cl.perA u k ≤ u ∧ u ≤ Cl.perB u k) ∧ ((Cl.perA t k = Cl.perA u k ∧ Cl.perB t k = Cl.perB u k) ∨ Cl.perB t k < Cl.perA u k ∨ Cl.perB u k < Cl.perA t k) := by
  obtain ⟨i1, hk⟩ := ok_of ht
  obtain ⟨i2, -⟩ := ok_of hu
  obtain ⟨t0, t1⟩ := Cl.ist_iff.1 i1
  obtain ⟨u0, u1⟩ := Cl.ist_iff.1 i2
  obtain ⟨a1, a2, -⟩ := Cl.per_ok i1 hk
  obtain ⟨b1, b2, -⟩ := Cl.per_ok i2 hk
  rw [a1, a2, b1, b2]
  obtain ⟨n, en⟩ : ∃ n, n = t.toNat / 1440 := ⟨_, rfl⟩
  obtain ⟨m, em⟩ : ∃ m, m = u.toNat / 1440 := ⟨_, rfl⟩
  rw [← en, ← em]
  have w1 := within hk n
  have w2 := within hk m
  have fs := firsts hk n m
  obtain ⟨f, ef⟩ : ∃ f, f = Cl.pf n k := ⟨_, rfl⟩
  obtain ⟨g, eg⟩ : ∃ g, g = Cl.pn n k := ⟨_, rfl⟩
  obtain ⟨f', ef'⟩ : ∃ f, f = Cl.pf m k := ⟨_, rfl⟩
  obtain ⟨g', eg'⟩ : ∃ g, g = Cl.pn m k := ⟨_, rfl⟩
  rw [← ef, ← eg] at w1
  rw [← ef', ← eg'] at w2
  rw [← ef, ← eg, ← ef', ← eg'] at fs
  rw [← ef, ← eg, ← ef', ← eg']
  have l1 := low_bd (1440 * f)
  have l2 := low_bd (1440 * f')
  have o1 := top_bd (1440 * (f + g) - 1)
  have o2 := top_bd (1440 * (f' + g') - 1)
  refine ⟨by omega, by omega, ?_⟩
  rcases fs with ⟨h1, h2⟩ | h | h
  · rw [h1, h2]; exact .inl ⟨rfl, rfl⟩
  · exact .inr (.inl (by omega))
  · exact .inr (.inr (by omega))
set_option maxHeartbeats 1000000 in
theorem walk (t u k : Int) (t0 : -9223372036854775808 ≤ t) (t1 : t ≤ 9223372036854775807) (u0 : -9223372036854775808 ≤ u) (u1 : u ≤ 9223372036854775807) (k0 : -9223372036854775808 ≤ k) (k1 : k ≤ 9223372036854775807) (w : World) (hE : CEnv w) :
    Calls Tryd.prog 7 #[.int .i64 t, .int .i64 u, .int .i64 k] w fun e w' => e = .returned (.bool true) ∧ Below w.heap.size w w' := by
  have B0 := Lib.hid (Below.refl w.heap.size w)
  have c0 := fun W (hW : Below w.heap.size w W) => cal_Period 1500 1 W (hE.on hW)
  rw [Cl.ev_period.1, Cl.ev_period.2.1, Cl.ev_period.2.2] at c0
  have C0 := Lib.hid c0
  have c1 := fun W (hW : Below w.heap.size w W) => cal_Period t k W (hE.on hW)
  have c2 := fun W (hW : Below w.heap.size w W) => cal_Period u k W (hE.on hW)
  clear c0
  by_cases hE : Cl.perE t k = 0 ∧ Cl.perE u k = 0
  · obtain ⟨⟨h1, h2⟩, ⟨h3, h4⟩, h5⟩ := parts hE.1 hE.2
    rw [hE.1] at c1
    rw [hE.2] at c2
    obtain ⟨a, ea⟩ : ∃ a, a = Cl.perA t k := ⟨_, rfl⟩
    obtain ⟨b, eb⟩ : ∃ a, a = Cl.perB t k := ⟨_, rfl⟩
    obtain ⟨c, ec⟩ : ∃ a, a = Cl.perA u k := ⟨_, rfl⟩
    obtain ⟨d, ed⟩ : ∃ a, a = Cl.perB u k := ⟨_, rfl⟩
    rw [← ea] at c1 h1 h5
    rw [← eb] at c1 h2 h5
    rw [← ec] at c2 h3 h5
    rw [← ed] at c2 h4 h5
    have C1 := Lib.hid c1
    have C2 := Lib.hid c2
    clear c1 c2 ea eb ec ed hE
    rcases h5 with ⟨h5, h6⟩ | h5 | h5
    · subst h5 h6
      go_enter Tryd.func7, Tryd.ntmps7
      go_wp2_with fail
      refine (C0.out _ B0.out).mono ?_
      rintro e w1 ⟨rfl, E1⟩
      have B1 := Lib.hid (bth B0.out E1)
      clear E1
      go_wp2_with fail
      refine (C1.out _ B1.out).mono ?_
      rintro e w2 ⟨rfl, E2⟩
      have B2 := Lib.hid (bth B1.out E2)
      clear E2
      go_wp2_with fail
      refine (C2.out _ B2.out).mono ?_
      rintro e w3 ⟨rfl, E3⟩
      have B3 := Lib.hid (bth B2.out E3)
      clear E3
      go_wp2_with fail
      go_ret
      exact ⟨rfl, B3.out⟩
    · have f1 : (a == c) = false := by rw [beq_eq_false_iff_ne]; omega
      go_enter Tryd.func7, Tryd.ntmps7
      go_wp2_with fail
      refine (C0.out _ B0.out).mono ?_
      rintro e w1 ⟨rfl, E1⟩
      have B1 := Lib.hid (bth B0.out E1)
      clear E1
      go_wp2_with fail
      refine (C1.out _ B1.out).mono ?_
      rintro e w2 ⟨rfl, E2⟩
      have B2 := Lib.hid (bth B1.out E2)
      clear E2
      go_wp2_with fail
      refine (C2.out _ B2.out).mono ?_
      rintro e w3 ⟨rfl, E3⟩
      have B3 := Lib.hid (bth B2.out E3)
      clear E3
      go_wp2_with fail
      go_ret
      exact ⟨rfl, B3.out⟩
    · have f1 : (a == c) = false := by rw [beq_eq_false_iff_ne]; omega
      have f2 : ¬ b < c := by omega
      go_enter Tryd.func7, Tryd.ntmps7
      go_wp2_with fail
      refine (C0.out _ B0.out).mono ?_
      rintro e w1 ⟨rfl, E1⟩
      have B1 := Lib.hid (bth B0.out E1)
      clear E1
      go_wp2_with fail
      refine (C1.out _ B1.out).mono ?_
      rintro e w2 ⟨rfl, E2⟩
      have B2 := Lib.hid (bth B1.out E2)
      clear E2
      go_wp2_with fail
      refine (C2.out _ B2.out).mono ?_
      rintro e w3 ⟨rfl, E3⟩
      have B3 := Lib.hid (bth B2.out E3)
      clear E3
      go_wp2_with fail
      go_ret
      exact ⟨rfl, B3.out⟩
  · obtain ⟨x, ex⟩ : ∃ x, x = Cl.perE t k := ⟨_, rfl⟩
    obtain ⟨y, ey⟩ : ∃ x, x = Cl.perE u k := ⟨_, rfl⟩
    obtain ⟨a, ea⟩ : ∃ a, a = Cl.perA t k := ⟨_, rfl⟩
    obtain ⟨b, eb⟩ : ∃ a, a = Cl.perB t k := ⟨_, rfl⟩
    obtain ⟨c, ec⟩ : ∃ a, a = Cl.perA u k := ⟨_, rfl⟩
    obtain ⟨d, ed⟩ : ∃ a, a = Cl.perB u k := ⟨_, rfl⟩
    rw [← ea, ← eb, ← ex] at c1
    rw [← ec, ← ed, ← ey] at c2
    rw [← ex, ← ey] at hE
    have C1 := Lib.hid c1
    have C2 := Lib.hid c2
    clear c1 c2 ea eb ec ed ex ey
    by_cases hx : x = 0
    · subst hx
      have hy : ¬ y = 0 := fun e => hE ⟨rfl, e⟩
      have hy2 : (y == 0) = false := by simpa using hy
      clear hE
      go_enter Tryd.func7, Tryd.ntmps7
      go_wp2_with fail
      refine (C0.out _ B0.out).mono ?_
      rintro e w1 ⟨rfl, E1⟩
      have B1 := Lib.hid (bth B0.out E1)
      clear E1
      go_wp2_with fail
      refine (C1.out _ B1.out).mono ?_
      rintro e w2 ⟨rfl, E2⟩
      have B2 := Lib.hid (bth B1.out E2)
      clear E2
      go_wp2_with fail
      refine (C2.out _ B2.out).mono ?_
      rintro e w3 ⟨rfl, E3⟩
      have B3 := Lib.hid (bth B2.out E3)
      clear E3
      go_wp2_with fail
      go_ret
      exact ⟨rfl, B3.out⟩
    · have hx2 : (x == 0) = false := by simpa using hx
      clear hE
      go_enter Tryd.func7, Tryd.ntmps7
      go_wp2_with fail
      refine (C0.out _ B0.out).mono ?_
      rintro e w1 ⟨rfl, E1⟩
      have B1 := Lib.hid (bth B0.out E1)
      clear E1
      go_wp2_with fail
      refine (C1.out _ B1.out).mono ?_
      rintro e w2 ⟨rfl, E2⟩
      have B2 := Lib.hid (bth B1.out E2)
      clear E2
      go_wp2_with fail
      refine (C2.out _ B2.out).mono ?_
      rintro e w3 ⟨rfl, E3⟩
      have B3 := Lib.hid (bth B2.out E3)
      clear E3
      go_wp2_with fail
      go_ret
      exact ⟨rfl, B3.out⟩

/-! ### The row's step, the row, the card -/
set_option maxRecDepth 100000 in
theorem lifted (os : Os) (started : os.Started) (H : Type) (enc : TypeId × Value → H) :
    ReturnsInHanded {} Tryd.checked os 7 .any (fun w args => (Rows.calendarPartsSpec.pre enc Tryd.prog Tryd.f7 Rows.calendarPartsRow.domain false w args ∧ laidMetH Tryd.prog Rows.calendarPartsRow.laid w) ∧ sizedMet enc Tryd.prog Tryd.f7 (OpenSpec.ofChange Rows.calendarPartsSpec) false w args)
      (Rows.calendarPartsSpec.post enc Tryd.prog Tryd.f7 false true false false) := by
  refine returnsInHanded_of_change_and (C := Tryd.checked) (X := fun w _ => laidMetH Tryd.prog Rows.calendarPartsRow.laid w) (fun _ _ _ hh h => h.of_heap hh) own started (by kernel_rfl) Tryd.func7
    (ChangeSpec.witness_shaped (enc := enc) (C := Tryd.checked) (os := os) (X := fun w _ => laidMetH Tryd.prog Rows.calendarPartsRow.laid w) false (World.doorLaid Tryd.prog 29 os) #[.int .i64 0, .int .i64 0, .int .i64 0] 8 rfl (World.shaped_of_RefB (by kernel_rfl) (by kernel_rfl)) (by kernel_rfl) (by kernel_rfl) (by kernel_rfl) (calmet os _)) ?_
  intro W base args ds gs before hval0 hW _ hsz0 hL _
  have hsz : (DataW.weightsEach Tryd.prog (Tryd.f7.params.toList ++ Rows.calendarPartsSpec.plain.varTypes Tryd.prog) (ds ++ gs)).all (· ≤ reachBytes) = true := hsz0
  clear hsz0
  have hval : ∀ (j : Nat) t v, Tryd.f7.params[j]? = some t → args[j]? = some v → Value.okWide Tryd.prog W .any base t v := hval0
  have hW' := hW
  obtain ⟨p, q, hA0, hV, rfl, hfz, hnd⟩ := hW
  have hA : DataW.TrodAll enc Tryd.prog W 0 (fun _ => true) true Tryd.f7.params.toList args.toList ds p := hA0
  rw [Tryd.params7] at hA hval hsz

  obtain ⟨v0, vs0, d0, ds0, p0, q0, hargs, rfl, rfl, h0, r0⟩ := trodAll_cons hA
  obtain ⟨v1, vs1, d1, ds1, p1, q1, rfl, rfl, rfl, h1, r1⟩ := trodAll_cons r0
  obtain ⟨v2, vs2, d2, ds2, p2, q2, rfl, rfl, rfl, h2, r2⟩ := trodAll_cons r1
  obtain ⟨rfl, rfl, rfl⟩ := trodAll_nil r2
  obtain rfl : args = #[v0, v1, v2] := by cases args; simp_all
  obtain ⟨rfl, rfl⟩ := trodVars_none hV
  obtain ⟨a0, rfl, rfl, rfl, w0⟩ := open_int Tryd.underlying3 (hval 0 3 v0 rfl rfl) h0
  have b0 := bounds_i64 w0
  obtain ⟨a1, rfl, rfl, rfl, w1⟩ := open_int Tryd.underlying3 (hval 1 3 v1 rfl rfl) h1
  have b1 := bounds_i64 w1
  obtain ⟨a2, rfl, rfl, rfl, w2⟩ := open_int Tryd.underlying3 (hval 2 3 v2 rfl rfl) h2
  have b2 := bounds_i64 w2
  clear hA0 hval0
  simp only [List.append_nil] at hW'
  refine (walk a0 a1 a2 b0.1 b0.2 b1.1 b1.2 b2.1 b2.2 W (calenv hL) ).mono fun e W' ⟨he, bel⟩ => ?_
  subst he
  exact ⟨_, rfl, _, _, _, [], _, [], hW', trodAll_mk1 (shut_bool Tryd.underlying4 _), (trodAll_cons_mk (shut_int Tryd.underlying3 w0) (trodAll_cons_mk (shut_int Tryd.underlying3 w1) (trodAll_cons_mk (shut_int Tryd.underlying3 w2) trodAll_mk0))), rfl, bel.frame _, fun h => by cases h⟩

theorem over : Rows.CalendarPartsSaid :=
  OpenClaim.holds_of_wide 7 Tryd.f7 rfl rfl rfl rfl rfl rfl rfl ⟨rfl, rfl, rfl, rfl, rfl⟩ rfl rfl rfl rfl rfl (by kernel_rfl) Tryd.func7 (by kernel_rfl)
    (of_decide_eq_true (by kernel_rfl)) (by unfold Func.isWrapper; first | (rw [if_pos (by decide +kernel)]; kernel_rfl) | (rw [if_neg (by decide +kernel)]; exact ⟨rfl, rfl⟩))
    (fun os started H enc _ => lifted os started H enc)
theorem plain (f : FuncId) (fn : Func) (hf : Tryd.pinned.checked.prog.funcNamed "lottery/lotterylaw06.CalendarParts" = some f) (hfn : Tryd.pinned.checked.prog.funcs[f]? = some fn) :
    false = Tryd.pinned.checked.prog.looks [] ∧ ∀ (j : Nat) t, fn.params[j]? = some t → Tryd.pinned.checked.prog.wantsStandIn t = false := by
  obtain rfl : f = 7 := Option.some.inj ((show Tryd.prog.funcNamed "lottery/lotterylaw06.CalendarParts" = some 7 by kernel_rfl).symm.trans hf) |>.symm
  obtain rfl : fn = Tryd.f7 := (Option.some.inj (Tryd.func7.symm.trans hfn)).symm
  refine ⟨by kernel_rfl, fun j t ht => ?_⟩
  rw [Tryd.params7] at ht
  have ht := Array.mem_of_getElem? ht
  simp only [List.mem_toArray, List.mem_cons, List.not_mem_nil, or_false] at ht
  rcases ht with rfl | rfl | rfl

  · exact (show Tryd.prog.wantsStandIn 3 = false by kernel_rfl)
  · exact (show Tryd.prog.wantsStandIn 3 = false by kernel_rfl)
  · exact (show Tryd.prog.wantsStandIn 3 = false by kernel_rfl)
/-- The statement. -/
theorem card : Rows.CalendarPartsCardSaid :=
  Claim7.holds_tied_plain_at .later [] _ _ _ _ over (fun _ h => by cases h) (by kernel_rfl) (fun _ h => by cases h) calendarParts_row_tie rfl ⟨rfl, rfl⟩ (by kernel_rfl) rfl plain (by kernel_rfl)
end Go.Proofs.YtjhkbgdjgiiocaaDoor.calendarParts
