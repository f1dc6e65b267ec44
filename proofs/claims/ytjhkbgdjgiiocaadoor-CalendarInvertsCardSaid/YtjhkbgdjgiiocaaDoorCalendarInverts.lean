/- CalendarInverts (P6.2): for every day the day of its date is the day itself, and the next day has the next date; other numbers are refused; the chapter's example holds: the law returns true. No condition. -/
import Derived.Test.YtjhkbgdjgiiocaaDoorCalLaid
import Derived.Test.YtjhkbgdjgiiocaaDoorCalAw
namespace Go.Proofs.YtjhkbgdjgiiocaaDoor.calendarInverts
set_option maxRecDepth 20000
open Go.RowKit Go.ChangeShapes Go.WideShapes Go.ChangeAt Go.WideElems
open Go.ChangeMaps (open_string shut_string)
set_option linter.unusedVariables false

theorem date_ok {N : Nat} (h : N < 745654) : Cl.datY (N : Int) = (Cl.yr N : Nat) ∧ Cl.datM (N : Int) = (Cl.mo N : Nat) ∧ Cl.datD (N : Int) = (Cl.dy N : Nat) ∧ Cl.datE (N : Int) = 0 := by
  have hd : Cl.isd (N : Int) = true := Cl.isd_iff.2 ⟨by omega, by omega⟩
  unfold Cl.datY Cl.datM Cl.datD Cl.datE
  rw [hd, Int.toNat_natCast]
  exact ⟨rfl, rfl, rfl, rfl⟩
theorem day_back {N : Nat} (h : N < 745654) : Cl.dayV (Cl.yr N : Nat) (Cl.mo N : Nat) (Cl.dy N : Nat) = N ∧ Cl.dayE (Cl.yr N : Nat) (Cl.mo N : Nat) (Cl.dy N : Nat) = 0 := by
  have hc := Cl.civ_is N
  obtain ⟨y1, y2⟩ := Cl.yr_bd (n := N) (by omega)
  have hn : Cl.num (Cl.yr N) (Cl.mo N) (Cl.dy N) = N := by unfold Cl.num; exact hc.n.symm
  have he : Cl.ex (Cl.yr N : Nat) (Cl.mo N : Nat) (Cl.dy N : Nat) = true := Cl.ex_iff.2 ⟨by omega, by omega, by have := hc.m0; omega, by have := hc.m1; omega, by have := hc.d0; omega, by rw [Int.toNat_natCast, Int.toNat_natCast]; have := hc.d1; omega⟩
  have ho : Cl.dayO (Cl.yr N : Nat) (Cl.mo N : Nat) (Cl.dy N : Nat) = true := by
    unfold Cl.dayO
    rw [he, Int.toNat_natCast, Int.toNat_natCast, Int.toNat_natCast, hn, decide_eq_true h]; rfl
  have := Cl.day_ok ho
  rw [Int.toNat_natCast, Int.toNat_natCast, Int.toNat_natCast, hn] at this
  exact this
set_option maxHeartbeats 4000000 in
theorem walk (n : Int) (n0 : -9223372036854775808 ≤ n) (n1 : n ≤ 9223372036854775807) (w : World) (hE : CEnv w) :
    Calls Tryd.prog 4 #[.int .i64 n] w fun e w' => e = .returned (.bool true) ∧ Below w.heap.size w w' := by
  have DT := Lib.hid fun W (hW : Below w.heap.size w W) => law6_dated W (hE.on hW)
  have B0 := Lib.hid (Below.refl w.heap.size w)
  have c1 := fun W (hW : Below w.heap.size w W) => cal_Date n W (hE.on hW)
  by_cases hd : 0 ≤ n ∧ n < 745654
  · obtain ⟨d0, d1⟩ := hd
    obtain ⟨N, eN⟩ : ∃ N : Nat, n = (N : Int) := ⟨n.toNat, by omega⟩
    have hN : N < 745654 := by omega
    obtain ⟨q1, q2, q3, q4⟩ := date_ok hN
    obtain ⟨r1, r2⟩ := day_back hN
    obtain ⟨u1, u2, u3, u4⟩ := Cl.dy_bd N
    obtain ⟨y1, y2⟩ := Cl.yr_bd (n := N) (by omega)
    obtain ⟨a, ea⟩ : ∃ a : Int, a = (Cl.yr N : Nat) := ⟨_, rfl⟩
    obtain ⟨b, eb⟩ : ∃ a : Int, a = (Cl.mo N : Nat) := ⟨_, rfl⟩
    obtain ⟨c, ec⟩ : ∃ a : Int, a = (Cl.dy N : Nat) := ⟨_, rfl⟩
    have a0 : 2000 ≤ a := by omega
    have a1 : a ≤ 4042 := by omega
    have b0 : 1 ≤ b := by omega
    have b1 : b ≤ 12 := by omega
    have g0 : 1 ≤ c := by omega
    have g1 : c ≤ 31 := by omega
    have c2 := fun W (hW : Below w.heap.size w W) => cal_Day a b c W (hE.on hW)
    rw [← ea, ← eb, ← ec, ← eN] at r1
    rw [← ea, ← eb, ← ec] at r2
    rw [r1, r2] at c2
    rw [← eN] at q1 q2 q3 q4
    rw [q1, q2, q3, q4, ← ea, ← eb, ← ec] at c1
    have C1 := Lib.hid c1
    have C2 := Lib.hid c2
    by_cases hl : n + 1 = 745654
    · have hl2 : (n + 1 == 745654) = true := by rw [beq_iff_eq]; exact hl
      clear c1 c2 q1 q2 q3 q4 r1 r2 u1 u2 u3 u4 y1 y2 hN ea eb ec eN hl
      have hl : n + 1 = 745654 := eq_of_beq hl2
      go_enter Tryd.func4, Tryd.ntmps4
      go_wp2_with fail
      refine (C1.out _ B0.out).mono ?_
      rintro e w1 ⟨rfl, E1⟩
      have B1 := Lib.hid (bth B0.out E1)
      clear E1
      go_wp2_with fail
      refine (C2.out _ B1.out).mono ?_
      rintro e w2 ⟨rfl, E2⟩
      have B2 := Lib.hid (bth B1.out E2)
      clear E2
      go_wp2_with fail
      refine (DT.out _ B2.out).mono ?_
      rintro e w3 ⟨rfl, E3⟩
      have B3 := Lib.hid (bth B2.out E3)
      clear E3
      go_wp2_with fail
      go_ret
      exact ⟨rfl, B3.out⟩
    · have hl2 : (n + 1 == 745654) = false := by rw [beq_eq_false_iff_ne]; exact hl
      have hN2 : N + 1 < 745654 := by omega
      obtain ⟨p1, p2, p3, p4⟩ := date_ok hN2
      have e1 : ((N + 1 : Nat) : Int) = n + 1 := by omega
      rw [e1] at p1 p2 p3 p4
      have c3 := fun W (hW : Below w.heap.size w W) => cal_Date (n + 1) W (hE.on hW)
      rw [p1, p2, p3, p4] at c3
      have hml := Cl.mlen_bd (Cl.yr N) (Cl.mo N)
      rcases Cl.civ_next (Cl.civ_is N) with ⟨h1, h2⟩ | ⟨h1, h2, h3⟩ | ⟨h1, h2, h3⟩
      · obtain ⟨z1, z2, z3⟩ := Cl.civ_at h2
        rw [z1, z2, z3, ← ea, ← eb, show ((Cl.dy N + 1 : Nat) : Int) = c + 1 by omega] at c3
        have C3 := Lib.hid c3
        have f1 : (c + 1 == 1) = false := by rw [beq_eq_false_iff_ne]; omega
        clear c1 c2 c3 q1 q2 q3 q4 r1 r2 u1 u2 u3 u4 y1 y2 hN ea eb ec eN p1 p2 p3 p4 e1 hml h1 h2 z1 z2 z3 hN2
        go_enter Tryd.func4, Tryd.ntmps4
        go_wp2_with fail
        refine (C1.out _ B0.out).mono ?_
        rintro e w1 ⟨rfl, E1⟩
        have B1 := Lib.hid (bth B0.out E1)
        clear E1
        go_wp2_with fail
        refine (C2.out _ B1.out).mono ?_
        rintro e w2 ⟨rfl, E2⟩
        have B2 := Lib.hid (bth B1.out E2)
        clear E2
        go_wp2_with fail
        refine (C3.out _ B2.out).mono ?_
        rintro e w3 ⟨rfl, E3⟩
        have B3 := Lib.hid (bth B2.out E3)
        clear E3
        go_wp2_with fail
        refine (DT.out _ B3.out).mono ?_
        rintro e w4 ⟨rfl, E4⟩
        have B4 := Lib.hid (bth B3.out E4)
        clear E4
        go_wp2_with fail
        go_ret
        exact ⟨rfl, B4.out⟩
      · obtain ⟨z1, z2, z3⟩ := Cl.civ_at h3
        rw [z1, z2, z3, ← ea, show ((Cl.mo N + 1 : Nat) : Int) = b + 1 by omega, show ((1 : Nat) : Int) = 1 from rfl] at c3
        have C3 := Lib.hid c3
        have f1 : (b + 1 == b) = false := by rw [beq_eq_false_iff_ne]; omega
        have f2 : ¬ c < 28 := by omega
        have f3 : 28 ≤ c := by omega
        clear c1 c2 c3 q1 q2 q3 q4 r1 r2 u1 u2 u3 u4 y1 y2 hN ea eb ec eN p1 p2 p3 p4 e1 hml h1 h2 h3 z1 z2 z3 hN2
        go_enter Tryd.func4, Tryd.ntmps4
        go_wp2_with fail
        refine (C1.out _ B0.out).mono ?_
        rintro e w1 ⟨rfl, E1⟩
        have B1 := Lib.hid (bth B0.out E1)
        clear E1
        go_wp2_with fail
        refine (C2.out _ B1.out).mono ?_
        rintro e w2 ⟨rfl, E2⟩
        have B2 := Lib.hid (bth B1.out E2)
        clear E2
        go_wp2_with fail
        refine (C3.out _ B2.out).mono ?_
        rintro e w3 ⟨rfl, E3⟩
        have B3 := Lib.hid (bth B2.out E3)
        clear E3
        go_wp2_with fail
        refine (DT.out _ B3.out).mono ?_
        rintro e w4 ⟨rfl, E4⟩
        have B4 := Lib.hid (bth B3.out E4)
        clear E4
        go_wp2_with fail
        go_ret
        exact ⟨rfl, B4.out⟩
      · obtain ⟨z1, z2, z3⟩ := Cl.civ_at h3
        rw [z1, z2, z3, show ((Cl.yr N + 1 : Nat) : Int) = a + 1 by omega, show ((1 : Nat) : Int) = 1 from rfl] at c3
        have C3 := Lib.hid c3
        have f1 : (a + 1 == a) = false := by rw [beq_eq_false_iff_ne]; omega
        have f2 : ¬ c < 28 := by omega
        have f3 : 28 ≤ c := by omega
        have f4 : b = 12 := by omega
        have f5 : (b == 12) = true := by rw [beq_iff_eq]; exact f4
        have f6 : b ≤ 12 := by omega
        clear f4 c1 c2 c3 q1 q2 q3 q4 r1 r2 u1 u2 u3 u4 y1 y2 hN ea eb ec eN p1 p2 p3 p4 e1 hml h1 h2 h3 z1 z2 z3 hN2
        go_enter Tryd.func4, Tryd.ntmps4
        go_wp2_with fail
        refine (C1.out _ B0.out).mono ?_
        rintro e w1 ⟨rfl, E1⟩
        have B1 := Lib.hid (bth B0.out E1)
        clear E1
        go_wp2_with fail
        refine (C2.out _ B1.out).mono ?_
        rintro e w2 ⟨rfl, E2⟩
        have B2 := Lib.hid (bth B1.out E2)
        clear E2
        go_wp2_with fail
        refine (C3.out _ B2.out).mono ?_
        rintro e w3 ⟨rfl, E3⟩
        have B3 := Lib.hid (bth B2.out E3)
        clear E3
        go_wp2_with fail
        refine (DT.out _ B3.out).mono ?_
        rintro e w4 ⟨rfl, E4⟩
        have B4 := Lib.hid (bth B3.out E4)
        clear E4
        go_wp2_with fail
        go_ret
        exact ⟨rfl, B4.out⟩
  · have hx : Cl.isd n = false := by rw [Bool.eq_false_iff]; intro e; exact hd (Cl.isd_iff.1 e)
    have q : Cl.datY n = 0 ∧ Cl.datM n = 0 ∧ Cl.datD n = 0 ∧ Cl.datE n = 2 := by simp [Cl.datY, Cl.datM, Cl.datD, Cl.datE, hx]
    rw [q.1, q.2.1, q.2.2.1, q.2.2.2] at c1
    have C1 := Lib.hid c1
    clear c1 q hx
    by_cases g0 : n < 0
    · clear hd
      go_enter Tryd.func4, Tryd.ntmps4
      go_wp2_with fail
      refine (C1.out _ B0.out).mono ?_
      rintro e w1 ⟨rfl, E1⟩
      have B1 := Lib.hid (bth B0.out E1)
      clear E1
      go_wp2_with fail
      refine (DT.out _ B1.out).mono ?_
      rintro e w2 ⟨rfl, E2⟩
      have B2 := Lib.hid (bth B1.out E2)
      clear E2
      go_wp2_with fail
      go_ret
      exact ⟨rfl, B2.out⟩
    · have g1 : 745654 ≤ n := by omega
      clear hd
      go_enter Tryd.func4, Tryd.ntmps4
      go_wp2_with fail
      refine (C1.out _ B0.out).mono ?_
      rintro e w1 ⟨rfl, E1⟩
      have B1 := Lib.hid (bth B0.out E1)
      clear E1
      go_wp2_with fail
      refine (DT.out _ B1.out).mono ?_
      rintro e w2 ⟨rfl, E2⟩
      have B2 := Lib.hid (bth B1.out E2)
      clear E2
      go_wp2_with fail
      go_ret
      exact ⟨rfl, B2.out⟩

/-! ### The row's step, the row, the card -/
set_option maxRecDepth 100000 in
theorem lifted (os : Os) (started : os.Started) (H : Type) (enc : TypeId × Value → H) :
    ReturnsInHanded {} Tryd.checked os 4 .any (fun w args => (Rows.calendarInvertsSpec.pre enc Tryd.prog Tryd.f4 Rows.calendarInvertsRow.domain false w args ∧ laidMetH Tryd.prog Rows.calendarInvertsRow.laid w) ∧ sizedMet enc Tryd.prog Tryd.f4 (OpenSpec.ofChange Rows.calendarInvertsSpec) false w args)
      (Rows.calendarInvertsSpec.post enc Tryd.prog Tryd.f4 false true false false) := by
  refine returnsInHanded_of_change_and (C := Tryd.checked) (X := fun w _ => laidMetH Tryd.prog Rows.calendarInvertsRow.laid w) (fun _ _ _ hh h => h.of_heap hh) own started (by kernel_rfl) Tryd.func4
    (ChangeSpec.witness_shaped (enc := enc) (C := Tryd.checked) (os := os) (X := fun w _ => laidMetH Tryd.prog Rows.calendarInvertsRow.laid w) false (World.doorLaid Tryd.prog 29 os) #[.int .i64 0] 8 rfl (World.shaped_of_RefB (by kernel_rfl) (by kernel_rfl)) (by kernel_rfl) (by kernel_rfl) (by kernel_rfl) (calmet os _)) ?_
  intro W base args ds gs before hval0 hW _ hsz0 hL _
  have hsz : (DataW.weightsEach Tryd.prog (Tryd.f4.params.toList ++ Rows.calendarInvertsSpec.plain.varTypes Tryd.prog) (ds ++ gs)).all (· ≤ reachBytes) = true := hsz0
  clear hsz0
  have hval : ∀ (j : Nat) t v, Tryd.f4.params[j]? = some t → args[j]? = some v → Value.okWide Tryd.prog W .any base t v := hval0
  have hW' := hW
  obtain ⟨p, q, hA0, hV, rfl, hfz, hnd⟩ := hW
  have hA : DataW.TrodAll enc Tryd.prog W 0 (fun _ => true) true Tryd.f4.params.toList args.toList ds p := hA0
  rw [Tryd.params4] at hA hval hsz

  obtain ⟨v0, vs0, d0, ds0, p0, q0, hargs, rfl, rfl, h0, r0⟩ := trodAll_cons hA
  obtain ⟨rfl, rfl, rfl⟩ := trodAll_nil r0
  obtain rfl : args = #[v0] := by cases args; simp_all
  obtain ⟨rfl, rfl⟩ := trodVars_none hV
  obtain ⟨a0, rfl, rfl, rfl, w0⟩ := open_int Tryd.underlying3 (hval 0 3 v0 rfl rfl) h0
  have b0 := bounds_i64 w0
  clear hA0 hval0
  simp only [List.append_nil] at hW'
  refine (walk a0 b0.1 b0.2 W (calenv hL) ).mono fun e W' ⟨he, bel⟩ => ?_
  subst he
  exact ⟨_, rfl, _, _, _, [], _, [], hW', trodAll_mk1 (shut_bool Tryd.underlying4 _), (trodAll_cons_mk (shut_int Tryd.underlying3 w0) trodAll_mk0), rfl, bel.frame _, fun h => by cases h⟩

theorem over : Rows.CalendarInvertsSaid :=
  OpenClaim.holds_of_wide 4 Tryd.f4 rfl rfl rfl rfl rfl rfl rfl ⟨rfl, rfl, rfl, rfl, rfl⟩ rfl rfl rfl rfl rfl (by kernel_rfl) Tryd.func4 (by kernel_rfl)
    (of_decide_eq_true (by kernel_rfl)) (by unfold Func.isWrapper; first | (rw [if_pos (by decide +kernel)]; kernel_rfl) | (rw [if_neg (by decide +kernel)]; exact ⟨rfl, rfl⟩))
    (fun os started H enc _ => lifted os started H enc)
theorem plain (f : FuncId) (fn : Func) (hf : Tryd.pinned.checked.prog.funcNamed "lottery/lotterylaw06.CalendarInverts" = some f) (hfn : Tryd.pinned.checked.prog.funcs[f]? = some fn) :
    false = Tryd.pinned.checked.prog.looks [] ∧ ∀ (j : Nat) t, fn.params[j]? = some t → Tryd.pinned.checked.prog.wantsStandIn t = false := by
  obtain rfl : f = 4 := Option.some.inj ((show Tryd.prog.funcNamed "lottery/lotterylaw06.CalendarInverts" = some 4 by kernel_rfl).symm.trans hf) |>.symm
  obtain rfl : fn = Tryd.f4 := (Option.some.inj (Tryd.func4.symm.trans hfn)).symm
  refine ⟨by kernel_rfl, fun j t ht => ?_⟩
  rw [Tryd.params4] at ht
  have ht := Array.mem_of_getElem? ht
  simp only [List.mem_toArray, List.mem_cons, List.not_mem_nil, or_false] at ht
  rcases ht with rfl

  · exact (show Tryd.prog.wantsStandIn 3 = false by kernel_rfl)
/-- The statement. -/
theorem card : Rows.CalendarInvertsCardSaid :=
  Claim7.holds_tied_plain_at .later [] _ _ _ _ over (fun _ h => by cases h) (by kernel_rfl) (fun _ h => by cases h) calendarInverts_row_tie rfl ⟨rfl, rfl⟩ (by kernel_rfl) rfl plain (by kernel_rfl)
end Go.Proofs.YtjhkbgdjgiiocaaDoor.calendarInverts
