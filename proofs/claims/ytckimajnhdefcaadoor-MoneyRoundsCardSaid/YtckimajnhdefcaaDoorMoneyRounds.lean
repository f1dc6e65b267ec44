/- MoneyRounds (P2.5): for every two ints for which Round and Even return no error, the multiple and the difference, and n times the quotient and the remainder, add up to the amount, and the rest is less than the unit, and the chapter's examples hold: the law returns true. No condition beyond the row's own list of the library's tables and error variables. -/
import Derived.Test.YtckimajnhdefcaaDoorLaid
import Derived.Test.YtckimajnhdefcaaDoorMonAw
namespace Go.Proofs.YtckimajnhdefcaaDoor.moneyRounds
open Go.RowKit Go.ChangeShapes Go.WideShapes Go.ChangeAt Go.WideElems
open Go.ChangeMaps (open_string shut_string)
set_option linter.unusedVariables false

theorem mod_zero {m u : Int} : (m - m % u) % u = 0 := by
  rw [← Mn.div_mul_mod, Int.mul_emod_left]
set_option maxRecDepth 100000 in
set_option maxHeartbeats 1000000 in
theorem walk (m u : Int) (_m0 : -9223372036854775808 ≤ m) (_m1 : m ≤ 9223372036854775807) (_u0 : -9223372036854775808 ≤ u) (hu9 : u ≤ 9223372036854775807) (w : World) (hE : Env w) :
    Calls Tryd.prog 7 #[.int .i64 m, .int .i64 u] w fun e w' => e = .returned (.bool true) ∧ Below w.heap.size w w' := by
  have HE := Lib.hid hE
  clear hE
  have c3 := fun w => money_Round m u w
  have c5 := fun w => money_Even m u w
  by_cases hev : (0 ≤ m ∧ m ≤ 1000000000000) ∧ 1 ≤ u
  · obtain ⟨⟨m0, m1⟩, u0⟩ := hev
    obtain ⟨e1, e2, e3⟩ := Mn.ev_yes ⟨⟨m0, m1⟩, u0⟩
    rw [e1, e2, e3] at c5
    clear e1 e2 e3
    obtain ⟨p0, p1, p2, p3, p4⟩ := Mn.mod_bd m0 u0
    have hsum : m / u * u + m % u = m := by rw [Mn.div_mul_mod]; omega
    have hmz := mod_zero (m := m) (u := u)
    obtain ⟨r, er⟩ : ∃ r, r = m % u := ⟨_, rfl⟩
    obtain ⟨q, eq⟩ : ∃ q, q = m / u := ⟨_, rfl⟩
    rw [← er, ← eq] at c5 hsum
    rw [← er] at p0 p1 p2 hmz
    rw [← eq] at p3 p4
    have t2 := fun w => law2_total q u r m p3 (by omega) p0 (by omega) (by omega) hsum m1 w
    have T2 := Lib.hid t2
    have C5 := Lib.hid c5
    have g1 : decide (u < 1) = false := by simp; omega
    have g2 : decide (r < 0) = false := by simp; omega
    have g3 : decide (u ≤ r) = false := by simp; omega
    have g4 : decide (q < 0) = false := by simp; omega
    clear t2 c5 hsum
    by_cases hu : u ≤ 1000000000000
    · obtain ⟨e1, e2, e3⟩ := Mn.rd_yes ⟨⟨m0, m1⟩, u0, hu⟩
      rw [e1, e2, e3, ← er] at c3
      clear e1 e2 e3
      obtain ⟨x, ex⟩ : ∃ x, x = m - r := ⟨_, rfl⟩
      rw [← ex] at c3 hmz
      have hx0 : 0 ≤ x := by omega
      have t1 := fun w => law2_total x 1 r m hx0 (by omega) p0 (by omega) (by omega) (by omega) m1 w
      have T1 := Lib.hid t1
      have C3 := Lib.hid c3
      have g5 : decide (x < 0) = false := by simp; omega
      have g6 : (x % u != 0) = false := by simpa using hmz
      clear t1 c3 ex er eq hmz
      go_enter Tryd.func7, Tryd.ntmps7
      go_wp2_with (first | (go_at_call 18; refine (C3.out _).mono ?_; rintro e w' ⟨rfl, rfl⟩) | (go_at_call 26; refine (T1.out _).mono ?_; rintro e w' ⟨rfl, rfl⟩))
      refine (C5.out _).mono ?_
      rintro e w1 ⟨rfl, hk⟩
      have h1 : Below w.heap.size w w1 := by obtain ⟨k, rfl⟩ := hk; exact below_draws _ _ _
      clear hk
      go_wp2_with (go_at_call 26; refine (T2.out _).mono ?_; rintro e w' ⟨rfl, rfl⟩)
      refine (law2_awake _ (HE.out.on h1)).mono ?_
      rintro e w4 ⟨rfl, h4⟩
      go_wp2_with fail
      go_ret
      exact ⟨rfl, below_then h1 h4⟩
    · obtain ⟨e1, e2, e3⟩ := Mn.rd_no (m := m) (u := u) (fun h => hu h.2.2)
      rw [e1, e2, e3] at c3
      have C3 := Lib.hid c3
      clear e1 e2 e3 c3 er eq hmz
      go_enter Tryd.func7, Tryd.ntmps7
      go_wp2_with (first | (go_at_call 18; refine (C3.out _).mono ?_; rintro e w' ⟨rfl, rfl⟩))
      refine (C5.out _).mono ?_
      rintro e w1 ⟨rfl, hk⟩
      have h1 : Below w.heap.size w w1 := by obtain ⟨k, rfl⟩ := hk; exact below_draws _ _ _
      clear hk
      go_wp2_with (go_at_call 26; refine (T2.out _).mono ?_; rintro e w' ⟨rfl, rfl⟩)
      refine (law2_awake _ (HE.out.on h1)).mono ?_
      rintro e w4 ⟨rfl, h4⟩
      go_wp2_with fail
      go_ret
      exact ⟨rfl, below_then h1 h4⟩
  · obtain ⟨e1, e2, e3⟩ := Mn.rd_no (m := m) (u := u) (fun h => hev ⟨h.1, h.2.1⟩)
    rw [e1, e2, e3] at c3
    obtain ⟨e1, e2, e3⟩ := Mn.ev_no (m := m) (n := u) hev
    rw [e1, e2, e3] at c5
    have C3 := Lib.hid c3
    have C5 := Lib.hid c5
    clear e1 e2 e3 c3 c5 hev
    go_enter Tryd.func7, Tryd.ntmps7
    go_wp2_with (first | (go_at_call 18; refine (C3.out _).mono ?_; rintro e w' ⟨rfl, rfl⟩))
    refine (C5.out _).mono ?_
    rintro e w1 ⟨rfl, hk⟩
    have h1 : Below w.heap.size w w1 := by obtain ⟨k, rfl⟩ := hk; exact below_draws _ _ _
    clear hk
    go_wp2_with fail
    refine (law2_awake _ (HE.out.on h1)).mono ?_
    rintro e w4 ⟨rfl, h4⟩
    go_wp2_with fail
    go_ret
    exact ⟨rfl, below_then h1 h4⟩

/-! ### The row's step, the row, the card -/
set_option maxRecDepth 100000 in
theorem lifted (os : Os) (started : os.Started) (H : Type) (enc : TypeId × Value → H) :
    ReturnsInHanded {} Tryd.checked os 7 .any (fun w args => (Rows.moneyRoundsSpec.pre enc Tryd.prog Tryd.f7 Rows.moneyRoundsRow.domain false w args ∧ laidMetH Tryd.prog Rows.moneyRoundsRow.laid w) ∧ sizedMet enc Tryd.prog Tryd.f7 (OpenSpec.ofChange Rows.moneyRoundsSpec) false w args)
      (Rows.moneyRoundsSpec.post enc Tryd.prog Tryd.f7 false true false false) := by
  refine returnsInHanded_of_change_and (C := Tryd.checked) (X := fun w _ => laidMetH Tryd.prog Rows.moneyRoundsRow.laid w) (fun _ _ _ hh h => h.of_heap hh) own started (by kernel_rfl) Tryd.func7
    (ChangeSpec.witness_shaped (enc := enc) (C := Tryd.checked) (os := os) (X := fun w _ => laidMetH Tryd.prog Rows.moneyRoundsRow.laid w) false (World.doorLaid Tryd.prog 62 os) #[.int .i64 0, .int .i64 0] 8 rfl (World.shaped_of_RefB (by kernel_rfl) (by kernel_rfl)) (by kernel_rfl) (by kernel_rfl) (by kernel_rfl) (door_met os _)) ?_
  intro W base args ds gs before hval0 hW _ hsz0 hL _
  have hsz : (DataW.weightsEach Tryd.prog (Tryd.f7.params.toList ++ Rows.moneyRoundsSpec.plain.varTypes Tryd.prog) (ds ++ gs)).all (· ≤ reachBytes) = true := hsz0
  clear hsz0
  have hval : ∀ (j : Nat) t v, Tryd.f7.params[j]? = some t → args[j]? = some v → Value.okWide Tryd.prog W .any base t v := hval0
  have hW' := hW
  obtain ⟨p, q, hA0, hV, rfl, hfz, hnd⟩ := hW
  have hA : DataW.TrodAll enc Tryd.prog W 0 (fun _ => true) true Tryd.f7.params.toList args.toList ds p := hA0
  rw [Tryd.params7] at hA hval hsz

  obtain ⟨v0, vs0, d0, ds0, p0, q0, hargs, rfl, rfl, h0, r0⟩ := trodAll_cons hA
  obtain ⟨v1, vs1, d1, ds1, p1, q1, rfl, rfl, rfl, h1, r1⟩ := trodAll_cons r0
  obtain ⟨rfl, rfl, rfl⟩ := trodAll_nil r1
  obtain rfl : args = #[v0, v1] := by cases args; simp_all
  obtain ⟨rfl, rfl⟩ := trodVars_none hV
  obtain ⟨a0, rfl, rfl, rfl, w0⟩ := open_int Tryd.underlying3 (hval 0 3 v0 rfl rfl) h0
  have b0 := bounds_i64 w0
  obtain ⟨a1, rfl, rfl, rfl, w1⟩ := open_int Tryd.underlying3 (hval 1 3 v1 rfl rfl) h1
  have b1 := bounds_i64 w1
  clear hA0 hval0
  simp only [List.append_nil] at hW'
  refine (walk a0 a1 b0.1 b0.2 b1.1 b1.2 W (env_of_laid hL) ).mono fun e W' ⟨he, bel⟩ => ?_
  subst he
  exact ⟨_, rfl, _, _, _, [], _, [], hW', trodAll_mk1 (shut_bool Tryd.underlying4 _), (trodAll_cons_mk (shut_int Tryd.underlying3 w0) (trodAll_cons_mk (shut_int Tryd.underlying3 w1) trodAll_mk0)), rfl, bel.frame _, fun h => by cases h⟩

theorem over : Rows.MoneyRoundsSaid :=
  OpenClaim.holds_of_wide 7 Tryd.f7 rfl rfl rfl rfl rfl rfl rfl ⟨rfl, rfl, rfl, rfl, rfl⟩ rfl rfl rfl rfl rfl (by kernel_rfl) Tryd.func7 (by kernel_rfl)
    (of_decide_eq_true (by kernel_rfl)) (by unfold Func.isWrapper; first | (rw [if_pos (by decide +kernel)]; kernel_rfl) | (rw [if_neg (by decide +kernel)]; exact ⟨rfl, rfl⟩))
    (fun os started H enc _ => lifted os started H enc)
theorem plain (f : FuncId) (fn : Func) (hf : Tryd.pinned.checked.prog.funcNamed "lottery/lotterylaw02.MoneyRounds" = some f) (hfn : Tryd.pinned.checked.prog.funcs[f]? = some fn) :
    true = Tryd.pinned.checked.prog.looks [] ∧ ∀ (j : Nat) t, fn.params[j]? = some t → Tryd.pinned.checked.prog.wantsStandIn t = false := by
  obtain rfl : f = 7 := Option.some.inj ((show Tryd.prog.funcNamed "lottery/lotterylaw02.MoneyRounds" = some 7 by kernel_rfl).symm.trans hf) |>.symm
  obtain rfl : fn = Tryd.f7 := (Option.some.inj (Tryd.func7.symm.trans hfn)).symm
  refine ⟨by kernel_rfl, fun j t ht => ?_⟩
  rw [Tryd.params7] at ht
  have ht := Array.mem_of_getElem? ht
  simp only [List.mem_toArray, List.mem_cons, List.not_mem_nil, or_false] at ht
  rcases ht with rfl | rfl

  · exact (show Tryd.prog.wantsStandIn 3 = false by kernel_rfl)
  · exact (show Tryd.prog.wantsStandIn 3 = false by kernel_rfl)
/-- The statement. -/
theorem card : Rows.MoneyRoundsCardSaid :=
  Claim7.holds_tied_plain_at .later [] _ _ _ _ over (fun _ h => by cases h) (by kernel_rfl) (fun _ h => by cases h) moneyRounds_row_tie rfl ⟨rfl, rfl⟩ (by kernel_rfl) rfl plain (by kernel_rfl)
end Go.Proofs.YtckimajnhdefcaaDoor.moneyRounds
