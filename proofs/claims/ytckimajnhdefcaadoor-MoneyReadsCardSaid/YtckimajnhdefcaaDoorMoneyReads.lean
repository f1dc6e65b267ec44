/- MoneyReads (P2.7): for every int and every string, Parse inverts Format for every amount, and Format of an amount that Parse returns is the text that was parsed if it has at most 5000 bytes, and the chapter's examples hold: the law returns true. No condition beyond the row's own list of the library's tables and error variables. -/
import Derived.Test.YtckimajnhdefcaaDoorLaid
import Derived.Test.YtckimajnhdefcaaDoorMonAw
namespace Go.Proofs.YtckimajnhdefcaaDoor.moneyReads
open Go.RowKit Go.ChangeShapes Go.WideShapes Go.ChangeAt Go.WideElems
open Go.ChangeMaps (open_string shut_string)
set_option linter.unusedVariables false

theorem walk (m : Int) (s : ByteArray) (_m0 : -9223372036854775808 ≤ m) (_m1 : m ≤ 9223372036854775807) (hs : s.size ≤ 140737488351232) (w : World) (hE : Env w) :
    Calls Tryd.prog 10 #[.int .i64 m, .string s] w fun e w' => e = .returned (.bool true) ∧ Below w.heap.size w w' := by
  have HE := Lib.hid hE
  clear hE
  have c1 := fun w hv => money_Parse s (by omega) w hv
  have hfr := Mn.fmt_read (s := s)
  obtain ⟨a, ea⟩ : ∃ a, a = Mn.mparV s.data.toList := ⟨_, rfl⟩
  obtain ⟨b, eb⟩ : ∃ b, b = Mn.mparE s.data.toList := ⟨_, rfl⟩
  rw [← ea, ← eb] at c1
  rw [← ea, ← eb] at hfr
  have C1 := Lib.hid c1
  have HF := Lib.hid hfr
  clear c1 hfr ea eb
  have cF := fun w hE => money_Format a w hE
  have c5 := fun w => money_Valid a w
  have aw := fun w h => law2_awake w h
  have AW := Lib.hid aw
  clear aw
  go_enter Tryd.func10, Tryd.ntmps10
  go_upto_if 10 with (go_at_call 14; refine (money_Valid _ _).mono ?_; rintro e w' ⟨rfl, rfl⟩)
  go_cut [5] (fun _ wc => Below w.heap.size w wc)
  case first =>
    clear cF c5
    cases hv : Mn.vld m
    · go_wp2_with fail
      go_meet
      exact Below.refl _ _
    · obtain ⟨e1, e2⟩ := Mn.read_fmt hv
      have e3 := Mn.fmt_size hv
      have c3 := fun w hE => money_Format m w hE
      obtain ⟨F, eF⟩ : ∃ F, F = Mn.mfmtS m := ⟨_, rfl⟩
      rw [← eF] at c3 e1 e2 e3
      have c4 := fun w hv => money_Parse F (by omega) w hv
      rw [e1, e2] at c4
      have C3 := Lib.hid c3
      have C4 := Lib.hid c4
      clear c3 c4 e1 e2 eF
      go_wp2_with fail
      refine (C3.out _ HE.out).mono ?_
      rintro e w1 ⟨rfl, h1⟩
      go_wp2_with fail
      refine (C4.out _ (HE.out.on h1).here.2).mono ?_
      rintro e w2 ⟨rfl, h2⟩
      have h2 := below_then h1 h2
      go_wp2_with fail
      go_meet
      exact h2
  case rest =>
    have HB := Lib.hid hcut
    clear hcut
    by_cases hbig : 5000 < s.size
    · clear cF c5
      go_wp2_with (go_at_call 11; refine (AW.out _ (HE.out.on HB.out)).mono ?_; rintro e w1 ⟨rfl, h1⟩)
      go_ret
      exact ⟨rfl, below_then HB.out h1⟩
    · by_cases hb0 : b = 0
      · obtain ⟨g1, g2⟩ := HF.out hb0
        subst hb0
        rw [g1] at c5
        rw [g2] at cF
        have C5 := Lib.hid c5
        have CF := Lib.hid cF
        clear c5 cF g1 g2 HF
        go_wp2_with fail
        refine (C1.out _ (HE.out.on HB.out).here.2).mono ?_
        rintro e w1 ⟨rfl, h1⟩
        have h1 := below_then HB.out h1
        go_wp2_with fail
        refine (CF.out _ (HE.out.on h1)).mono ?_
        rintro e w2 ⟨rfl, h2⟩
        have h2 := below_then h1 h2
        go_wp2_with (go_at_call 14; refine (C5.out _).mono ?_; rintro e w' ⟨rfl, rfl⟩)
        refine (AW.out _ (HE.out.on h2)).mono ?_
        rintro e w3 ⟨rfl, h3⟩
        go_wp2_with fail
        go_ret
        exact ⟨rfl, below_then h2 h3⟩
      · have hb1 : (b == 0) = false := by simpa using hb0
        clear cF c5 hb0 HF
        go_wp2_with fail
        refine (C1.out _ (HE.out.on HB.out).here.2).mono ?_
        rintro e w1 ⟨rfl, h1⟩
        have h1 := below_then HB.out h1
        go_wp2_with fail
        refine (AW.out _ (HE.out.on h1)).mono ?_
        rintro e w3 ⟨rfl, h3⟩
        go_wp2_with fail
        go_ret
        exact ⟨rfl, below_then h1 h3⟩

/-! ### The row's step, the row, the card -/
set_option maxRecDepth 100000 in
theorem lifted (os : Os) (started : os.Started) (H : Type) (enc : TypeId × Value → H) :
    ReturnsInHanded {} Tryd.checked os 10 .any (fun w args => (Rows.moneyReadsSpec.pre enc Tryd.prog Tryd.f10 Rows.moneyReadsRow.domain false w args ∧ laidMetH Tryd.prog Rows.moneyReadsRow.laid w) ∧ sizedMet enc Tryd.prog Tryd.f10 (OpenSpec.ofChange Rows.moneyReadsSpec) false w args)
      (Rows.moneyReadsSpec.post enc Tryd.prog Tryd.f10 false true false false) := by
  refine returnsInHanded_of_change_and (C := Tryd.checked) (X := fun w _ => laidMetH Tryd.prog Rows.moneyReadsRow.laid w) (fun _ _ _ hh h => h.of_heap hh) own started (by kernel_rfl) Tryd.func10
    (ChangeSpec.witness_shaped (enc := enc) (C := Tryd.checked) (os := os) (X := fun w _ => laidMetH Tryd.prog Rows.moneyReadsRow.laid w) false (World.doorLaid Tryd.prog 62 os) #[.int .i64 0, .string ByteArray.empty] 8 rfl (World.shaped_of_RefB (by kernel_rfl) (by kernel_rfl)) (by kernel_rfl) (by kernel_rfl) (by kernel_rfl) (door_met os _)) ?_
  intro W base args ds gs before hval0 hW _ hsz0 hL _
  have hsz : (DataW.weightsEach Tryd.prog (Tryd.f10.params.toList ++ Rows.moneyReadsSpec.plain.varTypes Tryd.prog) (ds ++ gs)).all (· ≤ reachBytes) = true := hsz0
  clear hsz0
  have hval : ∀ (j : Nat) t v, Tryd.f10.params[j]? = some t → args[j]? = some v → Value.okWide Tryd.prog W .any base t v := hval0
  have hW' := hW
  obtain ⟨p, q, hA0, hV, rfl, hfz, hnd⟩ := hW
  have hA : DataW.TrodAll enc Tryd.prog W 0 (fun _ => true) true Tryd.f10.params.toList args.toList ds p := hA0
  rw [Tryd.params10] at hA hval hsz

  obtain ⟨v0, vs0, d0, ds0, p0, q0, hargs, rfl, rfl, h0, r0⟩ := trodAll_cons hA
  obtain ⟨v1, vs1, d1, ds1, p1, q1, rfl, rfl, rfl, h1, r1⟩ := trodAll_cons r0
  obtain ⟨rfl, rfl, rfl⟩ := trodAll_nil r1
  obtain rfl : args = #[v0, v1] := by cases args; simp_all
  obtain ⟨rfl, rfl⟩ := trodVars_none hV
  obtain ⟨a0, rfl, rfl, rfl, w0⟩ := open_int Tryd.underlying3 (hval 0 3 v0 rfl rfl) h0
  have b0 := bounds_i64 w0
  obtain ⟨a1, rfl, rfl, rfl, w1⟩ := open_string Tryd.underlying9 (hval 1 9 v1 rfl rfl) h1
  have b1 : a1.size ≤ 140737488351232 := by
    have h1 := sized_string hsz (j := 1) (t := 9) rfl rfl
    have h2 : reachBytes = 140737488351232 := by decide
    rw [Lib.size_eq]; omega
  clear hA0 hval0
  simp only [List.append_nil] at hW'
  refine (walk a0 a1 b0.1 b0.2 b1 W (env_of_laid hL) ).mono fun e W' ⟨he, bel⟩ => ?_
  subst he
  exact ⟨_, rfl, _, _, _, [], _, [], hW', trodAll_mk1 (shut_bool Tryd.underlying4 _), (trodAll_cons_mk (shut_int Tryd.underlying3 w0) (trodAll_cons_mk (shut_string Tryd.underlying9 w1) trodAll_mk0)), rfl, bel.frame _, fun h => by cases h⟩

theorem over : Rows.MoneyReadsSaid :=
  OpenClaim.holds_of_wide 10 Tryd.f10 rfl rfl rfl rfl rfl rfl rfl ⟨rfl, rfl, rfl, rfl, rfl⟩ rfl rfl rfl rfl rfl (by kernel_rfl) Tryd.func10 (by kernel_rfl)
    (of_decide_eq_true (by kernel_rfl)) (by unfold Func.isWrapper; first | (rw [if_pos (by decide +kernel)]; kernel_rfl) | (rw [if_neg (by decide +kernel)]; exact ⟨rfl, rfl⟩))
    (fun os started H enc _ => lifted os started H enc)
theorem plain (f : FuncId) (fn : Func) (hf : Tryd.pinned.checked.prog.funcNamed "lottery/lotterylaw02.MoneyReads" = some f) (hfn : Tryd.pinned.checked.prog.funcs[f]? = some fn) :
    true = Tryd.pinned.checked.prog.looks [] ∧ ∀ (j : Nat) t, fn.params[j]? = some t → Tryd.pinned.checked.prog.wantsStandIn t = false := by
  obtain rfl : f = 10 := Option.some.inj ((show Tryd.prog.funcNamed "lottery/lotterylaw02.MoneyReads" = some 10 by kernel_rfl).symm.trans hf) |>.symm
  obtain rfl : fn = Tryd.f10 := (Option.some.inj (Tryd.func10.symm.trans hfn)).symm
  refine ⟨by kernel_rfl, fun j t ht => ?_⟩
  rw [Tryd.params10] at ht
  have ht := Array.mem_of_getElem? ht
  simp only [List.mem_toArray, List.mem_cons, List.not_mem_nil, or_false] at ht
  rcases ht with rfl | rfl

  · exact (show Tryd.prog.wantsStandIn 3 = false by kernel_rfl)
  · exact (show Tryd.prog.wantsStandIn 9 = false by kernel_rfl)
/-- The statement. -/
theorem card : Rows.MoneyReadsCardSaid :=
  Claim7.holds_tied_plain_at .later [] _ _ _ _ over (fun _ h => by cases h) (by kernel_rfl) (fun _ h => by cases h) moneyReads_row_tie rfl ⟨rfl, rfl⟩ (by kernel_rfl) rfl plain (by kernel_rfl)
end Go.Proofs.YtckimajnhdefcaaDoor.moneyReads
