/- MoneyDivides (P2.3): for every int and every list of weights, Split returns the defined parts or error, and the chapter's examples hold: the law returns true. No condition beyond the row's own list of the library's tables and error variables. -/
import Derived.Test.YtckimajnhdefcaaDoorLaid
import Derived.Test.YtckimajnhdefcaaDoorMonAw
import Derived.Test.YtckimajnhdefcaaDoorOpens
namespace Go.Proofs.YtckimajnhdefcaaDoor.moneyDivides
open Go.RowKit Go.ChangeShapes Go.WideShapes Go.ChangeAt Go.WideElems
open Go.ChangeMaps (open_string shut_string)
set_option linter.unusedVariables false

theorem walk (m : Int) (a : Option Addr) (len cap : Nat) (zs : List Int) (_m0 : -9223372036854775808 ≤ m) (_m1 : m ≤ 9223372036854775807) (hn : len ≤ 9223372036854775807) (w : World) (hE : Env w) (h : Ints w w.heap.size a len zs) (_hf : ∀ i, i < len → -9223372036854775808 ≤ zs.getD i 0 ∧ zs.getD i 0 ≤ 9223372036854775807) :
    Calls Tryd.prog 5 #[.int .i64 m, .slice a len cap] w fun e w' => e = .returned (.bool true) ∧ Below w.heap.size w w' := by
  have H := Lib.hid h
  have HE := Lib.hid hE
  clear h hE _hf
  by_cases hz : Mn.twE m zs = 0
  · have HZ := Lib.hid hz
    clear hz
    go_enter Tryd.func5, Tryd.ntmps5
    go_wp2_with fail
    refine (money_Split_ok m _ H.out HZ.out).mono ?_
    rintro e w1 ⟨A, c, rfl, hb1, hi1⟩
    have HI1 := Lib.hid hi1
    have HB1 := Lib.hid hb1
    have HW1 := Lib.hid ((H.out.below hb1).more hb1.size)
    clear hi1 hb1
    go_wp2_with fail
    refine (ref2_Split_ok m _ HW1.out HZ.out).mono ?_
    rintro e w2 ⟨A2, c2, rfl, hb2, hi2⟩
    have HI2 := Lib.hid hi2
    have HJ2 := Lib.hid (HI1.out.below hb2)
    have HB2 := Lib.hid (HB1.out.trans (hb2.mono HB1.out.size))
    clear hi2 hb2
    go_wp2_with fail
    refine (law2_same _ HJ2.out HI2.out hn rfl).mono ?_
    rintro e w3 ⟨rfl, hk⟩
    have HB3 : Hid (Below w.heap.size w w3) := by obtain ⟨k, rfl⟩ := hk; exact HB2.out.trans (below_draws _ _ _)
    clear hk
    go_wp2_with fail
    refine (law2_awake _ (HE.out.on HB3.out)).mono ?_
    rintro e w4 ⟨rfl, h4⟩
    go_wp2_with fail
    go_ret
    exact ⟨rfl, below_then HB3.out h4⟩
  · have HZ := Lib.hid hz
    have c1 := fun w (h : Ints w w.heap.size a len zs) => money_Split_no (c := cap) m w h hn hz
    have c2 := fun w (h : Ints w w.heap.size a len zs) => ref2_Split_no (c := cap) m w h hn hz
    obtain ⟨E, eE⟩ : ∃ E, E = Mn.twE m zs := ⟨_, rfl⟩
    rw [← eE] at c1 c2
    have C1 := Lib.hid c1
    have C2 := Lib.hid c2
    clear c1 c2 eE hz
    go_enter Tryd.func5, Tryd.ntmps5
    go_wp2_with (first | (go_at_call 22; refine (C1.out _ H.out).mono ?_; rintro e w' ⟨rfl, rfl⟩) | (go_at_call 23; refine (C2.out _ H.out).mono ?_; rintro e w' ⟨rfl, rfl⟩))
    refine (law2_same (B := 0) (B' := 0) _ Ints.none_ Ints.none_ (by omega) rfl).mono ?_
    rintro e w3 ⟨rfl, hk⟩
    have HB3 : Hid (Below w.heap.size w w3) := by obtain ⟨k, rfl⟩ := hk; exact below_draws _ _ _
    clear hk
    go_wp2_with fail
    refine (law2_awake _ (HE.out.on HB3.out)).mono ?_
    rintro e w4 ⟨rfl, h4⟩
    go_wp2_with fail
    go_ret
    exact ⟨rfl, below_then HB3.out h4⟩

/-! ### The row's step, the row, the card -/
set_option maxRecDepth 100000 in
theorem lifted (os : Os) (started : os.Started) (H : Type) (enc : TypeId × Value → H) :
    ReturnsInHanded {} Tryd.checked os 5 .any (fun w args => (Rows.moneyDividesSpec.pre enc Tryd.prog Tryd.f5 Rows.moneyDividesRow.domain false w args ∧ laidMetH Tryd.prog Rows.moneyDividesRow.laid w) ∧ sizedMet enc Tryd.prog Tryd.f5 (OpenSpec.ofChange Rows.moneyDividesSpec) false w args)
      (Rows.moneyDividesSpec.post enc Tryd.prog Tryd.f5 false true false false) := by
  refine returnsInHanded_of_change_and (C := Tryd.checked) (X := fun w _ => laidMetH Tryd.prog Rows.moneyDividesRow.laid w) (fun _ _ _ hh h => h.of_heap hh) own started (by kernel_rfl) Tryd.func5
    (ChangeSpec.witness_shaped (enc := enc) (C := Tryd.checked) (os := os) (X := fun w _ => laidMetH Tryd.prog Rows.moneyDividesRow.laid w) false (World.doorLaid Tryd.prog 62 os) #[.int .i64 0, .slice none 0 0] 8 rfl (World.shaped_of_RefB (by kernel_rfl) (by kernel_rfl)) (by kernel_rfl) (by kernel_rfl) (by kernel_rfl) (door_met os _)) ?_
  intro W base args ds gs before hval0 hW _ hsz0 hL _
  have hsz : (DataW.weightsEach Tryd.prog (Tryd.f5.params.toList ++ Rows.moneyDividesSpec.plain.varTypes Tryd.prog) (ds ++ gs)).all (· ≤ reachBytes) = true := hsz0
  clear hsz0
  have hval : ∀ (j : Nat) t v, Tryd.f5.params[j]? = some t → args[j]? = some v → Value.okWide Tryd.prog W .any base t v := hval0
  have hW' := hW
  obtain ⟨p, q, hA0, hV, rfl, hfz, hnd⟩ := hW
  have hA : DataW.TrodAll enc Tryd.prog W 0 (fun _ => true) true Tryd.f5.params.toList args.toList ds p := hA0
  rw [Tryd.params5] at hA hval hsz

  obtain ⟨v0, vs0, d0, ds0, p0, q0, hargs, rfl, rfl, h0, r0⟩ := trodAll_cons hA
  obtain ⟨v1, vs1, d1, ds1, p1, q1, rfl, rfl, rfl, h1, r1⟩ := trodAll_cons r0
  obtain ⟨rfl, rfl, rfl⟩ := trodAll_nil r1
  obtain rfl : args = #[v0, v1] := by cases args; simp_all
  obtain ⟨rfl, rfl⟩ := trodVars_none hV
  obtain ⟨a0, rfl, rfl, rfl, w0⟩ := open_int Tryd.underlying3 (hval 0 3 v0 rfl rfl) h0
  have b0 := bounds_i64 w0
  obtain ⟨a1, len1, cap1, rfl⟩ := okWide_slice Tryd.underlying22 (hval 1 22 v1 rfl rfl)
  have k1 := h1
  have lt1 : ∀ x ∈ p1, x.block < W.heap.size := by
    obtain ⟨m, hm⟩ := k1
    exact DataW.trod_lt m _ _ _ hm
  obtain ⟨z1, w1, b1, f1⟩ := ints_opened h1
  clear hA0 hval0
  simp only [List.append_nil] at hW'
  refine (walk a0 a1 len1 cap1 z1 b0.1 b0.2 b1 W (env_of_laid hL) w1 f1).mono fun e W' ⟨he, bel⟩ => ?_
  subst he
  exact ⟨_, rfl, _, _, _, [], _, [], hW', trodAll_mk1 (shut_bool Tryd.underlying4 _), (trodAll_cons_mk (shut_int Tryd.underlying3 w0) (trodAll_cons_mk (Below.trod laidOut (by kernel_rfl) (of_decide_eq_true (by kernel_rfl)) k1 bel lt1) trodAll_mk0)), rfl, bel.frame _, fun h => by cases h⟩

theorem over : Rows.MoneyDividesSaid :=
  OpenClaim.holds_of_wide 5 Tryd.f5 rfl rfl rfl rfl rfl rfl rfl ⟨rfl, rfl, rfl, rfl, rfl⟩ rfl rfl rfl rfl rfl (by kernel_rfl) Tryd.func5 (by kernel_rfl)
    (of_decide_eq_true (by kernel_rfl)) (by unfold Func.isWrapper; first | (rw [if_pos (by decide +kernel)]; kernel_rfl) | (rw [if_neg (by decide +kernel)]; exact ⟨rfl, rfl⟩))
    (fun os started H enc _ => lifted os started H enc)
theorem plain (f : FuncId) (fn : Func) (hf : Tryd.pinned.checked.prog.funcNamed "lottery/lotterylaw02.MoneyDivides" = some f) (hfn : Tryd.pinned.checked.prog.funcs[f]? = some fn) :
    true = Tryd.pinned.checked.prog.looks [] ∧ ∀ (j : Nat) t, fn.params[j]? = some t → Tryd.pinned.checked.prog.wantsStandIn t = false := by
  obtain rfl : f = 5 := Option.some.inj ((show Tryd.prog.funcNamed "lottery/lotterylaw02.MoneyDivides" = some 5 by kernel_rfl).symm.trans hf) |>.symm
  obtain rfl : fn = Tryd.f5 := (Option.some.inj (Tryd.func5.symm.trans hfn)).symm
  refine ⟨by kernel_rfl, fun j t ht => ?_⟩
  rw [Tryd.params5] at ht
  have ht := Array.mem_of_getElem? ht
  simp only [List.mem_toArray, List.mem_cons, List.not_mem_nil, or_false] at ht
  rcases ht with rfl | rfl

  · exact (show Tryd.prog.wantsStandIn 3 = false by kernel_rfl)
  · exact (show Tryd.prog.wantsStandIn 22 = false by kernel_rfl)
/-- The statement. -/
theorem card : Rows.MoneyDividesCardSaid :=
  Claim7.holds_tied_plain_at .later [] _ _ _ _ over (fun _ h => by cases h) (by kernel_rfl) (fun _ h => by cases h) moneyDivides_row_tie rfl ⟨rfl, rfl⟩ (by kernel_rfl) rfl plain (by kernel_rfl)
end Go.Proofs.YtckimajnhdefcaaDoor.moneyDivides
