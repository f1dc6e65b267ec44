/- MoneyOrders (P2.6): for every int and every list of weights for which Split returns no error, a greater weight does not have a smaller part, and equal weights have parts that differ by at most 1, the earlier one not being smaller, and the chapter's examples hold: the law returns true. No condition beyond the row's own list of the library's tables and error variables. -/
import Derived.Test.YtckimajnhdefcaaDoorLaid
import Derived.Test.YtckimajnhdefcaaDoorMonAw
import Derived.Test.YtckimajnhdefcaaDoorOpens
namespace Go.Proofs.YtckimajnhdefcaaDoor.moneyOrders
open Go.RowKit Go.ChangeShapes Go.WideShapes Go.ChangeAt Go.WideElems
open Go.ChangeMaps (open_string shut_string)
set_option linter.unusedVariables false

set_option maxRecDepth 100000 in
set_option maxHeartbeats 2000000 in
theorem walk (m : Int) (a : Option Addr) (len cap : Nat) (zs : List Int) (_m0 : -9223372036854775808 ≤ m) (_m1 : m ≤ 9223372036854775807) (hn : len ≤ 9223372036854775807) (w : World) (hE : Env w) (h : Ints w w.heap.size a len zs) (_hf : ∀ i, i < len → -9223372036854775808 ≤ zs.getD i 0 ∧ zs.getD i 0 ≤ 9223372036854775807) :
    Calls Tryd.prog 8 #[.int .i64 m, .slice a len cap] w fun e w' => e = .returned (.bool true) ∧ Below w.heap.size w w' := by
  have H := Lib.hid h
  have HE := Lib.hid hE
  have HL := Lib.hid h.len
  clear h hE _hf
  by_cases hz : Mn.twE m zs = 0
  · have hg := (Mn.tw_good hz).1
    have HZ := Lib.hid hz
    have G := Lib.hid hg
    clear hz hg
    go_enter Tryd.func8, Tryd.ntmps8
    go_wp2_with fail
    refine (money_Split_ok m _ H.out HZ.out).mono ?_
    rintro e w1 ⟨A, c, rfl, hb1, hi1⟩
    have HI1 := Lib.hid hi1
    have HB1 := Lib.hid hb1
    have HW1 := Lib.hid ((H.out.below hb1).more hb1.size)
    clear hi1 hb1
    go_wp2_with fail
    go_loopw [25] (fun i wr => ∃ k : Nat, k ≤ len ∧ i = .int .i64 k ∧ Hid (Below w1.heap.size w1 wr)) (fun i _ => len - (intOf i).toNat)
    case atStart => exact ⟨0, by omega, rfl, Below.refl _ _⟩
    case round =>
      obtain ⟨i, hi, rfl, HB⟩ := hrel
      by_cases hlt : i < len
      · obtain ⟨wo, rfl⟩ : ∃ wo : World, wo = wr := ⟨_, rfl⟩
        go_wp2_with fail
        go_loopw [30] (fun k wr => ∃ j : Nat, j ≤ len ∧ k = .int .i64 j ∧ Hid (Below w1.heap.size w1 wr)) (fun k _ => len - (intOf k).toNat)
        case atStart => exact ⟨0, by omega, rfl, HB⟩
        case round =>
          obtain ⟨k, hk, rfl, HB2⟩ := hrel
          by_cases hlt2 : k < len
          · have hi3 : (i : Int) < (len : Int) := by omega
            have hk3 : (k : Int) < (len : Int) := by omega
            obtain ⟨ad, x, rfl, hb, hc, HX⟩ := (HW1.out.below HB2.out).at_ hlt
            obtain ⟨ad', y, he, hb', hc', HY⟩ := (HW1.out.below HB2.out).at_ hlt2
            obtain rfl : ad = ad' := Option.some.inj he
            obtain ⟨al, p, rfl, hbl, hcl, HP⟩ := (HI1.out.below HB2.out).at_ hlt
            obtain ⟨al', q, he', hbl', hcl', HQ⟩ := (HI1.out.below HB2.out).at_ hlt2
            obtain rfl : al = al' := Option.some.inj he'
            clear he he'
            have hord := G.out.order i k (by rw [HL.out]; exact hlt) (by rw [HL.out]; exact hlt2)
            have heql := G.out.equal i k (by rw [HL.out]; exact hlt) (by rw [HL.out]; exact hlt2)
            have hpb := G.out.part_bd i (by rw [HL.out]; exact hlt)
            have hqb := G.out.part_bd k (by rw [HL.out]; exact hlt2)
            rw [← HX.out, ← HY.out, ← HP.out, ← HQ.out] at hord heql
            rw [← HP.out] at hpb
            rw [← HQ.out] at hqb
            obtain ⟨p0, p1⟩ := hpb
            obtain ⟨q0, q1⟩ := hqb
            by_cases hxy : y < x
            · have d1 : (x == y) = false := by simp; omega
              have d2 : q ≤ p := hord hxy
              clear hord heql
              go_wp2_with fail
              go_quiet (fail)
              go_wp2_with fail
              go_quiet (fail)
              go_wp2_with fail
              go_roundw
              case rel => exact ⟨k + 1, by omega, by go_num, HB2.out.trans (below_draws _ _ _)⟩
              case measure => simp [intOf]; omega
            · have d0 : decide (y < x) = false := by simp; omega
              by_cases hxe : x = y
              · have d1 : (x == y) = true := by simpa using hxe
                by_cases hik : i < k
                · obtain ⟨d2, d3⟩ := heql hxe hik
                  have d4 : decide (p < q) = false := by simp; omega
                  have d5 : decide (1 < p - q) = false := by simp; omega
                  have d6 : (i : Int) < (k : Int) := by omega
                  clear hord heql hxe hxy
                  go_wp2_with fail
                  go_quiet (fail)
                  go_wp2_with fail
                  go_quiet (fail)
                  go_wp2_with fail
                  go_roundw
                  case rel => exact ⟨k + 1, by omega, by go_num, HB2.out.trans (below_draws _ _ _)⟩
                  case measure => simp [intOf]; omega
                · have d6 : decide (i < k) = false := by simp; omega
                  have d7 : decide ((i : Int) < (k : Int)) = false := by simp; omega
                  clear hord heql hxe hxy
                  go_wp2_with fail
                  go_quiet (fail)
                  go_wp2_with fail
                  go_quiet (fail)
                  go_wp2_with fail
                  go_roundw
                  case rel => exact ⟨k + 1, by omega, by go_num, HB2.out.trans (below_draws _ _ _)⟩
                  case measure => simp [intOf]; omega
              · have d1 : (x == y) = false := by simpa using hxe
                clear hord heql hxe hxy
                go_wp2_with fail
                go_quiet (fail)
                go_wp2_with fail
                go_quiet (fail)
                go_wp2_with fail
                go_roundw
                case rel => exact ⟨k + 1, by omega, by go_num, HB2.out.trans (below_draws _ _ _)⟩
                case measure => simp [intOf]; omega
          · go_wp2_with fail
            go_roundw
            case rel => exact ⟨i + 1, by omega, by go_num, HB2⟩
            case measure => simp [intOf]; omega
      · have HB2 := Lib.hid (HB1.out.trans (HB.out.mono HB1.out.size))
        go_wp2_with (go_at_call 11; refine (law2_awake _ (HE.out.on HB2.out)).mono ?_; rintro e w2 ⟨rfl, h2⟩)
        go_ret
        exact ⟨rfl, below_then HB2.out h2⟩
  · have c1 := fun w (h : Ints w w.heap.size a len zs) => money_Split_no (c := cap) m w h hn hz
    obtain ⟨E, eE⟩ : ∃ E, E = Mn.twE m zs := ⟨_, rfl⟩
    rw [← eE] at c1 hz
    have C1 := Lib.hid c1
    have hb : (E != 0) = true := by simpa using hz
    clear c1 eE hz
    go_enter Tryd.func8, Tryd.ntmps8
    go_wp2_with (first | (go_at_call 22; refine (C1.out _ H.out).mono ?_; rintro e w' ⟨rfl, rfl⟩) | (go_at_call 11; refine (law2_awake _ HE.out).mono ?_; rintro e w1 ⟨rfl, h1⟩))
    go_ret
    exact ⟨rfl, h1⟩

/-! ### The row's step, the row, the card -/
set_option maxRecDepth 100000 in
theorem lifted (os : Os) (started : os.Started) (H : Type) (enc : TypeId × Value → H) :
    ReturnsInHanded {} Tryd.checked os 8 .any (fun w args => (Rows.moneyOrdersSpec.pre enc Tryd.prog Tryd.f8 Rows.moneyOrdersRow.domain false w args ∧ laidMetH Tryd.prog Rows.moneyOrdersRow.laid w) ∧ sizedMet enc Tryd.prog Tryd.f8 (OpenSpec.ofChange Rows.moneyOrdersSpec) false w args)
      (Rows.moneyOrdersSpec.post enc Tryd.prog Tryd.f8 false true false false) := by
  refine returnsInHanded_of_change_and (C := Tryd.checked) (X := fun w _ => laidMetH Tryd.prog Rows.moneyOrdersRow.laid w) (fun _ _ _ hh h => h.of_heap hh) own started (by kernel_rfl) Tryd.func8
    (ChangeSpec.witness_shaped (enc := enc) (C := Tryd.checked) (os := os) (X := fun w _ => laidMetH Tryd.prog Rows.moneyOrdersRow.laid w) false (World.doorLaid Tryd.prog 62 os) #[.int .i64 0, .slice none 0 0] 8 rfl (World.shaped_of_RefB (by kernel_rfl) (by kernel_rfl)) (by kernel_rfl) (by kernel_rfl) (by kernel_rfl) (door_met os _)) ?_
  intro W base args ds gs before hval0 hW _ hsz0 hL _
  have hsz : (DataW.weightsEach Tryd.prog (Tryd.f8.params.toList ++ Rows.moneyOrdersSpec.plain.varTypes Tryd.prog) (ds ++ gs)).all (· ≤ reachBytes) = true := hsz0
  clear hsz0
  have hval : ∀ (j : Nat) t v, Tryd.f8.params[j]? = some t → args[j]? = some v → Value.okWide Tryd.prog W .any base t v := hval0
  have hW' := hW
  obtain ⟨p, q, hA0, hV, rfl, hfz, hnd⟩ := hW
  have hA : DataW.TrodAll enc Tryd.prog W 0 (fun _ => true) true Tryd.f8.params.toList args.toList ds p := hA0
  rw [Tryd.params8] at hA hval hsz

  obtain ⟨v0, vs0, d0, ds0, p0, q0, hargs, rfl, rfl, h0, r0⟩ := trodAll_cons hA
  obtain ⟨v1, vs1, d1, ds1, p1, q1, rfl, rfl, rfl, h1, r1⟩ := trodAll_cons r0
  obtain ⟨rfl, rfl, rfl⟩ := trodAll_nil r1
  obtain rfl : args = #[v0, v1] := by cases args; simp_all
  obtain ⟨rfl, rfl⟩ := trodVars_none hV
  obtain ⟨a0, rfl, rfl, rfl, w0⟩ := open_int Tryd.underlying3 (hval 0 3 v0 rfl rfl) h0
  have b0 := bounds_i64 w0
  obtain ⟨a1, len1, cap1, rfl⟩ := okWide_slice Tryd.underlying22 (hval 1 22 v1 rfl rfl)
  have k1 := h1
  have lt1 : ∀ x ∈ p1, x.block < W.heap.size := by
    obtain ⟨m, hm⟩ := k1
    exact DataW.trod_lt m _ _ _ hm
  obtain ⟨z1, w1, b1, f1⟩ := ints_opened h1
  clear hA0 hval0
  simp only [List.append_nil] at hW'
  refine (walk a0 a1 len1 cap1 z1 b0.1 b0.2 b1 W (env_of_laid hL) w1 f1).mono fun e W' ⟨he, bel⟩ => ?_
  subst he
  exact ⟨_, rfl, _, _, _, [], _, [], hW', trodAll_mk1 (shut_bool Tryd.underlying4 _), (trodAll_cons_mk (shut_int Tryd.underlying3 w0) (trodAll_cons_mk (Below.trod laidOut (by kernel_rfl) (of_decide_eq_true (by kernel_rfl)) k1 bel lt1) trodAll_mk0)), rfl, bel.frame _, fun h => by cases h⟩

theorem over : Rows.MoneyOrdersSaid :=
  OpenClaim.holds_of_wide 8 Tryd.f8 rfl rfl rfl rfl rfl rfl rfl ⟨rfl, rfl, rfl, rfl, rfl⟩ rfl rfl rfl rfl rfl (by kernel_rfl) Tryd.func8 (by kernel_rfl)
    (of_decide_eq_true (by kernel_rfl)) (by unfold Func.isWrapper; first | (rw [if_pos (by decide +kernel)]; kernel_rfl) | (rw [if_neg (by decide +kernel)]; exact ⟨rfl, rfl⟩))
    (fun os started H enc _ => lifted os started H enc)
theorem plain (f : FuncId) (fn : Func) (hf : Tryd.pinned.checked.prog.funcNamed "lottery/lotterylaw02.MoneyOrders" = some f) (hfn : Tryd.pinned.checked.prog.funcs[f]? = some fn) :
    true = Tryd.pinned.checked.prog.looks [] ∧ ∀ (j : Nat) t, fn.params[j]? = some t → Tryd.pinned.checked.prog.wantsStandIn t = false := by
  obtain rfl : f = 8 := Option.some.inj ((show Tryd.prog.funcNamed "lottery/lotterylaw02.MoneyOrders" = some 8 by kernel_rfl).symm.trans hf) |>.symm
  obtain rfl : fn = Tryd.f8 := (Option.some.inj (Tryd.func8.symm.trans hfn)).symm
  refine ⟨by kernel_rfl, fun j t ht => ?_⟩
  rw [Tryd.params8] at ht
  have ht := Array.mem_of_getElem? ht
  simp only [List.mem_toArray, List.mem_cons, List.not_mem_nil, or_false] at ht
  rcases ht with rfl | rfl

  · exact (show Tryd.prog.wantsStandIn 3 = false by kernel_rfl)
  · exact (show Tryd.prog.wantsStandIn 22 = false by kernel_rfl)
/-- The statement. -/
theorem card : Rows.MoneyOrdersCardSaid :=
  Claim7.holds_tied_plain_at .later [] _ _ _ _ over (fun _ h => by cases h) (by kernel_rfl) (fun _ h => by cases h) moneyOrders_row_tie rfl ⟨rfl, rfl⟩ (by kernel_rfl) rfl plain (by kernel_rfl)
end Go.Proofs.YtckimajnhdefcaaDoor.moneyOrders
