/- MoneySplits (P2.5): for every int and every list of weights for which Split returns no error, the parts add up to the amount, and each differs from its exact share by less than one unit, and the chapter's examples hold: the law returns true. No condition beyond the row's own list of the library's tables and error variables. -/
import Derived.Test.YtckimajnhdefcaaDoorLaid
import Derived.Test.YtckimajnhdefcaaDoorMonAw
import Derived.Test.YtckimajnhdefcaaDoorOpens
namespace Go.Proofs.YtckimajnhdefcaaDoor.moneySplits
open Go.RowKit Go.ChangeShapes Go.WideShapes Go.ChangeAt Go.WideElems
open Go.ChangeMaps (open_string shut_string)
set_option linter.unusedVariables false

set_option maxRecDepth 100000 in
set_option maxHeartbeats 1000000 in
theorem walk (m : Int) (a : Option Addr) (len cap : Nat) (zs : List Int) (_m0 : -9223372036854775808 ≤ m) (_m1 : m ≤ 9223372036854775807) (hn : len ≤ 9223372036854775807) (w : World) (hE : Env w) (h : Ints w w.heap.size a len zs) (_hf : ∀ i, i < len → -9223372036854775808 ≤ zs.getD i 0 ∧ zs.getD i 0 ≤ 9223372036854775807) :
    Calls Tryd.prog 6 #[.int .i64 m, .slice a len cap] w fun e w' => e = .returned (.bool true) ∧ Below w.heap.size w w' := by
  have H := Lib.hid h
  have HE := Lib.hid hE
  have HL := Lib.hid h.len
  clear h hE _hf
  by_cases hz : Mn.twE m zs = 0
  · have hg := (Mn.tw_good hz).1
    have HZ := Lib.hid hz
    have G := Lib.hid hg
    have m0 := hg.m0
    have m1 := hg.m1
    have t0 := hg.t
    have t1 := hg.tmax
    have n0 : 0 < len := by have := hg.n0; have := HL.out; omega
    have n1 : len ≤ 64 := by have := hg.n1; have := HL.out; omega
    have hvm : Mn.vld m = true := (Mn.vld_iff m).2 ⟨m0, m1⟩
    obtain ⟨T, eT⟩ : ∃ T, T = Mn.lsum zs := ⟨_, rfl⟩
    rw [← eT] at t0 t1
    have HT := Lib.hid eT
    have n2 : ¬ 64 < len := by omega
    clear hz hg eT
    go_enter Tryd.func6, Tryd.ntmps6
    go_wp2_with fail
    refine (money_Split_ok m _ H.out HZ.out).mono ?_
    rintro e w1 ⟨A, c, rfl, hb1, hi1⟩
    have HI1 := Lib.hid hi1
    have HB1 := Lib.hid hb1
    have HW1 := Lib.hid ((H.out.below hb1).more hb1.size)
    clear hi1 hb1
    go_wp2_with (go_at_call 14; refine (money_Valid _ _).mono ?_; rintro e w' ⟨rfl, rfl⟩)
    go_loop [40, 7] (fun i s => ∃ (k : Nat) (t : Int), k ≤ len ∧ i = .int .i64 k ∧ s = .int .i64 t ∧ 0 ≤ t ∧ t ≤ 64000000000000 ∧ Hid (t = Mn.lsum (zs.take k))) (fun i _ => len - (intOf i).toNat)
    case atStart => exact ⟨0, 0, by omega, rfl, rfl, by omega, by omega, rfl⟩
    case round =>
      obtain ⟨k, t, hk, rfl, rfl, u0, u1, HK⟩ := hrel
      by_cases hlt : k < len
      · obtain ⟨ad, x, rfl, hb, hc, HX⟩ := HW1.out.at_ hlt
        have x0 := G.out.w0 k (by rw [HL.out]; exact hlt)
        have x1 := G.out.w1 k (by rw [HL.out]; exact hlt)
        rw [← HX.out] at x0 x1
        have hvx : Mn.vld x = true := (Mn.vld_iff x).2 ⟨x0, x1⟩
        have hs : Hid (Mn.lsum (zs.take (k + 1)) = t + x) := by
          show _ = _
          rw [Mn.lsum_take _ _ (by rw [HL.out]; exact hlt), ← HK.out, ← HX.out]
        have hpre := Mn.lsum_pre zs (fun i hi => G.out.w0 i hi) (k + 1)
        rw [hs.out, ← HT.out] at hpre
        obtain ⟨s0, s1⟩ := hpre
        go_wp2_with (go_at_call 14; refine (money_Valid _ _).mono ?_; rintro e w' ⟨rfl, rfl⟩)
        go_round
        case rel => exact ⟨k + 1, t + x, by omega, by go_num, rfl, by omega, by omega, hs.out.symm⟩
        case measure => simp [intOf]; omega
      · have ht : t = T := by rw [HK.out, HT.out, List.take_of_length_le (by rw [HL.out]; omega)]
        subst ht
        clear HK u0 u1
        go_wp2_with fail
        clear hlt hk
        go_loop [59, 9] (fun i s => ∃ (k : Nat) (l : Int), k ≤ len ∧ i = .int .i64 k ∧ s = .int .i64 l ∧ 0 ≤ l ∧ l ≤ 1000000000000 ∧ Hid (l = m - Mn.lsum ((Mn.parts m zs).take k))) (fun i _ => len - (intOf i).toNat)
        case atStart => exact ⟨0, m, by omega, rfl, rfl, m0, m1, by show _ = _; simp [Mn.lsum]⟩
        case round =>
          obtain ⟨k, l, hk, rfl, rfl, u0, u1, HK⟩ := hrel
          by_cases hlt : k < len
          · have hlt2 : (k : Int) < (len : Int) := by omega
            obtain ⟨ad, x, rfl, hb, hc, HX⟩ := HW1.out.at_ hlt
            obtain ⟨ad', p, rfl, hb', hc', HP⟩ := HI1.out.at_ hlt
            have x0 := G.out.w0 k (by rw [HL.out]; exact hlt)
            have x1 := G.out.w1 k (by rw [HL.out]; exact hlt)
            have hq := G.out.quo k (by rw [HL.out]; exact hlt)
            have hp := G.out.part k (by rw [HL.out]; exact hlt)
            have hpb := G.out.part_bd k (by rw [HL.out]; exact hlt)
            rw [← HX.out] at x0 x1 hq hp
            rw [← HT.out] at hq hp
            rw [← HP.out] at hp hpb
            obtain ⟨em1, em2, em3⟩ := Nm.md_ok (a := m) (b := x) t0 m0 x0 (by omega)
            have cm := fun W => ref_MulDiv m x t (by omega) (by omega) (by omega) (by omega) (by omega) (by omega) W
            obtain ⟨q, eq⟩ : ∃ q, q = m * x / t := ⟨_, rfl⟩
            obtain ⟨r, er⟩ : ∃ r, r = m * x % t := ⟨_, rfl⟩
            rw [em1, em2, em3, ← eq, ← er] at cm
            rw [← eq, ← er] at hq hp
            obtain ⟨q0, q1, r0, r1⟩ := hq
            obtain ⟨p0, p1⟩ := hpb
            have CM := Lib.hid cm
            have hl2 : Hid (l - p = m - Mn.lsum ((Mn.parts m zs).take (k + 1))) := by
              show _ = _
              rw [Mn.lsum_take _ _ (by rw [Mn.parts_len, HL.out]; exact hlt), ← HP.out]
              have := HK.out; omega
            have hpre := G.out.pre (k + 1)
            have l0 : 0 ≤ l - p := by have := hl2.out; omega
            have l1 : l - p ≤ 1000000000000 := by have := hl2.out; omega
            clear em1 em2 em3 cm eq er hpre
            by_cases hpq : p = q
            · have b1 : (p != q) = false := by simpa using hpq
              clear hpq hp
              go_wp2_with (go_at_call 25; refine (CM.out _).mono ?_; rintro e w' ⟨rfl, rfl⟩)
              go_round
              case rel => exact ⟨k + 1, l - p, by omega, by go_num, rfl, l0, l1, hl2⟩
              case measure => simp [intOf]; omega
            · have b1 : (p != q) = true := by simpa using hpq
              have hp2 : p - 1 = q ∧ 0 < r := by omega
              have b2 : (p - 1 != q) = false := by simpa using hp2.1
              have b3 : (r == 0) = false := by simp; omega
              clear hpq hp hp2
              go_wp2_with (go_at_call 25; refine (CM.out _).mono ?_; rintro e w' ⟨rfl, rfl⟩)
              go_round
              case rel => exact ⟨k + 1, l - p, by omega, by go_num, rfl, l0, l1, hl2⟩
              case measure => simp [intOf]; omega
          · have hl : l = 0 := by
              have := HK.out
              rw [List.take_of_length_le (by rw [Mn.parts_len, HL.out]; omega), G.out.parts_sum] at this
              omega
            subst hl
            clear HK
            go_wp2_with (go_at_call 11; refine (law2_awake _ (HE.out.on HB1.out)).mono ?_; rintro e w2 ⟨rfl, h2⟩)
            go_ret
            exact ⟨rfl, below_then HB1.out h2⟩
  · have c1 := fun w (h : Ints w w.heap.size a len zs) => money_Split_no (c := cap) m w h hn hz
    obtain ⟨E, eE⟩ : ∃ E, E = Mn.twE m zs := ⟨_, rfl⟩
    rw [← eE] at c1 hz
    have C1 := Lib.hid c1
    have hb : (E != 0) = true := by simpa using hz
    clear c1 eE hz
    go_enter Tryd.func6, Tryd.ntmps6
    go_wp2_with (first | (go_at_call 22; refine (C1.out _ H.out).mono ?_; rintro e w' ⟨rfl, rfl⟩) | (go_at_call 11; refine (law2_awake _ HE.out).mono ?_; rintro e w1 ⟨rfl, h1⟩))
    go_ret
    exact ⟨rfl, h1⟩

/-! ### The row's step, the row, the card -/
set_option maxRecDepth 100000 in
theorem lifted (os : Os) (started : os.Started) (H : Type) (enc : TypeId × Value → H) :
    ReturnsInHanded {} Tryd.checked os 6 .any (fun w args => (Rows.moneySplitsSpec.pre enc Tryd.prog Tryd.f6 Rows.moneySplitsRow.domain false w args ∧ laidMetH Tryd.prog Rows.moneySplitsRow.laid w) ∧ sizedMet enc Tryd.prog Tryd.f6 (OpenSpec.ofChange Rows.moneySplitsSpec) false w args)
      (Rows.moneySplitsSpec.post enc Tryd.prog Tryd.f6 false true false false) := by
  refine returnsInHanded_of_change_and (C := Tryd.checked) (X := fun w _ => laidMetH Tryd.prog Rows.moneySplitsRow.laid w) (fun _ _ _ hh h => h.of_heap hh) own started (by kernel_rfl) Tryd.func6
    (ChangeSpec.witness_shaped (enc := enc) (C := Tryd.checked) (os := os) (X := fun w _ => laidMetH Tryd.prog Rows.moneySplitsRow.laid w) false (World.doorLaid Tryd.prog 62 os) #[.int .i64 0, .slice none 0 0] 8 rfl (World.shaped_of_RefB (by kernel_rfl) (by kernel_rfl)) (by kernel_rfl) (by kernel_rfl) (by kernel_rfl) (door_met os _)) ?_
  intro W base args ds gs before hval0 hW _ hsz0 hL _
  have hsz : (DataW.weightsEach Tryd.prog (Tryd.f6.params.toList ++ Rows.moneySplitsSpec.plain.varTypes Tryd.prog) (ds ++ gs)).all (· ≤ reachBytes) = true := hsz0
  clear hsz0
  have hval : ∀ (j : Nat) t v, Tryd.f6.params[j]? = some t → args[j]? = some v → Value.okWide Tryd.prog W .any base t v := hval0
  have hW' := hW
  obtain ⟨p, q, hA0, hV, rfl, hfz, hnd⟩ := hW
  have hA : DataW.TrodAll enc Tryd.prog W 0 (fun _ => true) true Tryd.f6.params.toList args.toList ds p := hA0
  rw [Tryd.params6] at hA hval hsz

  obtain ⟨v0, vs0, d0, ds0, p0, q0, hargs, rfl, rfl, h0, r0⟩ := trodAll_cons hA
  obtain ⟨v1, vs1, d1, ds1, p1, q1, rfl, rfl, rfl, h1, r1⟩ := trodAll_cons r0
  obtain ⟨rfl, rfl, rfl⟩ := trodAll_nil r1
  obtain rfl : args = #[v0, v1] := by cases args; simp_all
  obtain ⟨rfl, rfl⟩ := trodVars_none hV
  obtain ⟨a0, rfl, rfl, rfl, w0⟩ := open_int Tryd.underlying3 (hval 0 3 v0 rfl rfl) h0
  have b0 := bounds_i64 w0
  obtain ⟨a1, len1, cap1, rfl⟩ := okWide_slice Tryd.underlying22 (hval 1 22 v1 rfl rfl)
  have k1 := h1
  have lt1 : ∀ x ∈ p1, x.block < W.heap.size := by
    obtain ⟨m, hm⟩ := k1
    exact DataW.trod_lt m _ _ _ hm
  obtain ⟨z1, w1, b1, f1⟩ := ints_opened h1
  clear hA0 hval0
  simp only [List.append_nil] at hW'
  refine (walk a0 a1 len1 cap1 z1 b0.1 b0.2 b1 W (env_of_laid hL) w1 f1).mono fun e W' ⟨he, bel⟩ => ?_
  subst he
  exact ⟨_, rfl, _, _, _, [], _, [], hW', trodAll_mk1 (shut_bool Tryd.underlying4 _), (trodAll_cons_mk (shut_int Tryd.underlying3 w0) (trodAll_cons_mk (Below.trod laidOut (by kernel_rfl) (of_decide_eq_true (by kernel_rfl)) k1 bel lt1) trodAll_mk0)), rfl, bel.frame _, fun h => by cases h⟩

theorem over : Rows.MoneySplitsSaid :=
  OpenClaim.holds_of_wide 6 Tryd.f6 rfl rfl rfl rfl rfl rfl rfl ⟨rfl, rfl, rfl, rfl, rfl⟩ rfl rfl rfl rfl rfl (by kernel_rfl) Tryd.func6 (by kernel_rfl)
    (of_decide_eq_true (by kernel_rfl)) (by unfold Func.isWrapper; first | (rw [if_pos (by decide +kernel)]; kernel_rfl) | (rw [if_neg (by decide +kernel)]; exact ⟨rfl, rfl⟩))
    (fun os started H enc _ => lifted os started H enc)
theorem plain (f : FuncId) (fn : Func) (hf : Tryd.pinned.checked.prog.funcNamed "lottery/lotterylaw02.MoneySplits" = some f) (hfn : Tryd.pinned.checked.prog.funcs[f]? = some fn) :
    true = Tryd.pinned.checked.prog.looks [] ∧ ∀ (j : Nat) t, fn.params[j]? = some t → Tryd.pinned.checked.prog.wantsStandIn t = false := by
  obtain rfl : f = 6 := Option.some.inj ((show Tryd.prog.funcNamed "lottery/lotterylaw02.MoneySplits" = some 6 by kernel_rfl).symm.trans hf) |>.symm
  obtain rfl : fn = Tryd.f6 := (Option.some.inj (Tryd.func6.symm.trans hfn)).symm
  refine ⟨by kernel_rfl, fun j t ht => ?_⟩
  rw [Tryd.params6] at ht
  have ht := Array.mem_of_getElem? ht
  simp only [List.mem_toArray, List.mem_cons, List.not_mem_nil, or_false] at ht
  rcases ht with rfl | rfl

  · exact (show Tryd.prog.wantsStandIn 3 = false by kernel_rfl)
  · exact (show Tryd.prog.wantsStandIn 22 = false by kernel_rfl)
/-- The statement. -/
theorem card : Rows.MoneySplitsCardSaid :=
  Claim7.holds_tied_plain_at .later [] _ _ _ _ over (fun _ h => by cases h) (by kernel_rfl) (fun _ h => by cases h) moneySplits_row_tie rfl ⟨rfl, rfl⟩ (by kernel_rfl) rfl plain (by kernel_rfl)
end Go.Proofs.YtckimajnhdefcaaDoor.moneySplits
