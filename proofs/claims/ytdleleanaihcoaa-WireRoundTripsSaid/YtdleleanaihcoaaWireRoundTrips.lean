/- WireRoundTrips (P8.6): for any at most 200 items with at most 5000 bytes and elements each a reader of what a writer wrote returns the same values, and then nothing is left and there is no error; for other lists, and besides, the chapter's examples hold: the law returns true. No condition. -/
import Derived.Test.YtdleleanaihcoaaOwn
import Derived.Test.YtdleleanaihcoaaWireO
namespace Go.Proofs.Ytdleleanaihcoaa.wireRoundTrips
set_option maxRecDepth 20000
open Go.RowKit Go.ChangeShapes Go.WideShapes Go.ChangeAt Go.WideElems
open Go.ChangeMaps (open_string shut_string)
set_option linter.unusedVariables false
set_option linter.unusedSimpArgs false

set_option maxHeartbeats 2000000 in
theorem walk (A : Option Addr) (n c : Nat) (L : List It) (hc : n ≤ c) (hc1 : c ≤ 9223372036854775807) (w : World) (hI : Its w (· < w.heap.size) A n L) :
    Calls Try.prog 5 #[.slice A n c] w fun e w' => e = .returned (.bool true) ∧ Below w.heap.size w w' := by
  have AW := Lib.hid law8_awake
  have fw := law8_few w hI hc hc1
  cases hf : Wr.fewB L
  · rw [hf] at fw
    have FW := Lib.hid fw
    clear fw hf hI
    go_enter Try.func5, Try.ntmps5
    go_wp2_with fail
    refine FW.out.mono ?_
    rintro e w1 ⟨rfl, k, rfl⟩
    go_wp2_with fail
    refine (AW.out _).mono ?_
    rintro e w2 ⟨rfl, b2⟩
    have B2 := Lib.hid (bel8 (below_drewN w k) b2)
    clear b2
    go_wp2_with fail
    go_ret
    exact ⟨rfl, B2.out⟩
  · rw [hf] at fw
    obtain ⟨hn, hs5⟩ := Wr.few_parts hf
    have hs := Wr.all_more (z' := 20000) (by omega) hs5
    have hn2 : n ≤ 200 := by rw [← hI.1]; exact hn
    have FW := Lib.hid fw
    have HI := Lib.hid hI
    have HS := Lib.hid hs
    have n1 : (n : Int) ≤ 200 := by omega
    have hlen : (Wr.itsB L).length ≤ 200010 * n := by rw [← hI.1]; exact Wr.itsB_len hs hI
    clear fw hf hI hs hs5 hn
    obtain ⟨M, eM⟩ : ∃ M, M = Wr.itsB L := ⟨_, rfl⟩
    have EM := Lib.hid eM
    rw [← eM] at hlen
    go_enter Try.func5, Try.ntmps5
    go_wp2_with fail
    refine FW.out.mono ?_
    rintro e w0 ⟨rfl, k, e0⟩
    have B0 : Hid (Below w.heap.size w w0) := by rw [e0]; exact below_drewN w k
    clear e0 FW
    go_wp2_with fail
    refine (wire_NewWriter w0).mono ?_
    rintro e w1 ⟨p, fp, rfl, h1, b1, f1⟩
    have A1 : Hid (WAt w w1 p []) := ⟨bel8 B0.out b1, fp, h1, fun b hb => Nat.le_trans B0.out.size (f1 b hb)⟩
    clear h1 b1 f1
    go_wp2_with fail
    refine (A1.out.call fun fp h hf => law8_write w1 h ((HI.out.below A1.out.1).more fun b hb => ⟨Nat.lt_of_lt_of_le hb A1.out.1.size, fun e => Nat.lt_irrefl _ (Nat.lt_of_lt_of_le hb (hf b e))⟩) hc hc1 hn2 (by simp) HS.out).mono ?_
    rintro e w2 ⟨rfl, a2⟩
    rw [List.nil_append, ← eM] at a2
    have A2 := Lib.hid a2
    clear a2 eM
    go_wp2_with fail
    refine ((A2.out.2.elim fun fp h => wire_WBytes w2 h.1 (by omega)) : Calls _ _ _ _ _).mono ?_
    rintro e w3 ⟨A', c', rfl, b3, y3, -, c3, c3'⟩
    have B3 := Lib.hid (bel8 A2.out.1 b3)
    have Y3 := Lib.hid y3
    clear b3 y3
    go_wp2_with fail
    refine (wire_NewReader w3 Y3.out (by omega) c3 c3').mono ?_
    rintro e w4 ⟨q, fq, rfl, h4, b4, f4⟩
    have R4 : Hid (RAt w w4 q ⟨Wr.itsB (L.drop 0), 0⟩) := by
      rw [EM.out] at h4
      exact ⟨bel8 B3.out b4, fq, h4, fun b hb => Nat.le_trans B3.out.size (f4 b hb)⟩
    clear h4 b4 f4
    go_wp2_with fail
    go_loopw [23] (fun i W => ∃ (k : Nat), k ≤ n ∧ i = .int .i64 (k : Int) ∧ Hid (RAt w W q ⟨Wr.itsB (L.drop k), 0⟩)) (fun i _ => n - (intOf i).toNat)
    case atStart => exact ⟨0, by omega, rfl, R4⟩
    case round =>
      obtain ⟨k, hk, rfl, HR⟩ := hrel
      by_cases hlt : k < n
      · have hi := HI.out.below HR.out.1
        obtain ⟨ad, x, rfl, hP, hx, d0, d1, d2, d3, d4, hok⟩ := hi.at_ hlt
        have hdr : L.drop k = x :: L.drop (k + 1) := by
          obtain ⟨hk', ex⟩ := List.getElem?_eq_some_iff.1 hx
          rw [List.drop_eq_getElem_cons hk', ex]
        have hr := HR.out
        rw [hdr, show Wr.itsB (x :: L.drop (k + 1)) = Wr.itB x ++ Wr.itsB (L.drop (k + 1)) from rfl] at hr
        have U := Lib.hid (hr.call fun fp h hf => law8_equal wr h hok fun b hb e => Nat.lt_irrefl _ (Nat.lt_of_lt_of_le hb (hf b e)))
        clear hx hok hdr hr hi
        unfold It.val at U
        go_wp2_with fail
        refine U.out.mono ?_
        rintro e w5 ⟨rfl, r5⟩
        have R5 := Lib.hid r5
        clear r5
        go_wp2_with fail
        obtain ⟨fp5, h5, -⟩ := R5.out.2
        refine (wire_Err _ h5).mono ?_
        rintro e w6 ⟨rfl, b6⟩
        have R6 := Lib.hid (R5.out.on b6)
        clear b6 h5
        go_wp2_with fail
        go_roundw
        case rel => exact ⟨k + 1, by omega, by go_num, R6⟩
        case measure => simp [intOf]; omega
      · have hge : ¬ (k : Int) < (n : Int) := by omega
        have hr := HR.out
        rw [show L.drop k = [] from List.drop_eq_nil_of_le (by rw [HI.out.1]; omega), show Wr.itsB [] = [] from rfl] at hr
        have R5 := Lib.hid hr
        clear hr
        go_wp2_with fail
        obtain ⟨fp5, h5, -⟩ := R5.out.2
        refine (wire_Left _ h5).mono ?_
        rw [show Wr.left ⟨[], 0⟩ = 0 from rfl]
        rintro e w6 ⟨rfl, b6⟩
        have R6 := Lib.hid (R5.out.on b6)
        clear b6 h5
        go_wp2_with fail
        obtain ⟨fp6, h6, -⟩ := R6.out.2
        refine (wire_Err _ h6).mono ?_
        rintro e w7 ⟨rfl, b7⟩
        have R7 := Lib.hid (R6.out.on b7)
        clear b7 h6
        go_wp2_with fail
        refine (AW.out _).mono ?_
        rintro e w8 ⟨rfl, b8⟩
        have R8 := Lib.hid (R7.out.on b8)
        clear b8
        go_wp2_with fail
        go_ret
        exact ⟨rfl, R8.out.1⟩

/-! ### The row's step, the row -/
set_option maxRecDepth 100000 in
theorem lifted (os : Os) (started : os.Started) (H : Type) (enc : TypeId × Value → H) :
    ReturnsInHanded {} Try.checked os 5 .any (Rows.wireRoundTripsSpec.pre6 enc Try.prog Try.f5 Rows.wireRoundTripsRow.domain false) (Rows.wireRoundTripsSpec.post enc Try.prog Try.f5 false true false false) := by
  refine returnsInHanded_of_change (C := Try.checked) own started (by kernel_rfl) Try.func5
    (ChangeSpec.witness6 (enc := enc) (C := Try.checked) false ⟨#[], #[.slice none 0 0], []⟩ 8 (by kernel_rfl) (by kernel_rfl) (by kernel_rfl) (by kernel_rfl)) ?_
  intro W base args ds gs before hval0 hW hcnd _
  skip
  have hval : ∀ (j : Nat) t v, Try.f5.params[j]? = some t → args[j]? = some v → Value.okWide Try.prog W .any base t v := hval0
  have hW' := hW
  obtain ⟨p, q, hA0, hV, rfl, hfz, hnd⟩ := hW
  have hA : DataW.TrodAll enc Try.prog W 0 (fun _ => true) true Try.f5.params.toList args.toList ds p := hA0
  rw [Try.params5] at hA hval

  obtain ⟨v0, vs0, d0, ds0, p0, q0, hargs, rfl, rfl, h0, r0⟩ := trodAll_cons hA
  obtain ⟨rfl, rfl, rfl⟩ := trodAll_nil r0
  obtain rfl : args = #[v0] := by cases args; simp_all
  obtain ⟨rfl, rfl⟩ := trodVars_none hV
  obtain ⟨B0, l0, q0', rfl⟩ := okWide_slice Try.underlying22 (hval 0 22 v0 rfl rfl)
  have k0 := h0
  have lt0 : ∀ x ∈ p0, x.block < W.heap.size := by
    obtain ⟨m, hm⟩ := k0
    exact DataW.trod_lt m _ _ _ hm
  obtain ⟨D0, hD0⟩ := sl_opened (e := ItTy) (t := 22) (by kernel_rfl) h0
  obtain ⟨A0, n0, c0, L0, e0, x0, y0, w0⟩ := its_of_rd hD0
  obtain ⟨rfl, rfl, rfl⟩ : B0 = A0 ∧ l0 = n0 ∧ q0' = c0 := by simpa using e0
  clear hA0 hval0
  refine (walk _ _ _ L0 x0 y0 W w0).mono fun e W' ⟨he, bel⟩ => ?_
  subst he
  exact ⟨_, rfl, _, _, _, [], _, [], hW', trodAll_mk1 (shut_bool Try.underlying4 _), (trodAll_cons_mk (Below.trod laidOut (by kernel_rfl) (of_decide_eq_true (by kernel_rfl)) k0 bel lt0) trodAll_mk0), rfl, bel.frame _, fun h => by cases h⟩

theorem over : Rows.WireRoundTripsSaid :=
  OpenClaim.holds_of_wide 5 Try.f5 rfl rfl rfl rfl rfl rfl rfl ⟨rfl, rfl, rfl, rfl, rfl⟩ rfl rfl rfl rfl rfl (by kernel_rfl) Try.func5 (by kernel_rfl)
    (of_decide_eq_true (by kernel_rfl)) (by unfold Func.isWrapper; first | (rw [if_pos (by decide +kernel)]; kernel_rfl) | (rw [if_neg (by decide +kernel)]; exact ⟨rfl, rfl⟩))
    (fun os started H enc _ => lifted os started H enc)
/-- The statement. -/
theorem proved : Rows.WireRoundTripsSaid := over
end Go.Proofs.Ytdleleanaihcoaa.wireRoundTrips
