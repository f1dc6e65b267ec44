/- WireWrites (P8.1): for any at most 200 items with at most 5000 bytes and elements each a writer of the project writes the bytes that the reference writes; for other lists, and besides, the chapter's examples hold: the law returns true. No condition. -/
import Derived.Test.YtdleleanaihcoaaOwn
import Derived.Test.YtdleleanaihcoaaWireO
namespace Go.Proofs.Ytdleleanaihcoaa.wireWrites
set_option maxRecDepth 20000
open Go.RowKit Go.ChangeShapes Go.WideShapes Go.ChangeAt Go.WideElems
open Go.ChangeMaps (open_string shut_string)
set_option linter.unusedVariables false
set_option linter.unusedSimpArgs false

set_option maxHeartbeats 2000000 in
theorem walk (A : Option Addr) (n c : Nat) (L : List It) (hc : n ≤ c) (hc1 : c ≤ 9223372036854775807) (w : World) (hI : Its w (· < w.heap.size) A n L) :
    Calls Try.prog 3 #[.slice A n c] w fun e w' => e = .returned (.bool true) ∧ Below w.heap.size w w' := by
  have AW := Lib.hid law8_awake
  have fw := law8_few w hI hc hc1
  cases hf : Wr.fewB L
  · rw [hf] at fw
    have FW := Lib.hid fw
    clear fw hf hI
    go_enter Try.func3, Try.ntmps3
    go_wp2_with fail
    refine FW.out.mono ?_
    rintro e w1 ⟨rfl, k, rfl⟩
    go_wp2_with fail
    refine (AW.out _).mono ?_
    rintro e w2 ⟨rfl, b2⟩
    have B2 := Lib.hid (bel8 (below_drewN w k) b2)
    clear b2
    go_wp2_with fail
    go_ret
    exact ⟨rfl, B2.out⟩
  · rw [hf] at fw
    obtain ⟨hn, hs5⟩ := Wr.few_parts hf
    have hs := Wr.all_more (z' := 20000) (by omega) hs5
    have hn2 : n ≤ 200 := by rw [← hI.1]; exact hn
    have FW := Lib.hid fw
    have HI := Lib.hid hI
    have HS := Lib.hid hs
    have HS5 := Lib.hid hs5
    have n1 : (n : Int) ≤ 200 := by omega
    clear fw hf hI hs hs5 hn
    go_enter Try.func3, Try.ntmps3
    go_wp2_with fail
    refine FW.out.mono ?_
    rintro e w0 ⟨rfl, k, e0⟩
    have B0 : Hid (Below w.heap.size w w0) := by rw [e0]; exact below_drewN w k
    clear e0 FW
    go_wp2_with fail
    refine (wire_NewWriter w0).mono ?_
    rintro e w1 ⟨p, fp, rfl, h1, b1, f1⟩
    have B1 := Lib.hid (bel8 B0.out b1)
    have F1 : Hid (∀ b, fp b → w.heap.size ≤ b) := fun b hb => Nat.le_trans B0.out.size (f1 b hb)
    have H1 := Lib.hid h1
    clear h1 b1 f1
    go_wp2_with fail
    refine (ref8_NewWriter w1).mono ?_
    rintro e w2 ⟨q, T, rfl, h2, b2, f2⟩
    have B2 := Lib.hid (bel8 B1.out b2)
    have P2 := Lib.hid (H1.out.keep (fq := noB) (Turns.of_below b2) fun _ _ e => e.elim)
    have Q2 := Lib.hid h2
    have NQ : Hid (¬ fp q) := fun e => by have := H1.out.lt q e; omega
    have GQ : Hid (w.heap.size ≤ q) := Nat.le_trans B1.out.size f2
    clear h2 b2 f2
    go_wp2_with fail
    refine (law8_write w2 P2.out ((HI.out.below B2.out).more fun b hb => ⟨Nat.lt_of_lt_of_le hb B2.out.size, fun e => Nat.lt_irrefl _ (Nat.lt_of_lt_of_le hb (F1.out b e))⟩) hc hc1 hn2 (by simp) HS.out).mono ?_
    rintro e w3 ⟨rfl, fp3, h3, t3, g3⟩
    have B3 := Lib.hid (t3.on_below B2.out B2.out.size fun b _ hb => F1.out b hb)
    have Q3 := Lib.hid (Q2.out.keep t3 fun b hb => by
      rcases hb with rfl | hb
      · exact NQ.out
      · cases hb)
    rw [List.nil_append] at h3
    have P3 := Lib.hid h3
    have AP : Hid (∀ b, fp3 b → ¬ fpv q (.slice none 0 0) b) := fun b hb e => by
      rcases e with rfl | e
      · rcases g3 _ hb with h | h
        · exact NQ.out h
        · have := Q2.out.lt; omega
      · cases e
    clear h3 t3 g3 P2 Q2 H1
    go_wp2_with fail
    have J0 : Hid (RWv w3 T q (.slice none 0 0) (Wr.itsB (L.take 0))) := Q3.out
    have L0 : Hid ((Wr.itsB (L.take 0)).length ≤ 200010 * 0) := Nat.le_refl _
    go_loopw [19] (fun i W => ∃ (k : Nat) (v : Value), k ≤ n ∧ i = .int .i64 (k : Int) ∧ Hid (RWv W T q v (Wr.itsB (L.take k))) ∧ Hid (Turns (fpv q (.slice none 0 0)) w3 W) ∧ Hid (Grows w3 (fpv q (.slice none 0 0)) (fpv q v)) ∧ Hid ((Wr.itsB (L.take k)).length ≤ 200010 * k)) (fun i _ => n - (intOf i).toNat)
    case atStart => exact ⟨0, _, by omega, rfl, J0, Turns.refl _, Grows.refl _ _, L0⟩
    case round =>
      obtain ⟨k, v, hk, rfl, HW, HT, HG, HL⟩ := hrel
      have BW := Lib.hid (HT.out.on_below B3.out B3.out.size fun b _ hb => by
        rcases hb with rfl | hb
        · exact GQ.out
        · cases hb)
      by_cases hlt : k < n
      · have hi := HI.out.below BW.out
        obtain ⟨ad, x, rfl, hP, hx, d0, d1, d2, d3, d4, hok⟩ := hi.at_ hlt
        have hls : Wr.little 20000 x = true := List.all_eq_true.1 HS.out x (List.mem_of_getElem? hx)
        have hls2 := hls
        rw [Wr.little, Bool.and_eq_true, decide_eq_true_iff, decide_eq_true_iff] at hls2
        obtain ⟨l1, l2⟩ := hls2
        have hsn : Wr.itsB (L.take (k + 1)) = Wr.itsB (L.take k) ++ Wr.itB x := by rw [List.take_add_one, hx]; exact Wr.itsB_snoc _ _
        have hlen := Wr.itB_len hls ⟨hok.n0, hok.n1⟩ hok.u1 hok.z (by omega)
        have HL2 : Hid ((Wr.itsB (L.take (k + 1))).length ≤ 200010 * (k + 1)) := by
          show _ ≤ _
          have := HL.out
          rw [hsn, List.length_append]; omega
        have hl5 : (Wr.itsB (L.take k)).length ≤ 500000000000 := by have := HL.out; omega
        have HSN := Lib.hid hsn
        have k0 := hok.k0
        have k1 := hok.k1
        have n0 := hok.n0
        have n1' := hok.n1
        have u1 : x.u ≤ 18446744073709551615 := by have := hok.u1; omega
        have lb2 := hok.c1
        have STEP : Hid (∀ {M : List UInt8} {w' : World}, Wr.itB x = M → (∃ v', RWv w' T q v' (Wr.itsB (L.take k) ++ M) ∧ Turns (fpv q v) wr w' ∧ Grows wr (fpv q v) (fpv q v')) → ∃ v', RWv w' T q v' (Wr.itsB (L.take (k + 1))) ∧ Turns (fpv q (.slice none 0 0)) w3 w' ∧ Grows w3 (fpv q (.slice none 0 0)) (fpv q v')) := by
          rintro M w' rfl ⟨v', a1, a2, a3⟩
          exact ⟨v', by rw [HSN.out]; exact a1, HT.out.trans a2 fun b hb hf => (HG.out b hf).resolve_right (by omega), HG.out.trans a3 HT.out.size⟩
        by_cases e1 : x.k = 1
        · have b1 : (x.k == 1) = true := by rw [beq_iff_eq]; exact e1
          have E : Hid (Wr.itB x = Wr.encI x.n) := if_pos e1
          have U := Lib.hid (ref8_Int x.n hok.n0 hok.n1 wr HW.out (by omega))
          clear hx hok hsn hlen hls e1 hi
          go_wp2_with fail
          refine U.out.mono ?_
          rintro e w4 ⟨rfl, h4⟩
          have H4 := Lib.hid (STEP.out E.out h4)
          clear h4
          go_wp2_with fail
          obtain ⟨v', q1, q2, q3⟩ := H4.out
          go_roundw
          case rel => exact ⟨k + 1, v', by omega, by go_num, q1, q2, q3, HL2⟩
          case measure => simp [intOf]; omega
        · have b1 : (x.k == 1) = false := by rw [beq_eq_false_iff_ne]; exact e1
          by_cases e2 : x.k = 2
          · have b2 : (x.k == 2) = true := by rw [beq_iff_eq]; exact e2
            have E : Hid (Wr.itB x = Wr.enc x.u) := (if_neg e1).trans (if_pos e2)
            have U := Lib.hid (ref8_Uint x.u hok.u1 wr HW.out (by omega))
            clear hx hok hsn hlen hls e1 e2 hi
            go_wp2_with fail
            refine U.out.mono ?_
            rintro e w4 ⟨rfl, h4⟩
            have H4 := Lib.hid (STEP.out E.out h4)
            clear h4
            go_wp2_with fail
            obtain ⟨v', q1, q2, q3⟩ := H4.out
            go_roundw
            case rel => exact ⟨k + 1, v', by omega, by go_num, q1, q2, q3, HL2⟩
            case measure => simp [intOf]; omega
          · have b2 : (x.k == 2) = false := by rw [beq_eq_false_iff_ne]; exact e2
            by_cases e3 : x.k = 3
            · have b3 : (x.k == 3) = true := by rw [beq_iff_eq]; exact e3
              have E : Hid (Wr.itB x = Wr.encT x.s.data.toList) := (if_neg e1).trans ((if_neg e2).trans (if_pos e3))
              have U := Lib.hid (ref8_WText x.s (by omega) wr HW.out (by omega))
              clear hx hok hsn hlen hls e1 e2 e3 hi
              go_wp2_with fail
              refine U.out.mono ?_
              rintro e w4 ⟨rfl, h4⟩
              have H4 := Lib.hid (STEP.out E.out h4)
              clear h4
              go_wp2_with fail
              obtain ⟨v', q1, q2, q3⟩ := H4.out
              go_roundw
              case rel => exact ⟨k + 1, v', by omega, by go_num, q1, q2, q3, HL2⟩
              case measure => simp [intOf]; omega
            · have b3 : (x.k == 3) = false := by rw [beq_eq_false_iff_ne]; exact e3
              have E : Hid (Wr.itB x = Wr.encL x.l) := (if_neg e1).trans ((if_neg e2).trans (if_neg e3))
              have U := Lib.hid (ref8_WInts (c := x.c) wr HW.out hok.i (fun ad e h0 hb => by
                have h5 := hok.a ad e h0
                have h6 := B3.out.size
                have h7 := GQ.out
                rcases HG.out _ hb with h | h
                · rcases h with h | h
                  · omega
                  · cases h
                · omega) (by omega) hok.z (by omega))
              clear hx hok hsn hlen hls e1 e2 e3 hi
              go_wp2_with fail
              refine U.out.mono ?_
              rintro e w4 ⟨rfl, h4⟩
              have H4 := Lib.hid (STEP.out E.out h4)
              clear h4
              go_wp2_with fail
              obtain ⟨v', q1, q2, q3⟩ := H4.out
              go_roundw
              case rel => exact ⟨k + 1, v', by omega, by go_num, q1, q2, q3, HL2⟩
              case measure => simp [intOf]; omega
      · have hge : ¬ (k : Int) < (n : Int) := by omega
        have htk : L.take k = L := List.take_of_length_le (by rw [HI.out.1]; omega)
        have hw := HW.out
        have hl5 := HL.out
        rw [htk] at hw hl5
        obtain ⟨M, eM⟩ : ∃ M, M = Wr.itsB L := ⟨_, rfl⟩
        have pw := P3.out.keep HT.out AP.out
        rw [← eM] at hw hl5 pw
        have D1 : Hid (∀ W, Below wr.heap.size wr W → Calls Try.prog 20 #[.pointer (some ⟨p, 0, none⟩)] W (BRes M W)) := fun W hb => wire_WBytes W (pw.keep (fq := noB) (Turns.of_below hb) fun _ _ e => e.elim) (by omega)
        have D2 : Hid (∀ W, Below wr.heap.size wr W → Calls Try.prog 21 #[.pointer (some ⟨q, 0, none⟩)] W (BRes M W)) := fun W hb => ref8_WBytes W (hw.keep (fq := noB) (Turns.of_below hb) fun _ _ e => e.elim) (by omega)
        clear hw hl5 pw eM
        go_wp2_with fail
        go_region_with (first
          | (go_at_call 20; refine (D1.out _ (by repeat (first | exact Below.refl _ _ | exact K2.out | with_reducible refine below_dr1 ?_ | with_reducible refine below_dr2 ?_ _))).mono ?_; rintro e wa ⟨A1, c1, rfl, z1, y1, -, -, -⟩; have K1 : Hid (Below wr.heap.size wr wa) := (bel8 (by repeat (first | exact Below.refl _ _ | exact K2.out | with_reducible refine below_dr1 ?_ | with_reducible refine below_dr2 ?_ _)) z1); have v1 := conv_bytes (c := c1) y1; have Y1 := Lib.hid y1; (try (revert Y2; intro Y2; have v2 := conv_bytes (c := c2) (Y2.out.on z1))); clear z1 y1)
          | (go_at_call 21; refine (D2.out _ (by repeat (first | exact Below.refl _ _ | exact K1.out | with_reducible refine below_dr1 ?_ | with_reducible refine below_dr2 ?_ _))).mono ?_; rintro e wb ⟨A2, c2, rfl, z2, y2, -, -, -⟩; have K2 : Hid (Below wr.heap.size wr wb) := (bel8 (by repeat (first | exact Below.refl _ _ | exact K1.out | with_reducible refine below_dr1 ?_ | with_reducible refine below_dr2 ?_ _)) z2); have v2 := conv_bytes (c := c2) y2; have Y2 := Lib.hid y2; (try (revert Y1; intro Y1; have v1 := conv_bytes (c := c1) (Y1.out.on z2))); clear z2 y2)
          | (go_at_call 12; refine (AW.out _).mono ?_; rintro e wc ⟨rfl, z3⟩; have K3 : Hid (Below wr.heap.size wr wc) := bel8 (by repeat (first | exact K2.out | exact K1.out | with_reducible refine below_dr1 ?_ | with_reducible refine below_dr2 ?_ _)) z3; clear z3))
        all_goals (
          go_wp2_with fail
          go_ret
          exact ⟨rfl, bel8 BW.out K3.out⟩)

/-! ### The row's step, the row -/
set_option maxRecDepth 100000 in
theorem lifted (os : Os) (started : os.Started) (H : Type) (enc : TypeId × Value → H) :
    ReturnsInHanded {} Try.checked os 3 .any (Rows.wireWritesSpec.pre6 enc Try.prog Try.f3 Rows.wireWritesRow.domain false) (Rows.wireWritesSpec.post enc Try.prog Try.f3 false true false false) := by
  refine returnsInHanded_of_change (C := Try.checked) own started (by kernel_rfl) Try.func3
    (ChangeSpec.witness6 (enc := enc) (C := Try.checked) false ⟨#[], #[.slice none 0 0], []⟩ 8 (by kernel_rfl) (by kernel_rfl) (by kernel_rfl) (by kernel_rfl)) ?_
  intro W base args ds gs before hval0 hW hcnd _
  skip
  have hval : ∀ (j : Nat) t v, Try.f3.params[j]? = some t → args[j]? = some v → Value.okWide Try.prog W .any base t v := hval0
  have hW' := hW
  obtain ⟨p, q, hA0, hV, rfl, hfz, hnd⟩ := hW
  have hA : DataW.TrodAll enc Try.prog W 0 (fun _ => true) true Try.f3.params.toList args.toList ds p := hA0
  rw [Try.params3] at hA hval

  obtain ⟨v0, vs0, d0, ds0, p0, q0, hargs, rfl, rfl, h0, r0⟩ := trodAll_cons hA
  obtain ⟨rfl, rfl, rfl⟩ := trodAll_nil r0
  obtain rfl : args = #[v0] := by cases args; simp_all
  obtain ⟨rfl, rfl⟩ := trodVars_none hV
  obtain ⟨B0, l0, q0', rfl⟩ := okWide_slice Try.underlying22 (hval 0 22 v0 rfl rfl)
  have k0 := h0
  have lt0 : ∀ x ∈ p0, x.block < W.heap.size := by
    obtain ⟨m, hm⟩ := k0
    exact DataW.trod_lt m _ _ _ hm
  obtain ⟨D0, hD0⟩ := sl_opened (e := ItTy) (t := 22) (by kernel_rfl) h0
  obtain ⟨A0, n0, c0, L0, e0, x0, y0, w0⟩ := its_of_rd hD0
  obtain ⟨rfl, rfl, rfl⟩ : B0 = A0 ∧ l0 = n0 ∧ q0' = c0 := by simpa using e0
  clear hA0 hval0
  refine (walk _ _ _ L0 x0 y0 W w0).mono fun e W' ⟨he, bel⟩ => ?_
  subst he
  exact ⟨_, rfl, _, _, _, [], _, [], hW', trodAll_mk1 (shut_bool Try.underlying4 _), (trodAll_cons_mk (Below.trod laidOut (by kernel_rfl) (of_decide_eq_true (by kernel_rfl)) k0 bel lt0) trodAll_mk0), rfl, bel.frame _, fun h => by cases h⟩

theorem over : Rows.WireWritesSaid :=
  OpenClaim.holds_of_wide 3 Try.f3 rfl rfl rfl rfl rfl rfl rfl ⟨rfl, rfl, rfl, rfl, rfl⟩ rfl rfl rfl rfl rfl (by kernel_rfl) Try.func3 (by kernel_rfl)
    (of_decide_eq_true (by kernel_rfl)) (by unfold Func.isWrapper; first | (rw [if_pos (by decide +kernel)]; kernel_rfl) | (rw [if_neg (by decide +kernel)]; exact ⟨rfl, rfl⟩))
    (fun os started H enc _ => lifted os started H enc)
/-- The statement. -/
theorem proved : Rows.WireWritesSaid := over
end Go.Proofs.Ytdleleanaihcoaa.wireWrites
