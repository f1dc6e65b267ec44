/- WireReads (P8.2, P8.3, P8.4): for any at most 20000 bytes and any at most 200 calls a reader of the project returns the values, the numbers of bytes left and the errors of the reference's; for others, and besides, the chapter's examples hold: the law returns true. No condition. -/
import Derived.Test.YtdleleanaihcoaaOwn
import Derived.Test.YtdleleanaihcoaaWireQ
import Derived.Deep.RegionHeld3
namespace Go.Proofs.Ytdleleanaihcoaa.wireReads
set_option maxRecDepth 20000
open Go.RowKit Go.ChangeShapes Go.WideShapes Go.ChangeAt Go.WideElems
open Go.ChangeMaps (open_string shut_string)
set_option linter.unusedVariables false
set_option linter.unusedSimpArgs false

theorem ints_tw {W W' : World} {fq : Nat → Prop} {A : Option Addr} {n : Nat} {zs : List Int} (h : Ints W W.heap.size A n zs) {W0 : World} (ht : Turns fq W0 W') (ha : ∀ ad, A = some ad → 0 < n → ¬ fq ad.block) (he : ∀ a, W0.cell? a = W.cell? a := by intro _; rfl) (hs : W0.heap.size = W.heap.size := by rfl) : Ints W' W'.heap.size A n zs :=
  ints_turn (W := W0) (by rw [hs]; exact ints_eq h he) ht ha
set_option maxHeartbeats 4000000 in
theorem walk (A : Option Addr) (n c : Nat) (L : List UInt8) (B : Option Addr) (m' c' : Nat) (K : List (Int × Int)) (hc : n ≤ c) (hc1 : c ≤ 9223372036854775807) (hd : m' ≤ c') (hd1 : c' ≤ 9223372036854775807) (w : World) (h : Byts w w.heap.size A n L) (hK : Aks w (· < w.heap.size) B m' K) :
    Calls Try.prog 4 #[.slice A n c, .slice B m' c'] w fun e w' => e = .returned (.bool true) ∧ Below w.heap.size w w' := by
  have AW := Lib.hid law8_awake
  have n1 : (n : Int) ≤ 9223372036854775807 := by omega
  have n2 : (m' : Int) ≤ 9223372036854775807 := by omega
  by_cases hn : n ≤ 20000 ∧ m' ≤ 200
  · obtain ⟨hn, hm⟩ := hn
    have g1 : decide ((20000 : Int) < (n : Int)) = false := by simp; omega
    have g2 : decide ((200 : Int) < (m' : Int)) = false := by simp; omega
    have H := Lib.hid h
    have HK := Lib.hid hK
    clear h hK
    go_enter Try.func4, Try.ntmps4
    go_wp2_with fail
    refine (wire_NewReader w H.out (by omega) hc hc1).mono ?_
    rintro e w1 ⟨p, fp, rfl, h1, b1, f1⟩
    have H1 := Lib.hid h1
    have B1 := Lib.hid b1
    have F1 := Lib.hid f1
    clear h1 b1 f1
    go_wp2_with fail
    refine (ref8_NewReader (c := c) w1 (H.out.on B1.out) (by omega)).mono ?_
    rintro e w2 ⟨q, T, v, rfl, h2, b2, f2⟩
    have J0 : Hid (JJ w T p q v L w2 ⟨L, 0⟩ ⟨L, 0⟩) := ⟨bel8 B1.out b2, fp, 0, H1.out.on b2, h2, fun b hb e => by have := H1.out.lt b hb; have := f2 b e; omega, F1.out, fun b hb => Nat.le_trans B1.out.size (f2 b hb)⟩
    clear h2 b2 f2
    go_wp2_with fail
    go_loopw [26] (fun i W => ∃ (k : Nat) (s : Wr.St), k ≤ m' ∧ i = .int .i64 (k : Int) ∧ Hid (JJ w T p q v L W s s)) (fun i _ => m' - (intOf i).toNat)
    case atStart => exact ⟨0, ⟨L, 0⟩, by omega, rfl, J0⟩
    case round =>
      obtain ⟨k, s, hk, rfl, HJ⟩ := hrel
      by_cases hlt : k < m'
      · obtain ⟨ad, kd, m, rfl, hP, hx, y0, y1, ⟨k0, k1⟩, m0, m1⟩ := HK.out.at_ hlt
        have HC : Hid (∀ W, Below w.heap.size w W → W.cell? ⟨(ad.add (k * 2)).block, (ad.add (k * 2)).off + 1, none⟩ = some (.int .i64 m)) := fun W hb => (hb.cell (p := ⟨(ad.add (k * 2)).block, (ad.add (k * 2)).off + 1, none⟩) (by show (ad.add (k * 2)).block < _; rw [block_of_add]; exact hP)).trans y1
        have d0 := (HJ.out.1.cell (p := ad.add (k * 2)) (by rw [block_of_add]; exact hP)).trans y0
        have d1 := HC.out wr HJ.out.1
        clear y0 y1 hx
        by_cases e1 : kd = 1
        · have b1 : (kd == 1) = true := by rw [beq_iff_eq]; exact e1
          obtain ⟨s2, es⟩ : ∃ s2, s2 = (Wr.rdI s).2 := ⟨_, rfl⟩
          obtain ⟨r, er⟩ : ∃ r, r = (Wr.rdI s).1 := ⟨_, rfl⟩
          have U1 := Lib.hid fun W (hJ : JJ w T p q v L W s s) => hJ.prog fun fp h => wire_RInt W h
          have U2 := Lib.hid fun W (hJ : JJ w T p q v L W s2 s) => hJ.ref fun a h => ref8_RInt W h
          rw [← es, ← er] at U1 U2
          clear es er e1
          go_wp2_with fail
          refine (U1.out _ HJ.out).mono ?_
          rintro e w3 ⟨rfl, j3⟩
          have J3 := Lib.hid j3
          clear j3
          go_wp2_with fail
          refine (U2.out _ J3.out).mono ?_
          rintro e w4 ⟨rfl, j4⟩
          have JF := Lib.hid j4
          clear j4
          go_wp2_with fail
          refine (JF.out.one fun fp h => wire_Left _ h).mono ?_
          rintro e w5 ⟨rfl, b5⟩
          have J5 := Lib.hid (JF.out.on b5)
          clear b5
          go_wp2_with fail
          refine (J5.out.two fun a h => ref8_Left _ h).mono ?_
          rintro e w6 ⟨rfl, j6, e6⟩
          have J6 : Hid (JJ w T p q v L w6 s2 s2) := by rw [e6]; exact J5.out.drN _
          clear e6
          go_wp2_with fail
          refine (J6.out.one fun fp h => wire_Err _ h).mono ?_
          rintro e w7 ⟨rfl, b7⟩
          have J7 := Lib.hid (J6.out.on b7)
          clear b7
          go_wp2_with fail
          refine (J7.out.two fun a h => ref8_Err _ h).mono ?_
          rintro e w8 ⟨rfl, e8⟩
          subst e8
          go_wp2_with fail
          go_roundw
          case rel => exact ⟨k + 1, s2, by omega, by go_num, J7⟩
          case measure => simp [intOf]; omega
        · have b1 : (kd == 1) = false := by rw [beq_eq_false_iff_ne]; exact e1
          by_cases e2 : kd = 2
          · have b2 : (kd == 2) = true := by rw [beq_iff_eq]; exact e2
            obtain ⟨s2, es⟩ : ∃ s2, s2 = (Wr.rdU s).2 := ⟨_, rfl⟩
            obtain ⟨r, er⟩ : ∃ r, r = (((Wr.rdU s).1 : Nat) : Int) := ⟨_, rfl⟩
            have U1 := Lib.hid fun W (hJ : JJ w T p q v L W s s) => hJ.prog fun fp h => wire_RUint W h
            have U2 := Lib.hid fun W (hJ : JJ w T p q v L W s2 s) => hJ.ref fun a h => ref8_RUint W h
            rw [← es, ← er] at U1 U2
            clear es er e1 e2
            go_wp2_with fail
            refine (U1.out _ HJ.out).mono ?_
            rintro e w3 ⟨rfl, j3⟩
            have J3 := Lib.hid j3
            clear j3
            go_wp2_with fail
            refine (U2.out _ J3.out).mono ?_
            rintro e w4 ⟨rfl, j4⟩
            have JF := Lib.hid j4
            clear j4
            go_wp2_with fail
            refine (JF.out.one fun fp h => wire_Left _ h).mono ?_
            rintro e w5 ⟨rfl, b5⟩
            have J5 := Lib.hid (JF.out.on b5)
            clear b5
            go_wp2_with fail
            refine (J5.out.two fun a h => ref8_Left _ h).mono ?_
            rintro e w6 ⟨rfl, j6, e6⟩
            have J6 : Hid (JJ w T p q v L w6 s2 s2) := by rw [e6]; exact J5.out.drN _
            clear e6
            go_wp2_with fail
            refine (J6.out.one fun fp h => wire_Err _ h).mono ?_
            rintro e w7 ⟨rfl, b7⟩
            have J7 := Lib.hid (J6.out.on b7)
            clear b7
            go_wp2_with fail
            refine (J7.out.two fun a h => ref8_Err _ h).mono ?_
            rintro e w8 ⟨rfl, e8⟩
            subst e8
            go_wp2_with fail
            go_roundw
            case rel => exact ⟨k + 1, s2, by omega, by go_num, J7⟩
            case measure => simp [intOf]; omega
          · have b2 : (kd == 2) = false := by rw [beq_eq_false_iff_ne]; exact e2
            by_cases e3 : kd = 3
            · have b3 : (kd == 3) = true := by rw [beq_iff_eq]; exact e3
              obtain ⟨s2, es⟩ : ∃ s2, s2 = (Wr.rdT m s).2 := ⟨_, rfl⟩
              obtain ⟨r, er⟩ : ∃ r, r = (⟨(Wr.rdT m s).1.toArray⟩ : ByteArray) := ⟨_, rfl⟩
              have U1 := Lib.hid fun W (hJ : JJ w T p q v L W s s) => hJ.prog fun fp h => wire_RText W h m m0 m1
              have U2 := Lib.hid fun W (hJ : JJ w T p q v L W s2 s) => hJ.ref fun a h => ref8_RText W h m m0 m1
              rw [← es, ← er] at U1 U2
              clear es er e1 e2 e3
              go_wp2_with fail
              go_region_held3 (fun W => W.cell? ⟨(ad.add (k * 2)).block, (ad.add (k * 2)).off + 1, none⟩ = some (.int .i64 m))
                (first | exact d1 | exact x1 | exact x2 | fail)
                (first
                  | (go_at_call 28; (with_reducible refine (U1.out _ (by repeat (first | exact HJ.out | exact J1.out | with_reducible refine JJ.dr ?_ | with_reducible refine JJ.drN ?_ _))).mono ?_); rintro e w3 ⟨rfl, j3⟩; have x1 := HC.out w3 j3.1; have J1 := Lib.hid j3; clear j3)
                  | (go_at_call 29; (with_reducible refine (U2.out _ (by repeat (first | exact HJ.out | exact J1.out | with_reducible refine JJ.dr ?_ | with_reducible refine JJ.drN ?_ _))).mono ?_); rintro e w4 ⟨rfl, j4⟩; have x2 := HC.out w4 j4.1; have JF := Lib.hid j4; clear j4)
                  | fail)
              all_goals (
                go_wp2_with fail
                refine (JF.out.one fun fp h => wire_Left _ h).mono ?_
                rintro e w5 ⟨rfl, b5⟩
                have J5 := Lib.hid (JF.out.on b5)
                clear b5
                go_wp2_with fail
                refine (J5.out.two fun a h => ref8_Left _ h).mono ?_
                rintro e w6 ⟨rfl, j6, e6⟩
                have J6 : Hid (JJ w T p q v L w6 s2 s2) := by rw [e6]; exact J5.out.drN _
                clear e6
                go_wp2_with fail
                refine (J6.out.one fun fp h => wire_Err _ h).mono ?_
                rintro e w7 ⟨rfl, b7⟩
                have J7 := Lib.hid (J6.out.on b7)
                clear b7
                go_wp2_with fail
                refine (J7.out.two fun a h => ref8_Err _ h).mono ?_
                rintro e w8 ⟨rfl, e8⟩
                subst e8
                go_wp2_with fail
                go_roundw
                case rel => exact ⟨k + 1, s2, by omega, by go_num, J7⟩
                case measure => simp [intOf]; omega)
            · have b3 : (kd == 3) = false := by rw [beq_eq_false_iff_ne]; exact e3
              obtain ⟨s2, es⟩ : ∃ s2, s2 = (Wr.rdL m s).2 := ⟨_, rfl⟩
              obtain ⟨l, el⟩ : ∃ l, l = (Wr.rdL m s).1 := ⟨_, rfl⟩
              have U1 := Lib.hid fun W (hJ : JJ w T p q v L W s s) => hJ.progL fun fp h => wire_RInts W h m m0 m1
              have U2 := Lib.hid fun W (hJ : JJ w T p q v L W s2 s) => hJ.refL fun a h => ref8_RInts W h m m0 m1
              rw [← es, ← el] at U1 U2
              clear es el e1 e2 e3
              go_wp2_with fail
              go_region_held3 (fun W => W.cell? ⟨(ad.add (k * 2)).block, (ad.add (k * 2)).off + 1, none⟩ = some (.int .i64 m))
                (first | exact d1 | exact x1 | exact x2 | exact x3 | fail)
                (first
                  | (go_at_call 31; (with_reducible refine (U1.out _ (by repeat (first | exact HJ.out | exact J1.out | with_reducible refine JJ.dr ?_ | with_reducible refine JJ.drN ?_ _))).mono ?_); rintro e w3 ⟨A1, c1, rfl, l1, i1, ap1, j3⟩; have x1 := HC.out w3 j3.1; have J1 := Lib.hid j3; have I1 := Lib.hid i1; have AP := Lib.hid ap1; have L1 := Lib.hid l1; clear j3 i1 ap1 l1)
                  | (go_at_call 32; (with_reducible refine (U2.out _ (by repeat (first | exact HJ.out | exact J1.out | with_reducible refine JJ.dr ?_ | with_reducible refine JJ.drN ?_ _))).mono ?_); rintro e w4 ⟨A2, c2, rfl, l2, i2, t2, j4⟩; have x2 := HC.out w4 j4.1; have JA := Lib.hid j4; have SM := Lib.hid (fun W (hW : ∀ a, World.cell? W a = w4.cell? a) => law8_same (c := c1) (c' := c2) W (ints_eq (ints_tw I1.out t2 AP.out) hW) (ints_eq i2 hW) L1.out l2); clear j4 i2 t2 l2)
                  | (go_at_call 30; (with_reducible refine (SM.out _ (fun _ => rfl)).mono ?_); rw [beq_self_eq_true]; rintro e w5 ⟨rfl, j5, e5⟩; have JF : Hid (JJ w T p q v L w5 s2 s2) := (by rw [e5]; show JJ _ _ _ _ _ _ _ _ _; repeat (first | exact JA.out | with_reducible refine JJ.dr ?_ | with_reducible refine JJ.drN ?_ _)); have x3 := HC.out w5 JF.out.1; clear e5)
                  | fail)
              all_goals (
                go_wp2_with fail
                refine (JF.out.one fun fp h => wire_Left _ h).mono ?_
                rintro e w5 ⟨rfl, b5⟩
                have J5 := Lib.hid (JF.out.on b5)
                clear b5
                go_wp2_with fail
                refine (J5.out.two fun a h => ref8_Left _ h).mono ?_
                rintro e w6 ⟨rfl, j6, e6⟩
                have J6 : Hid (JJ w T p q v L w6 s2 s2) := by rw [e6]; exact J5.out.drN _
                clear e6
                go_wp2_with fail
                refine (J6.out.one fun fp h => wire_Err _ h).mono ?_
                rintro e w7 ⟨rfl, b7⟩
                have J7 := Lib.hid (J6.out.on b7)
                clear b7
                go_wp2_with fail
                refine (J7.out.two fun a h => ref8_Err _ h).mono ?_
                rintro e w8 ⟨rfl, e8⟩
                subst e8
                go_wp2_with fail
                go_roundw
                case rel => exact ⟨k + 1, s2, by omega, by go_num, J7⟩
                case measure => simp [intOf]; omega)
      · have hge : ¬ (k : Int) < (m' : Int) := by omega
        go_wp2_with fail
        refine (AW.out _).mono ?_
        rintro e w3 ⟨rfl, b3⟩
        have B3 := Lib.hid (bel8 HJ.out.1 b3)
        clear b3
        go_wp2_with fail
        go_ret
        exact ⟨rfl, B3.out⟩
  · by_cases hn1 : n ≤ 20000
    · have g1 : decide ((20000 : Int) < (n : Int)) = false := by simp; omega
      have g2 : decide ((200 : Int) < (m' : Int)) = true := by simp; omega
      clear h hK
      go_enter Try.func4, Try.ntmps4
      go_wp2_with fail
      refine (AW.out _).mono ?_
      rintro e w1 ⟨rfl, b1⟩
      have B1 := Lib.hid b1
      clear b1
      go_wp2_with fail
      go_ret
      exact ⟨rfl, B1.out⟩
    · have g1 : decide ((20000 : Int) < (n : Int)) = true := by simp; omega
      clear h hK
      go_enter Try.func4, Try.ntmps4
      go_wp2_with fail
      refine (AW.out _).mono ?_
      rintro e w1 ⟨rfl, b1⟩
      have B1 := Lib.hid b1
      clear b1
      go_wp2_with fail
      go_ret
      exact ⟨rfl, B1.out⟩

/-! ### The row's step, the row -/
set_option maxRecDepth 100000 in
theorem lifted (os : Os) (started : os.Started) (H : Type) (enc : TypeId × Value → H) :
    ReturnsInHanded {} Try.checked os 4 .any (Rows.wireReadsSpec.pre6 enc Try.prog Try.f4 Rows.wireReadsRow.domain false) (Rows.wireReadsSpec.post enc Try.prog Try.f4 false true false false) := by
  refine returnsInHanded_of_change (C := Try.checked) own started (by kernel_rfl) Try.func4
    (ChangeSpec.witness6 (enc := enc) (C := Try.checked) false ⟨#[], #[.slice none 0 0, .slice none 0 0], []⟩ 8 (by kernel_rfl) (by kernel_rfl) (by kernel_rfl) (by kernel_rfl)) ?_
  intro W base args ds gs before hval0 hW hcnd _
  skip
  have hval : ∀ (j : Nat) t v, Try.f4.params[j]? = some t → args[j]? = some v → Value.okWide Try.prog W .any base t v := hval0
  have hW' := hW
  obtain ⟨p, q, hA0, hV, rfl, hfz, hnd⟩ := hW
  have hA : DataW.TrodAll enc Try.prog W 0 (fun _ => true) true Try.f4.params.toList args.toList ds p := hA0
  rw [Try.params4] at hA hval

  obtain ⟨v0, vs0, d0, ds0, p0, q0, hargs, rfl, rfl, h0, r0⟩ := trodAll_cons hA
  obtain ⟨v1, vs1, d1, ds1, p1, q1, rfl, rfl, rfl, h1, r1⟩ := trodAll_cons r0
  obtain ⟨rfl, rfl, rfl⟩ := trodAll_nil r1
  obtain rfl : args = #[v0, v1] := by cases args; simp_all
  obtain ⟨rfl, rfl⟩ := trodVars_none hV
  obtain ⟨B0, l0, q0', rfl⟩ := okWide_slice Try.underlying38 (hval 0 38 v0 rfl rfl)
  have k0 := h0
  have lt0 : ∀ x ∈ p0, x.block < W.heap.size := by
    obtain ⟨m, hm⟩ := k0
    exact DataW.trod_lt m _ _ _ hm
  obtain ⟨D0, hD0⟩ := sl_opened (e := (.int .u8)) (t := 38) (by kernel_rfl) h0
  obtain ⟨A0, n0, c0, L0, e0, x0, y0, w0⟩ := byts_of_rd hD0
  obtain ⟨rfl, rfl, rfl⟩ : B0 = A0 ∧ l0 = n0 ∧ q0' = c0 := by simpa using e0
  obtain ⟨B1, l1, q1', rfl⟩ := okWide_slice Try.underlying40 (hval 1 40 v1 rfl rfl)
  have k1 := h1
  have lt1 : ∀ x ∈ p1, x.block < W.heap.size := by
    obtain ⟨m, hm⟩ := k1
    exact DataW.trod_lt m _ _ _ hm
  obtain ⟨D1, hD1⟩ := sl_opened (e := AkTy) (t := 40) (by kernel_rfl) h1
  obtain ⟨A1, n1, c1, L1, e1, x1, y1, w1⟩ := aks_of_rd hD1
  obtain ⟨rfl, rfl, rfl⟩ : B1 = A1 ∧ l1 = n1 ∧ q1' = c1 := by simpa using e1
  clear hA0 hval0
  refine (walk _ _ _ L0 _ _ _ L1 x0 y0 x1 y1 W w0 w1).mono fun e W' ⟨he, bel⟩ => ?_
  subst he
  exact ⟨_, rfl, _, _, _, [], _, [], hW', trodAll_mk1 (shut_bool Try.underlying4 _), (trodAll_cons_mk (Below.trod laidOut (by kernel_rfl) (of_decide_eq_true (by kernel_rfl)) k0 bel lt0) (trodAll_cons_mk (Below.trod laidOut (by kernel_rfl) (of_decide_eq_true (by kernel_rfl)) k1 bel lt1) trodAll_mk0)), rfl, bel.frame _, fun h => by cases h⟩

theorem over : Rows.WireReadsSaid :=
  OpenClaim.holds_of_wide 4 Try.f4 rfl rfl rfl rfl rfl rfl rfl ⟨rfl, rfl, rfl, rfl, rfl⟩ rfl rfl rfl rfl rfl (by kernel_rfl) Try.func4 (by kernel_rfl)
    (of_decide_eq_true (by kernel_rfl)) (by unfold Func.isWrapper; first | (rw [if_pos (by decide +kernel)]; kernel_rfl) | (rw [if_neg (by decide +kernel)]; exact ⟨rfl, rfl⟩))
    (fun os started H enc _ => lifted os started H enc)
/-- The statement. -/
theorem proved : Rows.WireReadsSaid := over
end Go.Proofs.Ytdleleanaihcoaa.wireReads
