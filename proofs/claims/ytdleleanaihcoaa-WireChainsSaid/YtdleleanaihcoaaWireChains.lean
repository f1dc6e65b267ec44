/- WireChains (P8.6): for any at most 100 byte strings with at most 5000 bytes each Next of their frames, one after the other, answers the byte strings, and then ErrTruncated; for others, and besides, the chapter's examples hold: the law returns true. No condition. -/
import Derived.Test.YtdleleanaihcoaaOwn
import Derived.Test.YtdleleanaihcoaaWireO
import Derived.Test.YtdleleanaihcoaaWireP
namespace Go.Proofs.Ytdleleanaihcoaa.wireChains
set_option maxRecDepth 20000
open Go.RowKit Go.ChangeShapes Go.WideShapes Go.ChangeAt Go.WideElems
open Go.ChangeMaps (open_string shut_string)
set_option linter.unusedVariables false
set_option linter.unusedSimpArgs false

set_option maxHeartbeats 2000000 in
theorem walk (A : Option Addr) (n c : Nat) (L : List Bs) (hc : n ≤ c) (hc1 : c ≤ 9223372036854775807) (w : World) (h : Rows2 w A n L) :
    Calls Try.prog 8 #[.slice A n c] w fun e w' => e = .returned (.bool true) ∧ Below w.heap.size w w' := by
  have AW := Lib.hid law8_awake
  have n1 : (n : Int) ≤ 9223372036854775807 := by omega
  by_cases hn : n ≤ 100
  · have hn1 : ¬ (100 : Int) < (n : Int) := by omega
    have H := Lib.hid h
    have B0 := Lib.hid (Below.refl w.heap.size w)
    have O0 : Hid (OwnB w w.heap.size (.slice none 0 0) (Wr.frames (L.take 0))) := OwnB.nil _ _
    have S0 : Hid (∀ x, x ∈ L.take 0 → x.L.length ≤ 5000) := fun x hx => by simp at hx
    clear h
    go_enter Try.func8, Try.ntmps8
    go_wp2_with fail
    go_loopw [3, 19] (fun al i W => ∃ (k m : Nat) (A' : Option Addr) (c' : Nat), k ≤ n ∧ i = .int .i64 (k : Int) ∧ al = .slice A' m c' ∧ m ≤ c' ∧ c' ≤ 9223372036854775807 ∧ m ≤ 1000000 ∧ Hid (m = (Wr.frames (L.take k)).length) ∧ Hid (OwnB W w.heap.size (.slice A' m c') (Wr.frames (L.take k))) ∧ Hid (Below w.heap.size w W) ∧ Hid (∀ x, x ∈ L.take k → x.L.length ≤ 5000)) (fun _ i _ => n - (intOf i).toNat)
    case atStart => exact ⟨0, 0, none, 0, by omega, rfl, rfl, by omega, by omega, by omega, rfl, O0, B0, S0⟩
    case round =>
      obtain ⟨k, m, A', c', hk, rfl, rfl, hmc, hcm, hm6, HM, HO, HB, HS⟩ := hrel
      by_cases hlt : k < n
      · have hr := H.out.on HB.out
        obtain ⟨ad, x, rfl, hP, hx, d0, q1, q2, y⟩ := hr.at_ hlt
        have HX := Lib.hid hx
        have q3 : (x.L.length : Int) ≤ 9223372036854775807 := by omega
        by_cases hl : x.L.length ≤ 5000
        · have hl1 : ¬ (5000 : Int) < (x.L.length : Int) := by omega
          have F := Lib.hid (wire_Frame (c := x.c) wr y (by omega) q1 q2)
          obtain ⟨N, eN⟩ : ∃ N, N = x.L.length := ⟨_, rfl⟩
          have hfl := Wr.frame_len x.L (by omega)
          obtain ⟨Z, eZ⟩ : ∃ Z, Z = Wr.frame x.L := ⟨_, rfl⟩
          have HZ := Lib.hid eZ
          rw [← eZ] at F hfl
          have HFL : Hid (Z.length ≤ 5018) := by show _ ≤ _; omega
          have hS2 : ∀ y, y ∈ L.take (k + 1) → y.L.length ≤ 5000 := fun y hy => by
            rw [List.take_add_one, hx, List.mem_append] at hy
            rcases hy with hy | hy
            · exact HS.out y hy
            · simp at hy; subst hy; exact hl
          have S2 := Lib.hid hS2
          have hfr := Wr.frames_len (z := 5000) (by omega) hS2
          have hln : (L.take (k + 1)).length ≤ 100 := by rw [List.length_take]; omega
          have FR : Hid ((Wr.frames (L.take (k + 1))).length ≤ 1000000) := by show _ ≤ _; omega
          have hsn : Wr.frames (L.take (k + 1)) = Wr.frames (L.take k) ++ Z := by rw [List.take_add_one, hx, eZ]; exact Wr.frames_snoc _ _
          have SN := Lib.hid hsn
          clear hx hr y eN hfl eZ hS2 hfr hln hsn
          go_wp2_with fail
          refine F.out.mono ?_
          rintro e w1 ⟨A1, c1, rfl, b1, y1, -, k1, k2⟩
          have B1 := Lib.hid (bel8 HB.out b1)
          have Y1 := Lib.hid y1
          have O1 : Hid (OwnB w1 w.heap.size (.slice A' m c') (Wr.frames (L.take k))) := HO.out.same fun g hg => b1.block g (HO.out.lt g hg).2
          clear b1 y1
          go_wp2_with (at_builtin; refine Hid.out ?_)
          refine Lib.hid (wpList_appAny rfl (.tmp 29) (.tmp 34) rfl w.heap.size (.slice A' m c') (Wr.frames (L.take k)) rfl O1.out A1 Z.length c1 w1.heap.size Z rfl Y1.out (by have := HM.out; have := HFL.out; omega) B1.out.size ?_)
          intro v2 w2 hown hg hor
          rw [← SN.out] at hown
          have B2 : Hid (Below w.heap.size w w2) := B1.out.grown hg B1.out.size fun g hg => (O1.out.lt g hg).1
          obtain ⟨A2, c2, ev, z1, z2, z3, -⟩ := hown.form
          obtain ⟨m2, em2⟩ : ∃ m2, m2 = (Wr.frames (L.take (k + 1))).length := ⟨_, rfl⟩
          rw [← em2] at ev z1
          subst ev
          have O2 := Lib.hid hown
          have M2 := Lib.hid em2
          have m26 : m2 ≤ 1000000 := by rw [em2]; exact FR.out
          clear hown hg hor z3 em2
          go_wp2_with fail
          go_roundw
          case rel => exact ⟨k + 1, m2, A2, c2, by omega, by go_num, rfl, z1, z2, m26, M2, O2, B2, S2⟩
          case measure => simp [intOf]; omega
        · have hl1 : (5000 : Int) < (x.L.length : Int) := by omega
          clear hx hr y
          go_wp2_with fail
          refine (AW.out _).mono ?_
          rintro e w1 ⟨rfl, b1⟩
          have B1 := Lib.hid (bel8 HB.out b1)
          clear b1
          go_wp2_with fail
          go_ret
          exact ⟨rfl, B1.out⟩
      · have hge : ¬ (k : Int) < (n : Int) := by omega
        have htk : L.take k = L := List.take_of_length_le (by rw [H.out.1]; omega)
        have ho := HO.out
        have hS := HS.out
        have hM := HM.out
        rw [htk] at ho hS hM
        have hy := ho.bytes
        have HY := Lib.hid hy
        have HS2 := Lib.hid hS
        have HM2 := Lib.hid hM
        have J0 : Hid (Below wr.heap.size wr wr) := Below.refl _ _
        have P0 : Hid ((0 : Nat) = (Wr.frames (L.take 0)).length) := rfl
        have BW := Lib.hid HB.out
        clear htk ho hS hM HO HS HM hy
        go_wp2_with fail
        go_loopw [5, 39] (fun at' i W => ∃ (k p : Nat), k ≤ n ∧ i = .int .i64 (k : Int) ∧ at' = .int .i64 (p : Int) ∧ p ≤ m ∧ Hid (p = (Wr.frames (L.take k)).length) ∧ Hid (Below wr.heap.size wr W)) (fun _ i _ => n - (intOf i).toNat)
        case atStart => exact ⟨0, 0, by omega, rfl, rfl, by omega, P0, J0⟩
        case round =>
          obtain ⟨k, p, hk, rfl, rfl, hpm, HP, HB⟩ := hrel
          have B1 := Lib.hid (bel8 BW.out HB.out)
          have Y1 := Lib.hid (HY.out.on HB.out)
          by_cases hlt : k < n
          · have hr := H.out.on B1.out
            obtain ⟨ad, x, rfl, hPb, hx, d0, q1, q2, y⟩ := hr.at_ hlt
            have hl : x.L.length ≤ 5000 := HS2.out x (List.mem_of_getElem? hx)
            obtain ⟨e1, e2, e3⟩ := Wr.chain_at hx (by omega) HP.out
            have ht : (Wr.frames (L.take (k + 1))).length = p + (Wr.frame x.L).length := by
              rw [List.take_add_one, hx, HP.out]
              show (Wr.frames (L.take k ++ [x])).length = _
              rw [Wr.frames_snoc, List.length_append]
            have hle : (Wr.frames (L.take (k + 1))).length ≤ m := by
              have e : L = L.take (k + 1) ++ L.drop (k + 1) := (List.take_append_drop _ _).symm
              rw [HM2.out]
              conv => rhs; rw [e, Wr.frames_app]
              rw [List.length_append]; omega
            have hf := Wr.frame_len x.L (by omega)
            obtain ⟨p2, ep2⟩ : ∃ p2, p2 = (Wr.frames (L.take (k + 1))).length := ⟨_, rfl⟩
            rw [← ep2] at e2 ht hle
            have g1 : ¬ (p2 : Int) ≤ (p : Int) := by omega
            have P2 := Lib.hid ep2
            have N := Lib.hid (wire_Next _ Y1.out (by omega) hmc hcm (p : Int) (by omega) (by omega))
            rw [e1, e2, e3] at N
            have q3 : (x.L.length : Int) ≤ 9223372036854775807 := by omega
            have Y2 := Lib.hid y
            obtain ⟨X, eX⟩ : ∃ X, X = x.L := ⟨_, rfl⟩
            rw [← eX] at N Y2 d0 hl q1 q3
            clear hr hx e1 e2 e3 ht hf ep2 y eX
            go_wp2_with fail
            refine N.out.mono ?_
            rintro e w1 ⟨AX, cX, rfl, b1, yx, -, k1, k2⟩
            have B2 := Lib.hid (bel8 HB.out b1)
            have d1 := (b1.cell (p := ad.add k) (by rw [block_of_add]; exact hPb)).trans d0
            have cv1 := fun j => conv_bytes (c := cX) (yx.drewN j)
            have cv2 := fun j => conv_bytes (c := x.c) ((Y2.out.on b1).drewN j)
            clear b1 yx d0
            go_wp2_with fail
            go_quiet (fail)
            go_wp2_with fail
            go_roundw
            case rel => exact ⟨k + 1, p2, by omega, by go_num, rfl, hle, P2, below_dr2 B2.out _⟩
            case measure => simp [intOf]; omega
          · have hge : ¬ (k : Int) < (n : Int) := by omega
            have hp : p = m := by
              have e := HP.out
              rw [show L.take k = L from List.take_of_length_le (by rw [H.out.1]; omega)] at e
              rw [e]; exact HM2.out.symm
            obtain ⟨e1, e2, e3⟩ := Wr.chain_end L HM2.out
            subst hp
            have N := Lib.hid (wire_Next _ Y1.out (by omega) hmc hcm (p : Int) (by omega) (by omega))
            rw [e1, e2, e3] at N
            clear e1 e2 e3
            go_wp2_with fail
            refine N.out.mono ?_
            rintro e w1 ⟨AX, cX, rfl, b1, -, -, -, -⟩
            have B2 := Lib.hid (bel8 B1.out b1)
            clear b1
            go_wp2_with fail
            refine (AW.out _).mono ?_
            rintro e w2 ⟨rfl, b2⟩
            have B3 := Lib.hid (bel8 B2.out b2)
            clear b2
            go_wp2_with fail
            go_ret
            exact ⟨rfl, B3.out⟩
  · have hn1 : (100 : Int) < (n : Int) := by omega
    clear h
    go_enter Try.func8, Try.ntmps8
    go_wp2_with fail
    refine (AW.out _).mono ?_
    rintro e w1 ⟨rfl, b1⟩
    have B1 := Lib.hid b1
    clear b1
    go_wp2_with fail
    go_ret
    exact ⟨rfl, B1.out⟩

/-! ### The row's step, the row -/
set_option maxRecDepth 100000 in
theorem lifted (os : Os) (started : os.Started) (H : Type) (enc : TypeId × Value → H) :
    ReturnsInHanded {} Try.checked os 8 .any (Rows.wireChainsSpec.pre6 enc Try.prog Try.f8 Rows.wireChainsRow.domain false) (Rows.wireChainsSpec.post enc Try.prog Try.f8 false true false false) := by
  refine returnsInHanded_of_change (C := Try.checked) own started (by kernel_rfl) Try.func8
    (ChangeSpec.witness6 (enc := enc) (C := Try.checked) false ⟨#[], #[.slice none 0 0], []⟩ 8 (by kernel_rfl) (by kernel_rfl) (by kernel_rfl) (by kernel_rfl)) ?_
  intro W base args ds gs before hval0 hW hcnd _
  skip
  have hval : ∀ (j : Nat) t v, Try.f8.params[j]? = some t → args[j]? = some v → Value.okWide Try.prog W .any base t v := hval0
  have hW' := hW
  obtain ⟨p, q, hA0, hV, rfl, hfz, hnd⟩ := hW
  have hA : DataW.TrodAll enc Try.prog W 0 (fun _ => true) true Try.f8.params.toList args.toList ds p := hA0
  rw [Try.params8] at hA hval

  obtain ⟨v0, vs0, d0, ds0, p0, q0, hargs, rfl, rfl, h0, r0⟩ := trodAll_cons hA
  obtain ⟨rfl, rfl, rfl⟩ := trodAll_nil r0
  obtain rfl : args = #[v0] := by cases args; simp_all
  obtain ⟨rfl, rfl⟩ := trodVars_none hV
  obtain ⟨B0, l0, q0', rfl⟩ := okWide_slice Try.underlying60 (hval 0 60 v0 rfl rfl)
  have k0 := h0
  have lt0 : ∀ x ∈ p0, x.block < W.heap.size := by
    obtain ⟨m, hm⟩ := k0
    exact DataW.trod_lt m _ _ _ hm
  obtain ⟨D0, hD0⟩ := sl_opened (e := (.sl (.int .u8))) (t := 60) (by kernel_rfl) h0
  obtain ⟨A0, n0, c0, L0, e0, x0, y0, w0⟩ := rows_of_rd hD0
  obtain ⟨rfl, rfl, rfl⟩ : B0 = A0 ∧ l0 = n0 ∧ q0' = c0 := by simpa using e0
  clear hA0 hval0
  refine (walk _ _ _ L0 x0 y0 W w0).mono fun e W' ⟨he, bel⟩ => ?_
  subst he
  exact ⟨_, rfl, _, _, _, [], _, [], hW', trodAll_mk1 (shut_bool Try.underlying4 _), (trodAll_cons_mk (Below.trod laidOut (by kernel_rfl) (of_decide_eq_true (by kernel_rfl)) k0 bel lt0) trodAll_mk0), rfl, bel.frame _, fun h => by cases h⟩

theorem over : Rows.WireChainsSaid :=
  OpenClaim.holds_of_wide 8 Try.f8 rfl rfl rfl rfl rfl rfl rfl ⟨rfl, rfl, rfl, rfl, rfl⟩ rfl rfl rfl rfl rfl (by kernel_rfl) Try.func8 (by kernel_rfl)
    (of_decide_eq_true (by kernel_rfl)) (by unfold Func.isWrapper; first | (rw [if_pos (by decide +kernel)]; kernel_rfl) | (rw [if_neg (by decide +kernel)]; exact ⟨rfl, rfl⟩))
    (fun os started H enc _ => lifted os started H enc)
/-- The statement. -/
theorem proved : Rows.WireChainsSaid := over
end Go.Proofs.Ytdleleanaihcoaa.wireChains
