/- DigestAppends (P7.1, P7.8): for every two texts of at most 2000 bytes and every byte, the sum of a text with a byte behind it is one step from the text's sum, and the sum of two texts is made by steps from the first one's; the chapter's examples hold: the law returns true. No condition. -/
import Derived.Test.YtimcgbichnakhaaDoorDigLaid
import Derived.Test.YtimcgbichnakhaaDoorDigAw
import Derived.Laws.BytesArg
namespace Go.Proofs.YtimcgbichnakhaaDoor.digestAppends
set_option maxRecDepth 20000
open Go.RowKit Go.ChangeShapes Go.WideShapes Go.ChangeAt Go.WideElems
open Go.ChangeMaps (open_string shut_string)
set_option linter.unusedVariables false
set_option linter.unusedSimpArgs false

set_option maxHeartbeats 1000000 in
theorem walk (s : ByteArray) (t : ByteArray) (c : Int) (hs : s.size ≤ 140737488351232) (ht : t.size ≤ 140737488351232) (c0 : 0 ≤ c) (c1 : c ≤ 255) (w : World) (hE : DEnv w) :
    Calls Tryd.prog 4 #[.string s, .string t, .int .u8 c] w fun e w' => e = .returned (.bool true) ∧ Below w.heap.size w w' := by
  have AW := Lib.hid (fun W (hW : Below w.heap.size w W) => law7_awake W (hE.on hW))
  by_cases hl : 2000 < s.size
  · have hl' : (2000 : Int) < (s.size : Int) := by omega
    have K0 := Lib.hid (Below.refl w.heap.size w)
    go_enter Tryd.func4, Tryd.ntmps4
    go_wp2_with fail
    refine (AW.out _ K0.out).mono ?_
    rintro e w1 ⟨rfl, B1⟩
    have K1 := Lib.hid (bthn6 K0.out B1)
    clear B1
    go_wp2_with fail
    go_ret
    exact ⟨rfl, K1.out⟩
  · have hl' : ¬ (2000 : Int) < (s.size : Int) := by omega
    by_cases hm : 2000 < t.size
    · have hm' : (2000 : Int) < (t.size : Int) := by omega
      have K0 := Lib.hid (Below.refl w.heap.size w)
      go_enter Tryd.func4, Tryd.ntmps4
      go_wp2_with fail
      refine (AW.out _ K0.out).mono ?_
      rintro e w1 ⟨rfl, B1⟩
      have K1 := Lib.hid (bthn6 K0.out B1)
      clear B1
      go_wp2_with fail
      go_ret
      exact ⟨rfl, K1.out⟩
    · have hm' : ¬ (2000 : Int) < (t.size : Int) := by omega
      have cv := run_convert_bytes_arg (P := Tryd.prog) (w.alloc (.cells #[.int .u8 c] 5)) 26 5 rfl rfl w.heap.size 0 1 1 [c] rfl (fun i hi => by
        rw [cell_of_row _ _ _ _ _ _ (heap_alloc_new w _)]
        match i, hi with
        | 0, _ => rfl) 9 rfl
      obtain ⟨b, eb⟩ : ∃ b : UInt8, b = UInt8.ofNat c.toNat := ⟨_, rfl⟩
      have hbc : (b.toNat : Int) = c := by rw [eb, UInt8.toNat_ofNat']; omega
      have hD : (strOfNums [c]).data.toList = [b] := by rw [eb]; rfl
      obtain ⟨Dd, eD⟩ : ∃ D, D = strOfNums [c] := ⟨_, rfl⟩
      rw [← eD] at cv hD
      have hDs : Dd.size = 1 := by rw [size_list, hD]; rfl
      have hs1 : (s ++ Dd).data.toList = s.data.toList ++ [b] := by rw [ByteArray.data_append, Array.toList_append, hD]
      have hs2 : (s ++ t).data.toList = s.data.toList ++ t.data.toList := by rw [ByteArray.data_append, Array.toList_append]
      have z1 : (s ++ Dd).size ≤ 281474976710656 := by rw [ByteArray.size_append]; omega
      have z2 : (s ++ t).size ≤ 281474976710656 := by rw [ByteArray.size_append]; omega
      have c1 := fun W (hW : Below w.heap.size w W) => dig_Sum (s ++ Dd) z1 W
      have c2 := fun W (hW : Below w.heap.size w W) => dig_Sum s (by omega) W
      have c3 := fun W (hW : Below w.heap.size w W) => dig_Sum (s ++ t) z2 W
      have b2 := Dg.sum_bd s.data.toList
      have hst : IntKind.u64.wrap (bits .xor .u64 (Dg.sum s.data.toList) c * 1099511628211) = Dg.sum (s ++ Dd).data.toList := by
        rw [hs1, ← hbc]
        unfold Dg.sum
        rw [Dg.sum_step, Dg.sum_snoc]
      have hsum : Dg.sum (s ++ t).data.toList = Dg.I (t.data.toList.foldl Dg.stepV (Dg.sumV s.data.toList)) := by
        rw [hs2]; unfold Dg.sum; rw [Dg.sum_app]
      have I0 : Hid (Dg.sum s.data.toList = Dg.I ((t.data.toList.take 0).foldl Dg.stepV (Dg.sumV s.data.toList))) := rfl
      obtain ⟨X1, eX1⟩ : ∃ u, u = Dg.sum (s ++ Dd).data.toList := ⟨_, rfl⟩
      obtain ⟨X2, eX2⟩ : ∃ u, u = Dg.sum s.data.toList := ⟨_, rfl⟩
      obtain ⟨X3, eX3⟩ : ∃ u, u = Dg.sum (s ++ t).data.toList := ⟨_, rfl⟩
      rw [← eX1] at c1 hst
      rw [← eX2] at c2 hst b2 I0
      rw [← eX3] at c3 hsum
      obtain ⟨b20, b21⟩ := b2
      have C1 := Lib.hid (c1)
      have C2 := Lib.hid (c2)
      have C3 := Lib.hid (c3)
      have HS := Lib.hid hsum
      have cw : IntKind.u64.wrap c = c := by rw [IntKind.wrap_u64]; omega
      clear c1 c2 c3 eX1 eX2 eX3 hsum hs1 hs2 hD eD eb hbc
      have K0 := Lib.hid ((Below.refl w.heap.size w).alloc (Nat.le_refl _) (.cells #[.int .u8 c] 5))
      go_enter Tryd.func4, Tryd.ntmps4
      go_wp2_with fail
      refine (C1.out _ K0.out).mono ?_
      rintro e w1 ⟨rfl, B1⟩
      have K1 := Lib.hid (bthn6 K0.out B1)
      clear B1
      go_wp2_with fail
      refine (C2.out _ K1.out).mono ?_
      rintro e w2 ⟨rfl, B2⟩
      have K2 := Lib.hid (bthn6 K1.out B2)
      clear B2
      go_wp2_with fail
      refine (C2.out _ K2.out).mono ?_
      rintro e w3 ⟨rfl, B3⟩
      have K3 := Lib.hid (bthn6 K2.out B3)
      clear B3
      clear hst cv cw
      go_wp2_with fail
      go_loopw [7, 8] (fun x i W => ∃ (k : Nat) (X : Int), k ≤ t.size ∧ 0 ≤ X ∧ X ≤ 18446744073709551615 ∧ x = .int .u64 X ∧ i = .int .i64 (k : Int) ∧ Hid (X = Dg.I ((t.data.toList.take k).foldl Dg.stepV (Dg.sumV s.data.toList))) ∧ w3 = W) (fun _ i _ => t.size - (intOf i).toNat)
      case atStart => exact ⟨0, X2, by omega, b20, b21, rfl, rfl, I0, rfl⟩
      case round =>
        obtain ⟨k, X, hk, X0, X1, rfl, rfl, HX, rfl⟩ := hrel
        by_cases hlt : k < t.size
        · have htk : t.data.toList.take (k + 1) = t.data.toList.take k ++ [t[k]] := by
            have h' : k < t.data.toList.length := by rw [Array.length_toList]; exact hlt
            rw [List.take_succ_eq_append_getElem h']; rfl
          obtain ⟨Z, eZ⟩ : ∃ Z, Z = IntKind.u64.wrap (bits .xor .u64 X (t[k].toNat : Int) * 1099511628211) := ⟨_, rfl⟩
          have hz : Z = Dg.I ((t.data.toList.take (k + 1)).foldl Dg.stepV (Dg.sumV s.data.toList)) := by
            rw [eZ, HX.out, Dg.sum_step, htk, List.foldl_append]; rfl
          have hb := Dg.I_bd ((t.data.toList.take (k + 1)).foldl Dg.stepV (Dg.sumV s.data.toList))
          rw [← hz] at hb
          obtain ⟨Z0, Z1⟩ := hb
          have HZ := Lib.hid hz
          have hcb : (t[k].toNat : Int) ≤ 255 := by have := t[k].toNat_lt; omega
          have hcw : IntKind.u64.wrap (t[k].toNat : Int) = (t[k].toNat : Int) := by rw [IntKind.wrap_u64]; omega
          have eZ' : IntKind.u64.wrap (bits .xor .u64 X (t[k].toNat : Int) * 1099511628211) = Z := eZ.symm
          clear hz eZ htk
          go_wp2_with fail
          go_roundw
          case rel => exact ⟨k + 1, Z, by omega, Z0, Z1, rfl, by go_num, HZ, trivial⟩
          case measure => simp [intOf]; omega
        · have F : Hid (X3 = X) := by
            show _ = _
            rw [HS.out, HX.out, List.take_of_length_le (by rw [Array.length_toList]; show t.size ≤ k; omega)]
          obtain rfl := F.out
          clear HX F
          go_wp2_with fail
          refine (C3.out _ K3.out).mono ?_
          rintro e w4 ⟨rfl, B4⟩
          have K4 := Lib.hid (bthn6 K3.out B4)
          clear B4
          go_wp2_with fail
          refine (AW.out _ K4.out).mono ?_
          rintro e w5 ⟨rfl, B5⟩
          have K5 := Lib.hid (bthn6 K4.out B5)
          clear B5
          go_wp2_with fail
          go_ret
          exact ⟨rfl, K5.out⟩

/-! ### The row's step, the row, the card -/
set_option maxRecDepth 100000 in
theorem lifted (os : Os) (started : os.Started) (H : Type) (enc : TypeId × Value → H) :
    ReturnsInHanded {} Tryd.checked os 4 .any (fun w args => (Rows.digestAppendsSpec.pre enc Tryd.prog Tryd.f4 Rows.digestAppendsRow.domain false w args ∧ laidMetH Tryd.prog Rows.digestAppendsRow.laid w) ∧ sizedMet enc Tryd.prog Tryd.f4 (OpenSpec.ofChange Rows.digestAppendsSpec) false w args)
      (Rows.digestAppendsSpec.post enc Tryd.prog Tryd.f4 false true false false) := by
  refine returnsInHanded_of_change_and (C := Tryd.checked) (X := fun w _ => laidMetH Tryd.prog Rows.digestAppendsRow.laid w) (fun _ _ _ hh h => h.of_heap hh) own started (by kernel_rfl) Tryd.func4
    (ChangeSpec.witness_shaped (enc := enc) (C := Tryd.checked) (os := os) (X := fun w _ => laidMetH Tryd.prog Rows.digestAppendsRow.laid w) false (World.doorLaid Tryd.prog 21 os) #[.string ByteArray.empty, .string ByteArray.empty, .int .u8 0] 8 rfl (World.shaped_of_RefB (by kernel_rfl) (by kernel_rfl)) (by kernel_rfl) (by kernel_rfl) (by kernel_rfl) (digmet os _)) ?_
  intro W base args ds gs before hval0 hW _ hsz0 hL _
  have hsz : (DataW.weightsEach Tryd.prog (Tryd.f4.params.toList ++ Rows.digestAppendsSpec.plain.varTypes Tryd.prog) (ds ++ gs)).all (· ≤ reachBytes) = true := hsz0
  clear hsz0
  have hval : ∀ (j : Nat) t v, Tryd.f4.params[j]? = some t → args[j]? = some v → Value.okWide Tryd.prog W .any base t v := hval0
  have hW' := hW
  obtain ⟨p, q, hA0, hV, rfl, hfz, hnd⟩ := hW
  have hA : DataW.TrodAll enc Tryd.prog W 0 (fun _ => true) true Tryd.f4.params.toList args.toList ds p := hA0
  rw [Tryd.params4] at hA hval hsz

  obtain ⟨v0, vs0, d0, ds0, p0, q0, hargs, rfl, rfl, h0, r0⟩ := trodAll_cons hA
  obtain ⟨v1, vs1, d1, ds1, p1, q1, rfl, rfl, rfl, h1, r1⟩ := trodAll_cons r0
  obtain ⟨v2, vs2, d2, ds2, p2, q2, rfl, rfl, rfl, h2, r2⟩ := trodAll_cons r1
  obtain ⟨rfl, rfl, rfl⟩ := trodAll_nil r2
  obtain rfl : args = #[v0, v1, v2] := by cases args; simp_all
  obtain ⟨rfl, rfl⟩ := trodVars_none hV
  obtain ⟨a0, rfl, rfl, rfl, w0⟩ := open_string Tryd.underlying9 (hval 0 9 v0 rfl rfl) h0
  have b0 : a0.size ≤ 140737488351232 := by
    have h1 := sized_string hsz (j := 0) (t := 9) rfl rfl
    have h2 : reachBytes = 140737488351232 := by decide
    rw [Lib.size_eq]; omega
  obtain ⟨a1, rfl, rfl, rfl, w1⟩ := open_string Tryd.underlying9 (hval 1 9 v1 rfl rfl) h1
  have b1 : a1.size ≤ 140737488351232 := by
    have h1 := sized_string hsz (j := 1) (t := 9) rfl rfl
    have h2 : reachBytes = 140737488351232 := by decide
    rw [Lib.size_eq]; omega
  obtain ⟨a2, rfl, rfl, rfl, w2⟩ := open_int Tryd.underlying5 (hval 2 5 v2 rfl rfl) h2
  have b2 := bounds_u8 w2
  clear hA0 hval0
  simp only [List.append_nil] at hW'
  refine (walk a0 a1 a2 b0 b1 b2.1 b2.2 W (digenv hL) ).mono fun e W' ⟨he, bel⟩ => ?_
  subst he
  exact ⟨_, rfl, _, _, _, [], _, [], hW', trodAll_mk1 (shut_bool Tryd.underlying4 _), (trodAll_cons_mk (shut_string Tryd.underlying9 w0) (trodAll_cons_mk (shut_string Tryd.underlying9 w1) (trodAll_cons_mk (shut_int Tryd.underlying5 w2) trodAll_mk0))), rfl, bel.frame _, fun h => by cases h⟩

theorem over : Rows.DigestAppendsSaid :=
  OpenClaim.holds_of_wide 4 Tryd.f4 rfl rfl rfl rfl rfl rfl rfl ⟨rfl, rfl, rfl, rfl, rfl⟩ rfl rfl rfl rfl rfl (by kernel_rfl) Tryd.func4 (by kernel_rfl)
    (of_decide_eq_true (by kernel_rfl)) (by unfold Func.isWrapper; first | (rw [if_pos (by decide +kernel)]; kernel_rfl) | (rw [if_neg (by decide +kernel)]; exact ⟨rfl, rfl⟩))
    (fun os started H enc _ => lifted os started H enc)
theorem plain (f : FuncId) (fn : Func) (hf : Tryd.pinned.checked.prog.funcNamed "lottery/lotterylaw07.DigestAppends" = some f) (hfn : Tryd.pinned.checked.prog.funcs[f]? = some fn) :
    false = Tryd.pinned.checked.prog.looks [] ∧ ∀ (j : Nat) t, fn.params[j]? = some t → Tryd.pinned.checked.prog.wantsStandIn t = false := by
  obtain rfl : f = 4 := Option.some.inj ((show Tryd.prog.funcNamed "lottery/lotterylaw07.DigestAppends" = some 4 by kernel_rfl).symm.trans hf) |>.symm
  obtain rfl : fn = Tryd.f4 := (Option.some.inj (Tryd.func4.symm.trans hfn)).symm
  refine ⟨by kernel_rfl, fun j t ht => ?_⟩
  rw [Tryd.params4] at ht
  have ht := Array.mem_of_getElem? ht
  simp only [List.mem_toArray, List.mem_cons, List.not_mem_nil, or_false] at ht
  rcases ht with rfl | rfl | rfl

  · exact (show Tryd.prog.wantsStandIn 9 = false by kernel_rfl)
  · exact (show Tryd.prog.wantsStandIn 9 = false by kernel_rfl)
  · exact (show Tryd.prog.wantsStandIn 5 = false by kernel_rfl)
/-- The statement. -/
theorem card : Rows.DigestAppendsCardSaid :=
  Claim7.holds_tied_plain_at .later [] _ _ _ _ over (fun _ h => by cases h) (by kernel_rfl) (fun _ h => by cases h) digestAppends_row_tie rfl ⟨rfl, rfl⟩ (by kernel_rfl) rfl plain (by kernel_rfl)
end Go.Proofs.YtimcgbichnakhaaDoor.digestAppends
