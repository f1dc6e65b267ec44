/- DigestKeys (P7.4, P7.7): for every two keys and every two texts of at most 2000 bytes the keyed and the chained digests are equal exactly if the keys, or the sums, are; the chapter's examples hold: the law returns true. No condition. -/
import Derived.Test.YtimcgbichnakhaaDoorDigLaid
import Derived.Test.YtimcgbichnakhaaDoorDigAw
namespace Go.Proofs.YtimcgbichnakhaaDoor.digestKeys
set_option maxRecDepth 20000
open Go.RowKit Go.ChangeShapes Go.WideShapes Go.ChangeAt Go.WideElems
open Go.ChangeMaps (open_string shut_string)
set_option linter.unusedVariables false
set_option linter.unusedSimpArgs false

set_option maxHeartbeats 1000000 in
theorem walk (k : Int) (o : Int) (s : ByteArray) (t : ByteArray) (k0 : 0 ≤ k) (k1 : k ≤ 18446744073709551615) (o0 : 0 ≤ o) (o1 : o ≤ 18446744073709551615) (hs : s.size ≤ 140737488351232) (ht : t.size ≤ 140737488351232) (w : World) (hE : DEnv w) :
    Calls Tryd.prog 8 #[.int .u64 k, .int .u64 o, .string s, .string t] w fun e w' => e = .returned (.bool true) ∧ Below w.heap.size w w' := by
  have AW := Lib.hid (fun W (hW : Below w.heap.size w W) => law7_awake W (hE.on hW))
  by_cases hl : 2000 < s.size
  · have hl' : (2000 : Int) < (s.size : Int) := by omega
    have K0 := Lib.hid (Below.refl w.heap.size w)
    go_enter Tryd.func8, Tryd.ntmps8
    go_wp2_with fail
    refine (AW.out _ K0.out).mono ?_
    rintro e w1 ⟨rfl, B1⟩
    have K1 := Lib.hid (bthn6 K0.out B1)
    clear B1
    go_wp2_with fail
    go_ret
    exact ⟨rfl, K1.out⟩
  · have hl' : ¬ (2000 : Int) < (s.size : Int) := by omega
    by_cases hm : 2000 < t.size
    · have hm' : (2000 : Int) < (t.size : Int) := by omega
      have K0 := Lib.hid (Below.refl w.heap.size w)
      go_enter Tryd.func8, Tryd.ntmps8
      go_wp2_with fail
      refine (AW.out _ K0.out).mono ?_
      rintro e w1 ⟨rfl, B1⟩
      have K1 := Lib.hid (bthn6 K0.out B1)
      clear B1
      go_wp2_with fail
      go_ret
      exact ⟨rfl, K1.out⟩
    · have hm' : ¬ (2000 : Int) < (t.size : Int) := by omega
      have c1 := fun W (hW : Below w.heap.size w W) => dig_Keyed k s k0 k1 (by omega) W (hE.on hW)
      have c2 := fun W (hW : Below w.heap.size w W) => dig_Keyed o s o0 o1 (by omega) W (hE.on hW)
      have c3 := fun W (hW : Below w.heap.size w W) => dig_Chain k s k0 k1 (by omega) W (hE.on hW)
      have c4 := fun W (hW : Below w.heap.size w W) => dig_Chain o s o0 o1 (by omega) W (hE.on hW)
      have c5 := fun W (hW : Below w.heap.size w W) => dig_Sum s (by omega) W
      have c6 := fun W (hW : Below w.heap.size w W) => dig_Sum t (by omega) W
      have c7 := fun W (hW : Below w.heap.size w W) => dig_Keyed k t k0 k1 (by omega) W (hE.on hW)
      have c8 := fun W (hW : Below w.heap.size w W) => dig_Chain k t k0 k1 (by omega) W (hE.on hW)
      have q1 := Dg.keyed_eq k0 k1 o0 o1 s.data.toList
      have q2 := Dg.chain_eq k0 k1 o0 o1 s.data.toList
      have q3 := Dg.keyed_sum k s.data.toList t.data.toList
      have q4 := Dg.chain_sum k s.data.toList t.data.toList
      obtain ⟨X1, eX1⟩ : ∃ u, u = Dg.keyed k s.data.toList := ⟨_, rfl⟩
      rw [← eX1] at c1 q1 q3
      clear eX1
      obtain ⟨X2, eX2⟩ : ∃ u, u = Dg.keyed o s.data.toList := ⟨_, rfl⟩
      rw [← eX2] at c2 q1
      clear eX2
      obtain ⟨X3, eX3⟩ : ∃ u, u = Dg.chain k s.data.toList := ⟨_, rfl⟩
      rw [← eX3] at c3 q2 q4
      clear eX3
      obtain ⟨X4, eX4⟩ : ∃ u, u = Dg.chain o s.data.toList := ⟨_, rfl⟩
      rw [← eX4] at c4 q2
      clear eX4
      obtain ⟨X5, eX5⟩ : ∃ u, u = Dg.sum s.data.toList := ⟨_, rfl⟩
      rw [← eX5] at c5 q3 q4
      clear eX5
      obtain ⟨X6, eX6⟩ : ∃ u, u = Dg.sum t.data.toList := ⟨_, rfl⟩
      rw [← eX6] at c6 q3 q4
      clear eX6
      obtain ⟨X7, eX7⟩ : ∃ u, u = Dg.keyed k t.data.toList := ⟨_, rfl⟩
      rw [← eX7] at c7 q3
      clear eX7
      obtain ⟨X8, eX8⟩ : ∃ u, u = Dg.chain k t.data.toList := ⟨_, rfl⟩
      rw [← eX8] at c8 q4
      clear eX8
      have C1 := Lib.hid (c1)
      have C2 := Lib.hid (c2)
      have C3 := Lib.hid (c3)
      have C4 := Lib.hid (c4)
      have C5 := Lib.hid (c5)
      have C6 := Lib.hid (c6)
      have C7 := Lib.hid (c7)
      have C8 := Lib.hid (c8)
      clear c1 c2 c3 c4 c5 c6 c7 c8
      cases hko : (k == o)
      · rw [hko] at q1 q2
        cases hst : (X5 == X6)
        · rw [hst] at q3 q4
          have K0 := Lib.hid (Below.refl w.heap.size w)
          go_enter Tryd.func8, Tryd.ntmps8
          go_wp2_with fail
          refine (C1.out _ K0.out).mono ?_
          rintro e w1 ⟨rfl, B1⟩
          have K1 := Lib.hid (bthn6 K0.out B1)
          clear B1
          go_wp2_with fail
          refine (C2.out _ K1.out).mono ?_
          rintro e w2 ⟨rfl, B2⟩
          have K2 := Lib.hid (bthn6 K1.out B2)
          clear B2
          go_wp2_with fail
          refine (C3.out _ K2.out).mono ?_
          rintro e w3 ⟨rfl, B3⟩
          have K3 := Lib.hid (bthn6 K2.out B3)
          clear B3
          go_wp2_with fail
          refine (C4.out _ K3.out).mono ?_
          rintro e w4 ⟨rfl, B4⟩
          have K4 := Lib.hid (bthn6 K3.out B4)
          clear B4
          go_wp2_with fail
          refine (C5.out _ K4.out).mono ?_
          rintro e w5 ⟨rfl, B5⟩
          have K5 := Lib.hid (bthn6 K4.out B5)
          clear B5
          go_wp2_with fail
          refine (C6.out _ K5.out).mono ?_
          rintro e w6 ⟨rfl, B6⟩
          have K6 := Lib.hid (bthn6 K5.out B6)
          clear B6
          go_wp2_with fail
          refine (C1.out _ K6.out).mono ?_
          rintro e w7 ⟨rfl, B7⟩
          have K7 := Lib.hid (bthn6 K6.out B7)
          clear B7
          go_wp2_with fail
          refine (C7.out _ K7.out).mono ?_
          rintro e w8 ⟨rfl, B8⟩
          have K8 := Lib.hid (bthn6 K7.out B8)
          clear B8
          go_wp2_with fail
          refine (C3.out _ K8.out).mono ?_
          rintro e w9 ⟨rfl, B9⟩
          have K9 := Lib.hid (bthn6 K8.out B9)
          clear B9
          go_wp2_with fail
          refine (C8.out _ K9.out).mono ?_
          rintro e w10 ⟨rfl, B10⟩
          have K10 := Lib.hid (bthn6 K9.out B10)
          clear B10
          go_wp2_with fail
          refine (AW.out _ K10.out).mono ?_
          rintro e w11 ⟨rfl, B11⟩
          have K11 := Lib.hid (bthn6 K10.out B11)
          clear B11
          go_wp2_with fail
          go_ret
          exact ⟨rfl, K11.out⟩
        · rw [hst] at q3 q4
          have K0 := Lib.hid (Below.refl w.heap.size w)
          go_enter Tryd.func8, Tryd.ntmps8
          go_wp2_with fail
          refine (C1.out _ K0.out).mono ?_
          rintro e w1 ⟨rfl, B1⟩
          have K1 := Lib.hid (bthn6 K0.out B1)
          clear B1
          go_wp2_with fail
          refine (C2.out _ K1.out).mono ?_
          rintro e w2 ⟨rfl, B2⟩
          have K2 := Lib.hid (bthn6 K1.out B2)
          clear B2
          go_wp2_with fail
          refine (C3.out _ K2.out).mono ?_
          rintro e w3 ⟨rfl, B3⟩
          have K3 := Lib.hid (bthn6 K2.out B3)
          clear B3
          go_wp2_with fail
          refine (C4.out _ K3.out).mono ?_
          rintro e w4 ⟨rfl, B4⟩
          have K4 := Lib.hid (bthn6 K3.out B4)
          clear B4
          go_wp2_with fail
          refine (C5.out _ K4.out).mono ?_
          rintro e w5 ⟨rfl, B5⟩
          have K5 := Lib.hid (bthn6 K4.out B5)
          clear B5
          go_wp2_with fail
          refine (C6.out _ K5.out).mono ?_
          rintro e w6 ⟨rfl, B6⟩
          have K6 := Lib.hid (bthn6 K5.out B6)
          clear B6
          go_wp2_with fail
          refine (C1.out _ K6.out).mono ?_
          rintro e w7 ⟨rfl, B7⟩
          have K7 := Lib.hid (bthn6 K6.out B7)
          clear B7
          go_wp2_with fail
          refine (C7.out _ K7.out).mono ?_
          rintro e w8 ⟨rfl, B8⟩
          have K8 := Lib.hid (bthn6 K7.out B8)
          clear B8
          go_wp2_with fail
          refine (C3.out _ K8.out).mono ?_
          rintro e w9 ⟨rfl, B9⟩
          have K9 := Lib.hid (bthn6 K8.out B9)
          clear B9
          go_wp2_with fail
          refine (C8.out _ K9.out).mono ?_
          rintro e w10 ⟨rfl, B10⟩
          have K10 := Lib.hid (bthn6 K9.out B10)
          clear B10
          go_wp2_with fail
          refine (AW.out _ K10.out).mono ?_
          rintro e w11 ⟨rfl, B11⟩
          have K11 := Lib.hid (bthn6 K10.out B11)
          clear B11
          go_wp2_with fail
          go_ret
          exact ⟨rfl, K11.out⟩
      · rw [hko] at q1 q2
        cases hst : (X5 == X6)
        · rw [hst] at q3 q4
          have K0 := Lib.hid (Below.refl w.heap.size w)
          go_enter Tryd.func8, Tryd.ntmps8
          go_wp2_with fail
          refine (C1.out _ K0.out).mono ?_
          rintro e w1 ⟨rfl, B1⟩
          have K1 := Lib.hid (bthn6 K0.out B1)
          clear B1
          go_wp2_with fail
          refine (C2.out _ K1.out).mono ?_
          rintro e w2 ⟨rfl, B2⟩
          have K2 := Lib.hid (bthn6 K1.out B2)
          clear B2
          go_wp2_with fail
          refine (C3.out _ K2.out).mono ?_
          rintro e w3 ⟨rfl, B3⟩
          have K3 := Lib.hid (bthn6 K2.out B3)
          clear B3
          go_wp2_with fail
          refine (C4.out _ K3.out).mono ?_
          rintro e w4 ⟨rfl, B4⟩
          have K4 := Lib.hid (bthn6 K3.out B4)
          clear B4
          go_wp2_with fail
          refine (C5.out _ K4.out).mono ?_
          rintro e w5 ⟨rfl, B5⟩
          have K5 := Lib.hid (bthn6 K4.out B5)
          clear B5
          go_wp2_with fail
          refine (C6.out _ K5.out).mono ?_
          rintro e w6 ⟨rfl, B6⟩
          have K6 := Lib.hid (bthn6 K5.out B6)
          clear B6
          go_wp2_with fail
          refine (C1.out _ K6.out).mono ?_
          rintro e w7 ⟨rfl, B7⟩
          have K7 := Lib.hid (bthn6 K6.out B7)
          clear B7
          go_wp2_with fail
          refine (C7.out _ K7.out).mono ?_
          rintro e w8 ⟨rfl, B8⟩
          have K8 := Lib.hid (bthn6 K7.out B8)
          clear B8
          go_wp2_with fail
          refine (C3.out _ K8.out).mono ?_
          rintro e w9 ⟨rfl, B9⟩
          have K9 := Lib.hid (bthn6 K8.out B9)
          clear B9
          go_wp2_with fail
          refine (C8.out _ K9.out).mono ?_
          rintro e w10 ⟨rfl, B10⟩
          have K10 := Lib.hid (bthn6 K9.out B10)
          clear B10
          go_wp2_with fail
          refine (AW.out _ K10.out).mono ?_
          rintro e w11 ⟨rfl, B11⟩
          have K11 := Lib.hid (bthn6 K10.out B11)
          clear B11
          go_wp2_with fail
          go_ret
          exact ⟨rfl, K11.out⟩
        · rw [hst] at q3 q4
          have K0 := Lib.hid (Below.refl w.heap.size w)
          go_enter Tryd.func8, Tryd.ntmps8
          go_wp2_with fail
          refine (C1.out _ K0.out).mono ?_
          rintro e w1 ⟨rfl, B1⟩
          have K1 := Lib.hid (bthn6 K0.out B1)
          clear B1
          go_wp2_with fail
          refine (C2.out _ K1.out).mono ?_
          rintro e w2 ⟨rfl, B2⟩
          have K2 := Lib.hid (bthn6 K1.out B2)
          clear B2
          go_wp2_with fail
          refine (C3.out _ K2.out).mono ?_
          rintro e w3 ⟨rfl, B3⟩
          have K3 := Lib.hid (bthn6 K2.out B3)
          clear B3
          go_wp2_with fail
          refine (C4.out _ K3.out).mono ?_
          rintro e w4 ⟨rfl, B4⟩
          have K4 := Lib.hid (bthn6 K3.out B4)
          clear B4
          go_wp2_with fail
          refine (C5.out _ K4.out).mono ?_
          rintro e w5 ⟨rfl, B5⟩
          have K5 := Lib.hid (bthn6 K4.out B5)
          clear B5
          go_wp2_with fail
          refine (C6.out _ K5.out).mono ?_
          rintro e w6 ⟨rfl, B6⟩
          have K6 := Lib.hid (bthn6 K5.out B6)
          clear B6
          go_wp2_with fail
          refine (C1.out _ K6.out).mono ?_
          rintro e w7 ⟨rfl, B7⟩
          have K7 := Lib.hid (bthn6 K6.out B7)
          clear B7
          go_wp2_with fail
          refine (C7.out _ K7.out).mono ?_
          rintro e w8 ⟨rfl, B8⟩
          have K8 := Lib.hid (bthn6 K7.out B8)
          clear B8
          go_wp2_with fail
          refine (C3.out _ K8.out).mono ?_
          rintro e w9 ⟨rfl, B9⟩
          have K9 := Lib.hid (bthn6 K8.out B9)
          clear B9
          go_wp2_with fail
          refine (C8.out _ K9.out).mono ?_
          rintro e w10 ⟨rfl, B10⟩
          have K10 := Lib.hid (bthn6 K9.out B10)
          clear B10
          go_wp2_with fail
          refine (AW.out _ K10.out).mono ?_
          rintro e w11 ⟨rfl, B11⟩
          have K11 := Lib.hid (bthn6 K10.out B11)
          clear B11
          go_wp2_with fail
          go_ret
          exact ⟨rfl, K11.out⟩

/-! ### The row's step, the row, the card -/
set_option maxRecDepth 100000 in
theorem lifted (os : Os) (started : os.Started) (H : Type) (enc : TypeId × Value → H) :
    ReturnsInHanded {} Tryd.checked os 8 .any (fun w args => (Rows.digestKeysSpec.pre enc Tryd.prog Tryd.f8 Rows.digestKeysRow.domain false w args ∧ laidMetH Tryd.prog Rows.digestKeysRow.laid w) ∧ sizedMet enc Tryd.prog Tryd.f8 (OpenSpec.ofChange Rows.digestKeysSpec) false w args)
      (Rows.digestKeysSpec.post enc Tryd.prog Tryd.f8 false true false false) := by
  refine returnsInHanded_of_change_and (C := Tryd.checked) (X := fun w _ => laidMetH Tryd.prog Rows.digestKeysRow.laid w) (fun _ _ _ hh h => h.of_heap hh) own started (by kernel_rfl) Tryd.func8
    (ChangeSpec.witness_shaped (enc := enc) (C := Tryd.checked) (os := os) (X := fun w _ => laidMetH Tryd.prog Rows.digestKeysRow.laid w) false (World.doorLaid Tryd.prog 21 os) #[.int .u64 0, .int .u64 0, .string ByteArray.empty, .string ByteArray.empty] 8 rfl (World.shaped_of_RefB (by kernel_rfl) (by kernel_rfl)) (by kernel_rfl) (by kernel_rfl) (by kernel_rfl) (digmet os _)) ?_
  intro W base args ds gs before hval0 hW _ hsz0 hL _
  have hsz : (DataW.weightsEach Tryd.prog (Tryd.f8.params.toList ++ Rows.digestKeysSpec.plain.varTypes Tryd.prog) (ds ++ gs)).all (· ≤ reachBytes) = true := hsz0
  clear hsz0
  have hval : ∀ (j : Nat) t v, Tryd.f8.params[j]? = some t → args[j]? = some v → Value.okWide Tryd.prog W .any base t v := hval0
  have hW' := hW
  obtain ⟨p, q, hA0, hV, rfl, hfz, hnd⟩ := hW
  have hA : DataW.TrodAll enc Tryd.prog W 0 (fun _ => true) true Tryd.f8.params.toList args.toList ds p := hA0
  rw [Tryd.params8] at hA hval hsz

  obtain ⟨v0, vs0, d0, ds0, p0, q0, hargs, rfl, rfl, h0, r0⟩ := trodAll_cons hA
  obtain ⟨v1, vs1, d1, ds1, p1, q1, rfl, rfl, rfl, h1, r1⟩ := trodAll_cons r0
  obtain ⟨v2, vs2, d2, ds2, p2, q2, rfl, rfl, rfl, h2, r2⟩ := trodAll_cons r1
  obtain ⟨v3, vs3, d3, ds3, p3, q3, rfl, rfl, rfl, h3, r3⟩ := trodAll_cons r2
  obtain ⟨rfl, rfl, rfl⟩ := trodAll_nil r3
  obtain rfl : args = #[v0, v1, v2, v3] := by cases args; simp_all
  obtain ⟨rfl, rfl⟩ := trodVars_none hV
  obtain ⟨a0, rfl, rfl, rfl, w0⟩ := open_int Tryd.underlying23 (hval 0 23 v0 rfl rfl) h0
  have b0 := bounds_u64 w0
  obtain ⟨a1, rfl, rfl, rfl, w1⟩ := open_int Tryd.underlying23 (hval 1 23 v1 rfl rfl) h1
  have b1 := bounds_u64 w1
  obtain ⟨a2, rfl, rfl, rfl, w2⟩ := open_string Tryd.underlying9 (hval 2 9 v2 rfl rfl) h2
  have b2 : a2.size ≤ 140737488351232 := by
    have h1 := sized_string hsz (j := 2) (t := 9) rfl rfl
    have h2 : reachBytes = 140737488351232 := by decide
    rw [Lib.size_eq]; omega
  obtain ⟨a3, rfl, rfl, rfl, w3⟩ := open_string Tryd.underlying9 (hval 3 9 v3 rfl rfl) h3
  have b3 : a3.size ≤ 140737488351232 := by
    have h1 := sized_string hsz (j := 3) (t := 9) rfl rfl
    have h2 : reachBytes = 140737488351232 := by decide
    rw [Lib.size_eq]; omega
  clear hA0 hval0
  simp only [List.append_nil] at hW'
  refine (walk a0 a1 a2 a3 b0.1 b0.2 b1.1 b1.2 b2 b3 W (digenv hL) ).mono fun e W' ⟨he, bel⟩ => ?_
  subst he
  exact ⟨_, rfl, _, _, _, [], _, [], hW', trodAll_mk1 (shut_bool Tryd.underlying4 _), (trodAll_cons_mk (shut_int Tryd.underlying23 w0) (trodAll_cons_mk (shut_int Tryd.underlying23 w1) (trodAll_cons_mk (shut_string Tryd.underlying9 w2) (trodAll_cons_mk (shut_string Tryd.underlying9 w3) trodAll_mk0)))), rfl, bel.frame _, fun h => by cases h⟩

theorem over : Rows.DigestKeysSaid :=
  OpenClaim.holds_of_wide 8 Tryd.f8 rfl rfl rfl rfl rfl rfl rfl ⟨rfl, rfl, rfl, rfl, rfl⟩ rfl rfl rfl rfl rfl (by kernel_rfl) Tryd.func8 (by kernel_rfl)
    (of_decide_eq_true (by kernel_rfl)) (by unfold Func.isWrapper; first | (rw [if_pos (by decide +kernel)]; kernel_rfl) | (rw [if_neg (by decide +kernel)]; exact ⟨rfl, rfl⟩))
    (fun os started H enc _ => lifted os started H enc)
theorem plain (f : FuncId) (fn : Func) (hf : Tryd.pinned.checked.prog.funcNamed "lottery/lotterylaw07.DigestKeys" = some f) (hfn : Tryd.pinned.checked.prog.funcs[f]? = some fn) :
    false = Tryd.pinned.checked.prog.looks [] ∧ ∀ (j : Nat) t, fn.params[j]? = some t → Tryd.pinned.checked.prog.wantsStandIn t = false := by
  obtain rfl : f = 8 := Option.some.inj ((show Tryd.prog.funcNamed "lottery/lotterylaw07.DigestKeys" = some 8 by kernel_rfl).symm.trans hf) |>.symm
  obtain rfl : fn = Tryd.f8 := (Option.some.inj (Tryd.func8.symm.trans hfn)).symm
  refine ⟨by kernel_rfl, fun j t ht => ?_⟩
  rw [Tryd.params8] at ht
  have ht := Array.mem_of_getElem? ht
  simp only [List.mem_toArray, List.mem_cons, List.not_mem_nil, or_false] at ht
  rcases ht with rfl | rfl | rfl | rfl

  · exact (show Tryd.prog.wantsStandIn 23 = false by kernel_rfl)
  · exact (show Tryd.prog.wantsStandIn 23 = false by kernel_rfl)
  · exact (show Tryd.prog.wantsStandIn 9 = false by kernel_rfl)
  · exact (show Tryd.prog.wantsStandIn 9 = false by kernel_rfl)
/-- The statement. -/
theorem card : Rows.DigestKeysCardSaid :=
  Claim7.holds_tied_plain_at .later [] _ _ _ _ over (fun _ h => by cases h) (by kernel_rfl) (fun _ h => by cases h) digestKeys_row_tie rfl ⟨rfl, rfl⟩ (by kernel_rfl) rfl plain (by kernel_rfl)
end Go.Proofs.YtimcgbichnakhaaDoor.digestKeys
