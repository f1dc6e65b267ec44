/- DigestInverts (P7.3, P7.6): for every two numbers Unmix and Mix are inverse to each other, and Mix gives them the same result exactly if they are the same; the chapter's examples hold: the law returns true. No condition. -/
import Derived.Test.YtimcgbichnakhaaDoorDigLaid
import Derived.Test.YtimcgbichnakhaaDoorDigAw
namespace Go.Proofs.YtimcgbichnakhaaDoor.digestInverts
set_option maxRecDepth 20000
open Go.RowKit Go.ChangeShapes Go.WideShapes Go.ChangeAt Go.WideElems
open Go.ChangeMaps (open_string shut_string)
set_option linter.unusedVariables false
set_option linter.unusedSimpArgs false

set_option maxHeartbeats 1000000 in
theorem walk (x : Int) (y : Int) (x0 : 0 ≤ x) (x1 : x ≤ 18446744073709551615) (y0 : 0 ≤ y) (y1 : y ≤ 18446744073709551615) (w : World) (hE : DEnv w) :
    Calls Tryd.prog 6 #[.int .u64 x, .int .u64 y] w fun e w' => e = .returned (.bool true) ∧ Below w.heap.size w w' := by
  have AW := Lib.hid (fun W (hW : Below w.heap.size w W) => law7_awake W (hE.on hW))
  have c1 := fun W (hW : Below w.heap.size w W) => dig_Mix x x0 x1 W (hE.on hW)
  have m1 := Dg.mix_bd x
  have c2 := fun W (hW : Below w.heap.size w W) => dig_Unmix (Dg.mix x) m1.1 m1.2 W (hE.on hW)
  rw [Dg.unmix_mix_i x0 x1] at c2
  have c3 := fun W (hW : Below w.heap.size w W) => dig_Unmix x x0 x1 W (hE.on hW)
  have m3 := Dg.unmix_bd x
  have c4 := fun W (hW : Below w.heap.size w W) => dig_Mix (Dg.unmix x) m3.1 m3.2 W (hE.on hW)
  rw [Dg.mix_unmix_i x0 x1] at c4
  have c5 := fun W (hW : Below w.heap.size w W) => dig_Mix y y0 y1 W (hE.on hW)
  have he0 := Dg.mix_eq x0 x1 y0 y1
  obtain ⟨M, eM⟩ : ∃ u, u = Dg.mix x := ⟨_, rfl⟩
  rw [← eM] at c1 c2 he0
  clear eM
  obtain ⟨R, eR⟩ : ∃ u, u = Dg.unmix x := ⟨_, rfl⟩
  rw [← eR] at c3 c4
  clear eR
  obtain ⟨N, eN⟩ : ∃ u, u = Dg.mix y := ⟨_, rfl⟩
  rw [← eN] at c5 he0
  clear eN
  have C1 := Lib.hid (c1)
  have C2 := Lib.hid (c2)
  have C3 := Lib.hid (c3)
  have C4 := Lib.hid (c4)
  have C5 := Lib.hid (c5)
  clear c1 c2 c3 c4 c5 m1 m3
  cases hxy : (x == y)
  · rw [hxy] at he0
    have K0 := Lib.hid (Below.refl w.heap.size w)
    go_enter Tryd.func6, Tryd.ntmps6
    go_wp2_with fail
    refine (C1.out _ K0.out).mono ?_
    rintro e w1 ⟨rfl, B1⟩
    have K1 := Lib.hid (bthn6 K0.out B1)
    clear B1
    go_wp2_with fail
    refine (C2.out _ K1.out).mono ?_
    rintro e w2 ⟨rfl, B2⟩
    have K2 := Lib.hid (bthn6 K1.out B2)
    clear B2
    go_wp2_with fail
    refine (C3.out _ K2.out).mono ?_
    rintro e w3 ⟨rfl, B3⟩
    have K3 := Lib.hid (bthn6 K2.out B3)
    clear B3
    go_wp2_with fail
    refine (C4.out _ K3.out).mono ?_
    rintro e w4 ⟨rfl, B4⟩
    have K4 := Lib.hid (bthn6 K3.out B4)
    clear B4
    go_wp2_with fail
    refine (C1.out _ K4.out).mono ?_
    rintro e w5 ⟨rfl, B5⟩
    have K5 := Lib.hid (bthn6 K4.out B5)
    clear B5
    go_wp2_with fail
    refine (C5.out _ K5.out).mono ?_
    rintro e w6 ⟨rfl, B6⟩
    have K6 := Lib.hid (bthn6 K5.out B6)
    clear B6
    go_wp2_with fail
    refine (AW.out _ K6.out).mono ?_
    rintro e w7 ⟨rfl, B7⟩
    have K7 := Lib.hid (bthn6 K6.out B7)
    clear B7
    go_wp2_with fail
    go_ret
    exact ⟨rfl, K7.out⟩
  · rw [hxy] at he0
    have K0 := Lib.hid (Below.refl w.heap.size w)
    go_enter Tryd.func6, Tryd.ntmps6
    go_wp2_with fail
    refine (C1.out _ K0.out).mono ?_
    rintro e w1 ⟨rfl, B1⟩
    have K1 := Lib.hid (bthn6 K0.out B1)
    clear B1
    go_wp2_with fail
    refine (C2.out _ K1.out).mono ?_
    rintro e w2 ⟨rfl, B2⟩
    have K2 := Lib.hid (bthn6 K1.out B2)
    clear B2
    go_wp2_with fail
    refine (C3.out _ K2.out).mono ?_
    rintro e w3 ⟨rfl, B3⟩
    have K3 := Lib.hid (bthn6 K2.out B3)
    clear B3
    go_wp2_with fail
    refine (C4.out _ K3.out).mono ?_
    rintro e w4 ⟨rfl, B4⟩
    have K4 := Lib.hid (bthn6 K3.out B4)
    clear B4
    go_wp2_with fail
    refine (C1.out _ K4.out).mono ?_
    rintro e w5 ⟨rfl, B5⟩
    have K5 := Lib.hid (bthn6 K4.out B5)
    clear B5
    go_wp2_with fail
    refine (C5.out _ K5.out).mono ?_
    rintro e w6 ⟨rfl, B6⟩
    have K6 := Lib.hid (bthn6 K5.out B6)
    clear B6
    go_wp2_with fail
    refine (AW.out _ K6.out).mono ?_
    rintro e w7 ⟨rfl, B7⟩
    have K7 := Lib.hid (bthn6 K6.out B7)
    clear B7
    go_wp2_with fail
    go_ret
    exact ⟨rfl, K7.out⟩

/-! ### The row's step, the row, the card -/
set_option maxRecDepth 100000 in
theorem lifted (os : Os) (started : os.Started) (H : Type) (enc : TypeId × Value → H) :
    ReturnsInHanded {} Tryd.checked os 6 .any (fun w args => (Rows.digestInvertsSpec.pre enc Tryd.prog Tryd.f6 Rows.digestInvertsRow.domain false w args ∧ laidMetH Tryd.prog Rows.digestInvertsRow.laid w) ∧ sizedMet enc Tryd.prog Tryd.f6 (OpenSpec.ofChange Rows.digestInvertsSpec) false w args)
      (Rows.digestInvertsSpec.post enc Tryd.prog Tryd.f6 false true false false) := by
  refine returnsInHanded_of_change_and (C := Tryd.checked) (X := fun w _ => laidMetH Tryd.prog Rows.digestInvertsRow.laid w) (fun _ _ _ hh h => h.of_heap hh) own started (by kernel_rfl) Tryd.func6
    (ChangeSpec.witness_shaped (enc := enc) (C := Tryd.checked) (os := os) (X := fun w _ => laidMetH Tryd.prog Rows.digestInvertsRow.laid w) false (World.doorLaid Tryd.prog 21 os) #[.int .u64 0, .int .u64 0] 8 rfl (World.shaped_of_RefB (by kernel_rfl) (by kernel_rfl)) (by kernel_rfl) (by kernel_rfl) (by kernel_rfl) (digmet os _)) ?_
  intro W base args ds gs before hval0 hW _ hsz0 hL _
  have hsz : (DataW.weightsEach Tryd.prog (Tryd.f6.params.toList ++ Rows.digestInvertsSpec.plain.varTypes Tryd.prog) (ds ++ gs)).all (· ≤ reachBytes) = true := hsz0
  clear hsz0
  have hval : ∀ (j : Nat) t v, Tryd.f6.params[j]? = some t → args[j]? = some v → Value.okWide Tryd.prog W .any base t v := hval0
  have hW' := hW
  obtain ⟨p, q, hA0, hV, rfl, hfz, hnd⟩ := hW
  have hA : DataW.TrodAll enc Tryd.prog W 0 (fun _ => true) true Tryd.f6.params.toList args.toList ds p := hA0
  rw [Tryd.params6] at hA hval hsz

  obtain ⟨v0, vs0, d0, ds0, p0, q0, hargs, rfl, rfl, h0, r0⟩ := trodAll_cons hA
  obtain ⟨v1, vs1, d1, ds1, p1, q1, rfl, rfl, rfl, h1, r1⟩ := trodAll_cons r0
  obtain ⟨rfl, rfl, rfl⟩ := trodAll_nil r1
  obtain rfl : args = #[v0, v1] := by cases args; simp_all
  obtain ⟨rfl, rfl⟩ := trodVars_none hV
  obtain ⟨a0, rfl, rfl, rfl, w0⟩ := open_int Tryd.underlying23 (hval 0 23 v0 rfl rfl) h0
  have b0 := bounds_u64 w0
  obtain ⟨a1, rfl, rfl, rfl, w1⟩ := open_int Tryd.underlying23 (hval 1 23 v1 rfl rfl) h1
  have b1 := bounds_u64 w1
  clear hA0 hval0
  simp only [List.append_nil] at hW'
  refine (walk a0 a1 b0.1 b0.2 b1.1 b1.2 W (digenv hL) ).mono fun e W' ⟨he, bel⟩ => ?_
  subst he
  exact ⟨_, rfl, _, _, _, [], _, [], hW', trodAll_mk1 (shut_bool Tryd.underlying4 _), (trodAll_cons_mk (shut_int Tryd.underlying23 w0) (trodAll_cons_mk (shut_int Tryd.underlying23 w1) trodAll_mk0)), rfl, bel.frame _, fun h => by cases h⟩

theorem over : Rows.DigestInvertsSaid :=
  OpenClaim.holds_of_wide 6 Tryd.f6 rfl rfl rfl rfl rfl rfl rfl ⟨rfl, rfl, rfl, rfl, rfl⟩ rfl rfl rfl rfl rfl (by kernel_rfl) Tryd.func6 (by kernel_rfl)
    (of_decide_eq_true (by kernel_rfl)) (by unfold Func.isWrapper; first | (rw [if_pos (by decide +kernel)]; kernel_rfl) | (rw [if_neg (by decide +kernel)]; exact ⟨rfl, rfl⟩))
    (fun os started H enc _ => lifted os started H enc)
theorem plain (f : FuncId) (fn : Func) (hf : Tryd.pinned.checked.prog.funcNamed "lottery/lotterylaw07.DigestInverts" = some f) (hfn : Tryd.pinned.checked.prog.funcs[f]? = some fn) :
    false = Tryd.pinned.checked.prog.looks [] ∧ ∀ (j : Nat) t, fn.params[j]? = some t → Tryd.pinned.checked.prog.wantsStandIn t = false := by
  obtain rfl : f = 6 := Option.some.inj ((show Tryd.prog.funcNamed "lottery/lotterylaw07.DigestInverts" = some 6 by kernel_rfl).symm.trans hf) |>.symm
  obtain rfl : fn = Tryd.f6 := (Option.some.inj (Tryd.func6.symm.trans hfn)).symm
  refine ⟨by kernel_rfl, fun j t ht => ?_⟩
  rw [Tryd.params6] at ht
  have ht := Array.mem_of_getElem? ht
  simp only [List.mem_toArray, List.mem_cons, List.not_mem_nil, or_false] at ht
  rcases ht with rfl | rfl

  · exact (show Tryd.prog.wantsStandIn 23 = false by kernel_rfl)
  · exact (show Tryd.prog.wantsStandIn 23 = false by kernel_rfl)
/-- The statement. -/
theorem card : Rows.DigestInvertsCardSaid :=
  Claim7.holds_tied_plain_at .later [] _ _ _ _ over (fun _ h => by cases h) (by kernel_rfl) (fun _ h => by cases h) digestInverts_row_tie rfl ⟨rfl, rfl⟩ (by kernel_rfl) rfl plain (by kernel_rfl)
end Go.Proofs.YtimcgbichnakhaaDoor.digestInverts
