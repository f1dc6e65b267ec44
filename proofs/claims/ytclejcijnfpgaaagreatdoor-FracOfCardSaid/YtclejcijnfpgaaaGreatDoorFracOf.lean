/- FracOf (P4.1, P4.2): of every two ints the fraction is that of the reference, with the same error, and valid if there is none: the law returns true. No condition. -/
import Derived.Test.YtclejcijnfpgaaaGreatDoorLaid
import Derived.Test.YtclejcijnfpgaaaGreatDoorFC
import Derived.Test.YtclejcijnfpgaaaGreatDoorFracR
namespace Go.Proofs.YtclejcijnfpgaaaGreatDoor.fracOf
set_option maxRecDepth 20000
open Go.RowKit Go.ChangeShapes Go.WideShapes Go.ChangeAt Go.WideElems
open Go.ChangeMaps (open_string shut_string)
set_option linter.unusedVariables false

set_option maxHeartbeats 1000000 in
theorem walk (n d : Int) (n0 : -9223372036854775808 ≤ n) (n1 : n ≤ 9223372036854775807) (d0 : -9223372036854775808 ≤ d) (d1 : d ≤ 9223372036854775807) (w : World) (hE : Env w) :
    Calls Tryz.prog 4 #[.int .i64 n, .int .i64 d] w fun e w' => e = .returned (.bool true) ∧ Below w.heap.size w w' := by
  have AW := Lib.hid fun W (hb : Below w.heap.size w W) => law4_awake W (hE.on hb)
  clear hE
  by_cases hn : n < 0 ∨ d < 0
  · have OA := Lib.hid fun W => frac_Of_neg n d W hn
    have OB := Lib.hid fun W => ref4_Of_neg n d W hn
    clear hn
    have k0 := Ks.start w
    have K0 := Lib.hid k0
    clear k0
    go_enter Tryz.func4, Tryz.ntmps4
    go_wp2_with fail
    refine (OA.out _).mono ?_
    rintro e w1 ⟨A1, n1, c1, A1r, n1r, c1r, rfl, B1, D1, D1r, h1, h1r, l1, l1r⟩
    have k1 := (((K0.out.call B1).num D1).num D1r).box [.slice A1 n1 c1, .slice A1r n1r c1r] 28
    have K1 := Lib.hid k1
    clear k1 B1 D1 D1r
    go_wp2_with fail
    refine (OB.out _).mono ?_
    rintro e w2 ⟨A2, n2, c2, A2r, n2r, c2r, rfl, B2, D2, D2r, h2, h2r, l2, l2r⟩
    have k2 := (((K1.out.call B2).num D2).num D2r).box [.slice A2 n2 c2, .slice A2r n2r c2r] 28
    have K2 := Lib.hid k2
    clear k2 B2 D2 D2r
    have x0_0 := K2.out.cell0 at1
    have x0_1 := K2.out.cell1 at1
    go_wp2_with fail
    refine (Fr.same_refl _ _ ▸ ref4_Same _ ⟨(K2.out.get at3), h1, l1⟩ ⟨(K2.out.get at2), h1r, l1r⟩ ⟨(K2.out.get at1), h2, l2⟩ ⟨(K2.out.get at0), h2r, l2r⟩).mono ?_
    rintro e w3 ⟨rfl, B3⟩
    have k3 := K2.out.call B3
    have K3 := Lib.hid k3
    clear k3 B3 
    clear x0_0 x0_1
    have x0_0 := K3.out.cell0 at1
    have x0_1 := K3.out.cell1 at1
    have x1_0 := K3.out.cell0 at0
    have x1_1 := K3.out.cell1 at0
    go_wp2_with fail
    refine (AW.out _ K3.out.bel).mono ?_
    rintro e w4 ⟨rfl, B4⟩
    have k4 := K3.out.call B4
    have K4 := Lib.hid k4
    clear k4 B4 
    clear x0_0 x0_1 x1_0 x1_1
    have x0_0 := K4.out.cell0 at1
    have x0_1 := K4.out.cell1 at1
    have x1_0 := K4.out.cell0 at0
    have x1_1 := K4.out.cell1 at0
    go_wp2_with fail
    go_ret
    exact ⟨rfl, K4.out.bel⟩
  · obtain ⟨a, ea⟩ : ∃ a : Nat, n = a := ⟨n.toNat, by omega⟩
    obtain ⟨b, eb⟩ : ∃ b : Nat, d = b := ⟨d.toNat, by omega⟩
    have o1 := fun W => frac_Of_ok (a := a) (b := b) n d W (by omega) (by omega) (by omega) (by omega) ea eb
    have o2 := fun W => ref4_Of_ok (a := a) (b := b) n d W (by omega) (by omega) (by omega) (by omega) ea eb
    by_cases b0 : b = 0
    · rw [Fr.mkP, if_pos b0] at o1 o2
      have OA := Lib.hid o1
      have OB := Lib.hid o2
      clear o1 o2 b0 ea eb
      have k0 := Ks.start w
      have K0 := Lib.hid k0
      clear k0
      go_enter Tryz.func4, Tryz.ntmps4
      go_wp2_with fail
      refine (OA.out _).mono ?_
      rintro e w1 ⟨A1, n1, c1, A1r, n1r, c1r, rfl, B1, D1, D1r, h1, h1r, l1, l1r⟩
      have k1 := (((K0.out.call B1).num D1).num D1r).box [.slice A1 n1 c1, .slice A1r n1r c1r] 28
      have K1 := Lib.hid k1
      clear k1 B1 D1 D1r
      go_wp2_with fail
      refine (OB.out _).mono ?_
      rintro e w2 ⟨A2, n2, c2, A2r, n2r, c2r, rfl, B2, D2, D2r, h2, h2r, l2, l2r⟩
      have k2 := (((K1.out.call B2).num D2).num D2r).box [.slice A2 n2 c2, .slice A2r n2r c2r] 28
      have K2 := Lib.hid k2
      clear k2 B2 D2 D2r
      have x0_0 := K2.out.cell0 at1
      have x0_1 := K2.out.cell1 at1
      go_wp2_with fail
      refine (Fr.same_refl _ _ ▸ ref4_Same _ ⟨(K2.out.get at3), h1, l1⟩ ⟨(K2.out.get at2), h1r, l1r⟩ ⟨(K2.out.get at1), h2, l2⟩ ⟨(K2.out.get at0), h2r, l2r⟩).mono ?_
      rintro e w3 ⟨rfl, B3⟩
      have k3 := K2.out.call B3
      have K3 := Lib.hid k3
      clear k3 B3 
      clear x0_0 x0_1
      have x0_0 := K3.out.cell0 at1
      have x0_1 := K3.out.cell1 at1
      have x1_0 := K3.out.cell0 at0
      have x1_1 := K3.out.cell1 at0
      go_wp2_with fail
      refine (AW.out _ K3.out.bel).mono ?_
      rintro e w4 ⟨rfl, B4⟩
      have k4 := K3.out.call B4
      have K4 := Lib.hid k4
      clear k4 B4 
      clear x0_0 x0_1 x1_0 x1_1
      have x0_0 := K4.out.cell0 at1
      have x0_1 := K4.out.cell1 at1
      have x1_0 := K4.out.cell0 at0
      have x1_1 := K4.out.cell1 at0
      go_wp2_with fail
      go_ret
      exact ⟨rfl, K4.out.bel⟩
    · rw [Fr.mkP, if_neg b0] at o1 o2
      have HP := Lib.hid (Fr.rd_pos (n := a) (show 0 < b by omega))
      have HG := Lib.hid (Fr.cop (n := a) (show 0 < b by omega))
      have OA := Lib.hid o1
      have OB := Lib.hid o2
      clear o1 o2 b0 ea eb
      have k0 := Ks.start w
      have K0 := Lib.hid k0
      clear k0
      go_enter Tryz.func4, Tryz.ntmps4
      go_wp2_with fail
      refine (OA.out _).mono ?_
      rintro e w1 ⟨A1, n1, c1, A1r, n1r, c1r, rfl, B1, D1, D1r, h1, h1r, l1, l1r⟩
      have k1 := (((K0.out.call B1).num D1).num D1r).box [.slice A1 n1 c1, .slice A1r n1r c1r] 28
      have K1 := Lib.hid k1
      clear k1 B1 D1 D1r
      go_wp2_with fail
      refine (OB.out _).mono ?_
      rintro e w2 ⟨A2, n2, c2, A2r, n2r, c2r, rfl, B2, D2, D2r, h2, h2r, l2, l2r⟩
      have k2 := (((K1.out.call B2).num D2).num D2r).box [.slice A2 n2 c2, .slice A2r n2r c2r] 28
      have K2 := Lib.hid k2
      clear k2 B2 D2 D2r
      have x0_0 := K2.out.cell0 at1
      have x0_1 := K2.out.cell1 at1
      go_wp2_with fail
      refine (Fr.same_refl _ _ ▸ ref4_Same _ ⟨(K2.out.get at3), h1, l1⟩ ⟨(K2.out.get at2), h1r, l1r⟩ ⟨(K2.out.get at1), h2, l2⟩ ⟨(K2.out.get at0), h2r, l2r⟩).mono ?_
      rintro e w3 ⟨rfl, B3⟩
      have k3 := K2.out.call B3
      have K3 := Lib.hid k3
      clear k3 B3 
      clear x0_0 x0_1
      have x0_0 := K3.out.cell0 at1
      have x0_1 := K3.out.cell1 at1
      have x1_0 := K3.out.cell0 at0
      have x1_1 := K3.out.cell1 at0
      go_wp2_with fail
      refine (frac_Valid_is _ ⟨⟨(K3.out.get at3), h1, l1⟩, ⟨(K3.out.get at2), h1r, l1r⟩, HP.out, HG.out⟩).mono ?_
      rintro e w4 ⟨rfl, B4⟩
      have k4 := K3.out.call B4
      have K4 := Lib.hid k4
      clear k4 B4 
      clear x0_0 x0_1 x1_0 x1_1
      have x0_0 := K4.out.cell0 at1
      have x0_1 := K4.out.cell1 at1
      have x1_0 := K4.out.cell0 at0
      have x1_1 := K4.out.cell1 at0
      go_wp2_with fail
      refine (AW.out _ K4.out.bel).mono ?_
      rintro e w5 ⟨rfl, B5⟩
      have k5 := K4.out.call B5
      have K5 := Lib.hid k5
      clear k5 B5 
      clear x0_0 x0_1 x1_0 x1_1
      have x0_0 := K5.out.cell0 at1
      have x0_1 := K5.out.cell1 at1
      have x1_0 := K5.out.cell0 at0
      have x1_1 := K5.out.cell1 at0
      go_wp2_with fail
      go_ret
      exact ⟨rfl, K5.out.bel⟩

/-! ### The row's step, the row, the card -/
set_option maxRecDepth 100000 in
theorem lifted (os : Os) (started : os.Started) (H : Type) (enc : TypeId × Value → H) :
    ReturnsInHanded {} Tryz.checked os 4 .any (fun w args => (Rows.fracOfSpec.pre enc Tryz.prog Tryz.f4 Rows.fracOfRow.domain false w args ∧ laidMetH Tryz.prog Rows.fracOfRow.laid w) ∧ sizedMet enc Tryz.prog Tryz.f4 (OpenSpec.ofChange Rows.fracOfSpec) false w args)
      (Rows.fracOfSpec.post enc Tryz.prog Tryz.f4 false true false false) := by
  refine returnsInHanded_of_change_and (C := Tryz.checked) (X := fun w _ => laidMetH Tryz.prog Rows.fracOfRow.laid w) (fun _ _ _ hh h => h.of_heap hh) own started (by kernel_rfl) Tryz.func4
    (ChangeSpec.witness_shaped (enc := enc) (C := Tryz.checked) (os := os) (X := fun w _ => laidMetH Tryz.prog Rows.fracOfRow.laid w) false (World.doorLaid Tryz.prog 62 os) #[.int .i64 0, .int .i64 0] 8 rfl (World.shaped_of_RefB (by kernel_rfl) (by kernel_rfl)) (by kernel_rfl) (by kernel_rfl) (by kernel_rfl) (door_met os _)) ?_
  intro W base args ds gs before hval0 hW _ hsz0 hL _
  have hsz : (DataW.weightsEach Tryz.prog (Tryz.f4.params.toList ++ Rows.fracOfSpec.plain.varTypes Tryz.prog) (ds ++ gs)).all (· ≤ reachBytes) = true := hsz0
  clear hsz0
  have hval : ∀ (j : Nat) t v, Tryz.f4.params[j]? = some t → args[j]? = some v → Value.okWide Tryz.prog W .any base t v := hval0
  have hW' := hW
  obtain ⟨p, q, hA0, hV, rfl, hfz, hnd⟩ := hW
  have hA : DataW.TrodAll enc Tryz.prog W 0 (fun _ => true) true Tryz.f4.params.toList args.toList ds p := hA0
  rw [Tryz.params4] at hA hval hsz

  obtain ⟨v0, vs0, d0, ds0, p0, q0, hargs, rfl, rfl, h0, r0⟩ := trodAll_cons hA
  obtain ⟨v1, vs1, d1, ds1, p1, q1, rfl, rfl, rfl, h1, r1⟩ := trodAll_cons r0
  obtain ⟨rfl, rfl, rfl⟩ := trodAll_nil r1
  obtain rfl : args = #[v0, v1] := by cases args; simp_all
  obtain ⟨rfl, rfl⟩ := trodVars_none hV
  obtain ⟨a0, rfl, rfl, rfl, w0⟩ := open_int Tryz.underlying3 (hval 0 3 v0 rfl rfl) h0
  have b0 := bounds_i64 w0
  obtain ⟨a1, rfl, rfl, rfl, w1⟩ := open_int Tryz.underlying3 (hval 1 3 v1 rfl rfl) h1
  have b1 := bounds_i64 w1
  clear hA0 hval0
  simp only [List.append_nil] at hW'
  refine (walk a0 a1 b0.1 b0.2 b1.1 b1.2 W (env_of_laid hL) ).mono fun e W' ⟨he, bel⟩ => ?_
  subst he
  exact ⟨_, rfl, _, _, _, [], _, [], hW', trodAll_mk1 (shut_bool Tryz.underlying4 _), (trodAll_cons_mk (shut_int Tryz.underlying3 w0) (trodAll_cons_mk (shut_int Tryz.underlying3 w1) trodAll_mk0)), rfl, bel.frame _, fun h => by cases h⟩

theorem over : Rows.FracOfSaid :=
  OpenClaim.holds_of_wide 4 Tryz.f4 rfl rfl rfl rfl rfl rfl rfl ⟨rfl, rfl, rfl, rfl, rfl⟩ rfl rfl rfl rfl rfl (by kernel_rfl) Tryz.func4 (by kernel_rfl)
    (of_decide_eq_true (by kernel_rfl)) (by unfold Func.isWrapper; first | (rw [if_pos (by decide +kernel)]; kernel_rfl) | (rw [if_neg (by decide +kernel)]; exact ⟨rfl, rfl⟩))
    (fun os started H enc _ => lifted os started H enc)
theorem plain (f : FuncId) (fn : Func) (hf : Tryz.pinned.checked.prog.funcNamed "lottery/lotterylaw04.FracOf" = some f) (hfn : Tryz.pinned.checked.prog.funcs[f]? = some fn) :
    true = Tryz.pinned.checked.prog.looks [] ∧ ∀ (j : Nat) t, fn.params[j]? = some t → Tryz.pinned.checked.prog.wantsStandIn t = false := by
  obtain rfl : f = 4 := Option.some.inj ((show Tryz.prog.funcNamed "lottery/lotterylaw04.FracOf" = some 4 by kernel_rfl).symm.trans hf) |>.symm
  obtain rfl : fn = Tryz.f4 := (Option.some.inj (Tryz.func4.symm.trans hfn)).symm
  refine ⟨by kernel_rfl, fun j t ht => ?_⟩
  rw [Tryz.params4] at ht
  have ht := Array.mem_of_getElem? ht
  simp only [List.mem_toArray, List.mem_cons, List.not_mem_nil, or_false] at ht
  rcases ht with rfl | rfl

  · exact (show Tryz.prog.wantsStandIn 3 = false by kernel_rfl)
  · exact (show Tryz.prog.wantsStandIn 3 = false by kernel_rfl)
/-- The statement. -/
theorem card : Rows.FracOfCardSaid :=
  Claim7.holds_tied_plain_at .later [] _ _ _ _ over (fun _ h => by cases h) (by kernel_rfl) (fun _ h => by cases h) fracOf_row_tie rfl ⟨rfl, rfl⟩ (by kernel_rfl) rfl plain (by kernel_rfl)
end Go.Proofs.YtclejcijnfpgaaaGreatDoor.fracOf
