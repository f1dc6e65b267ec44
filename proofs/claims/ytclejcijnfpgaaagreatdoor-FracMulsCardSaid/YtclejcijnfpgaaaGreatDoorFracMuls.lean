/- FracMuls (P4.4): of every two fractions, valid or not, product and quotient are those of the reference, with the same errors: the law returns true. No condition. -/
import Derived.Test.YtclejcijnfpgaaaGreatDoorLaid
import Derived.Test.YtclejcijnfpgaaaGreatDoorFC
import Derived.Test.YtclejcijnfpgaaaGreatDoorFracU
namespace Go.Proofs.YtclejcijnfpgaaaGreatDoor.fracMuls
set_option maxRecDepth 20000
open Go.RowKit Go.ChangeShapes Go.WideShapes Go.ChangeAt Go.WideElems
open Go.ChangeMaps (open_string shut_string)
set_option linter.unusedVariables false

set_option maxHeartbeats 4000000 in
theorem walk (A : Option Addr) (n c : Nat) (f : Nat → Nat) (A' : Option Addr) (n' c' : Nat) (f' : Nat → Nat) (B : Option Addr) (m j : Nat) (g : Nat → Nat) (B' : Option Addr) (m' j' : Nat) (g' : Nat → Nat) (w : World) (hE : Env w) (gA : FArg w A n c f A' n' c' f') (gB : FArg w B m j g B' m' j' g') :
    Calls Tryz.prog 7 #[.agg #[.slice A n c, .slice A' n' c'], .agg #[.slice B m j, .slice B' m' j']] w fun e w' => e = .returned (.bool true) ∧ Below w.heap.size w w' := by
  have t0 := fun W => law4_brief (A := A) (n := n) (c := c) (A' := A') (n' := n') (c' := c') 70 W
  have t1 := fun W => law4_brief (A := B) (n := m) (c := j) (A' := B') (n' := m') (c' := j') 70 W
  have AW := Lib.hid fun W (hb : Below w.heap.size w W) => law4_awake W (hE.on hb)
  clear hE
  cases e0 : Fr.brf n n' 70
  · rw [e0] at t0
    have T0 := Lib.hid t0
    clear t0 t1 e0 gA gB
    have k0 := ((Ks.start w).box [.slice A n c, .slice A' n' c'] 28).box [.slice B m j, .slice B' m' j'] 28
    simp only [size_alloc] at k0
    have K0 := Lib.hid k0
    clear k0
    go_enter Tryz.func7, Tryz.ntmps7
    go_wp2_with fail
    refine (T0.out _).mono ?_
    rintro e w1 ⟨rfl, B1⟩
    have k1 := K0.out.call B1
    have K1 := Lib.hid k1
    clear k1 B1 
    have x0_0 := K1.out.cell0 at1
    have x0_1 := K1.out.cell1 at1
    have x1_0 := K1.out.cell0 at0
    have x1_1 := K1.out.cell1 at0
    go_wp2_with fail
    refine (AW.out _ K1.out.bel).mono ?_
    rintro e w2 ⟨rfl, B2⟩
    have k2 := K1.out.call B2
    have K2 := Lib.hid k2
    clear k2 B2 
    clear x0_0 x0_1 x1_0 x1_1
    have x0_0 := K2.out.cell0 at1
    have x0_1 := K2.out.cell1 at1
    have x1_0 := K2.out.cell0 at0
    have x1_1 := K2.out.cell1 at0
    go_wp2_with fail
    go_ret
    exact ⟨rfl, K2.out.bel⟩
  · rw [e0] at t0
    have T0 := Lib.hid t0
    clear t0
    cases e1 : Fr.brf m m' 70
    · rw [e1] at t1
      have T1 := Lib.hid t1
      clear t1  e0 e1 gA gB
      have k0 := ((Ks.start w).box [.slice A n c, .slice A' n' c'] 28).box [.slice B m j, .slice B' m' j'] 28
      simp only [size_alloc] at k0
      have K0 := Lib.hid k0
      clear k0
      go_enter Tryz.func7, Tryz.ntmps7
      go_wp2_with fail
      refine (T0.out _).mono ?_
      rintro e w1 ⟨rfl, B1⟩
      have k1 := K0.out.call B1
      have K1 := Lib.hid k1
      clear k1 B1 
      have x0_0 := K1.out.cell0 at1
      have x0_1 := K1.out.cell1 at1
      have x1_0 := K1.out.cell0 at0
      have x1_1 := K1.out.cell1 at0
      go_wp2_with fail
      refine (T1.out _).mono ?_
      rintro e w2 ⟨rfl, B2⟩
      have k2 := K1.out.call B2
      have K2 := Lib.hid k2
      clear k2 B2 
      clear x0_0 x0_1 x1_0 x1_1
      have x0_0 := K2.out.cell0 at1
      have x0_1 := K2.out.cell1 at1
      have x1_0 := K2.out.cell0 at0
      have x1_1 := K2.out.cell1 at0
      go_wp2_with fail
      refine (AW.out _ K2.out.bel).mono ?_
      rintro e w3 ⟨rfl, B3⟩
      have k3 := K2.out.call B3
      have K3 := Lib.hid k3
      clear k3 B3 
      clear x0_0 x0_1 x1_0 x1_1
      have x0_0 := K3.out.cell0 at1
      have x0_1 := K3.out.cell1 at1
      have x1_0 := K3.out.cell0 at0
      have x1_1 := K3.out.cell1 at0
      go_wp2_with fail
      go_ret
      exact ⟨rfl, K3.out.bel⟩
    · rw [e1] at t1
      have T1 := Lib.hid t1
      clear t1
      clear e0 e1
      have o0 := fun W (hb : Below w.heap.size w W) => frac_Mul_any W (gA.on hb) (gB.on hb)
      have o1 := fun W (hb : Below w.heap.size w W) => ref4_Mul_any W (gA.on hb) (gB.on hb)
      have o2 := fun W (hb : Below w.heap.size w W) => frac_Div_any W (gA.on hb) (gB.on hb)
      have o3 := fun W (hb : Below w.heap.size w W) => ref4_Div_any W (gA.on hb) (gB.on hb)
      obtain ⟨⟨u0, v0, r0⟩, ht0⟩ : ∃ t, t = Fr.mulX f n f' n' g m g' m' := ⟨_, rfl⟩
      rw [← ht0] at o0 o1
      clear ht0
      obtain ⟨⟨u1, v1, r1⟩, ht1⟩ : ∃ t, t = Fr.divX f n f' n' g m g' m' := ⟨_, rfl⟩
      rw [← ht1] at o2 o3
      clear ht1
      have O0 := Lib.hid o0
      have O1 := Lib.hid o1
      have O2 := Lib.hid o2
      have O3 := Lib.hid o3
      clear gA gB o0 o1 o2 o3
      have k0 := ((Ks.start w).box [.slice A n c, .slice A' n' c'] 28).box [.slice B m j, .slice B' m' j'] 28
      simp only [size_alloc] at k0
      have K0 := Lib.hid k0
      clear k0
      go_enter Tryz.func7, Tryz.ntmps7
      go_wp2_with fail
      refine (T0.out _).mono ?_
      rintro e w1 ⟨rfl, B1⟩
      have k1 := K0.out.call B1
      have K1 := Lib.hid k1
      clear k1 B1 
      have x0_0 := K1.out.cell0 at1
      have x0_1 := K1.out.cell1 at1
      have x1_0 := K1.out.cell0 at0
      have x1_1 := K1.out.cell1 at0
      go_wp2_with fail
      refine (T1.out _).mono ?_
      rintro e w2 ⟨rfl, B2⟩
      have k2 := K1.out.call B2
      have K2 := Lib.hid k2
      clear k2 B2 
      clear x0_0 x0_1 x1_0 x1_1
      have x0_0 := K2.out.cell0 at1
      have x0_1 := K2.out.cell1 at1
      have x1_0 := K2.out.cell0 at0
      have x1_1 := K2.out.cell1 at0
      go_wp2_with fail
      refine (O0.out _ K2.out.bel).mono ?_
      rintro e w3 ⟨A3, n3, c3, A3r, n3r, c3r, rfl, B3, D3, D3r, h3, h3r, l3, l3r⟩
      have k3 := (((K2.out.call B3).num D3).num D3r).box [.slice A3 n3 c3, .slice A3r n3r c3r] 28
      have K3 := Lib.hid k3
      clear k3 B3 D3 D3r
      clear x0_0 x0_1 x1_0 x1_1
      have x0_0 := K3.out.cell0 at2
      have x0_1 := K3.out.cell1 at2
      have x1_0 := K3.out.cell0 at1
      have x1_1 := K3.out.cell1 at1
      go_wp2_with fail
      refine (O1.out _ K3.out.bel).mono ?_
      rintro e w4 ⟨A4, n4, c4, A4r, n4r, c4r, rfl, B4, D4, D4r, h4, h4r, l4, l4r⟩
      have k4 := (((K3.out.call B4).num D4).num D4r).box [.slice A4 n4 c4, .slice A4r n4r c4r] 28
      have K4 := Lib.hid k4
      clear k4 B4 D4 D4r
      clear x0_0 x0_1 x1_0 x1_1
      have x0_0 := K4.out.cell0 at3
      have x0_1 := K4.out.cell1 at3
      have x1_0 := K4.out.cell0 at2
      have x1_1 := K4.out.cell1 at2
      have x2_0 := K4.out.cell0 at1
      have x2_1 := K4.out.cell1 at1
      go_wp2_with fail
      refine (O2.out _ K4.out.bel).mono ?_
      rintro e w5 ⟨A5, n5, c5, A5r, n5r, c5r, rfl, B5, D5, D5r, h5, h5r, l5, l5r⟩
      have k5 := (((K4.out.call B5).num D5).num D5r).box [.slice A5 n5 c5, .slice A5r n5r c5r] 28
      have K5 := Lib.hid k5
      clear k5 B5 D5 D5r
      clear x0_0 x0_1 x1_0 x1_1 x2_0 x2_1
      have x0_0 := K5.out.cell0 at4
      have x0_1 := K5.out.cell1 at4
      have x1_0 := K5.out.cell0 at3
      have x1_1 := K5.out.cell1 at3
      have x2_0 := K5.out.cell0 at2
      have x2_1 := K5.out.cell1 at2
      have x3_0 := K5.out.cell0 at1
      have x3_1 := K5.out.cell1 at1
      go_wp2_with fail
      refine (O3.out _ K5.out.bel).mono ?_
      rintro e w6 ⟨A6, n6, c6, A6r, n6r, c6r, rfl, B6, D6, D6r, h6, h6r, l6, l6r⟩
      have k6 := (((K5.out.call B6).num D6).num D6r).box [.slice A6 n6 c6, .slice A6r n6r c6r] 28
      have K6 := Lib.hid k6
      clear k6 B6 D6 D6r
      clear x0_0 x0_1 x1_0 x1_1 x2_0 x2_1 x3_0 x3_1
      have x0_0 := K6.out.cell0 at5
      have x0_1 := K6.out.cell1 at5
      have x1_0 := K6.out.cell0 at4
      have x1_1 := K6.out.cell1 at4
      have x2_0 := K6.out.cell0 at3
      have x2_1 := K6.out.cell1 at3
      have x3_0 := K6.out.cell0 at2
      have x3_1 := K6.out.cell1 at2
      have x4_0 := K6.out.cell0 at1
      have x4_1 := K6.out.cell1 at1
      go_wp2_with fail
      refine (Fr.same_refl _ _ ▸ ref4_Same _ ⟨(K6.out.get at7), h3, l3⟩ ⟨(K6.out.get at6), h3r, l3r⟩ ⟨(K6.out.get at5), h4, l4⟩ ⟨(K6.out.get at4), h4r, l4r⟩).mono ?_
      rintro e w7 ⟨rfl, B7⟩
      have k7 := K6.out.call B7
      have K7 := Lib.hid k7
      clear k7 B7 
      clear x0_0 x0_1 x1_0 x1_1 x2_0 x2_1 x3_0 x3_1 x4_0 x4_1
      have x0_0 := K7.out.cell0 at5
      have x0_1 := K7.out.cell1 at5
      have x1_0 := K7.out.cell0 at4
      have x1_1 := K7.out.cell1 at4
      have x2_0 := K7.out.cell0 at3
      have x2_1 := K7.out.cell1 at3
      have x3_0 := K7.out.cell0 at2
      have x3_1 := K7.out.cell1 at2
      have x4_0 := K7.out.cell0 at1
      have x4_1 := K7.out.cell1 at1
      have x5_0 := K7.out.cell0 at0
      have x5_1 := K7.out.cell1 at0
      go_wp2_with fail
      refine (Fr.same_refl _ _ ▸ ref4_Same _ ⟨(K7.out.get at3), h5, l5⟩ ⟨(K7.out.get at2), h5r, l5r⟩ ⟨(K7.out.get at1), h6, l6⟩ ⟨(K7.out.get at0), h6r, l6r⟩).mono ?_
      rintro e w8 ⟨rfl, B8⟩
      have k8 := K7.out.call B8
      have K8 := Lib.hid k8
      clear k8 B8 
      clear x0_0 x0_1 x1_0 x1_1 x2_0 x2_1 x3_0 x3_1 x4_0 x4_1 x5_0 x5_1
      have x0_0 := K8.out.cell0 at5
      have x0_1 := K8.out.cell1 at5
      have x1_0 := K8.out.cell0 at4
      have x1_1 := K8.out.cell1 at4
      have x2_0 := K8.out.cell0 at3
      have x2_1 := K8.out.cell1 at3
      have x3_0 := K8.out.cell0 at2
      have x3_1 := K8.out.cell1 at2
      have x4_0 := K8.out.cell0 at1
      have x4_1 := K8.out.cell1 at1
      have x5_0 := K8.out.cell0 at0
      have x5_1 := K8.out.cell1 at0
      go_wp2_with fail
      refine (AW.out _ K8.out.bel).mono ?_
      rintro e w9 ⟨rfl, B9⟩
      have k9 := K8.out.call B9
      have K9 := Lib.hid k9
      clear k9 B9 
      clear x0_0 x0_1 x1_0 x1_1 x2_0 x2_1 x3_0 x3_1 x4_0 x4_1 x5_0 x5_1
      have x0_0 := K9.out.cell0 at5
      have x0_1 := K9.out.cell1 at5
      have x1_0 := K9.out.cell0 at4
      have x1_1 := K9.out.cell1 at4
      have x2_0 := K9.out.cell0 at3
      have x2_1 := K9.out.cell1 at3
      have x3_0 := K9.out.cell0 at2
      have x3_1 := K9.out.cell1 at2
      have x4_0 := K9.out.cell0 at1
      have x4_1 := K9.out.cell1 at1
      have x5_0 := K9.out.cell0 at0
      have x5_1 := K9.out.cell1 at0
      go_wp2_with fail
      go_ret
      exact ⟨rfl, K9.out.bel⟩

/-! ### The row's step, the row, the card -/
set_option maxRecDepth 100000 in
theorem lifted (os : Os) (started : os.Started) (H : Type) (enc : TypeId × Value → H) :
    ReturnsInHanded {} Tryz.checked os 7 .any (fun w args => (Rows.fracMulsSpec.pre enc Tryz.prog Tryz.f7 Rows.fracMulsRow.domain false w args ∧ laidMetH Tryz.prog Rows.fracMulsRow.laid w) ∧ sizedMet enc Tryz.prog Tryz.f7 (OpenSpec.ofChange Rows.fracMulsSpec) false w args)
      (Rows.fracMulsSpec.post enc Tryz.prog Tryz.f7 false true false false) := by
  refine returnsInHanded_of_change_and (C := Tryz.checked) (X := fun w _ => laidMetH Tryz.prog Rows.fracMulsRow.laid w) (fun _ _ _ hh h => h.of_heap hh) own started (by kernel_rfl) Tryz.func7
    (ChangeSpec.witness_shaped (enc := enc) (C := Tryz.checked) (os := os) (X := fun w _ => laidMetH Tryz.prog Rows.fracMulsRow.laid w) false (World.doorLaid Tryz.prog 62 os) #[.agg #[.slice none 0 0, .slice none 0 0], .agg #[.slice none 0 0, .slice none 0 0]] 8 rfl (World.shaped_of_RefB (by kernel_rfl) (by kernel_rfl)) (by kernel_rfl) (by kernel_rfl) (by kernel_rfl) (door_met os _)) ?_
  intro W base args ds gs before hval0 hW _ hsz0 hL _
  have hsz : (DataW.weightsEach Tryz.prog (Tryz.f7.params.toList ++ Rows.fracMulsSpec.plain.varTypes Tryz.prog) (ds ++ gs)).all (· ≤ reachBytes) = true := hsz0
  clear hsz0
  have hval : ∀ (j : Nat) t v, Tryz.f7.params[j]? = some t → args[j]? = some v → Value.okWide Tryz.prog W .any base t v := hval0
  have hW' := hW
  obtain ⟨p, q, hA0, hV, rfl, hfz, hnd⟩ := hW
  have hA : DataW.TrodAll enc Tryz.prog W 0 (fun _ => true) true Tryz.f7.params.toList args.toList ds p := hA0
  rw [Tryz.params7] at hA hval hsz

  obtain ⟨v0, vs0, d0, ds0, p0, q0, hargs, rfl, rfl, h0, r0⟩ := trodAll_cons hA
  obtain ⟨v1, vs1, d1, ds1, p1, q1, rfl, rfl, rfl, h1, r1⟩ := trodAll_cons r0
  obtain ⟨rfl, rfl, rfl⟩ := trodAll_nil r1
  obtain rfl : args = #[v0, v1] := by cases args; simp_all
  obtain ⟨rfl, rfl⟩ := trodVars_none hV
  have k0 := h0
  have lt0 : ∀ x ∈ p0, x.block < W.heap.size := by
    obtain ⟨m, hm⟩ := k0
    exact DataW.trod_lt m _ _ _ hm
  obtain ⟨A0, n0, c0, f0, A0', n0', c0', f0', rfl, w0⟩ := frac_opened (hval 0 28 v0 rfl rfl) h0
  have k1 := h1
  have lt1 : ∀ x ∈ p1, x.block < W.heap.size := by
    obtain ⟨m, hm⟩ := k1
    exact DataW.trod_lt m _ _ _ hm
  obtain ⟨A1, n1, c1, f1, A1', n1', c1', f1', rfl, w1⟩ := frac_opened (hval 1 28 v1 rfl rfl) h1
  clear hA0 hval0
  simp only [List.append_nil] at hW'
  refine (walk A0 n0 c0 f0 A0' n0' c0' f0' A1 n1 c1 f1 A1' n1' c1' f1'   W (env_of_laid hL) w0 w1).mono fun e W' ⟨he, bel⟩ => ?_
  subst he
  exact ⟨_, rfl, _, _, _, [], _, [], hW', trodAll_mk1 (shut_bool Tryz.underlying4 _), (trodAll_cons_mk (Below.trod laidOut (by kernel_rfl) (of_decide_eq_true (by kernel_rfl)) k0 bel lt0) (trodAll_cons_mk (Below.trod laidOut (by kernel_rfl) (of_decide_eq_true (by kernel_rfl)) k1 bel lt1) trodAll_mk0)), rfl, bel.frame _, fun h => by cases h⟩

theorem over : Rows.FracMulsSaid :=
  OpenClaim.holds_of_wide 7 Tryz.f7 rfl rfl rfl rfl rfl rfl rfl ⟨rfl, rfl, rfl, rfl, rfl⟩ rfl rfl rfl rfl rfl (by kernel_rfl) Tryz.func7 (by kernel_rfl)
    (of_decide_eq_true (by kernel_rfl)) (by unfold Func.isWrapper; first | (rw [if_pos (by decide +kernel)]; kernel_rfl) | (rw [if_neg (by decide +kernel)]; exact ⟨rfl, rfl⟩))
    (fun os started H enc _ => lifted os started H enc)
theorem plain (f : FuncId) (fn : Func) (hf : Tryz.pinned.checked.prog.funcNamed "lottery/lotterylaw04.FracMuls" = some f) (hfn : Tryz.pinned.checked.prog.funcs[f]? = some fn) :
    true = Tryz.pinned.checked.prog.looks [] ∧ ∀ (j : Nat) t, fn.params[j]? = some t → Tryz.pinned.checked.prog.wantsStandIn t = false := by
  obtain rfl : f = 7 := Option.some.inj ((show Tryz.prog.funcNamed "lottery/lotterylaw04.FracMuls" = some 7 by kernel_rfl).symm.trans hf) |>.symm
  obtain rfl : fn = Tryz.f7 := (Option.some.inj (Tryz.func7.symm.trans hfn)).symm
  refine ⟨by kernel_rfl, fun j t ht => ?_⟩
  rw [Tryz.params7] at ht
  have ht := Array.mem_of_getElem? ht
  simp only [List.mem_toArray, List.mem_cons, List.not_mem_nil, or_false] at ht
  rcases ht with rfl | rfl

  · exact (show Tryz.prog.wantsStandIn 28 = false by kernel_rfl)
  · exact (show Tryz.prog.wantsStandIn 28 = false by kernel_rfl)
/-- The statement. -/
theorem card : Rows.FracMulsCardSaid :=
  Claim7.holds_tied_plain_at .later [] _ _ _ _ over (fun _ h => by cases h) (by kernel_rfl) (fun _ h => by cases h) fracMuls_row_tie rfl ⟨rfl, rfl⟩ (by kernel_rfl) rfl plain (by kernel_rfl)
end Go.Proofs.YtclejcijnfpgaaaGreatDoor.fracMuls
