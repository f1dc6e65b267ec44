/- FracCompares (P4.2): of every two fractions, valid or not, Valid and Cmp answer as the reference's: the law returns true. No condition. -/
import Derived.Test.YtclejcijnfpgaaaGreatDoorLaid
import Derived.Test.YtclejcijnfpgaaaGreatDoorFC
import Derived.Test.YtclejcijnfpgaaaGreatDoorFracV
namespace Go.Proofs.YtclejcijnfpgaaaGreatDoor.fracCompares
set_option maxRecDepth 20000
open Go.RowKit Go.ChangeShapes Go.WideShapes Go.ChangeAt Go.WideElems
open Go.ChangeMaps (open_string shut_string)
set_option linter.unusedVariables false

theorem kF4 {w W : World} {N M : Nat} {a0 a1 b0 b1 : Value} {T : TypeId} {ns : List (Option Addr × Nat × Nat)} (h : Hid (Ks w W [(M, [b0, b1], T), (N, [a0, a1], T)] ns)) :
    W.cell? ⟨N, 0, none⟩ = some a0 ∧ W.cell? ⟨N, 1, none⟩ = some a1 ∧ W.cell? ⟨M, 0, none⟩ = some b0 ∧ W.cell? ⟨M, 1, none⟩ = some b1 := ⟨h.out.cell0 at1, h.out.cell1 at1, h.out.cell0 at0, h.out.cell1 at0⟩
set_option maxHeartbeats 4000000 in
theorem walk (A : Option Addr) (n c : Nat) (f : Nat → Nat) (A' : Option Addr) (n' c' : Nat) (f' : Nat → Nat) (B : Option Addr) (m j : Nat) (g : Nat → Nat) (B' : Option Addr) (m' j' : Nat) (g' : Nat → Nat) (w : World) (hE : Env w) (gA : FArg w A n c f A' n' c' f') (gB : FArg w B m j g B' m' j' g') :
    Calls Tryz.prog 5 #[.agg #[.slice A n c, .slice A' n' c'], .agg #[.slice B m j, .slice B' m' j']] w fun e w' => e = .returned (.bool true) ∧ Below w.heap.size w w' := by
  have t0 := fun W => law4_brief (A := A) (n := n) (c := c) (A' := A') (n' := n') (c' := c') 70 W
  have t1 := fun W => law4_brief (A := B) (n := m) (c := j) (A' := B') (n' := m') (c' := j') 70 W
  have AW := Lib.hid fun W (hb : Below w.heap.size w W) => law4_awake W (hE.on hb)
  clear hE
  cases e0 : Fr.brf n n' 70
  · rw [e0] at t0
    have T0 := Lib.hid t0
    clear t0 t1 e0 gA gB
    have k0 := ((Ks.start w).box [.slice A n c, .slice A' n' c'] 28).box [.slice B m j, .slice B' m' j'] 28
    simp only [size_alloc] at k0
    have K0 := Lib.hid k0
    clear k0
    go_enter Tryz.func5, Tryz.ntmps5
    go_wp2_with fail
    refine (T0.out _).mono ?_
    rintro e w1 ⟨rfl, B1⟩
    have k1 := K0.out.call B1
    have K1 := Lib.hid k1
    clear k1 B1 
    have x0_0 := K1.out.cell0 at1
    have x0_1 := K1.out.cell1 at1
    have x1_0 := K1.out.cell0 at0
    have x1_1 := K1.out.cell1 at0
    go_wp2_with fail
    refine (AW.out _ K1.out.bel).mono ?_
    rintro e w2 ⟨rfl, B2⟩
    have k2 := K1.out.call B2
    have K2 := Lib.hid k2
    clear k2 B2 
    clear x0_0 x0_1 x1_0 x1_1
    have x0_0 := K2.out.cell0 at1
    have x0_1 := K2.out.cell1 at1
    have x1_0 := K2.out.cell0 at0
    have x1_1 := K2.out.cell1 at0
    go_wp2_with fail
    go_ret
    exact ⟨rfl, K2.out.bel⟩
  · rw [e0] at t0
    have T0 := Lib.hid t0
    clear t0
    cases e1 : Fr.brf m m' 70
    · rw [e1] at t1
      have T1 := Lib.hid t1
      clear t1  e0 e1 gA gB
      have k0 := ((Ks.start w).box [.slice A n c, .slice A' n' c'] 28).box [.slice B m j, .slice B' m' j'] 28
      simp only [size_alloc] at k0
      have K0 := Lib.hid k0
      clear k0
      go_enter Tryz.func5, Tryz.ntmps5
      go_wp2_with fail
      refine (T0.out _).mono ?_
      rintro e w1 ⟨rfl, B1⟩
      have k1 := K0.out.call B1
      have K1 := Lib.hid k1
      clear k1 B1 
      have x0_0 := K1.out.cell0 at1
      have x0_1 := K1.out.cell1 at1
      have x1_0 := K1.out.cell0 at0
      have x1_1 := K1.out.cell1 at0
      go_wp2_with fail
      refine (T1.out _).mono ?_
      rintro e w2 ⟨rfl, B2⟩
      have k2 := K1.out.call B2
      have K2 := Lib.hid k2
      clear k2 B2 
      clear x0_0 x0_1 x1_0 x1_1
      have x0_0 := K2.out.cell0 at1
      have x0_1 := K2.out.cell1 at1
      have x1_0 := K2.out.cell0 at0
      have x1_1 := K2.out.cell1 at0
      go_wp2_with fail
      refine (AW.out _ K2.out.bel).mono ?_
      rintro e w3 ⟨rfl, B3⟩
      have k3 := K2.out.call B3
      have K3 := Lib.hid k3
      clear k3 B3 
      clear x0_0 x0_1 x1_0 x1_1
      have x0_0 := K3.out.cell0 at1
      have x0_1 := K3.out.cell1 at1
      have x1_0 := K3.out.cell0 at0
      have x1_1 := K3.out.cell1 at0
      go_wp2_with fail
      go_ret
      exact ⟨rfl, K3.out.bel⟩
    · rw [e1] at t1
      have T1 := Lib.hid t1
      clear t1
      clear e0 e1
      have o1 := fun W (hb : Below w.heap.size w W) => frac_Valid_arg W (gA.on hb)
      have o2 := fun W (hb : Below w.heap.size w W) => ref4_Valid_arg W (gA.on hb)
      have o3 := fun W (hb : Below w.heap.size w W) => frac_Valid_arg W (gB.on hb)
      have o4 := fun W (hb : Below w.heap.size w W) => ref4_Valid_arg W (gB.on hb)
      have o5 := fun W (hb : Below w.heap.size w W) => frac_Cmp_any W (gA.on hb) (gB.on hb)
      have o6 := fun W (hb : Below w.heap.size w W) => ref4_Cmp_any W (gA.on hb) (gB.on hb)
      obtain ⟨u, eu⟩ : ∃ u, u = Fr.vld f n f' n' := ⟨_, rfl⟩
      obtain ⟨v, ev⟩ : ∃ v, v = Fr.vld g m g' m' := ⟨_, rfl⟩
      obtain ⟨z, ez⟩ : ∃ z, z = Fr.cmpX f n f' n' g m g' m' := ⟨_, rfl⟩
      rw [← eu] at o1 o2
      rw [← ev] at o3 o4
      rw [← ez] at o5 o6
      have O1 := Lib.hid o1
      have O2 := Lib.hid o2
      have O3 := Lib.hid o3
      have O4 := Lib.hid o4
      have O5 := Lib.hid o5
      have O6 := Lib.hid o6
      clear gA gB o1 o2 o3 o4 o5 o6 eu ev ez
      have k0 := ((Ks.start w).box [.slice A n c, .slice A' n' c'] 28).box [.slice B m j, .slice B' m' j'] 28
      simp only [size_alloc] at k0
      have K0 := Lib.hid k0
      clear k0
      go_enter Tryz.func5, Tryz.ntmps5
      go_wp2_with fail
      refine (T0.out _).mono ?_
      rintro e w1 ⟨rfl, B1⟩
      have k1 := K0.out.call B1
      have K1 := Lib.hid k1
      clear k1 B1 
      have x0_0 := K1.out.cell0 at1
      have x0_1 := K1.out.cell1 at1
      have x1_0 := K1.out.cell0 at0
      have x1_1 := K1.out.cell1 at0
      go_wp2_with fail
      refine (T1.out _).mono ?_
      rintro e w2 ⟨rfl, B2⟩
      have k2 := K1.out.call B2
      have K2 := Lib.hid k2
      clear k2 B2 
      clear x0_0 x0_1 x1_0 x1_1
      have x0_0 := K2.out.cell0 at1
      have x0_1 := K2.out.cell1 at1
      have x1_0 := K2.out.cell0 at0
      have x1_1 := K2.out.cell1 at0
      go_wp2_with fail
      have K2d := Lib.hid (K2.out.call (Below.refl w2.heap.size w2).drew)
      go_region_held3 (fun W => W.cell? ⟨w.heap.size, 0, none⟩ = some (.slice A n c) ∧ W.cell? ⟨w.heap.size, 1, none⟩ = some (.slice A' n' c') ∧ W.cell? ⟨w.heap.size + 1, 0, none⟩ = some (.slice B m j) ∧ W.cell? ⟨w.heap.size + 1, 1, none⟩ = some (.slice B' m' j'))
        (first | (with_reducible exact kF4 (by assumption)) | fail)
        (first
          | (go_at_call 18; (with_reducible refine (O1.out _ K2d.out.bel).mono ?_); rintro e w3 ⟨rfl, B3⟩; have K3 := Lib.hid (K2d.out.call B3); clear B3)
          | (go_at_call 20; (with_reducible refine (O2.out _ K3.out.bel).mono ?_); rintro e w4 ⟨rfl, B4⟩; have K4 := Lib.hid (K3.out.call B4); clear B4)
          | (go_at_call 18; (with_reducible refine (O3.out _ K4.out.bel).mono ?_); rintro e w5 ⟨rfl, B5⟩; have K5 := Lib.hid (K4.out.call B5); clear B5)
          | (go_at_call 20; (with_reducible refine (O4.out _ K5.out.bel).mono ?_); rintro e w6 ⟨rfl, B6⟩; have K6 := Lib.hid (K5.out.call B6); clear B6)
          | (go_at_call 21; (with_reducible refine (O5.out _ K6.out.bel).mono ?_); rintro e w7 ⟨rfl, B7⟩; have K7 := Lib.hid (K6.out.call B7); clear B7)
          | (go_at_call 22; (with_reducible refine (O6.out _ K7.out.bel).mono ?_); rintro e w8 ⟨rfl, B8⟩; have K8 := Lib.hid (K7.out.call B8); clear B8)
          | (go_at_call 12; (with_reducible refine (AW.out _ K8.out.bel).mono ?_); rintro e w9 ⟨rfl, B9⟩; have K9 := Lib.hid (K8.out.call B9); clear B9)
          | fail)
      all_goals (
        go_wp2
        go_ret
        exact ⟨rfl, K9.out.bel⟩)

/-! ### The row's step, the row, the card -/
set_option maxRecDepth 100000 in
theorem lifted (os : Os) (started : os.Started) (H : Type) (enc : TypeId × Value → H) :
    ReturnsInHanded {} Tryz.checked os 5 .any (fun w args => (Rows.fracComparesSpec.pre enc Tryz.prog Tryz.f5 Rows.fracComparesRow.domain false w args ∧ laidMetH Tryz.prog Rows.fracComparesRow.laid w) ∧ sizedMet enc Tryz.prog Tryz.f5 (OpenSpec.ofChange Rows.fracComparesSpec) false w args)
      (Rows.fracComparesSpec.post enc Tryz.prog Tryz.f5 false true false false) := by
  refine returnsInHanded_of_change_and (C := Tryz.checked) (X := fun w _ => laidMetH Tryz.prog Rows.fracComparesRow.laid w) (fun _ _ _ hh h => h.of_heap hh) own started (by kernel_rfl) Tryz.func5
    (ChangeSpec.witness_shaped (enc := enc) (C := Tryz.checked) (os := os) (X := fun w _ => laidMetH Tryz.prog Rows.fracComparesRow.laid w) false (World.doorLaid Tryz.prog 62 os) #[.agg #[.slice none 0 0, .slice none 0 0], .agg #[.slice none 0 0, .slice none 0 0]] 8 rfl (World.shaped_of_RefB (by kernel_rfl) (by kernel_rfl)) (by kernel_rfl) (by kernel_rfl) (by kernel_rfl) (door_met os _)) ?_
  intro W base args ds gs before hval0 hW _ hsz0 hL _
  have hsz : (DataW.weightsEach Tryz.prog (Tryz.f5.params.toList ++ Rows.fracComparesSpec.plain.varTypes Tryz.prog) (ds ++ gs)).all (· ≤ reachBytes) = true := hsz0
  clear hsz0
  have hval : ∀ (j : Nat) t v, Tryz.f5.params[j]? = some t → args[j]? = some v → Value.okWide Tryz.prog W .any base t v := hval0
  have hW' := hW
  obtain ⟨p, q, hA0, hV, rfl, hfz, hnd⟩ := hW
  have hA : DataW.TrodAll enc Tryz.prog W 0 (fun _ => true) true Tryz.f5.params.toList args.toList ds p := hA0
  rw [Tryz.params5] at hA hval hsz

  obtain ⟨v0, vs0, d0, ds0, p0, q0, hargs, rfl, rfl, h0, r0⟩ := trodAll_cons hA
  obtain ⟨v1, vs1, d1, ds1, p1, q1, rfl, rfl, rfl, h1, r1⟩ := trodAll_cons r0
  obtain ⟨rfl, rfl, rfl⟩ := trodAll_nil r1
  obtain rfl : args = #[v0, v1] := by cases args; simp_all
  obtain ⟨rfl, rfl⟩ := trodVars_none hV
  have k0 := h0
  have lt0 : ∀ x ∈ p0, x.block < W.heap.size := by
    obtain ⟨m, hm⟩ := k0
    exact DataW.trod_lt m _ _ _ hm
  obtain ⟨A0, n0, c0, f0, A0', n0', c0', f0', rfl, w0⟩ := frac_opened (hval 0 28 v0 rfl rfl) h0
  have k1 := h1
  have lt1 : ∀ x ∈ p1, x.block < W.heap.size := by
    obtain ⟨m, hm⟩ := k1
    exact DataW.trod_lt m _ _ _ hm
  obtain ⟨A1, n1, c1, f1, A1', n1', c1', f1', rfl, w1⟩ := frac_opened (hval 1 28 v1 rfl rfl) h1
  clear hA0 hval0
  simp only [List.append_nil] at hW'
  refine (walk A0 n0 c0 f0 A0' n0' c0' f0' A1 n1 c1 f1 A1' n1' c1' f1'   W (env_of_laid hL) w0 w1).mono fun e W' ⟨he, bel⟩ => ?_
  subst he
  exact ⟨_, rfl, _, _, _, [], _, [], hW', trodAll_mk1 (shut_bool Tryz.underlying4 _), (trodAll_cons_mk (Below.trod laidOut (by kernel_rfl) (of_decide_eq_true (by kernel_rfl)) k0 bel lt0) (trodAll_cons_mk (Below.trod laidOut (by kernel_rfl) (of_decide_eq_true (by kernel_rfl)) k1 bel lt1) trodAll_mk0)), rfl, bel.frame _, fun h => by cases h⟩

theorem over : Rows.FracComparesSaid :=
  OpenClaim.holds_of_wide 5 Tryz.f5 rfl rfl rfl rfl rfl rfl rfl ⟨rfl, rfl, rfl, rfl, rfl⟩ rfl rfl rfl rfl rfl (by kernel_rfl) Tryz.func5 (by kernel_rfl)
    (of_decide_eq_true (by kernel_rfl)) (by unfold Func.isWrapper; first | (rw [if_pos (by decide +kernel)]; kernel_rfl) | (rw [if_neg (by decide +kernel)]; exact ⟨rfl, rfl⟩))
    (fun os started H enc _ => lifted os started H enc)
theorem plain (f : FuncId) (fn : Func) (hf : Tryz.pinned.checked.prog.funcNamed "lottery/lotterylaw04.FracCompares" = some f) (hfn : Tryz.pinned.checked.prog.funcs[f]? = some fn) :
    true = Tryz.pinned.checked.prog.looks [] ∧ ∀ (j : Nat) t, fn.params[j]? = some t → Tryz.pinned.checked.prog.wantsStandIn t = false := by
  obtain rfl : f = 5 := Option.some.inj ((show Tryz.prog.funcNamed "lottery/lotterylaw04.FracCompares" = some 5 by kernel_rfl).symm.trans hf) |>.symm
  obtain rfl : fn = Tryz.f5 := (Option.some.inj (Tryz.func5.symm.trans hfn)).symm
  refine ⟨by kernel_rfl, fun j t ht => ?_⟩
  rw [Tryz.params5] at ht
  have ht := Array.mem_of_getElem? ht
  simp only [List.mem_toArray, List.mem_cons, List.not_mem_nil, or_false] at ht
  rcases ht with rfl | rfl

  · exact (show Tryz.prog.wantsStandIn 28 = false by kernel_rfl)
  · exact (show Tryz.prog.wantsStandIn 28 = false by kernel_rfl)
/-- The statement. -/
theorem card : Rows.FracComparesCardSaid :=
  Claim7.holds_tied_plain_at .later [] _ _ _ _ over (fun _ h => by cases h) (by kernel_rfl) (fun _ h => by cases h) fracCompares_row_tie rfl ⟨rfl, rfl⟩ (by kernel_rfl) rfl plain (by kernel_rfl)
end Go.Proofs.YtclejcijnfpgaaaGreatDoor.fracCompares
