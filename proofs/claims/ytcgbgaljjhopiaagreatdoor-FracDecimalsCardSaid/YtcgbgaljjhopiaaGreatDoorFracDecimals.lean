/- FracDecimals (P4.5): of every fraction, valid or not, and every number of places Decimal answers the text or the error of the reference: the law returns true. No condition. -/
import Derived.Test.YtcgbgaljjhopiaaGreatDoorLaid
import Derived.Test.YtcgbgaljjhopiaaGreatDoorFracX
namespace Go.Proofs.YtcgbgaljjhopiaaGreatDoor.fracDecimals
set_option maxRecDepth 20000
open Go.RowKit Go.ChangeShapes Go.WideShapes Go.ChangeAt Go.WideElems
open Go.ChangeMaps (open_string shut_string)
set_option linter.unusedVariables false

theorem ref4_Decimal_any {A A' : Option Addr} {n c n' c' : Nat} {f f' : Nat → Nat} (v : Int) (w : World) (h : FArg w A n c f A' n' c' f') :
    Calls Tryz.prog 7 #[.agg #[.slice A n c, .slice A' n' c'], .int .i64 v] w (TRes (Fr.decX f n f' n' v).1 (Fr.decX f n f' n' v).2 w) := by
  unfold Fr.decX
  cases hv : Fr.vld f n f' n'
  · exact ref4_Decimal_bad v w h hv
  · have g := h.is hv
    rw [if_pos rfl]
    unfold Fr.decT
    by_cases h1 : v < 0
    · rw [if_pos (.inl h1)]; exact ref4_Decimal_neg v w g h1
    · by_cases h2 : 18 < v
      · rw [if_pos (.inr h2)]; exact ref4_Decimal_big v w g h2
      · rw [if_neg (by omega)]
        obtain ⟨p, rfl⟩ : ∃ p : Nat, v = (p : Int) := ⟨v.toNat, by omega⟩
        rw [Int.toNat_natCast]
        cases h3 : Nt.fits (Nt.vl 4294967296 f n * 10 ^ p)
        · exact ref4_Decimal_over w g (by omega) h3
        · rw [if_pos rfl]; exact ref4_Decimal_fit w g (by omega) h3
set_option maxHeartbeats 4000000 in
theorem walk (A : Option Addr) (n c : Nat) (f : Nat → Nat) (A' : Option Addr) (n' c' : Nat) (f' : Nat → Nat) (v : Int) (v0 : -9223372036854775808 ≤ v) (v1 : v ≤ 9223372036854775807) (w : World) (hE : Env w) (gA : FArg w A n c f A' n' c' f') :
    Calls Tryz.prog 3 #[.agg #[.slice A n c, .slice A' n' c'], .int .i64 v] w fun e w' => e = .returned (.bool true) ∧ Below w.heap.size w w' := by
  have t0 := fun W => law4_brief (A := A) (n := n) (c := c) (A' := A') (n' := n') (c' := c') 70 W
  have AW := Lib.hid fun W (hb : Below w.heap.size w W) => law4_awake W (hE.on hb)
  have o1 := fun W (hb : Below w.heap.size w W) => frac_Decimal_any v W (gA.on hb) (hE.on hb)
  have o2 := fun W (hb : Below w.heap.size w W) => ref4_Decimal_any v W (gA.on hb)
  obtain ⟨S, eS⟩ : ∃ S, S = (Fr.decX f n f' n' v).1 := ⟨_, rfl⟩
  obtain ⟨E, eE⟩ : ∃ E, E = (Fr.decX f n f' n' v).2 := ⟨_, rfl⟩
  rw [← eS, ← eE] at o1 o2
  have O1 := Lib.hid o1
  have O2 := Lib.hid o2
  clear hE o1 o2 eS eE gA
  cases e0 : Fr.brf n n' 70
  · rw [e0] at t0
    have T0 := Lib.hid t0
    clear t0 e0
    have k0 := (Ks.start w).box [.slice A n c, .slice A' n' c'] 26
    have K0 := Lib.hid k0
    clear k0
    go_enter Tryz.func3, Tryz.ntmps3
    go_wp2_with fail
    refine (T0.out _).mono ?_
    rintro e w1 ⟨rfl, B1⟩
    have k1 := K0.out.call B1
    have K1 := Lib.hid k1
    clear k1 B1 
    have x0_0 := K1.out.cell0 at0
    have x0_1 := K1.out.cell1 at0
    go_wp2_with fail
    refine (AW.out _ K1.out.bel).mono ?_
    rintro e w2 ⟨rfl, B2⟩
    have k2 := K1.out.call B2
    have K2 := Lib.hid k2
    clear k2 B2 
    clear x0_0 x0_1
    have x0_0 := K2.out.cell0 at0
    have x0_1 := K2.out.cell1 at0
    go_wp2_with fail
    go_ret
    exact ⟨rfl, K2.out.bel⟩
  · rw [e0] at t0
    have T0 := Lib.hid t0
    clear t0 e0
    have k0 := (Ks.start w).box [.slice A n c, .slice A' n' c'] 26
    have K0 := Lib.hid k0
    clear k0
    go_enter Tryz.func3, Tryz.ntmps3
    go_wp2_with fail
    refine (T0.out _).mono ?_
    rintro e w1 ⟨rfl, B1⟩
    have k1 := K0.out.call B1
    have K1 := Lib.hid k1
    clear k1 B1 
    have x0_0 := K1.out.cell0 at0
    have x0_1 := K1.out.cell1 at0
    go_wp2_with fail
    refine (O1.out _ K1.out.bel).mono ?_
    rintro e w2 ⟨rfl, B2⟩
    have k2 := K1.out.call B2
    have K2 := Lib.hid k2
    clear k2 B2 
    clear x0_0 x0_1
    have x0_0 := K2.out.cell0 at0
    have x0_1 := K2.out.cell1 at0
    go_wp2_with fail
    refine (O2.out _ K2.out.bel).mono ?_
    rintro e w3 ⟨rfl, B3⟩
    have k3 := K2.out.call B3
    have K3 := Lib.hid k3
    clear k3 B3 
    clear x0_0 x0_1
    have x0_0 := K3.out.cell0 at0
    have x0_1 := K3.out.cell1 at0
    go_wp2_with fail
    refine (AW.out _ K3.out.bel).mono ?_
    rintro e w4 ⟨rfl, B4⟩
    have k4 := K3.out.call B4
    have K4 := Lib.hid k4
    clear k4 B4 
    clear x0_0 x0_1
    have x0_0 := K4.out.cell0 at0
    have x0_1 := K4.out.cell1 at0
    go_wp2_with fail
    go_ret
    exact ⟨rfl, K4.out.bel⟩

/-! ### The row's step, the row, the card -/
set_option maxRecDepth 100000 in
theorem lifted (os : Os) (started : os.Started) (H : Type) (enc : TypeId × Value → H) :
    ReturnsInHanded {} Tryz.checked os 3 .any (fun w args => (Rows.fracDecimalsSpec.pre enc Tryz.prog Tryz.f3 Rows.fracDecimalsRow.domain false w args ∧ laidMetH Tryz.prog Rows.fracDecimalsRow.laid w) ∧ sizedMet enc Tryz.prog Tryz.f3 (OpenSpec.ofChange Rows.fracDecimalsSpec) false w args)
      (Rows.fracDecimalsSpec.post enc Tryz.prog Tryz.f3 false true false false) := by
  refine returnsInHanded_of_change_and (C := Tryz.checked) (X := fun w _ => laidMetH Tryz.prog Rows.fracDecimalsRow.laid w) (fun _ _ _ hh h => h.of_heap hh) own started (by kernel_rfl) Tryz.func3
    (ChangeSpec.witness_shaped (enc := enc) (C := Tryz.checked) (os := os) (X := fun w _ => laidMetH Tryz.prog Rows.fracDecimalsRow.laid w) false (World.doorLaid Tryz.prog 62 os) #[.agg #[.slice none 0 0, .slice none 0 0], .int .i64 0] 8 rfl (World.shaped_of_RefB (by kernel_rfl) (by kernel_rfl)) (by kernel_rfl) (by kernel_rfl) (by kernel_rfl) (door_met os _)) ?_
  intro W base args ds gs before hval0 hW _ hsz0 hL _
  have hsz : (DataW.weightsEach Tryz.prog (Tryz.f3.params.toList ++ Rows.fracDecimalsSpec.plain.varTypes Tryz.prog) (ds ++ gs)).all (· ≤ reachBytes) = true := hsz0
  clear hsz0
  have hval : ∀ (j : Nat) t v, Tryz.f3.params[j]? = some t → args[j]? = some v → Value.okWide Tryz.prog W .any base t v := hval0
  have hW' := hW
  obtain ⟨p, q, hA0, hV, rfl, hfz, hnd⟩ := hW
  have hA : DataW.TrodAll enc Tryz.prog W 0 (fun _ => true) true Tryz.f3.params.toList args.toList ds p := hA0
  rw [Tryz.params3] at hA hval hsz

  obtain ⟨v0, vs0, d0, ds0, p0, q0, hargs, rfl, rfl, h0, r0⟩ := trodAll_cons hA
  obtain ⟨v1, vs1, d1, ds1, p1, q1, rfl, rfl, rfl, h1, r1⟩ := trodAll_cons r0
  obtain ⟨rfl, rfl, rfl⟩ := trodAll_nil r1
  obtain rfl : args = #[v0, v1] := by cases args; simp_all
  obtain ⟨rfl, rfl⟩ := trodVars_none hV
  have k0 := h0
  have lt0 : ∀ x ∈ p0, x.block < W.heap.size := by
    obtain ⟨m, hm⟩ := k0
    exact DataW.trod_lt m _ _ _ hm
  obtain ⟨A0, n0, c0, f0, A0', n0', c0', f0', rfl, w0⟩ := frac_opened (hval 0 26 v0 rfl rfl) h0
  obtain ⟨a1, rfl, rfl, rfl, w1⟩ := open_int Tryz.underlying3 (hval 1 3 v1 rfl rfl) h1
  have b1 := bounds_i64 w1
  clear hA0 hval0
  simp only [List.append_nil] at hW'
  refine (walk A0 n0 c0 f0 A0' n0' c0' f0' a1  b1.1 b1.2 W (env_of_laid hL) w0).mono fun e W' ⟨he, bel⟩ => ?_
  subst he
  exact ⟨_, rfl, _, _, _, [], _, [], hW', trodAll_mk1 (shut_bool Tryz.underlying4 _), (trodAll_cons_mk (Below.trod laidOut (by kernel_rfl) (of_decide_eq_true (by kernel_rfl)) k0 bel lt0) (trodAll_cons_mk (shut_int Tryz.underlying3 w1) trodAll_mk0)), rfl, bel.frame _, fun h => by cases h⟩

theorem over : Rows.FracDecimalsSaid :=
  OpenClaim.holds_of_wide 3 Tryz.f3 rfl rfl rfl rfl rfl rfl rfl ⟨rfl, rfl, rfl, rfl, rfl⟩ rfl rfl rfl rfl rfl (by kernel_rfl) Tryz.func3 (by kernel_rfl)
    (of_decide_eq_true (by kernel_rfl)) (by unfold Func.isWrapper; first | (rw [if_pos (by decide +kernel)]; kernel_rfl) | (rw [if_neg (by decide +kernel)]; exact ⟨rfl, rfl⟩))
    (fun os started H enc _ => lifted os started H enc)
theorem plain (f : FuncId) (fn : Func) (hf : Tryz.pinned.checked.prog.funcNamed "lottery/lotterylaw04.FracDecimals" = some f) (hfn : Tryz.pinned.checked.prog.funcs[f]? = some fn) :
    true = Tryz.pinned.checked.prog.looks [] ∧ ∀ (j : Nat) t, fn.params[j]? = some t → Tryz.pinned.checked.prog.wantsStandIn t = false := by
  obtain rfl : f = 3 := Option.some.inj ((show Tryz.prog.funcNamed "lottery/lotterylaw04.FracDecimals" = some 3 by kernel_rfl).symm.trans hf) |>.symm
  obtain rfl : fn = Tryz.f3 := (Option.some.inj (Tryz.func3.symm.trans hfn)).symm
  refine ⟨by kernel_rfl, fun j t ht => ?_⟩
  rw [Tryz.params3] at ht
  have ht := Array.mem_of_getElem? ht
  simp only [List.mem_toArray, List.mem_cons, List.not_mem_nil, or_false] at ht
  rcases ht with rfl | rfl

  · exact (show Tryz.prog.wantsStandIn 26 = false by kernel_rfl)
  · exact (show Tryz.prog.wantsStandIn 3 = false by kernel_rfl)
/-- The statement. -/
theorem card : Rows.FracDecimalsCardSaid :=
  Claim7.holds_tied_plain_at .later [] _ _ _ _ over (fun _ h => by cases h) (by kernel_rfl) (fun _ h => by cases h) fracDecimals_row_tie rfl ⟨rfl, rfl⟩ (by kernel_rfl) rfl plain (by kernel_rfl)
end Go.Proofs.YtcgbgaljjhopiaaGreatDoor.fracDecimals
