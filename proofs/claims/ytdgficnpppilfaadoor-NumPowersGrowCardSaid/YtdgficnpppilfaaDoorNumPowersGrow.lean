/- NumPowersGrow (P1.3): for every int and every byte, the next power is the product of a power and its base, the power 0 is 1, and exponents below 0 and above 62 are refused, and the chapter's examples hold: the law returns true. No condition beyond the row's own list of the library's tables and error variables. -/
import Derived.Test.YtdgficnpppilfaaDoorLaid
namespace Go.Proofs.YtdgficnpppilfaaDoor.numPowersGrow
open Go.RowKit Go.ChangeShapes Go.WideShapes Go.ChangeAt Go.WideElems
open Go.ChangeMaps (open_string shut_string)
set_option linter.unusedVariables false

theorem pw_err (a : Int) (k : Nat) (h : (Nm.pw a k).2 = 9) : (Nm.pw a k).1 = 0 := by
  cases k with
  | zero => cases h
  | succ k =>
    unfold Nm.pw at h ⊢
    split
    · rename_i h0
      rw [if_pos h0] at h
      unfold Nm.ce at h; unfold Nm.cv
      split at h
      · cases h
      · rename_i hf; rw [if_neg hf]
    · rfl
theorem walk (a n : Int) (ha0 : -9223372036854775808 ≤ a) (ha1 : a ≤ 9223372036854775807) (hn0 : 0 ≤ n) (hn1 : n ≤ 255) (w : World) (hE : Env w) :
    Calls Tryd.prog 8 #[.int .i64 a, .int .u8 n] w fun e w' => e = .returned (.bool true) ∧ Below w.heap.size w w' := by
  have HE := Lib.hid hE
  clear hE
  have c1 := fun w => num_Power a (n % 62) ha0 ha1 w
  have c2 := fun w => num_Power a (n % 62 + 1) ha0 ha1 w
  have c3 := fun w => num_Power a 0 ha0 ha1 w
  have c4 := fun w => num_Power a (-1 - n) ha0 ha1 w
  have c5 := fun w => num_Power a (63 + n) ha0 ha1 w
  rw [show Nm.powV a (n % 62) = (Nm.pw a (n % 62).toNat).1 by rw [Nm.powV, if_neg (by omega)], show Nm.powE a (n % 62) = (Nm.pw a (n % 62).toNat).2 by rw [Nm.powE, if_neg (by omega)]] at c1
  rw [show Nm.powV a (n % 62 + 1) = (Nm.pw a ((n % 62).toNat + 1)).1 by rw [Nm.powV, if_neg (by omega), show (n % 62 + 1).toNat = (n % 62).toNat + 1 by omega], show Nm.powE a (n % 62 + 1) = (Nm.pw a ((n % 62).toNat + 1)).2 by rw [Nm.powE, if_neg (by omega), show (n % 62 + 1).toNat = (n % 62).toNat + 1 by omega]] at c2
  rw [show Nm.powV a 0 = 1 from rfl, show Nm.powE a 0 = 0 from rfl] at c3
  rw [show Nm.powV a (-1 - n) = 0 by rw [Nm.powV, if_pos (by omega)], show Nm.powE a (-1 - n) = 2 by rw [Nm.powE, if_pos (by omega)]] at c4
  rw [show Nm.powV a (63 + n) = 0 by rw [Nm.powV, if_pos (by omega)], show Nm.powE a (63 + n) = 2 by rw [Nm.powE, if_pos (by omega)]] at c5
  have hb := Nm.pw_bd a (n % 62).toNat
  have h01 := Nm.pw_01 a (n % 62).toNat
  have herr := pw_err a (n % 62).toNat
  rw [show Nm.pw a ((n % 62).toNat + 1) = if (Nm.pw a (n % 62).toNat).2 = 0 then (Nm.cv ((Nm.pw a (n % 62).toNat).1 * a), Nm.ce ((Nm.pw a (n % 62).toNat).1 * a)) else (0, 9) from rfl] at c2
  generalize (Nm.pw a (n % 62).toNat).1 = P at *
  generalize (Nm.pw a (n % 62).toNat).2 = E at *
  rcases h01 with rfl | rfl
  · rw [if_pos rfl] at c2
    have c6 := fun w => num_Mul P a hb.1 hb.2 ha0 ha1 w
    obtain ⟨X, hX⟩ : ∃ X, X = Nm.cv (P * a) := ⟨_, rfl⟩
    obtain ⟨L, hL⟩ : ∃ L, L = Nm.ce (P * a) := ⟨_, rfl⟩
    rw [← hX, ← hL] at c6
    rw [← hX, ← hL] at c2
    have C1 := Lib.hid c1
    have C2 := Lib.hid c2
    have C3 := Lib.hid c3
    have C4 := Lib.hid c4
    have C5 := Lib.hid c5
    have C6 := Lib.hid c6
    clear c1 c2 c3 c4 c5 c6 hX hL herr
    obtain ⟨hb1, hb2⟩ := hb
    go_enter Tryd.func8, Tryd.ntmps8
    go_wp2_with fail
    refine (C1.out _).mono ?_
    rintro e w' ⟨rfl, rfl⟩
    go_wp2_with fail
    refine (C2.out _).mono ?_
    rintro e w' ⟨rfl, rfl⟩
    go_wp2_with fail
    refine (C3.out _).mono ?_
    rintro e w' ⟨rfl, rfl⟩
    go_wp2_with fail
    refine (C4.out _).mono ?_
    rintro e w' ⟨rfl, rfl⟩
    go_wp2_with fail
    refine (C5.out _).mono ?_
    rintro e w' ⟨rfl, rfl⟩
    go_wp2_with fail
    refine (C6.out _).mono ?_
    rintro e w' ⟨rfl, rfl⟩
    go_wp2_with fail
    refine (law_awake _ HE.out).mono ?_
    rintro e w1 ⟨rfl, h1⟩
    go_wp2_with fail
    go_ret
    exact ⟨rfl, h1⟩
  · obtain rfl : P = 0 := herr rfl
    rw [if_neg (by decide)] at c2
    have C1 := Lib.hid c1
    have C2 := Lib.hid c2
    have C3 := Lib.hid c3
    have C4 := Lib.hid c4
    have C5 := Lib.hid c5
    clear c1 c2 c3 c4 c5 herr hb
    go_enter Tryd.func8, Tryd.ntmps8
    go_wp2_with fail
    refine (C1.out _).mono ?_
    rintro e w' ⟨rfl, rfl⟩
    go_wp2_with fail
    refine (C2.out _).mono ?_
    rintro e w' ⟨rfl, rfl⟩
    go_wp2_with fail
    refine (C3.out _).mono ?_
    rintro e w' ⟨rfl, rfl⟩
    go_wp2_with fail
    refine (C4.out _).mono ?_
    rintro e w' ⟨rfl, rfl⟩
    go_wp2_with fail
    refine (C5.out _).mono ?_
    rintro e w' ⟨rfl, rfl⟩
    go_wp2_with fail
    refine (law_awake _ HE.out).mono ?_
    rintro e w1 ⟨rfl, h1⟩
    go_wp2_with fail
    go_ret
    exact ⟨rfl, h1⟩

/-! ### The row's step, the row, the card -/
set_option maxRecDepth 100000 in
theorem lifted (os : Os) (started : os.Started) (H : Type) (enc : TypeId × Value → H) :
    ReturnsInHanded {} Tryd.checked os 8 .any (fun w args => (Rows.numPowersGrowSpec.pre enc Tryd.prog Tryd.f8 Rows.numPowersGrowRow.domain false w args ∧ laidMetH Tryd.prog Rows.numPowersGrowRow.laid w) ∧ sizedMet enc Tryd.prog Tryd.f8 (OpenSpec.ofChange Rows.numPowersGrowSpec) false w args)
      (Rows.numPowersGrowSpec.post enc Tryd.prog Tryd.f8 false true false false) := by
  refine returnsInHanded_of_change_and (C := Tryd.checked) (X := fun w _ => laidMetH Tryd.prog Rows.numPowersGrowRow.laid w) (fun _ _ _ hh h => h.of_heap hh) own started (by kernel_rfl) Tryd.func8
    (ChangeSpec.witness_shaped (enc := enc) (C := Tryd.checked) (os := os) (X := fun w _ => laidMetH Tryd.prog Rows.numPowersGrowRow.laid w) false (World.doorLaid Tryd.prog 62 os) #[.int .i64 0, .int .u8 0] 8 rfl (World.shaped_of_RefB (by kernel_rfl) (by kernel_rfl)) (by kernel_rfl) (by kernel_rfl) (by kernel_rfl) (door_met os _)) ?_
  intro W base args ds gs before hval0 hW _ hsz0 hL _
  have hsz : (DataW.weightsEach Tryd.prog (Tryd.f8.params.toList ++ Rows.numPowersGrowSpec.plain.varTypes Tryd.prog) (ds ++ gs)).all (· ≤ reachBytes) = true := hsz0
  clear hsz0
  have hval : ∀ (j : Nat) t v, Tryd.f8.params[j]? = some t → args[j]? = some v → Value.okWide Tryd.prog W .any base t v := hval0
  have hW' := hW
  obtain ⟨p, q, hA0, hV, rfl, hfz, hnd⟩ := hW
  have hA : DataW.TrodAll enc Tryd.prog W 0 (fun _ => true) true Tryd.f8.params.toList args.toList ds p := hA0
  rw [Tryd.params8] at hA hval hsz

  obtain ⟨v0, vs0, d0, ds0, p0, q0, hargs, rfl, rfl, h0, r0⟩ := trodAll_cons hA
  obtain ⟨v1, vs1, d1, ds1, p1, q1, rfl, rfl, rfl, h1, r1⟩ := trodAll_cons r0
  obtain ⟨rfl, rfl, rfl⟩ := trodAll_nil r1
  obtain rfl : args = #[v0, v1] := by cases args; simp_all
  obtain ⟨rfl, rfl⟩ := trodVars_none hV
  obtain ⟨a0, rfl, rfl, rfl, w0⟩ := open_int Tryd.underlying3 (hval 0 3 v0 rfl rfl) h0
  have b0 := bounds_i64 w0
  obtain ⟨a1, rfl, rfl, rfl, w1⟩ := open_int Tryd.underlying5 (hval 1 5 v1 rfl rfl) h1
  have b1 := bounds_u8 w1
  clear hA0 hval0
  simp only [List.append_nil] at hW'
  refine (walk a0 a1 b0.1 b0.2 b1.1 b1.2 W (env_of_laid hL)).mono fun e W' ⟨he, bel⟩ => ?_
  subst he
  exact ⟨_, rfl, _, _, _, [], _, [], hW', trodAll_mk1 (shut_bool Tryd.underlying4 _), (trodAll_cons_mk (shut_int Tryd.underlying3 w0) (trodAll_cons_mk (shut_int Tryd.underlying5 w1) trodAll_mk0)), rfl, bel.frame _, fun h => by cases h⟩

theorem over : Rows.NumPowersGrowSaid :=
  OpenClaim.holds_of_wide 8 Tryd.f8 rfl rfl rfl rfl rfl rfl rfl ⟨rfl, rfl, rfl, rfl, rfl⟩ rfl rfl rfl rfl rfl (by kernel_rfl) Tryd.func8 (by kernel_rfl)
    (of_decide_eq_true (by kernel_rfl)) (by unfold Func.isWrapper; first | (rw [if_pos (by decide +kernel)]; kernel_rfl) | (rw [if_neg (by decide +kernel)]; exact ⟨rfl, rfl⟩))
    (fun os started H enc _ => lifted os started H enc)
theorem plain (f : FuncId) (fn : Func) (hf : Tryd.pinned.checked.prog.funcNamed "lottery/lotterylaw01.NumPowersGrow" = some f) (hfn : Tryd.pinned.checked.prog.funcs[f]? = some fn) :
    true = Tryd.pinned.checked.prog.looks [] ∧ ∀ (j : Nat) t, fn.params[j]? = some t → Tryd.pinned.checked.prog.wantsStandIn t = false := by
  obtain rfl : f = 8 := Option.some.inj ((show Tryd.prog.funcNamed "lottery/lotterylaw01.NumPowersGrow" = some 8 by kernel_rfl).symm.trans hf) |>.symm
  obtain rfl : fn = Tryd.f8 := (Option.some.inj (Tryd.func8.symm.trans hfn)).symm
  refine ⟨by kernel_rfl, fun j t ht => ?_⟩
  rw [Tryd.params8] at ht
  have ht := Array.mem_of_getElem? ht
  simp only [List.mem_toArray, List.mem_cons, List.not_mem_nil, or_false] at ht
  rcases ht with rfl | rfl

  · exact (show Tryd.prog.wantsStandIn 3 = false by kernel_rfl)
  · exact (show Tryd.prog.wantsStandIn 5 = false by kernel_rfl)
/-- The statement. -/
theorem card : Rows.NumPowersGrowCardSaid :=
  Claim7.holds_tied_plain_at .later [] _ _ _ _ over (fun _ h => by cases h) (by kernel_rfl) (fun _ h => by cases h) numPowersGrow_row_tie rfl ⟨rfl, rfl⟩ (by kernel_rfl) rfl plain (by kernel_rfl)
end Go.Proofs.YtdgficnpppilfaaDoor.numPowersGrow
