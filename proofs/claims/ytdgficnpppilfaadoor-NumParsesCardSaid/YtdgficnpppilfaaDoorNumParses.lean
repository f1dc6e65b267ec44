/- NumParses (P1.5, P1.8): for every string, Parse returns the reference's number and error, and Format of an accepted text's number is the text, and the chapter's examples hold: the law returns true. No condition beyond the row's own list of the library's tables and error variables. -/
import Derived.Test.YtdgficnpppilfaaDoorLaid
namespace Go.Proofs.YtdgficnpppilfaaDoor.numParses
open Go.RowKit Go.ChangeShapes Go.WideShapes Go.ChangeAt Go.WideElems
open Go.ChangeMaps (open_string shut_string)
set_option linter.unusedVariables false

theorem par_ok {l : List UInt8} (h : Nm.parE l = 0) : Lib.itoa (Nm.parV l) = l := by
  cases hd : Nm.dec l with
  | false => rw [Nm.parE, hd] at h; cases h
  | true =>
    rw [Nm.parE, hd, if_pos rfl] at h
    cases hf : Nm.fits (Nm.num l) with
    | false => rw [← Nm.ce_not hf] at h; cases h
    | true => rw [Nm.parV, hd, if_pos rfl, Nm.cv_in ((Nm.fits_iff _).1 hf), Nm.dec_itoa hd]
theorem par_bd (l : List UInt8) : -9223372036854775808 ≤ Nm.parV l ∧ Nm.parV l ≤ 9223372036854775807 := by
  unfold Nm.parV; split
  · exact Nm.cv_bd _
  · constructor <;> decide
theorem walk (s : ByteArray) (hs : s.size ≤ 140737488351232) (w : World) (hE : Env w) :
    Calls Tryd.prog 10 #[.string s] w fun e w' => e = .returned (.bool true) ∧ Below w.heap.size w w' := by
  have HE := Lib.hid hE
  clear hE
  have c1 := fun w he => num_Parse s (by omega) w he
  have c2 := fun w => ref_Parse s (by omega) w
  obtain ⟨v0, v1⟩ := par_bd s.data.toList
  have hok := @par_ok s.data.toList
  generalize Nm.parV s.data.toList = V at *
  generalize Nm.parE s.data.toList = E at *
  have C1 := Lib.hid c1
  have C2 := Lib.hid c2
  have HOK := Lib.hid hok
  clear c1 c2 hok
  go_enter Tryd.func10, Tryd.ntmps10
  go_wp2_with fail
  refine (C1.out _ HE.out.here.2).mono ?_
  rintro e w1 ⟨rfl, h1⟩
  go_wp2_with fail
  refine (C2.out _).mono ?_
  rintro e w' ⟨rfl, rfl⟩
  by_cases hz : E = 0
  · have C3 := Lib.hid (fun w ht => num_Format V v0 v1 w ht)
    have hl := HOK.out hz
    have hS : (⟨(Lib.itoa V).toArray⟩ : ByteArray) = s := by rw [hl]
    rw [hS] at C3
    clear hl hS
    subst hz
    go_wp2_with fail
    refine (C3.out _ (HE.out.on h1).here.1).mono ?_
    rintro e w2 ⟨rfl, h2⟩
    have h2 := below_then h1 h2
    go_wp2_with fail
    refine (law_awake _ (HE.out.on h2)).mono ?_
    rintro e w3 ⟨rfl, h3⟩
    go_wp2_with fail
    go_ret
    exact ⟨rfl, below_then h2 h3⟩
  · have hzb : (E != 0) = true := by simpa using hz
    go_wp2_with fail
    refine (law_awake _ (HE.out.on h1)).mono ?_
    rintro e w3 ⟨rfl, h3⟩
    go_wp2_with fail
    go_ret
    exact ⟨rfl, below_then h1 h3⟩

/-! ### The row's step, the row, the card -/
set_option maxRecDepth 100000 in
theorem lifted (os : Os) (started : os.Started) (H : Type) (enc : TypeId × Value → H) :
    ReturnsInHanded {} Tryd.checked os 10 .any (fun w args => (Rows.numParsesSpec.pre enc Tryd.prog Tryd.f10 Rows.numParsesRow.domain false w args ∧ laidMetH Tryd.prog Rows.numParsesRow.laid w) ∧ sizedMet enc Tryd.prog Tryd.f10 (OpenSpec.ofChange Rows.numParsesSpec) false w args)
      (Rows.numParsesSpec.post enc Tryd.prog Tryd.f10 false true false false) := by
  refine returnsInHanded_of_change_and (C := Tryd.checked) (X := fun w _ => laidMetH Tryd.prog Rows.numParsesRow.laid w) (fun _ _ _ hh h => h.of_heap hh) own started (by kernel_rfl) Tryd.func10
    (ChangeSpec.witness_shaped (enc := enc) (C := Tryd.checked) (os := os) (X := fun w _ => laidMetH Tryd.prog Rows.numParsesRow.laid w) false (World.doorLaid Tryd.prog 62 os) #[.string ByteArray.empty] 8 rfl (World.shaped_of_RefB (by kernel_rfl) (by kernel_rfl)) (by kernel_rfl) (by kernel_rfl) (by kernel_rfl) (door_met os _)) ?_
  intro W base args ds gs before hval0 hW _ hsz0 hL _
  have hsz : (DataW.weightsEach Tryd.prog (Tryd.f10.params.toList ++ Rows.numParsesSpec.plain.varTypes Tryd.prog) (ds ++ gs)).all (· ≤ reachBytes) = true := hsz0
  clear hsz0
  have hval : ∀ (j : Nat) t v, Tryd.f10.params[j]? = some t → args[j]? = some v → Value.okWide Tryd.prog W .any base t v := hval0
  have hW' := hW
  obtain ⟨p, q, hA0, hV, rfl, hfz, hnd⟩ := hW
  have hA : DataW.TrodAll enc Tryd.prog W 0 (fun _ => true) true Tryd.f10.params.toList args.toList ds p := hA0
  rw [Tryd.params10] at hA hval hsz

  obtain ⟨v0, vs0, d0, ds0, p0, q0, hargs, rfl, rfl, h0, r0⟩ := trodAll_cons hA
  obtain ⟨rfl, rfl, rfl⟩ := trodAll_nil r0
  obtain rfl : args = #[v0] := by cases args; simp_all
  obtain ⟨rfl, rfl⟩ := trodVars_none hV
  obtain ⟨a0, rfl, rfl, rfl, w0⟩ := open_string Tryd.underlying9 (hval 0 9 v0 rfl rfl) h0
  have b0 : a0.size ≤ 140737488351232 := by
    have h1 := sized_string hsz (j := 0) (t := 9) rfl rfl
    have h2 : reachBytes = 140737488351232 := by decide
    rw [Lib.size_eq]; omega
  clear hA0 hval0
  simp only [List.append_nil] at hW'
  refine (walk a0 b0 W (env_of_laid hL)).mono fun e W' ⟨he, bel⟩ => ?_
  subst he
  exact ⟨_, rfl, _, _, _, [], _, [], hW', trodAll_mk1 (shut_bool Tryd.underlying4 _), (trodAll_cons_mk (shut_string Tryd.underlying9 w0) trodAll_mk0), rfl, bel.frame _, fun h => by cases h⟩

theorem over : Rows.NumParsesSaid :=
  OpenClaim.holds_of_wide 10 Tryd.f10 rfl rfl rfl rfl rfl rfl rfl ⟨rfl, rfl, rfl, rfl, rfl⟩ rfl rfl rfl rfl rfl (by kernel_rfl) Tryd.func10 (by kernel_rfl)
    (of_decide_eq_true (by kernel_rfl)) (by unfold Func.isWrapper; first | (rw [if_pos (by decide +kernel)]; kernel_rfl) | (rw [if_neg (by decide +kernel)]; exact ⟨rfl, rfl⟩))
    (fun os started H enc _ => lifted os started H enc)
theorem plain (f : FuncId) (fn : Func) (hf : Tryd.pinned.checked.prog.funcNamed "lottery/lotterylaw01.NumParses" = some f) (hfn : Tryd.pinned.checked.prog.funcs[f]? = some fn) :
    true = Tryd.pinned.checked.prog.looks [] ∧ ∀ (j : Nat) t, fn.params[j]? = some t → Tryd.pinned.checked.prog.wantsStandIn t = false := by
  obtain rfl : f = 10 := Option.some.inj ((show Tryd.prog.funcNamed "lottery/lotterylaw01.NumParses" = some 10 by kernel_rfl).symm.trans hf) |>.symm
  obtain rfl : fn = Tryd.f10 := (Option.some.inj (Tryd.func10.symm.trans hfn)).symm
  refine ⟨by kernel_rfl, fun j t ht => ?_⟩
  rw [Tryd.params10] at ht
  have ht := Array.mem_of_getElem? ht
  simp only [List.mem_toArray, List.mem_cons, List.not_mem_nil, or_false] at ht
  rcases ht with rfl

  · exact (show Tryd.prog.wantsStandIn 9 = false by kernel_rfl)
/-- The statement. -/
theorem card : Rows.NumParsesCardSaid :=
  Claim7.holds_tied_plain_at .later [] _ _ _ _ over (fun _ h => by cases h) (by kernel_rfl) (fun _ h => by cases h) numParses_row_tie rfl ⟨rfl, rfl⟩ (by kernel_rfl) rfl plain (by kernel_rfl)
end Go.Proofs.YtdgficnpppilfaaDoor.numParses
