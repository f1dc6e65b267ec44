/- CalendarAges (P6.3): for every two ints Age answers what the reference answers, from one day to the next it grows by nothing or one, and an example holds: the law returns true. No condition. -/
import Derived.Test.YtjhkbgdjgiiocaaDoorCalLaid
import Derived.Test.YtjhkbgdjgiiocaaDoorCalAw
namespace Go.Proofs.YtjhkbgdjgiiocaaDoor.calendarAges
set_option maxRecDepth 20000
open Go.RowKit Go.ChangeShapes Go.WideShapes Go.ChangeAt Go.WideElems
open Go.ChangeMaps (open_string shut_string)
set_option linter.unusedVariables false

theorem ages {b n : Int} (h : Cl.ageE b n = 0) (hn : n < 745653) : Cl.ageE b (n + 1) = 0 ∧ Cl.ageV b n ≤ Cl.ageV b (n + 1) ∧ Cl.ageV b (n + 1) ≤ Cl.ageV b n + 1 := by
  have ho : Cl.ageO b n = true := by
    cases hh : Cl.ageO b n
    · unfold Cl.ageE at h; rw [hh] at h; exact absurd (show (2 : Int) = 0 from h) (by decide)
    · rfl
  have h3 : (Cl.isd b = true ∧ Cl.isd n = true) ∧ b ≤ n := by simpa [Cl.ageO] using ho
  obtain ⟨b0, b1⟩ := Cl.isd_iff.1 h3.1.1
  obtain ⟨n0, n1⟩ := Cl.isd_iff.1 h3.1.2
  have ho2 : Cl.ageO b (n + 1) = true := by
    unfold Cl.ageO
    rw [h3.1.1, Cl.isd_iff.2 ⟨by omega, by omega⟩, decide_eq_true (by omega)]; rfl
  unfold Cl.ageE Cl.ageV
  rw [ho, ho2, if_pos rfl, if_pos rfl, if_pos rfl]
  have hx := Cl.age_next (b := b.toNat) (n := n.toNat) (by omega)
  rw [show (n + 1).toNat = n.toNat + 1 by omega]
  omega
theorem ageV_bd (b n : Int) (h : n < 745654) : 0 ≤ Cl.ageV b n ∧ Cl.ageV b n ≤ 5000 := by
  unfold Cl.ageV
  cases ho : Cl.ageO b n
  · exact ⟨Int.le_refl _, by show (0 : Int) ≤ 5000; decide⟩
  · rw [if_pos rfl]
    have h3 : (Cl.isd b = true ∧ Cl.isd n = true) ∧ b ≤ n := by simpa [Cl.ageO] using ho
    obtain ⟨n0, n1⟩ := Cl.isd_iff.1 h3.1.2
    have := Cl.yr_bd (n := n.toNat) (by omega)
    have : Cl.age b.toNat n.toNat ≤ Cl.yr n.toNat := by unfold Cl.age; omega
    omega
theorem walk (b n : Int) (b0 : -9223372036854775808 ≤ b) (b1 : b ≤ 9223372036854775807) (n0 : -9223372036854775808 ≤ n) (n1 : n ≤ 9223372036854775807) (w : World) (hCE : CEnv w) :
    Calls Tryd.prog 5 #[.int .i64 b, .int .i64 n] w fun e w' => e = .returned (.bool true) ∧ Below w.heap.size w w' := by
  have c1 := fun W (hW : Below w.heap.size w W) => cal_Age b n W (hCE.on hW)
  have c2 := fun W => ref6_Age b n W
  have c3 := fun W (hW : Below w.heap.size w W) => cal_Age 31 397 W (hCE.on hW)
  rw [Cl.ev_age.1, Cl.ev_age.2] at c3
  have C3 := Lib.hid c3
  have B0 := Lib.hid (Below.refl w.heap.size w)
  clear c3
  by_cases hE : Cl.ageE b n = 0
  · rw [hE] at c1 c2
    by_cases hn : n < 745653
    · obtain ⟨a1, a2, a3⟩ := ages hE hn
      have c4 := fun W (hW : Below w.heap.size w W) => cal_Age b (n + 1) W (hCE.on hW)
      rw [a1] at c4
      obtain ⟨u0, u1⟩ := ageV_bd b n (by omega)
      obtain ⟨x, ex⟩ : ∃ x : Int, x = Cl.ageV b n := ⟨_, rfl⟩
      obtain ⟨z, ez⟩ : ∃ x : Int, x = Cl.ageV b (n + 1) := ⟨_, rfl⟩
      rw [← ex] at c1 c2 a2 a3 u0 u1
      rw [← ez] at c4 a2 a3
      have C1 := Lib.hid c1
      have C2 := Lib.hid c2
      have C4 := Lib.hid c4
      have g1 : ¬ z < x := by omega
      have g2 : ¬ x + 1 < z := by omega
      clear c1 c2 c4 ex ez a1 hE
      go_enter Tryd.func5, Tryd.ntmps5
      go_wp2_with fail
      refine (C1.out _ B0.out).mono ?_
      rintro e w1 ⟨rfl, E1⟩
      have B1 := Lib.hid (bth B0.out E1)
      clear E1
      go_wp2_with fail
      refine (C2.out _).mono ?_
      rintro e w2 ⟨rfl, E2⟩
      have B2 := Lib.hid (bth B1.out E2)
      clear E2
      go_wp2_with fail
      refine (C3.out _ B2.out).mono ?_
      rintro e w3 ⟨rfl, E3⟩
      have B3 := Lib.hid (bth B2.out E3)
      clear E3
      go_wp2_with fail
      refine (C4.out _ B3.out).mono ?_
      rintro e w4 ⟨rfl, E4⟩
      have B4 := Lib.hid (bth B3.out E4)
      clear E4
      go_wp2_with fail
      go_ret
      exact ⟨rfl, B4.out⟩
    · obtain ⟨x, ex⟩ : ∃ x : Int, x = Cl.ageV b n := ⟨_, rfl⟩
      rw [← ex] at c1 c2
      have C1 := Lib.hid c1
      have C2 := Lib.hid c2
      clear c1 c2 ex hE
      go_enter Tryd.func5, Tryd.ntmps5
      go_wp2_with fail
      refine (C1.out _ B0.out).mono ?_
      rintro e w1 ⟨rfl, E1⟩
      have B1 := Lib.hid (bth B0.out E1)
      clear E1
      go_wp2_with fail
      refine (C2.out _).mono ?_
      rintro e w2 ⟨rfl, E2⟩
      have B2 := Lib.hid (bth B1.out E2)
      clear E2
      go_wp2_with fail
      refine (C3.out _ B2.out).mono ?_
      rintro e w3 ⟨rfl, E3⟩
      have B3 := Lib.hid (bth B2.out E3)
      clear E3
      go_wp2_with fail
      go_ret
      exact ⟨rfl, B3.out⟩
  · obtain ⟨x, ex⟩ : ∃ x : Int, x = Cl.ageV b n := ⟨_, rfl⟩
    obtain ⟨g, eg⟩ : ∃ x : Int, x = Cl.ageE b n := ⟨_, rfl⟩
    rw [← ex, ← eg] at c1 c2
    rw [← eg] at hE
    have hg : (g == 0) = false := by simpa using hE
    have C1 := Lib.hid c1
    have C2 := Lib.hid c2
    clear c1 c2 ex eg
    go_enter Tryd.func5, Tryd.ntmps5
    go_wp2_with fail
    refine (C1.out _ B0.out).mono ?_
    rintro e w1 ⟨rfl, E1⟩
    have B1 := Lib.hid (bth B0.out E1)
    clear E1
    go_wp2_with fail
    refine (C2.out _).mono ?_
    rintro e w2 ⟨rfl, E2⟩
    have B2 := Lib.hid (bth B1.out E2)
    clear E2
    go_wp2_with fail
    refine (C3.out _ B2.out).mono ?_
    rintro e w3 ⟨rfl, E3⟩
    have B3 := Lib.hid (bth B2.out E3)
    clear E3
    go_wp2_with fail
    go_ret
    exact ⟨rfl, B3.out⟩

/-! ### The row's step, the row, the card -/
set_option maxRecDepth 100000 in
theorem lifted (os : Os) (started : os.Started) (H : Type) (enc : TypeId × Value → H) :
    ReturnsInHanded {} Tryd.checked os 5 .any (fun w args => (Rows.calendarAgesSpec.pre enc Tryd.prog Tryd.f5 Rows.calendarAgesRow.domain false w args ∧ laidMetH Tryd.prog Rows.calendarAgesRow.laid w) ∧ sizedMet enc Tryd.prog Tryd.f5 (OpenSpec.ofChange Rows.calendarAgesSpec) false w args)
      (Rows.calendarAgesSpec.post enc Tryd.prog Tryd.f5 false true false false) := by
  refine returnsInHanded_of_change_and (C := Tryd.checked) (X := fun w _ => laidMetH Tryd.prog Rows.calendarAgesRow.laid w) (fun _ _ _ hh h => h.of_heap hh) own started (by kernel_rfl) Tryd.func5
    (ChangeSpec.witness_shaped (enc := enc) (C := Tryd.checked) (os := os) (X := fun w _ => laidMetH Tryd.prog Rows.calendarAgesRow.laid w) false (World.doorLaid Tryd.prog 29 os) #[.int .i64 0, .int .i64 0] 8 rfl (World.shaped_of_RefB (by kernel_rfl) (by kernel_rfl)) (by kernel_rfl) (by kernel_rfl) (by kernel_rfl) (calmet os _)) ?_
  intro W base args ds gs before hval0 hW _ hsz0 hL _
  have hsz : (DataW.weightsEach Tryd.prog (Tryd.f5.params.toList ++ Rows.calendarAgesSpec.plain.varTypes Tryd.prog) (ds ++ gs)).all (· ≤ reachBytes) = true := hsz0
  clear hsz0
  have hval : ∀ (j : Nat) t v, Tryd.f5.params[j]? = some t → args[j]? = some v → Value.okWide Tryd.prog W .any base t v := hval0
  have hW' := hW
  obtain ⟨p, q, hA0, hV, rfl, hfz, hnd⟩ := hW
  have hA : DataW.TrodAll enc Tryd.prog W 0 (fun _ => true) true Tryd.f5.params.toList args.toList ds p := hA0
  rw [Tryd.params5] at hA hval hsz

  obtain ⟨v0, vs0, d0, ds0, p0, q0, hargs, rfl, rfl, h0, r0⟩ := trodAll_cons hA
  obtain ⟨v1, vs1, d1, ds1, p1, q1, rfl, rfl, rfl, h1, r1⟩ := trodAll_cons r0
  obtain ⟨rfl, rfl, rfl⟩ := trodAll_nil r1
  obtain rfl : args = #[v0, v1] := by cases args; simp_all
  obtain ⟨rfl, rfl⟩ := trodVars_none hV
  obtain ⟨a0, rfl, rfl, rfl, w0⟩ := open_int Tryd.underlying3 (hval 0 3 v0 rfl rfl) h0
  have b0 := bounds_i64 w0
  obtain ⟨a1, rfl, rfl, rfl, w1⟩ := open_int Tryd.underlying3 (hval 1 3 v1 rfl rfl) h1
  have b1 := bounds_i64 w1
  clear hA0 hval0
  simp only [List.append_nil] at hW'
  refine (walk a0 a1 b0.1 b0.2 b1.1 b1.2 W (calenv hL) ).mono fun e W' ⟨he, bel⟩ => ?_
  subst he
  exact ⟨_, rfl, _, _, _, [], _, [], hW', trodAll_mk1 (shut_bool Tryd.underlying4 _), (trodAll_cons_mk (shut_int Tryd.underlying3 w0) (trodAll_cons_mk (shut_int Tryd.underlying3 w1) trodAll_mk0)), rfl, bel.frame _, fun h => by cases h⟩

theorem over : Rows.CalendarAgesSaid :=
  OpenClaim.holds_of_wide 5 Tryd.f5 rfl rfl rfl rfl rfl rfl rfl ⟨rfl, rfl, rfl, rfl, rfl⟩ rfl rfl rfl rfl rfl (by kernel_rfl) Tryd.func5 (by kernel_rfl)
    (of_decide_eq_true (by kernel_rfl)) (by unfold Func.isWrapper; first | (rw [if_pos (by decide +kernel)]; kernel_rfl) | (rw [if_neg (by decide +kernel)]; exact ⟨rfl, rfl⟩))
    (fun os started H enc _ => lifted os started H enc)
theorem plain (f : FuncId) (fn : Func) (hf : Tryd.pinned.checked.prog.funcNamed "lottery/lotterylaw06.CalendarAges" = some f) (hfn : Tryd.pinned.checked.prog.funcs[f]? = some fn) :
    false = Tryd.pinned.checked.prog.looks [] ∧ ∀ (j : Nat) t, fn.params[j]? = some t → Tryd.pinned.checked.prog.wantsStandIn t = false := by
  obtain rfl : f = 5 := Option.some.inj ((show Tryd.prog.funcNamed "lottery/lotterylaw06.CalendarAges" = some 5 by kernel_rfl).symm.trans hf) |>.symm
  obtain rfl : fn = Tryd.f5 := (Option.some.inj (Tryd.func5.symm.trans hfn)).symm
  refine ⟨by kernel_rfl, fun j t ht => ?_⟩
  rw [Tryd.params5] at ht
  have ht := Array.mem_of_getElem? ht
  simp only [List.mem_toArray, List.mem_cons, List.not_mem_nil, or_false] at ht
  rcases ht with rfl | rfl

  · exact (show Tryd.prog.wantsStandIn 3 = false by kernel_rfl)
  · exact (show Tryd.prog.wantsStandIn 3 = false by kernel_rfl)
/-- The statement. -/
theorem card : Rows.CalendarAgesCardSaid :=
  Claim7.holds_tied_plain_at .later [] _ _ _ _ over (fun _ h => by cases h) (by kernel_rfl) (fun _ h => by cases h) calendarAges_row_tie rfl ⟨rfl, rfl⟩ (by kernel_rfl) rfl plain (by kernel_rfl)
end Go.Proofs.YtjhkbgdjgiiocaaDoor.calendarAges
