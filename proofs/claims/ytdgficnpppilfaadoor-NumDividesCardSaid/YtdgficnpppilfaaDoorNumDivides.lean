/- NumDivides (P1.2, P1.7): for every three ints, the remainder is below the divisor, quotient times divisor plus remainder is the whole product, in 128 bits, and the quotient overflows exactly if the product is at least 2^63 times the divisor, and the chapter's examples hold: the law returns true. No condition beyond the row's own list of the library's tables and error variables. -/
import Derived.Test.YtdgficnpppilfaaDoorLaid
namespace Go.Proofs.YtdgficnpppilfaaDoor.numDivides
open Go.RowKit Go.ChangeShapes Go.WideShapes Go.ChangeAt Go.WideElems
open Go.ChangeMaps (open_string shut_string)
set_option linter.unusedVariables false

theorem over_iff {p c : Int} (hc : 0 < c) : c * 9223372036854775808 ≤ p ↔ 9223372036854775807 < p / c := by
  have h := @Int.le_ediv_iff_mul_le 9223372036854775808 p c hc
  rw [Int.mul_comm] at h
  omega
theorem lex_le {h l h' l' : Int} (l0 : 0 ≤ l) (l1 : l < 18446744073709551616) (m0 : 0 ≤ l') (m1 : l' < 18446744073709551616) :
    h * 18446744073709551616 + l ≤ h' * 18446744073709551616 + l' ↔ (h < h' ∨ (h = h' ∧ l ≤ l')) := by omega
set_option maxHeartbeats 1000000 in
theorem walk (a b c : Int) (ha0 : -9223372036854775808 ≤ a) (ha1 : a ≤ 9223372036854775807) (hb0 : -9223372036854775808 ≤ b) (hb1 : b ≤ 9223372036854775807) (hc0 : -9223372036854775808 ≤ c) (hc1 : c ≤ 9223372036854775807) (w : World) (hE : Env w) :
    Calls Tryd.prog 6 #[.int .i64 a, .int .i64 b, .int .i64 c] w fun e w' => e = .returned (.bool true) ∧ Below w.heap.size w w' := by
  have HE := Lib.hid hE
  clear hE
  have c1 := fun w => num_MulDiv a b c ha0 ha1 hb0 hb1 hc0 hc1 w
  by_cases hneg : a < 0 ∨ b < 0 ∨ c ≤ 0
  · obtain ⟨E, hE0, hQ, hR⟩ : ∃ E, (Nm.mdE a b c = E ∧ E ≠ 0) ∧ Nm.mdQ a b c = 0 ∧ Nm.mdR a b c = 0 := by
      by_cases hz : c = 0
      · obtain ⟨e1, e2, e3⟩ := Nm.md_zero (a := a) (b := b) hz
        exact ⟨10, ⟨e1, by decide⟩, e2, e3⟩
      · obtain ⟨e1, e2, e3⟩ := Nm.md_range (a := a) (b := b) hz (by omega)
        exact ⟨2, ⟨e1, by decide⟩, e2, e3⟩
    obtain ⟨hE1, hE2⟩ := hE0
    rw [hE1, hQ, hR] at c1
    have C1 := Lib.hid c1
    have hE3 : (E != 0) = true := by simpa using hE2
    clear c1 hE1 hQ hR
    have fin : ∀ w1, Below w.heap.size w w1 → Calls Tryd.prog 18 #[] w1 fun e w' => e = .returned (.bool true) ∧ Below w.heap.size w w' := fun w1 h1 =>
      (law_awake _ (HE.out.on h1)).mono fun _ _ ⟨he, hb⟩ => ⟨he, below_then h1 hb⟩
    have FIN := Lib.hid fin
    clear fin
    by_cases h1 : a < 0
    · clear hneg
      go_enter Tryd.func6, Tryd.ntmps6
      go_wp2_with fail
      refine (C1.out _).mono ?_
      rintro e w1 ⟨rfl, h1⟩
      go_wp2_with fail
      refine (FIN.out _ h1).mono ?_
      rintro e w2 ⟨rfl, h2⟩
      go_wp2_with fail
      go_ret
      exact ⟨rfl, h2⟩
    · by_cases h2 : b < 0
      · clear hneg
        go_enter Tryd.func6, Tryd.ntmps6
        go_wp2_with fail
        refine (C1.out _).mono ?_
        rintro e w1 ⟨rfl, h1⟩
        go_wp2_with fail
        refine (FIN.out _ h1).mono ?_
        rintro e w2 ⟨rfl, h2⟩
        go_wp2_with fail
        go_ret
        exact ⟨rfl, h2⟩
      · have h3 : c ≤ 0 := by omega
        clear hneg
        go_enter Tryd.func6, Tryd.ntmps6
        go_wp2_with fail
        refine (C1.out _).mono ?_
        rintro e w1 ⟨rfl, h1⟩
        go_wp2_with fail
        refine (FIN.out _ h1).mono ?_
        rintro e w2 ⟨rfl, h2⟩
        go_wp2_with fail
        go_ret
        exact ⟨rfl, h2⟩
  · have ha : 0 ≤ a := by omega
    have hb : 0 ≤ b := by omega
    have hc : 0 < c := by omega
    clear hneg
    have fin : ∀ w1, Below w.heap.size w w1 → Calls Tryd.prog 18 #[] w1 fun e w' => e = .returned (.bool true) ∧ Below w.heap.size w w' := fun w1 h1 =>
      (law_awake _ (HE.out.on h1)).mono fun _ _ ⟨he, hb⟩ => ⟨he, below_then h1 hb⟩
    have FIN := Lib.hid fin
    clear fin
    by_cases ho : c * 9223372036854775808 ≤ a * b
    · obtain ⟨e1, e2, e3⟩ := Nm.md_over hc ha hb ((over_iff hc).1 ho)
      rw [e1, e2, e3] at c1
      have C1 := Lib.hid c1
      have HO := Lib.hid ho
      clear c1 e1 e2 e3 ho
      go_enter Tryd.func6, Tryd.ntmps6
      go_wp2_with fail
      refine (C1.out _).mono ?_
      rintro e w1 ⟨rfl, h1⟩
      go_wp2_with fail
      refine (law_wide2 a b (by omega) (by omega) (by omega) (by omega) _).mono ?_
      rintro e w' ⟨hi, lo, rfl, rfl, g0, g1, l0, l1, HK⟩
      go_wp2_with fail
      refine (law_wide2 c 9223372036854775808 (by omega) (by omega) (by omega) (by omega) _).mono ?_
      rintro e w' ⟨top, low, rfl, rfl, t0, t1, m0, m1, HT⟩
      have hlex : top < hi ∨ (top = hi ∧ low ≤ lo) := (lex_le m0 m1 l0 l1).1 (by rw [HT.out, HK.out]; exact HO.out)
      by_cases hlt : top < hi
      · clear hlex
        go_wp2_with fail
        refine (FIN.out _ h1).mono ?_
        rintro e w2 ⟨rfl, h2⟩
        go_wp2_with fail
        go_ret
        exact ⟨rfl, h2⟩
      · obtain ⟨heq, hle⟩ : top = hi ∧ low ≤ lo := hlex.resolve_left hlt
        subst heq
        clear hlex hlt
        go_wp2_with fail
        refine (FIN.out _ h1).mono ?_
        rintro e w2 ⟨rfl, h2⟩
        go_wp2_with fail
        go_ret
        exact ⟨rfl, h2⟩
    · have hno : a * b / c ≤ 9223372036854775807 := by
        have := mt (over_iff (p := a * b) hc).2 ho
        omega
      obtain ⟨e1, e2, e3⟩ := Nm.md_ok hc ha hb hno
      have q0 : 0 ≤ a * b / c := Int.ediv_nonneg (Nm.mul_nn ha hb) (by omega)
      have r0 : 0 ≤ a * b % c := Int.emod_nonneg _ (by omega)
      have r1 : a * b % c < c := Int.emod_lt_of_pos _ hc
      have hqr : a * b / c * c + a * b % c = a * b := by rw [Int.mul_comm]; exact Int.mul_ediv_add_emod _ _
      rw [e1, e2, e3] at c1
      generalize a * b / c = Q at *
      generalize a * b % c = R at *
      have C1 := Lib.hid c1
      have HO := Lib.hid ho
      have HQR := Lib.hid hqr
      clear c1 e1 e2 e3 ho hqr
      go_enter Tryd.func6, Tryd.ntmps6
      go_wp2_with fail
      refine (C1.out _).mono ?_
      rintro e w1 ⟨rfl, h1⟩
      go_wp2_with fail
      refine (law_wide2 a b (by omega) (by omega) (by omega) (by omega) _).mono ?_
      rintro e w' ⟨hi, lo, rfl, rfl, g0, g1, l0, l1, HK⟩
      go_wp2_with fail
      refine (law_wide2 c 9223372036854775808 (by omega) (by omega) (by omega) (by omega) _).mono ?_
      rintro e w' ⟨top, low, rfl, rfl, t0, t1, m0, m1, HT⟩
      have hlex : ¬ (top < hi ∨ (top = hi ∧ low ≤ lo)) := fun h => by
        have h1 := (lex_le (h := top) (h' := hi) m0 m1 l0 l1).2 h
        rw [HT.out, HK.out] at h1
        have h2 := HO.out
        omega
      by_cases heq : top = hi
      · subst heq
        have hle : lo < low := by omega
        clear hlex
        go_wp2_with fail
        refine (law_wide2 Q c q0 (by omega) (by omega) (by omega) _).mono ?_
        rintro e w' ⟨x, y, rfl, rfl, x0, x1, y0, y1, HX⟩
        have hk : x * 18446744073709551616 + y + R = top * 18446744073709551616 + lo := by rw [HX.out, HK.out, HQR.out]
        by_cases hs : y + R < 18446744073709551616
        · have e1 : (x == top) = true := by rw [beq_iff_eq]; omega
          have e2 : (y + R == lo) = true := by rw [beq_iff_eq]; omega
          clear hk
          go_wp2_with fail
          refine (FIN.out _ h1).mono ?_
          rintro e w2 ⟨rfl, h2⟩
          go_wp2_with fail
          go_ret
          exact ⟨rfl, h2⟩
        · have hw : IntKind.u64.wrap (y + R) = y + R - 18446744073709551616 := by rw [IntKind.wrap_u64]; omega
          have e0 : IntKind.u64.wrap (y + R) < y := by omega
          have e1 : (x + 1 == top) = true := by rw [beq_iff_eq]; omega
          have e2 : (IntKind.u64.wrap (y + R) == lo) = true := by rw [beq_iff_eq]; omega
          have e3 : x + 1 < 18446744073709551616 := by omega
          clear hk hw
          go_wp2_with fail
          refine (FIN.out _ h1).mono ?_
          rintro e w2 ⟨rfl, h2⟩
          go_wp2_with fail
          go_ret
          exact ⟨rfl, h2⟩
      · have hlt : hi < top := by omega
        have heqb : (top == hi) = false := by simpa using heq
        clear hlex
        go_wp2_with fail
        refine (law_wide2 Q c q0 (by omega) (by omega) (by omega) _).mono ?_
        rintro e w' ⟨x, y, rfl, rfl, x0, x1, y0, y1, HX⟩
        have hk : x * 18446744073709551616 + y + R = hi * 18446744073709551616 + lo := by rw [HX.out, HK.out, HQR.out]
        by_cases hs : y + R < 18446744073709551616
        · have e1 : (x == hi) = true := by rw [beq_iff_eq]; omega
          have e2 : (y + R == lo) = true := by rw [beq_iff_eq]; omega
          clear hk
          go_wp2_with fail
          refine (FIN.out _ h1).mono ?_
          rintro e w2 ⟨rfl, h2⟩
          go_wp2_with fail
          go_ret
          exact ⟨rfl, h2⟩
        · have hw : IntKind.u64.wrap (y + R) = y + R - 18446744073709551616 := by rw [IntKind.wrap_u64]; omega
          have e0 : IntKind.u64.wrap (y + R) < y := by omega
          have e1 : (x + 1 == hi) = true := by rw [beq_iff_eq]; omega
          have e2 : (IntKind.u64.wrap (y + R) == lo) = true := by rw [beq_iff_eq]; omega
          have e3 : x + 1 < 18446744073709551616 := by omega
          clear hk hw
          go_wp2_with fail
          refine (FIN.out _ h1).mono ?_
          rintro e w2 ⟨rfl, h2⟩
          go_wp2_with fail
          go_ret
          exact ⟨rfl, h2⟩

/-! ### The row's step, the row, the card -/
set_option maxRecDepth 100000 in
theorem lifted (os : Os) (started : os.Started) (H : Type) (enc : TypeId × Value → H) :
    ReturnsInHanded {} Tryd.checked os 6 .any (fun w args => (Rows.numDividesSpec.pre enc Tryd.prog Tryd.f6 Rows.numDividesRow.domain false w args ∧ laidMetH Tryd.prog Rows.numDividesRow.laid w) ∧ sizedMet enc Tryd.prog Tryd.f6 (OpenSpec.ofChange Rows.numDividesSpec) false w args)
      (Rows.numDividesSpec.post enc Tryd.prog Tryd.f6 false true false false) := by
  refine returnsInHanded_of_change_and (C := Tryd.checked) (X := fun w _ => laidMetH Tryd.prog Rows.numDividesRow.laid w) (fun _ _ _ hh h => h.of_heap hh) own started (by kernel_rfl) Tryd.func6
    (ChangeSpec.witness_shaped (enc := enc) (C := Tryd.checked) (os := os) (X := fun w _ => laidMetH Tryd.prog Rows.numDividesRow.laid w) false (World.doorLaid Tryd.prog 62 os) #[.int .i64 0, .int .i64 0, .int .i64 0] 8 rfl (World.shaped_of_RefB (by kernel_rfl) (by kernel_rfl)) (by kernel_rfl) (by kernel_rfl) (by kernel_rfl) (door_met os _)) ?_
  intro W base args ds gs before hval0 hW _ hsz0 hL _
  have hsz : (DataW.weightsEach Tryd.prog (Tryd.f6.params.toList ++ Rows.numDividesSpec.plain.varTypes Tryd.prog) (ds ++ gs)).all (· ≤ reachBytes) = true := hsz0
  clear hsz0
  have hval : ∀ (j : Nat) t v, Tryd.f6.params[j]? = some t → args[j]? = some v → Value.okWide Tryd.prog W .any base t v := hval0
  have hW' := hW
  obtain ⟨p, q, hA0, hV, rfl, hfz, hnd⟩ := hW
  have hA : DataW.TrodAll enc Tryd.prog W 0 (fun _ => true) true Tryd.f6.params.toList args.toList ds p := hA0
  rw [Tryd.params6] at hA hval hsz

  obtain ⟨v0, vs0, d0, ds0, p0, q0, hargs, rfl, rfl, h0, r0⟩ := trodAll_cons hA
  obtain ⟨v1, vs1, d1, ds1, p1, q1, rfl, rfl, rfl, h1, r1⟩ := trodAll_cons r0
  obtain ⟨v2, vs2, d2, ds2, p2, q2, rfl, rfl, rfl, h2, r2⟩ := trodAll_cons r1
  obtain ⟨rfl, rfl, rfl⟩ := trodAll_nil r2
  obtain rfl : args = #[v0, v1, v2] := by cases args; simp_all
  obtain ⟨rfl, rfl⟩ := trodVars_none hV
  obtain ⟨a0, rfl, rfl, rfl, w0⟩ := open_int Tryd.underlying3 (hval 0 3 v0 rfl rfl) h0
  have b0 := bounds_i64 w0
  obtain ⟨a1, rfl, rfl, rfl, w1⟩ := open_int Tryd.underlying3 (hval 1 3 v1 rfl rfl) h1
  have b1 := bounds_i64 w1
  obtain ⟨a2, rfl, rfl, rfl, w2⟩ := open_int Tryd.underlying3 (hval 2 3 v2 rfl rfl) h2
  have b2 := bounds_i64 w2
  clear hA0 hval0
  simp only [List.append_nil] at hW'
  refine (walk a0 a1 a2 b0.1 b0.2 b1.1 b1.2 b2.1 b2.2 W (env_of_laid hL)).mono fun e W' ⟨he, bel⟩ => ?_
  subst he
  exact ⟨_, rfl, _, _, _, [], _, [], hW', trodAll_mk1 (shut_bool Tryd.underlying4 _), (trodAll_cons_mk (shut_int Tryd.underlying3 w0) (trodAll_cons_mk (shut_int Tryd.underlying3 w1) (trodAll_cons_mk (shut_int Tryd.underlying3 w2) trodAll_mk0))), rfl, bel.frame _, fun h => by cases h⟩

theorem over : Rows.NumDividesSaid :=
  OpenClaim.holds_of_wide 6 Tryd.f6 rfl rfl rfl rfl rfl rfl rfl ⟨rfl, rfl, rfl, rfl, rfl⟩ rfl rfl rfl rfl rfl (by kernel_rfl) Tryd.func6 (by kernel_rfl)
    (of_decide_eq_true (by kernel_rfl)) (by unfold Func.isWrapper; first | (rw [if_pos (by decide +kernel)]; kernel_rfl) | (rw [if_neg (by decide +kernel)]; exact ⟨rfl, rfl⟩))
    (fun os started H enc _ => lifted os started H enc)
theorem plain (f : FuncId) (fn : Func) (hf : Tryd.pinned.checked.prog.funcNamed "lottery/lotterylaw01.NumDivides" = some f) (hfn : Tryd.pinned.checked.prog.funcs[f]? = some fn) :
    true = Tryd.pinned.checked.prog.looks [] ∧ ∀ (j : Nat) t, fn.params[j]? = some t → Tryd.pinned.checked.prog.wantsStandIn t = false := by
  obtain rfl : f = 6 := Option.some.inj ((show Tryd.prog.funcNamed "lottery/lotterylaw01.NumDivides" = some 6 by kernel_rfl).symm.trans hf) |>.symm
  obtain rfl : fn = Tryd.f6 := (Option.some.inj (Tryd.func6.symm.trans hfn)).symm
  refine ⟨by kernel_rfl, fun j t ht => ?_⟩
  rw [Tryd.params6] at ht
  have ht := Array.mem_of_getElem? ht
  simp only [List.mem_toArray, List.mem_cons, List.not_mem_nil, or_false] at ht
  rcases ht with rfl | rfl | rfl

  · exact (show Tryd.prog.wantsStandIn 3 = false by kernel_rfl)
  · exact (show Tryd.prog.wantsStandIn 3 = false by kernel_rfl)
  · exact (show Tryd.prog.wantsStandIn 3 = false by kernel_rfl)
/-- The statement. -/
theorem card : Rows.NumDividesCardSaid :=
  Claim7.holds_tied_plain_at .later [] _ _ _ _ over (fun _ h => by cases h) (by kernel_rfl) (fun _ h => by cases h) numDivides_row_tie rfl ⟨rfl, rfl⟩ (by kernel_rfl) rfl plain (by kernel_rfl)
end Go.Proofs.YtdgficnpppilfaaDoor.numDivides
