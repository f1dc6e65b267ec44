/- CombHits (P5.2): for every four ints Hits answers the number or the error of the reference, and the chapter's examples hold: the law returns true. No condition. -/
import Derived.Test.YtfjnpmkklanopaaOwn
import Derived.Test.YtfjnpmkklanopaaCombAw
namespace Go.Proofs.Ytfjnpmkklanopaa.combHits
set_option maxRecDepth 20000
open Go.RowKit Go.ChangeShapes Go.WideShapes Go.ChangeAt Go.WideElems
open Go.ChangeMaps (open_string shut_string)
set_option linter.unusedVariables false

theorem walk (n k d h : Int) (n0 : -9223372036854775808 ≤ n) (n1 : n ≤ 9223372036854775807) (k0 : -9223372036854775808 ≤ k) (k1 : k ≤ 9223372036854775807) (d0 : -9223372036854775808 ≤ d) (d1 : d ≤ 9223372036854775807) (h0 : -9223372036854775808 ≤ h) (h1 : h ≤ 9223372036854775807) (w : World) :
    Calls Try.prog 4 #[.agg #[.int .i64 n, .int .i64 k, .int .i64 d, .int .i64 h]] w fun e w' => e = .returned (.bool true) ∧ Below w.heap.size w w' := by
  have c1 := fun W => comb_Hits n k d h n0 n1 k0 k1 d0 d1 h0 h1 W
  have c2 := fun W => ref5_Hits n k d h k0 k1 h0 h1 W
  obtain ⟨x, ex⟩ : ∃ x, x = Cb.hitV n k d h := ⟨_, rfl⟩
  obtain ⟨g, eg⟩ : ∃ x, x = Cb.hitE n k d h := ⟨_, rfl⟩
  rw [← ex, ← eg] at c1 c2
  have C1 := Lib.hid c1
  have C2 := Lib.hid c2
  have AW := Lib.hid law5_awake
  have hb := heap_alloc_new w (.cells #[.int .i64 n, .int .i64 k, .int .i64 d, .int .i64 h] 34)
  have HB := Lib.hid hb
  have B0 := Lib.hid ((Below.refl w.heap.size w).alloc (Nat.le_refl _) (.cells #[.int .i64 n, .int .i64 k, .int .i64 d, .int .i64 h] 34))
  clear c1 c2 ex eg hb
  go_enter Try.func4, Try.ntmps4
  go_wp2_with fail
  refine (C1.out _).mono ?_
  rintro e w1 ⟨rfl, B1⟩
  have hw1 := (B1.block w.heap.size (by simp)).trans HB.out
  have y0 : w1.cell? ⟨w.heap.size, 0, none⟩ = some (.int .i64 n) := by rw [cell_of_row _ _ _ _ _ (0, 0) hw1]; rfl
  have y1 : w1.cell? ⟨w.heap.size, 1, none⟩ = some (.int .i64 k) := by rw [cell_of_row _ _ _ _ _ (0, 0) hw1]; rfl
  have y2 : w1.cell? ⟨w.heap.size, 2, none⟩ = some (.int .i64 d) := by rw [cell_of_row _ _ _ _ _ (0, 0) hw1]; rfl
  have y3 : w1.cell? ⟨w.heap.size, 3, none⟩ = some (.int .i64 h) := by rw [cell_of_row _ _ _ _ _ (0, 0) hw1]; rfl
  have K1 := Lib.hid (bthn B0.out B1)
  clear B1 hw1
  go_wp2_with fail
  refine (C2.out _).mono ?_
  rintro e w' ⟨rfl, rfl⟩
  go_wp2_with fail
  refine (AW.out _).mono ?_
  rintro e w5 ⟨rfl, B5⟩
  have K5 := Lib.hid (bthn K1.out B5)
  clear B5
  go_wp2_with fail
  go_ret
  exact ⟨rfl, K5.out⟩
theorem case_opened {H : Type} {enc : TypeId × Value → H} {W : World} {r : Reach} {base : Nat} {v : Value} {d : DataW H} {p : List MemPlace}
    (hv : Value.okWide Try.prog W r base 34 v) (h : DataW.Trod enc Try.prog W 0 (fun _ => true) true 34 v d p) :
    ∃ a b c e, v = .agg #[.int .i64 a, .int .i64 b, .int .i64 c, .int .i64 e] ∧ (-9223372036854775808 ≤ a ∧ a ≤ 9223372036854775807) ∧ (-9223372036854775808 ≤ b ∧ b ≤ 9223372036854775807) ∧ (-9223372036854775808 ≤ c ∧ c ≤ 9223372036854775807) ∧ (-9223372036854775808 ≤ e ∧ e ≤ 9223372036854775807) := by
  obtain ⟨cs, rfl, hcs⟩ := okWide_struct Try.underlying34 hv
  rw [show Try.prog.cellsOf 34 = 4 by kernel_rfl] at hcs
  obtain ⟨x0, x1, x2, x3, rfl⟩ : ∃ x0 x1 x2 x3, cs = #[x0, x1, x2, x3] := by
    obtain ⟨l⟩ := cs
    match l, hcs with
    | [a, b, c, e], _ => exact ⟨a, b, c, e, rfl⟩
  obtain ⟨fuel, hf⟩ := h
  obtain ⟨xs, m, -, -, -, hlen, hx⟩ := DataW.trod_struct Try.underlying34 hf
  have one : ∀ {q : Nat} {y : DataW H × List MemPlace} {c : Value}, DataW.trod enc Try.prog W 0 (fun _ => true) true q 3 [c] = some y → ∃ a, c = .int .i64 a ∧ (-9223372036854775808 ≤ a ∧ a ≤ 9223372036854775807) := fun hq => by
    obtain ⟨a, e1, -, hw⟩ := DataW.trod_int Try.underlying3 hq
    exact ⟨a, by simpa using e1, bounds_i64 hw⟩
  have h1c : Try.prog.cellsOf 3 = 1 := by kernel_rfl
  match xs, hlen with
  | [y0, y1, y2, y3], _ =>
    have g0 : DataW.trod enc Try.prog W 0 (fun _ => true) true m 3 (List.take (Try.prog.cellsOf 3) (List.drop 0 [x0, x1, x2, x3])) = some y0 := hx 0 _ rfl
    have g1 : DataW.trod enc Try.prog W 0 (fun _ => true) true m 3 (List.take (Try.prog.cellsOf 3) (List.drop 1 [x0, x1, x2, x3])) = some y1 := hx 1 _ rfl
    have g2 : DataW.trod enc Try.prog W 0 (fun _ => true) true m 3 (List.take (Try.prog.cellsOf 3) (List.drop 2 [x0, x1, x2, x3])) = some y2 := hx 2 _ rfl
    have g3 : DataW.trod enc Try.prog W 0 (fun _ => true) true m 3 (List.take (Try.prog.cellsOf 3) (List.drop 3 [x0, x1, x2, x3])) = some y3 := hx 3 _ rfl
    rw [h1c] at g0 g1 g2 g3
    obtain ⟨a, rfl, ha⟩ := one (c := x0) (y := y0) (by simpa using g0)
    obtain ⟨b, rfl, hb⟩ := one (c := x1) (y := y1) (by simpa using g1)
    obtain ⟨c, rfl, hc⟩ := one (c := x2) (y := y2) (by simpa using g2)
    obtain ⟨e, rfl, he⟩ := one (c := x3) (y := y3) (by simpa using g3)
    exact ⟨a, b, c, e, rfl, ha, hb, hc, he⟩

/-! ### The row's step, the row -/
set_option maxRecDepth 100000 in
theorem lifted (os : Os) (started : os.Started) (H : Type) (enc : TypeId × Value → H) :
    ReturnsInHanded {} Try.checked os 4 .any (Rows.combHitsSpec.pre6 enc Try.prog Try.f4 Rows.combHitsRow.domain false) (Rows.combHitsSpec.post enc Try.prog Try.f4 false true false false) := by
  refine returnsInHanded_of_change (C := Try.checked) own started (by kernel_rfl) Try.func4
    (ChangeSpec.witness6 (enc := enc) (C := Try.checked) false ⟨#[], #[.agg #[.int .i64 0, .int .i64 0, .int .i64 0, .int .i64 0]], []⟩ 8 (by kernel_rfl) (by kernel_rfl) (by kernel_rfl) (by kernel_rfl)) ?_
  intro W base args ds gs before hval0 hW hcnd _
  have hval : ∀ (j : Nat) t v, Try.f4.params[j]? = some t → args[j]? = some v → Value.okWide Try.prog W .any base t v := hval0
  have hW' := hW
  obtain ⟨p, q, hA0, hV, rfl, hfz, hnd⟩ := hW
  have hA : DataW.TrodAll enc Try.prog W 0 (fun _ => true) true Try.f4.params.toList args.toList ds p := hA0
  rw [Try.params4] at hA hval

  obtain ⟨v0, vs0, d0, ds0, p0, q0, hargs, rfl, rfl, h0, r0⟩ := trodAll_cons hA
  obtain ⟨rfl, rfl, rfl⟩ := trodAll_nil r0
  obtain rfl : args = #[v0] := by cases args; simp_all
  obtain ⟨rfl, rfl⟩ := trodVars_none hV
  have k0 := h0
  have lt0 : ∀ x ∈ p0, x.block < W.heap.size := by
    obtain ⟨m, hm⟩ := k0
    exact DataW.trod_lt m _ _ _ hm
  obtain ⟨a0, b0, c0, e0, rfl, ab0, bb0, cb0, eb0⟩ := case_opened (hval 0 34 v0 rfl rfl) h0
  clear hA0 hval0
  refine (walk a0 b0 c0 e0 ab0.1 ab0.2 bb0.1 bb0.2 cb0.1 cb0.2 eb0.1 eb0.2 W ).mono fun e W' ⟨he, bel⟩ => ?_
  subst he
  exact ⟨_, rfl, _, _, _, [], _, [], hW', trodAll_mk1 (shut_bool Try.underlying4 _), (trodAll_cons_mk (Below.trod laidOut (by kernel_rfl) (of_decide_eq_true (by kernel_rfl)) k0 bel lt0) trodAll_mk0), rfl, bel.frame _, fun h => by cases h⟩

theorem over : Rows.CombHitsSaid :=
  OpenClaim.holds_of_wide 4 Try.f4 rfl rfl rfl rfl rfl rfl rfl ⟨rfl, rfl, rfl, rfl, rfl⟩ rfl rfl rfl rfl rfl (by kernel_rfl) Try.func4 (by kernel_rfl)
    (of_decide_eq_true (by kernel_rfl)) (by unfold Func.isWrapper; first | (rw [if_pos (by decide +kernel)]; kernel_rfl) | (rw [if_neg (by decide +kernel)]; exact ⟨rfl, rfl⟩))
    (fun os started H enc _ => lifted os started H enc)
/-- The statement. -/
theorem proved : Rows.CombHitsSaid := over
end Go.Proofs.Ytfjnpmkklanopaa.combHits
