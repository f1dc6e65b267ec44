/- CombUnranks (P5.4): for every three ints Unrank answers the combination or the error of the reference, and the chapter's examples hold: the law returns true. No condition. -/
import Derived.Test.YtfjnpmkklanopaaOwn
import Derived.Test.YtfjnpmkklanopaaCombAw
namespace Go.Proofs.Ytfjnpmkklanopaa.combUnranks
set_option maxRecDepth 20000
open Go.RowKit Go.ChangeShapes Go.WideShapes Go.ChangeAt Go.WideElems
open Go.ChangeMaps (open_string shut_string)
set_option linter.unusedVariables false

theorem walk (r n k : Int) (r0 : -9223372036854775808 ≤ r) (r1 : r ≤ 9223372036854775807) (n0 : -9223372036854775808 ≤ n) (n1 : n ≤ 9223372036854775807) (k0 : -9223372036854775808 ≤ k) (k1 : k ≤ 9223372036854775807) (w : World) :
    Calls Try.prog 6 #[.int .i64 r, .int .i64 n, .int .i64 k] w fun e w' => e = .returned (.bool true) ∧ Below w.heap.size w w' := by
  have c1 := fun W => comb_Unrank r n k r0 r1 n0 n1 k0 k1 W
  have c2 := fun W => ref5_Unrank r n k r0 r1 k0 k1 W
  have hl := Cb.unL_len r n k
  obtain ⟨xs, ex⟩ : ∃ x, x = Cb.unL r n k := ⟨_, rfl⟩
  obtain ⟨er, ee⟩ : ∃ x, x = Cb.unE r n k := ⟨_, rfl⟩
  rw [← ex, ← ee] at c1 c2
  rw [← ex] at hl
  have C1 := Lib.hid c1
  have C2 := Lib.hid c2
  have AW := Lib.hid law5_awake
  clear c1 c2 ex ee
  have K0 := Lib.hid (Ks.start w)
  go_enter Try.func6, Try.ntmps6
  go_wp2_with fail
  refine (C1.out _).mono ?_
  rintro e w1 ⟨A1, c1, rfl, B1, I1, l1, m1⟩
  have K1 := Lib.hid (K0.out.call B1)
  have J1 := Lib.hid I1
  clear B1 I1
  go_wp2_with fail
  refine (C2.out _).mono ?_
  rintro e w2 ⟨A2, c2, rfl, B2, I2, l2, m2⟩
  have K2 := Lib.hid (K1.out.call B2)
  have J2 := Lib.hid (J1.out.on B2)
  have L2 := Lib.hid I2
  clear B2 I2
  go_wp2_with fail
  refine (same_b _ (beq_self_eq_true _) J2.out L2.out (by omega) (by omega)).mono ?_
  rintro e w3 ⟨rfl, B3⟩
  have K3 := Lib.hid (K2.out.call B3)
  clear B3
  go_wp2_with fail
  refine (AW.out _).mono ?_
  rintro e w5 ⟨rfl, B5⟩
  have K5 := Lib.hid (K3.out.call B5)
  clear B5
  go_wp2_with fail
  go_ret
  exact ⟨rfl, K5.out.bel⟩

/-! ### The row's step, the row -/
set_option maxRecDepth 100000 in
theorem lifted (os : Os) (started : os.Started) (H : Type) (enc : TypeId × Value → H) :
    ReturnsInHanded {} Try.checked os 6 .any (Rows.combUnranksSpec.pre6 enc Try.prog Try.f6 Rows.combUnranksRow.domain false) (Rows.combUnranksSpec.post enc Try.prog Try.f6 false true false false) := by
  refine returnsInHanded_of_change (C := Try.checked) own started (by kernel_rfl) Try.func6
    (ChangeSpec.witness6 (enc := enc) (C := Try.checked) false ⟨#[], #[.int .i64 0, .int .i64 0, .int .i64 0], []⟩ 8 (by kernel_rfl) (by kernel_rfl) (by kernel_rfl) (by kernel_rfl)) ?_
  intro W base args ds gs before hval0 hW hcnd _
  have hval : ∀ (j : Nat) t v, Try.f6.params[j]? = some t → args[j]? = some v → Value.okWide Try.prog W .any base t v := hval0
  have hW' := hW
  obtain ⟨p, q, hA0, hV, rfl, hfz, hnd⟩ := hW
  have hA : DataW.TrodAll enc Try.prog W 0 (fun _ => true) true Try.f6.params.toList args.toList ds p := hA0
  rw [Try.params6] at hA hval

  obtain ⟨v0, vs0, d0, ds0, p0, q0, hargs, rfl, rfl, h0, r0⟩ := trodAll_cons hA
  obtain ⟨v1, vs1, d1, ds1, p1, q1, rfl, rfl, rfl, h1, r1⟩ := trodAll_cons r0
  obtain ⟨v2, vs2, d2, ds2, p2, q2, rfl, rfl, rfl, h2, r2⟩ := trodAll_cons r1
  obtain ⟨rfl, rfl, rfl⟩ := trodAll_nil r2
  obtain rfl : args = #[v0, v1, v2] := by cases args; simp_all
  obtain ⟨rfl, rfl⟩ := trodVars_none hV
  obtain ⟨a0, rfl, rfl, rfl, w0⟩ := open_int Try.underlying3 (hval 0 3 v0 rfl rfl) h0
  have b0 := bounds_i64 w0
  obtain ⟨a1, rfl, rfl, rfl, w1⟩ := open_int Try.underlying3 (hval 1 3 v1 rfl rfl) h1
  have b1 := bounds_i64 w1
  obtain ⟨a2, rfl, rfl, rfl, w2⟩ := open_int Try.underlying3 (hval 2 3 v2 rfl rfl) h2
  have b2 := bounds_i64 w2
  clear hA0 hval0
  refine (walk a0 a1 a2 b0.1 b0.2 b1.1 b1.2 b2.1 b2.2 W ).mono fun e W' ⟨he, bel⟩ => ?_
  subst he
  exact ⟨_, rfl, _, _, _, [], _, [], hW', trodAll_mk1 (shut_bool Try.underlying4 _), (trodAll_cons_mk (shut_int Try.underlying3 w0) (trodAll_cons_mk (shut_int Try.underlying3 w1) (trodAll_cons_mk (shut_int Try.underlying3 w2) trodAll_mk0))), rfl, bel.frame _, fun h => by cases h⟩

theorem over : Rows.CombUnranksSaid :=
  OpenClaim.holds_of_wide 6 Try.f6 rfl rfl rfl rfl rfl rfl rfl ⟨rfl, rfl, rfl, rfl, rfl⟩ rfl rfl rfl rfl rfl (by kernel_rfl) Try.func6 (by kernel_rfl)
    (of_decide_eq_true (by kernel_rfl)) (by unfold Func.isWrapper; first | (rw [if_pos (by decide +kernel)]; kernel_rfl) | (rw [if_neg (by decide +kernel)]; exact ⟨rfl, rfl⟩))
    (fun os started H enc _ => lifted os started H enc)
/-- The statement. -/
theorem proved : Rows.CombUnranksSaid := over
end Go.Proofs.Ytfjnpmkklanopaa.combUnranks
