/- NatProducts (P3.3): for every two structs of limbs Mul answers the product or the error that the reference answers, and the chapter's example holds: the law returns true. No condition. -/
import Derived.Test.YtpgdjkklhcjajaaNatO
import Derived.Test.YtpgdjkklhcjajaaNatL
namespace Go.Proofs.Ytpgdjkklhcjajaa.natProducts
open Go.RowKit Go.ChangeShapes Go.WideShapes Go.ChangeAt Go.WideElems
open Go.ChangeMaps (open_string shut_string)
set_option linter.unusedVariables false

theorem walk (A : Option Addr) (n c : Nat) (f : Nat → Nat) (A' : Option Addr) (n' c' : Nat) (f' : Nat → Nat) (w : World) (h : Arg w A n c f) (h' : Arg w A' n' c' f') :
    Calls Try.prog 5 #[.agg #[.slice A n c], .agg #[.slice A' n' c']] w fun e w' => e = .returned (.bool true) ∧ Below w.heap.size w w' := by
  have c1 := fun W (hb : Below w.heap.size w W) => nat_Mul_any W (h.on hb) (h'.on hb)
  have c2 := fun W (hb : Below w.heap.size w W) => ref3_Mul_any W (h.on hb) (h'.on hb)
  obtain ⟨x, ex⟩ : ∃ x, x = Nt.mulX f n f' n' := ⟨_, rfl⟩
  obtain ⟨er, ee⟩ : ∃ er, er = Nt.mulE f n f' n' := ⟨_, rfl⟩
  rw [← ex, ← ee] at c1 c2
  have C1 := Lib.hid c1
  have C2 := Lib.hid c2
  have k0 := ((Kp.start w).box (.slice A n c)).box (.slice A' n' c')
  have K0 := Lib.hid k0
  have hz : (w.alloc (.cells #[.slice A n c] 25)).heap.size = w.heap.size + 1 := by simp
  rw [hz] at K0
  clear c1 c2 ex ee h h' k0 hz
  go_enter Try.func5, Try.ntmps5
  go_wp2_with fail
  refine (C1.out _ K0.out.bel).mono ?_
  rintro e w1 ⟨A1, n1, c1, rfl, B1, D1, h1, l1⟩
  have K1 := Lib.hid (((K0.out.call B1).num D1).box (.slice A1 n1 c1))
  have x1 := (K1.out.b (w.heap.size, .slice A n c) (by simp)).cell
  have x2 := (K1.out.b (w.heap.size + 1, .slice A' n' c') (by simp)).cell
  clear B1 D1
  go_wp2_with fail
  refine (C2.out _ K1.out.bel).mono ?_
  rintro e w2 ⟨A2, n2, c2, rfl, B2, D2, h2, l2⟩
  have K2 := Lib.hid (((K1.out.call B2).num D2).box (.slice A2 n2 c2))
  have x3 := (K2.out.b (w1.heap.size, .slice A1 n1 c1) (by simp)).cell
  clear B2 D2 x1 x2
  go_wp2_with fail
  refine (ref3_Same _ (K2.out.n (A1, n1, x) (by simp)) (K2.out.n (A2, n2, x) (by simp)) (by show n1 ≤ _; omega)).mono ?_
  rintro e w3 ⟨rfl, B3⟩
  have K3 := Lib.hid (K2.out.call B3)
  clear B3 x3
  go_wp2_with fail
  refine (law3_multiplied _).mono ?_
  rintro e w4 ⟨rfl, B4⟩
  have K4 := Lib.hid (K3.out.call B4)
  clear B4
  go_wp2
  go_ret
  exact ⟨rfl, K4.out.bel⟩

/-! ### The row's step, the row -/
set_option maxRecDepth 100000 in
theorem lifted (os : Os) (started : os.Started) (H : Type) (enc : TypeId × Value → H) :
    ReturnsInHanded {} Try.checked os 5 .any (Rows.natProductsSpec.pre6 enc Try.prog Try.f5 Rows.natProductsRow.domain false) (Rows.natProductsSpec.post enc Try.prog Try.f5 false true false false) := by
  refine returnsInHanded_of_change (C := Try.checked) own started (by kernel_rfl) Try.func5
    (ChangeSpec.witness6 (enc := enc) (C := Try.checked) false ⟨#[], #[.agg #[.slice none 0 0], .agg #[.slice none 0 0]], []⟩ 8 (by kernel_rfl) (by kernel_rfl) (by kernel_rfl) (by kernel_rfl)) ?_
  intro W base args ds gs before hval0 hW hcnd _
  have hval : ∀ (j : Nat) t v, Try.f5.params[j]? = some t → args[j]? = some v → Value.okWide Try.prog W .any base t v := hval0
  have hW' := hW
  obtain ⟨p, q, hA0, hV, rfl, hfz, hnd⟩ := hW
  have hA : DataW.TrodAll enc Try.prog W 0 (fun _ => true) true Try.f5.params.toList args.toList ds p := hA0
  rw [Try.params5] at hA hval

  obtain ⟨v0, vs0, d0, ds0, p0, q0, hargs, rfl, rfl, h0, r0⟩ := trodAll_cons hA
  obtain ⟨v1, vs1, d1, ds1, p1, q1, rfl, rfl, rfl, h1, r1⟩ := trodAll_cons r0
  obtain ⟨rfl, rfl, rfl⟩ := trodAll_nil r1
  obtain rfl : args = #[v0, v1] := by cases args; simp_all
  obtain ⟨rfl, rfl⟩ := trodVars_none hV
  have k0 := h0
  have lt0 : ∀ x ∈ p0, x.block < W.heap.size := by
    obtain ⟨m, hm⟩ := k0
    exact DataW.trod_lt m _ _ _ hm
  obtain ⟨A0, n0, c0, f0, rfl, w0⟩ := nat_opened (hval 0 25 v0 rfl rfl) h0
  have k1 := h1
  have lt1 : ∀ x ∈ p1, x.block < W.heap.size := by
    obtain ⟨m, hm⟩ := k1
    exact DataW.trod_lt m _ _ _ hm
  obtain ⟨A1, n1, c1, f1, rfl, w1⟩ := nat_opened (hval 1 25 v1 rfl rfl) h1
  clear hA0 hval0
  refine (walk A0 n0 c0 f0 A1 n1 c1 f1   W w0 w1).mono fun e W' ⟨he, bel⟩ => ?_
  subst he
  exact ⟨_, rfl, _, _, _, [], _, [], hW', trodAll_mk1 (shut_bool Try.underlying4 _), (trodAll_cons_mk (Below.trod laidOut (by kernel_rfl) (of_decide_eq_true (by kernel_rfl)) k0 bel lt0) (trodAll_cons_mk (Below.trod laidOut (by kernel_rfl) (of_decide_eq_true (by kernel_rfl)) k1 bel lt1) trodAll_mk0)), rfl, bel.frame _, fun h => by cases h⟩

theorem over : Rows.NatProductsSaid :=
  OpenClaim.holds_of_wide 5 Try.f5 rfl rfl rfl rfl rfl rfl rfl ⟨rfl, rfl, rfl, rfl, rfl⟩ rfl rfl rfl rfl rfl (by kernel_rfl) Try.func5 (by kernel_rfl)
    (of_decide_eq_true (by kernel_rfl)) (by unfold Func.isWrapper; first | (rw [if_pos (by decide +kernel)]; kernel_rfl) | (rw [if_neg (by decide +kernel)]; exact ⟨rfl, rfl⟩))
    (fun os started H enc _ => lifted os started H enc)
/-- The statement. -/
theorem proved : Rows.NatProductsSaid := over
end Go.Proofs.Ytpgdjkklhcjajaa.natProducts
