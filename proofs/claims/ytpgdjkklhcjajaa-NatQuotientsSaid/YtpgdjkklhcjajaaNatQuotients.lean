/- NatQuotients (P3.4): for every two structs of at most 70 limbs DivMod answers the quotient, the rest and the error that the reference answers, and the chapter's example holds: the law returns true. No condition. -/
import Derived.Test.YtpgdjkklhcjajaaNatO
import Derived.Test.YtpgdjkklhcjajaaNatM
namespace Go.Proofs.Ytpgdjkklhcjajaa.natQuotients
open Go.RowKit Go.ChangeShapes Go.WideShapes Go.ChangeAt Go.WideElems
open Go.ChangeMaps (open_string shut_string)
set_option linter.unusedVariables false

theorem walk (A : Option Addr) (n c : Nat) (f : Nat → Nat) (A' : Option Addr) (n' c' : Nat) (f' : Nat → Nat) (w : World) (h : Arg w A n c f) (h' : Arg w A' n' c' f') :
    Calls Try.prog 6 #[.agg #[.slice A n c], .agg #[.slice A' n' c']] w fun e w' => e = .returned (.bool true) ∧ Below w.heap.size w w' := by
  have c1 := fun W (hb : Below w.heap.size w W) => nat_DivMod_any W (h.on hb) (h'.on hb)
  have c2 := fun W (hb : Below w.heap.size w W) => ref3_DivMod_any W (h.on hb) (h'.on hb)
  have fw := fun W => law3_few (A := A) (A' := A') (c := c) (c' := c') W h.big h'.big
  obtain ⟨x, ex⟩ : ∃ x, x = Nt.divX f n f' n' := ⟨_, rfl⟩
  obtain ⟨y, ey⟩ : ∃ x, x = Nt.modX f n f' n' := ⟨_, rfl⟩
  obtain ⟨er, ee⟩ : ∃ er, er = Nt.divE f n f' n' := ⟨_, rfl⟩
  rw [← ex, ← ey, ← ee] at c1 c2
  have CA := Lib.hid c1
  have CB := Lib.hid c2
  have k0 := ((Kp.start w).box (.slice A n c)).box (.slice A' n' c')
  have K0 := Lib.hid k0
  rw [show (w.alloc (.cells #[.slice A n c] 25)).heap.size = w.heap.size + 1 by simp] at K0
  clear k0
  clear c1 c2 ex ee ey h h'
  cases hf : Nt.few n n'
  · rw [hf] at fw
    have FW := Lib.hid fw
    clear fw hf
    go_enter Try.func6, Try.ntmps6
    go_wp2_with fail
    refine (FW.out _).mono ?_
    rintro e w1 ⟨rfl, B1⟩
    have K1 := Lib.hid (K0.out.call B1)
    clear B1
    have x0 := (K1.out.b (w.heap.size, .slice A n c) (by simp)).cell
    have x1 := (K1.out.b (w.heap.size + 1, .slice A' n' c') (by simp)).cell
    go_wp2_with fail
    refine (law3_divided _).mono ?_
    rintro e w2 ⟨rfl, B2⟩
    have K2 := Lib.hid (K1.out.call B2)
    clear B2
    clear x0 x1
    have x0 := (K2.out.b (w.heap.size, .slice A n c) (by simp)).cell
    have x1 := (K2.out.b (w.heap.size + 1, .slice A' n' c') (by simp)).cell
    go_wp2
    go_ret
    exact ⟨rfl, K2.out.bel⟩
  · rw [hf] at fw
    have FW := Lib.hid fw
    clear fw hf
    go_enter Try.func6, Try.ntmps6
    go_wp2_with fail
    refine (FW.out _).mono ?_
    rintro e w1 ⟨rfl, B1⟩
    have K1 := Lib.hid (K0.out.call B1)
    clear B1
    have x0 := (K1.out.b (w.heap.size, .slice A n c) (by simp)).cell
    have x1 := (K1.out.b (w.heap.size + 1, .slice A' n' c') (by simp)).cell
    go_wp2_with fail
    refine (CA.out _ K1.out.bel).mono ?_
    rintro e w2 ⟨A2, n2, c2, A2r, n2r, c2r, rfl, B2, D2, D2r, h2, h2r, l2, l2r⟩
    have K2 := Lib.hid (((((K1.out.call B2).num D2).num D2r).box (.slice A2 n2 c2)).box (.slice A2r n2r c2r))
    rw [show (w2.alloc (.cells #[.slice A2 n2 c2] 25)).heap.size = w2.heap.size + 1 by simp] at K2
    clear B2 D2 D2r
    clear x0 x1
    have x0 := (K2.out.b (w.heap.size, .slice A n c) (by simp)).cell
    have x1 := (K2.out.b (w.heap.size + 1, .slice A' n' c') (by simp)).cell
    go_wp2_with fail
    refine (CB.out _ K2.out.bel).mono ?_
    rintro e w3 ⟨A3, n3, c3, A3r, n3r, c3r, rfl, B3, D3, D3r, h3, h3r, l3, l3r⟩
    have K3 := Lib.hid (((((K2.out.call B3).num D3).num D3r).box (.slice A3 n3 c3)).box (.slice A3r n3r c3r))
    rw [show (w3.alloc (.cells #[.slice A3 n3 c3] 25)).heap.size = w3.heap.size + 1 by simp] at K3
    clear B3 D3 D3r
    clear x0 x1
    have x0 := (K3.out.b (w.heap.size, .slice A n c) (by simp)).cell
    have x1 := (K3.out.b (w.heap.size + 1, .slice A' n' c') (by simp)).cell
    have x2 := (K3.out.b (w2.heap.size, .slice A2 n2 c2) (by simp)).cell
    have x3 := (K3.out.b (w2.heap.size + 1, .slice A2r n2r c2r) (by simp)).cell
    go_wp2_with fail
    refine (law3_same _ (K3.out.n (A2, n2, x) (by simp)) (K3.out.n (A3, n3, x) (by simp)) h2).mono ?_
    rintro e w4 ⟨rfl, B4⟩
    have K4 := Lib.hid (K3.out.call B4)
    clear B4
    clear x0 x1 x2 x3
    have x0 := (K4.out.b (w.heap.size, .slice A n c) (by simp)).cell
    have x1 := (K4.out.b (w.heap.size + 1, .slice A' n' c') (by simp)).cell
    have x2 := (K4.out.b (w2.heap.size, .slice A2 n2 c2) (by simp)).cell
    have x3 := (K4.out.b (w2.heap.size + 1, .slice A2r n2r c2r) (by simp)).cell
    have x4 := (K4.out.b (w3.heap.size, .slice A3 n3 c3) (by simp)).cell
    have x5 := (K4.out.b (w3.heap.size + 1, .slice A3r n3r c3r) (by simp)).cell
    go_wp2_with fail
    refine (law3_same _ (K4.out.n (A2r, n2r, y) (by simp)) (K4.out.n (A3r, n3r, y) (by simp)) h2r).mono ?_
    rintro e w5 ⟨rfl, B5⟩
    have K5 := Lib.hid (K4.out.call B5)
    clear B5
    clear x0 x1 x2 x3 x4 x5
    have x0 := (K5.out.b (w.heap.size, .slice A n c) (by simp)).cell
    have x1 := (K5.out.b (w.heap.size + 1, .slice A' n' c') (by simp)).cell
    have x2 := (K5.out.b (w2.heap.size, .slice A2 n2 c2) (by simp)).cell
    have x3 := (K5.out.b (w2.heap.size + 1, .slice A2r n2r c2r) (by simp)).cell
    have x4 := (K5.out.b (w3.heap.size, .slice A3 n3 c3) (by simp)).cell
    have x5 := (K5.out.b (w3.heap.size + 1, .slice A3r n3r c3r) (by simp)).cell
    go_wp2_with fail
    refine (law3_divided _).mono ?_
    rintro e w6 ⟨rfl, B6⟩
    have K6 := Lib.hid (K5.out.call B6)
    clear B6
    clear x0 x1 x2 x3 x4 x5
    have x0 := (K6.out.b (w.heap.size, .slice A n c) (by simp)).cell
    have x1 := (K6.out.b (w.heap.size + 1, .slice A' n' c') (by simp)).cell
    have x2 := (K6.out.b (w2.heap.size, .slice A2 n2 c2) (by simp)).cell
    have x3 := (K6.out.b (w2.heap.size + 1, .slice A2r n2r c2r) (by simp)).cell
    have x4 := (K6.out.b (w3.heap.size, .slice A3 n3 c3) (by simp)).cell
    have x5 := (K6.out.b (w3.heap.size + 1, .slice A3r n3r c3r) (by simp)).cell
    go_wp2
    go_ret
    exact ⟨rfl, K6.out.bel⟩

/-! ### The row's step, the row -/
set_option maxRecDepth 100000 in
theorem lifted (os : Os) (started : os.Started) (H : Type) (enc : TypeId × Value → H) :
    ReturnsInHanded {} Try.checked os 6 .any (Rows.natQuotientsSpec.pre6 enc Try.prog Try.f6 Rows.natQuotientsRow.domain false) (Rows.natQuotientsSpec.post enc Try.prog Try.f6 false true false false) := by
  refine returnsInHanded_of_change (C := Try.checked) own started (by kernel_rfl) Try.func6
    (ChangeSpec.witness6 (enc := enc) (C := Try.checked) false ⟨#[], #[.agg #[.slice none 0 0], .agg #[.slice none 0 0]], []⟩ 8 (by kernel_rfl) (by kernel_rfl) (by kernel_rfl) (by kernel_rfl)) ?_
  intro W base args ds gs before hval0 hW hcnd _
  have hval : ∀ (j : Nat) t v, Try.f6.params[j]? = some t → args[j]? = some v → Value.okWide Try.prog W .any base t v := hval0
  have hW' := hW
  obtain ⟨p, q, hA0, hV, rfl, hfz, hnd⟩ := hW
  have hA : DataW.TrodAll enc Try.prog W 0 (fun _ => true) true Try.f6.params.toList args.toList ds p := hA0
  rw [Try.params6] at hA hval

  obtain ⟨v0, vs0, d0, ds0, p0, q0, hargs, rfl, rfl, h0, r0⟩ := trodAll_cons hA
  obtain ⟨v1, vs1, d1, ds1, p1, q1, rfl, rfl, rfl, h1, r1⟩ := trodAll_cons r0
  obtain ⟨rfl, rfl, rfl⟩ := trodAll_nil r1
  obtain rfl : args = #[v0, v1] := by cases args; simp_all
  obtain ⟨rfl, rfl⟩ := trodVars_none hV
  have k0 := h0
  have lt0 : ∀ x ∈ p0, x.block < W.heap.size := by
    obtain ⟨m, hm⟩ := k0
    exact DataW.trod_lt m _ _ _ hm
  obtain ⟨A0, n0, c0, f0, rfl, w0⟩ := nat_opened (hval 0 25 v0 rfl rfl) h0
  have k1 := h1
  have lt1 : ∀ x ∈ p1, x.block < W.heap.size := by
    obtain ⟨m, hm⟩ := k1
    exact DataW.trod_lt m _ _ _ hm
  obtain ⟨A1, n1, c1, f1, rfl, w1⟩ := nat_opened (hval 1 25 v1 rfl rfl) h1
  clear hA0 hval0
  refine (walk A0 n0 c0 f0 A1 n1 c1 f1   W w0 w1).mono fun e W' ⟨he, bel⟩ => ?_
  subst he
  exact ⟨_, rfl, _, _, _, [], _, [], hW', trodAll_mk1 (shut_bool Try.underlying4 _), (trodAll_cons_mk (Below.trod laidOut (by kernel_rfl) (of_decide_eq_true (by kernel_rfl)) k0 bel lt0) (trodAll_cons_mk (Below.trod laidOut (by kernel_rfl) (of_decide_eq_true (by kernel_rfl)) k1 bel lt1) trodAll_mk0)), rfl, bel.frame _, fun h => by cases h⟩

theorem over : Rows.NatQuotientsSaid :=
  OpenClaim.holds_of_wide 6 Try.f6 rfl rfl rfl rfl rfl rfl rfl ⟨rfl, rfl, rfl, rfl, rfl⟩ rfl rfl rfl rfl rfl (by kernel_rfl) Try.func6 (by kernel_rfl)
    (of_decide_eq_true (by kernel_rfl)) (by unfold Func.isWrapper; first | (rw [if_pos (by decide +kernel)]; kernel_rfl) | (rw [if_neg (by decide +kernel)]; exact ⟨rfl, rfl⟩))
    (fun os started H enc _ => lifted os started H enc)
/-- The statement. -/
theorem proved : Rows.NatQuotientsSaid := over
end Go.Proofs.Ytpgdjkklhcjajaa.natQuotients
