/- NatSums (P3.2): for every two structs of limbs Add and Sub answer what the reference answers, and the chapter's example holds: the law returns true. No condition. -/
import Derived.Test.YtpgdjkklhcjajaaNatO
import Derived.Test.YtpgdjkklhcjajaaNatM
namespace Go.Proofs.Ytpgdjkklhcjajaa.natSums
open Go.RowKit Go.ChangeShapes Go.WideShapes Go.ChangeAt Go.WideElems
open Go.ChangeMaps (open_string shut_string)
set_option linter.unusedVariables false

theorem walk (A : Option Addr) (n c : Nat) (f : Nat → Nat) (A' : Option Addr) (n' c' : Nat) (f' : Nat → Nat) (w : World) (h : Arg w A n c f) (h' : Arg w A' n' c' f') :
    Calls Try.prog 4 #[.agg #[.slice A n c], .agg #[.slice A' n' c']] w fun e w' => e = .returned (.bool true) ∧ Below w.heap.size w w' := by
  have c1 := fun W (hb : Below w.heap.size w W) => nat_Add_any W (h.on hb) (h'.on hb)
  have c2 := fun W (hb : Below w.heap.size w W) => ref3_Add_any W (h.on hb) (h'.on hb)
  have c3 := fun W (hb : Below w.heap.size w W) => nat_Sub_any W (h.on hb) (h'.on hb)
  have c4 := fun W (hb : Below w.heap.size w W) => ref3_Sub_any W (h.on hb) (h'.on hb)
  obtain ⟨x, ex⟩ : ∃ x, x = Nt.addX f n f' n' := ⟨_, rfl⟩
  obtain ⟨er, ee⟩ : ∃ er, er = Nt.addE f n f' n' := ⟨_, rfl⟩
  obtain ⟨y, ey⟩ : ∃ x, x = Nt.subX f n f' n' := ⟨_, rfl⟩
  obtain ⟨es, eq⟩ : ∃ er, er = Nt.subE f n f' n' := ⟨_, rfl⟩
  rw [← ex, ← ee] at c1 c2
  rw [← ey, ← eq] at c3 c4
  have CA := Lib.hid c1
  have CB := Lib.hid c2
  have CC := Lib.hid c3
  have CD := Lib.hid c4
  have k0 := ((Kp.start w).box (.slice A n c)).box (.slice A' n' c')
  have K0 := Lib.hid k0
  rw [show (w.alloc (.cells #[.slice A n c] 25)).heap.size = w.heap.size + 1 by simp] at K0
  clear k0
  clear c1 c2 c3 c4 ex ee ey eq h h'
  go_enter Try.func4, Try.ntmps4
  go_wp2_with fail
  refine (CA.out _ K0.out.bel).mono ?_
  rintro e w1 ⟨A1, n1, c1, rfl, B1, D1, h1, l1⟩
  have K1 := Lib.hid (((K0.out.call B1).num D1).box (.slice A1 n1 c1))
  clear B1 D1
  have x0 := (K1.out.b (w.heap.size, .slice A n c) (by simp)).cell
  have x1 := (K1.out.b (w.heap.size + 1, .slice A' n' c') (by simp)).cell
  go_wp2_with fail
  refine (CB.out _ K1.out.bel).mono ?_
  rintro e w2 ⟨A2, n2, c2, rfl, B2, D2, h2, l2⟩
  have K2 := Lib.hid (((K1.out.call B2).num D2).box (.slice A2 n2 c2))
  clear B2 D2
  clear x0 x1
  have x0 := (K2.out.b (w.heap.size, .slice A n c) (by simp)).cell
  have x1 := (K2.out.b (w.heap.size + 1, .slice A' n' c') (by simp)).cell
  have x2 := (K2.out.b (w1.heap.size, .slice A1 n1 c1) (by simp)).cell
  go_wp2_with fail
  refine (CC.out _ K2.out.bel).mono ?_
  rintro e w3 ⟨A3, n3, c3, rfl, B3, D3, h3, l3⟩
  have K3 := Lib.hid (((K2.out.call B3).num D3).box (.slice A3 n3 c3))
  clear B3 D3
  clear x0 x1 x2
  have x0 := (K3.out.b (w.heap.size, .slice A n c) (by simp)).cell
  have x1 := (K3.out.b (w.heap.size + 1, .slice A' n' c') (by simp)).cell
  have x2 := (K3.out.b (w1.heap.size, .slice A1 n1 c1) (by simp)).cell
  have x3 := (K3.out.b (w2.heap.size, .slice A2 n2 c2) (by simp)).cell
  go_wp2_with fail
  refine (CD.out _ K3.out.bel).mono ?_
  rintro e w4 ⟨A4, n4, c4, rfl, B4, D4, h4, l4⟩
  have K4 := Lib.hid (((K3.out.call B4).num D4).box (.slice A4 n4 c4))
  clear B4 D4
  clear x0 x1 x2 x3
  have x0 := (K4.out.b (w.heap.size, .slice A n c) (by simp)).cell
  have x1 := (K4.out.b (w.heap.size + 1, .slice A' n' c') (by simp)).cell
  have x2 := (K4.out.b (w1.heap.size, .slice A1 n1 c1) (by simp)).cell
  have x3 := (K4.out.b (w2.heap.size, .slice A2 n2 c2) (by simp)).cell
  have x4 := (K4.out.b (w3.heap.size, .slice A3 n3 c3) (by simp)).cell
  go_wp2_with fail
  refine (law3_same _ (K4.out.n (A1, n1, x) (by simp)) (K4.out.n (A2, n2, x) (by simp)) h1).mono ?_
  rintro e w5 ⟨rfl, B5⟩
  have K5 := Lib.hid (K4.out.call B5)
  clear B5
  clear x0 x1 x2 x3 x4
  have x0 := (K5.out.b (w.heap.size, .slice A n c) (by simp)).cell
  have x1 := (K5.out.b (w.heap.size + 1, .slice A' n' c') (by simp)).cell
  have x2 := (K5.out.b (w1.heap.size, .slice A1 n1 c1) (by simp)).cell
  have x3 := (K5.out.b (w2.heap.size, .slice A2 n2 c2) (by simp)).cell
  have x4 := (K5.out.b (w3.heap.size, .slice A3 n3 c3) (by simp)).cell
  have x5 := (K5.out.b (w4.heap.size, .slice A4 n4 c4) (by simp)).cell
  go_wp2_with fail
  refine (law3_same _ (K5.out.n (A3, n3, y) (by simp)) (K5.out.n (A4, n4, y) (by simp)) h3).mono ?_
  rintro e w6 ⟨rfl, B6⟩
  have K6 := Lib.hid (K5.out.call B6)
  clear B6
  clear x0 x1 x2 x3 x4 x5
  have x0 := (K6.out.b (w.heap.size, .slice A n c) (by simp)).cell
  have x1 := (K6.out.b (w.heap.size + 1, .slice A' n' c') (by simp)).cell
  have x2 := (K6.out.b (w1.heap.size, .slice A1 n1 c1) (by simp)).cell
  have x3 := (K6.out.b (w2.heap.size, .slice A2 n2 c2) (by simp)).cell
  have x4 := (K6.out.b (w3.heap.size, .slice A3 n3 c3) (by simp)).cell
  have x5 := (K6.out.b (w4.heap.size, .slice A4 n4 c4) (by simp)).cell
  go_wp2_with fail
  refine (law3_summed _).mono ?_
  rintro e w7 ⟨rfl, B7⟩
  have K7 := Lib.hid (K6.out.call B7)
  clear B7
  clear x0 x1 x2 x3 x4 x5
  have x0 := (K7.out.b (w.heap.size, .slice A n c) (by simp)).cell
  have x1 := (K7.out.b (w.heap.size + 1, .slice A' n' c') (by simp)).cell
  have x2 := (K7.out.b (w1.heap.size, .slice A1 n1 c1) (by simp)).cell
  have x3 := (K7.out.b (w2.heap.size, .slice A2 n2 c2) (by simp)).cell
  have x4 := (K7.out.b (w3.heap.size, .slice A3 n3 c3) (by simp)).cell
  have x5 := (K7.out.b (w4.heap.size, .slice A4 n4 c4) (by simp)).cell
  go_wp2
  go_ret
  exact ⟨rfl, K7.out.bel⟩

/-! ### The row's step, the row -/
set_option maxRecDepth 100000 in
theorem lifted (os : Os) (started : os.Started) (H : Type) (enc : TypeId × Value → H) :
    ReturnsInHanded {} Try.checked os 4 .any (Rows.natSumsSpec.pre6 enc Try.prog Try.f4 Rows.natSumsRow.domain false) (Rows.natSumsSpec.post enc Try.prog Try.f4 false true false false) := by
  refine returnsInHanded_of_change (C := Try.checked) own started (by kernel_rfl) Try.func4
    (ChangeSpec.witness6 (enc := enc) (C := Try.checked) false ⟨#[], #[.agg #[.slice none 0 0], .agg #[.slice none 0 0]], []⟩ 8 (by kernel_rfl) (by kernel_rfl) (by kernel_rfl) (by kernel_rfl)) ?_
  intro W base args ds gs before hval0 hW hcnd _
  have hval : ∀ (j : Nat) t v, Try.f4.params[j]? = some t → args[j]? = some v → Value.okWide Try.prog W .any base t v := hval0
  have hW' := hW
  obtain ⟨p, q, hA0, hV, rfl, hfz, hnd⟩ := hW
  have hA : DataW.TrodAll enc Try.prog W 0 (fun _ => true) true Try.f4.params.toList args.toList ds p := hA0
  rw [Try.params4] at hA hval

  obtain ⟨v0, vs0, d0, ds0, p0, q0, hargs, rfl, rfl, h0, r0⟩ := trodAll_cons hA
  obtain ⟨v1, vs1, d1, ds1, p1, q1, rfl, rfl, rfl, h1, r1⟩ := trodAll_cons r0
  obtain ⟨rfl, rfl, rfl⟩ := trodAll_nil r1
  obtain rfl : args = #[v0, v1] := by cases args; simp_all
  obtain ⟨rfl, rfl⟩ := trodVars_none hV
  have k0 := h0
  have lt0 : ∀ x ∈ p0, x.block < W.heap.size := by
    obtain ⟨m, hm⟩ := k0
    exact DataW.trod_lt m _ _ _ hm
  obtain ⟨A0, n0, c0, f0, rfl, w0⟩ := nat_opened (hval 0 25 v0 rfl rfl) h0
  have k1 := h1
  have lt1 : ∀ x ∈ p1, x.block < W.heap.size := by
    obtain ⟨m, hm⟩ := k1
    exact DataW.trod_lt m _ _ _ hm
  obtain ⟨A1, n1, c1, f1, rfl, w1⟩ := nat_opened (hval 1 25 v1 rfl rfl) h1
  clear hA0 hval0
  refine (walk A0 n0 c0 f0 A1 n1 c1 f1   W w0 w1).mono fun e W' ⟨he, bel⟩ => ?_
  subst he
  exact ⟨_, rfl, _, _, _, [], _, [], hW', trodAll_mk1 (shut_bool Try.underlying4 _), (trodAll_cons_mk (Below.trod laidOut (by kernel_rfl) (of_decide_eq_true (by kernel_rfl)) k0 bel lt0) (trodAll_cons_mk (Below.trod laidOut (by kernel_rfl) (of_decide_eq_true (by kernel_rfl)) k1 bel lt1) trodAll_mk0)), rfl, bel.frame _, fun h => by cases h⟩

theorem over : Rows.NatSumsSaid :=
  OpenClaim.holds_of_wide 4 Try.f4 rfl rfl rfl rfl rfl rfl rfl ⟨rfl, rfl, rfl, rfl, rfl⟩ rfl rfl rfl rfl rfl (by kernel_rfl) Try.func4 (by kernel_rfl)
    (of_decide_eq_true (by kernel_rfl)) (by unfold Func.isWrapper; first | (rw [if_pos (by decide +kernel)]; kernel_rfl) | (rw [if_neg (by decide +kernel)]; exact ⟨rfl, rfl⟩))
    (fun os started H enc _ => lifted os started H enc)
/-- The statement. -/
theorem proved : Rows.NatSumsSaid := over
end Go.Proofs.Ytpgdjkklhcjajaa.natSums
