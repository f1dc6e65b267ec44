/- NatForms (P3.1): for every word and every two structs of limbs Of, Uint, Valid and Cmp answer what the reference answers, and the order turns with its arguments: the law returns true. No condition. -/
import Derived.Test.YtpgdjkklhcjajaaNatO
import Derived.Test.YtpgdjkklhcjajaaNatV
import Derived.Deep.RegionHeld3
namespace Go.Proofs.Ytpgdjkklhcjajaa.natForms
open Go.RowKit Go.ChangeShapes Go.WideShapes Go.ChangeAt Go.WideElems
open Go.ChangeMaps (open_string shut_string)
set_option linter.unusedVariables false

set_option maxHeartbeats 2000000 in
theorem walk (m : Int) (A : Option Addr) (n c : Nat) (f : Nat → Nat) (A' : Option Addr) (n' c' : Nat) (f' : Nat → Nat) (m0 : 0 ≤ m) (m1 : m ≤ 18446744073709551615) (w : World) (h : Arg w A n c f) (h' : Arg w A' n' c' f') :
    Calls Try.prog 3 #[.int .u64 m, .agg #[.slice A n c], .agg #[.slice A' n' c']] w fun e w' => e = .returned (.bool true) ∧ Below w.heap.size w w' := by
  have u1 := fun W (hb : Below w.heap.size w W) => nat_Uint_any W (h.on hb)
  have u2 := fun W (hb : Below w.heap.size w W) => ref3_Uint_any W (h.on hb)
  obtain ⟨u, eu⟩ : ∃ u, u = Nt.uX f n := ⟨_, rfl⟩
  obtain ⟨k, ek⟩ : ∃ k, k = Nt.uB f n := ⟨_, rfl⟩
  rw [← eu, ← ek] at u1 u2
  obtain ⟨x, hx⟩ : ∃ x : Nat, m = x := ⟨m.toNat, by omega⟩
  have hx1 : x < 18446744073709551616 := by omega
  have o1 := fun W => nat_Of m x W hx hx1
  have o2 := fun W => ref3_Of m x W hx hx1
  have uu : ∀ (W : World) (A : Option Addr) (n c : Nat), IsN W W.heap.size A n x → Calls Try.prog 10 #[.agg #[.slice A n c]] W (URes m true W) := fun W A n c h => hx ▸ nat_Uint_yes W h (by rw [← h.l]; exact ln_word hx1)
  have v1 := fun W (hb : Below w.heap.size w W) => nat_Valid (c := c) W (h.on hb).d h.big
  have v2 := fun W (hb : Below w.heap.size w W) => ref3_Valid (c := c) W (h.on hb).d h.big
  obtain ⟨v, ev⟩ : ∃ v, v = Nt.vd f n := ⟨_, rfl⟩
  rw [← ev] at v1 v2
  have c1 := fun W (hb : Below w.heap.size w W) => nat_Cmp_any W (h.on hb) (h'.on hb)
  have c2 := fun W (hb : Below w.heap.size w W) => ref3_Cmp_any W (h.on hb) (h'.on hb)
  have c3 := fun W (hb : Below w.heap.size w W) => nat_Cmp_any W (h'.on hb) (h.on hb)
  rw [Nt.cmpX_swap] at c3
  obtain ⟨z, ez⟩ : ∃ z, z = Nt.cmpX f n f' n' := ⟨_, rfl⟩
  have wz := Nt.cmpX_neg f n f' n'
  rw [← ez] at c1 c2 c3 wz
  have U1 := Lib.hid u1
  have U2 := Lib.hid u2
  have O1 := Lib.hid o1
  have O2 := Lib.hid o2
  have UU := Lib.hid uu
  have V1 := Lib.hid v1
  have V2 := Lib.hid v2
  have C1 := Lib.hid c1
  have C2 := Lib.hid c2
  have C3 := Lib.hid c3
  have FO := Lib.hid law3_formed
  have k0 := ((Kp.start w).box (.slice A n c)).box (.slice A' n' c')
  have K0 := Lib.hid k0
  rw [show (w.alloc (.cells #[.slice A n c] 25)).heap.size = w.heap.size + 1 by simp] at K0
  clear k0 u1 u2 o1 o2 uu v1 v2 c1 c2 c3 eu ek hx hx1 ev ez h h'
  go_enter Try.func3, Try.ntmps3
  go_wp2_with fail
  refine (U1.out _ K0.out.bel).mono ?_
  rintro e w1 ⟨rfl, B1⟩
  have K1 := Lib.hid (K0.out.call B1)
  clear B1
  have x1 := (K1.out.b (w.heap.size, .slice A n c) (by simp)).cell
  go_wp2_with fail
  refine (U2.out _ K1.out.bel).mono ?_
  rintro e w2 ⟨rfl, B2⟩
  have K2 := Lib.hid (K1.out.call B2)
  clear B2 x1
  go_wp2_with fail
  refine (O1.out _).mono ?_
  rintro e w3 ⟨A3, n3, c3, rfl, B3, D3, h3, l3⟩
  have K3 := Lib.hid ((K2.out.call B3).num D3)
  clear B3 D3
  go_wp2_with fail
  refine (UU.out _ A3 n3 c3 (K3.out.n (A3, n3, x) (by simp))).mono ?_
  rintro e w4 ⟨rfl, B4⟩
  have K4 := Lib.hid (K3.out.call B4)
  clear B4
  have x1 := (K4.out.b (w.heap.size, .slice A n c) (by simp)).cell
  have x2 := (K4.out.b (w.heap.size + 1, .slice A' n' c') (by simp)).cell
  go_wp2_with fail
  have K4d := Lib.hid (K4.out.call (Below.refl w4.heap.size w4).drew)
  go_region_held3 (fun W => W.cell? ⟨w.heap.size, 0, none⟩ = some (.slice A n c) ∧ W.cell? ⟨w.heap.size + 1, 0, none⟩ = some (.slice A' n' c'))
    (first | (with_reducible exact kQ (by assumption)))
    (first
      | (go_at_call 12; (with_reducible refine (O1.out _).mono ?_); rintro e w5 ⟨A5, n5, c5, rfl, B5, D5, h5, l5⟩; have K5 := Lib.hid ((K4d.out.call B5).num D5); clear B5 D5)
      | (go_at_call 14; (with_reducible refine (O2.out _).mono ?_); rintro e w6 ⟨A6, n6, c6, rfl, B6, D6, h6, l6⟩; have K6 := Lib.hid ((K5.out.call B6).num D6); clear B6 D6)
      | (go_at_call 13; refine (law3_same _ (K6.out.n (A5, n5, x) (by simp)) (K6.out.n (A6, n6, x) (by simp)) h5).mono ?_; rintro e w7 ⟨rfl, B7⟩; have K7 := Lib.hid (K6.out.call B7); clear B7)
      | (go_at_call 15; (with_reducible refine (V1.out _ K7.out.bel).mono ?_); rintro e w8 ⟨rfl, B8⟩; have K8 := Lib.hid (K7.out.call B8); clear B8)
      | (go_at_call 16; (with_reducible refine (V2.out _ K8.out.bel).mono ?_); rintro e w9 ⟨rfl, B9⟩; have K9 := Lib.hid (K8.out.call B9); clear B9)
      | (go_at_call 17; (with_reducible refine (C1.out _ K9.out.bel).mono ?_); rintro e w10 ⟨rfl, B10⟩; have K10 := Lib.hid (K9.out.call B10); clear B10)
      | (go_at_call 18; (with_reducible refine (C2.out _ K10.out.bel).mono ?_); rintro e w11 ⟨rfl, B11⟩; have K11 := Lib.hid (K10.out.call B11); clear B11)
      | (go_at_call 17; (with_reducible refine (C3.out _ K11.out.bel).mono ?_); rintro e w12 ⟨rfl, B12⟩; have K12 := Lib.hid (K11.out.call B12); clear B12)
      | (go_at_call 17; (with_reducible refine (C1.out _ K12.out.bel).mono ?_); rintro e w13 ⟨rfl, B13⟩; have K13 := Lib.hid (K12.out.call B13); clear B13)
      | (go_at_call 19; (with_reducible refine (FO.out _).mono ?_); rintro e w14 ⟨rfl, B14⟩; have K14 := Lib.hid (K13.out.call B14); clear B14))
  all_goals (
    go_wp2
    go_ret
    exact ⟨rfl, K14.out.bel⟩)

/-! ### The row's step, the row -/
set_option maxRecDepth 100000 in
theorem lifted (os : Os) (started : os.Started) (H : Type) (enc : TypeId × Value → H) :
    ReturnsInHanded {} Try.checked os 3 .any (Rows.natFormsSpec.pre6 enc Try.prog Try.f3 Rows.natFormsRow.domain false) (Rows.natFormsSpec.post enc Try.prog Try.f3 false true false false) := by
  refine returnsInHanded_of_change (C := Try.checked) own started (by kernel_rfl) Try.func3
    (ChangeSpec.witness6 (enc := enc) (C := Try.checked) false ⟨#[], #[.int .u64 0, .agg #[.slice none 0 0], .agg #[.slice none 0 0]], []⟩ 8 (by kernel_rfl) (by kernel_rfl) (by kernel_rfl) (by kernel_rfl)) ?_
  intro W base args ds gs before hval0 hW hcnd _
  have hval : ∀ (j : Nat) t v, Try.f3.params[j]? = some t → args[j]? = some v → Value.okWide Try.prog W .any base t v := hval0
  have hW' := hW
  obtain ⟨p, q, hA0, hV, rfl, hfz, hnd⟩ := hW
  have hA : DataW.TrodAll enc Try.prog W 0 (fun _ => true) true Try.f3.params.toList args.toList ds p := hA0
  rw [Try.params3] at hA hval

  obtain ⟨v0, vs0, d0, ds0, p0, q0, hargs, rfl, rfl, h0, r0⟩ := trodAll_cons hA
  obtain ⟨v1, vs1, d1, ds1, p1, q1, rfl, rfl, rfl, h1, r1⟩ := trodAll_cons r0
  obtain ⟨v2, vs2, d2, ds2, p2, q2, rfl, rfl, rfl, h2, r2⟩ := trodAll_cons r1
  obtain ⟨rfl, rfl, rfl⟩ := trodAll_nil r2
  obtain rfl : args = #[v0, v1, v2] := by cases args; simp_all
  obtain ⟨rfl, rfl⟩ := trodVars_none hV
  obtain ⟨a0, rfl, rfl, rfl, w0⟩ := open_int Try.underlying22 (hval 0 22 v0 rfl rfl) h0
  have b0 := bounds_u64 w0
  have k1 := h1
  have lt1 : ∀ x ∈ p1, x.block < W.heap.size := by
    obtain ⟨m, hm⟩ := k1
    exact DataW.trod_lt m _ _ _ hm
  obtain ⟨A1, n1, c1, f1, rfl, w1⟩ := nat_opened (hval 1 25 v1 rfl rfl) h1
  have k2 := h2
  have lt2 : ∀ x ∈ p2, x.block < W.heap.size := by
    obtain ⟨m, hm⟩ := k2
    exact DataW.trod_lt m _ _ _ hm
  obtain ⟨A2, n2, c2, f2, rfl, w2⟩ := nat_opened (hval 2 25 v2 rfl rfl) h2
  clear hA0 hval0
  refine (walk a0 A1 n1 c1 f1 A2 n2 c2 f2 b0.1 b0.2   W w1 w2).mono fun e W' ⟨he, bel⟩ => ?_
  subst he
  exact ⟨_, rfl, _, _, _, [], _, [], hW', trodAll_mk1 (shut_bool Try.underlying4 _), (trodAll_cons_mk (shut_int Try.underlying22 w0) (trodAll_cons_mk (Below.trod laidOut (by kernel_rfl) (of_decide_eq_true (by kernel_rfl)) k1 bel lt1) (trodAll_cons_mk (Below.trod laidOut (by kernel_rfl) (of_decide_eq_true (by kernel_rfl)) k2 bel lt2) trodAll_mk0))), rfl, bel.frame _, fun h => by cases h⟩

theorem over : Rows.NatFormsSaid :=
  OpenClaim.holds_of_wide 3 Try.f3 rfl rfl rfl rfl rfl rfl rfl ⟨rfl, rfl, rfl, rfl, rfl⟩ rfl rfl rfl rfl rfl (by kernel_rfl) Try.func3 (by kernel_rfl)
    (of_decide_eq_true (by kernel_rfl)) (by unfold Func.isWrapper; first | (rw [if_pos (by decide +kernel)]; kernel_rfl) | (rw [if_neg (by decide +kernel)]; exact ⟨rfl, rfl⟩))
    (fun os started H enc _ => lifted os started H enc)
/-- The statement. -/
theorem proved : Rows.NatFormsSaid := over
end Go.Proofs.Ytpgdjkklhcjajaa.natForms
