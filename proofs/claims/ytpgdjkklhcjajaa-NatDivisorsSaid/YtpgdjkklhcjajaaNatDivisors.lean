/- NatDivisors (P3.5): for every two structs of at most 70 limbs GCD answers what the reference answers, and it divides both: the law returns true. No condition. -/
import Derived.Test.YtpgdjkklhcjajaaNatO
import Derived.Test.YtpgdjkklhcjajaaNatM
namespace Go.Proofs.Ytpgdjkklhcjajaa.natDivisors
open Go.RowKit Go.ChangeShapes Go.WideShapes Go.ChangeAt Go.WideElems
open Go.ChangeMaps (open_string shut_string)
set_option linter.unusedVariables false

theorem walk (A : Option Addr) (n c : Nat) (f : Nat → Nat) (A' : Option Addr) (n' c' : Nat) (f' : Nat → Nat) (w : World) (h : Arg w A n c f) (h' : Arg w A' n' c' f') :
    Calls Try.prog 8 #[.agg #[.slice A n c], .agg #[.slice A' n' c']] w fun e w' => e = .returned (.bool true) ∧ Below w.heap.size w w' := by
  have fw := fun W => law3_few (A := A) (A' := A') (c := c) (c' := c') W h.big h'.big
  have k0 := ((Kp.start w).box (.slice A n c)).box (.slice A' n' c')
  have K0 := Lib.hid k0
  rw [show (w.alloc (.cells #[.slice A n c] 25)).heap.size = w.heap.size + 1 by simp] at K0
  clear k0
  cases hf : Nt.few n n'
  · rw [hf] at fw
    have FW := Lib.hid fw
    clear fw hf h h'
    go_enter Try.func8, Try.ntmps8
    go_wp2_with fail
    refine (FW.out _).mono ?_
    rintro e w1 ⟨rfl, B1⟩
    have K1 := Lib.hid (K0.out.call B1)
    clear B1
    have x0 := (K1.out.b (w.heap.size, .slice A n c) (by simp)).cell
    have x1 := (K1.out.b (w.heap.size + 1, .slice A' n' c') (by simp)).cell
    go_wp2_with fail
    refine (law3_common _).mono ?_
    rintro e w2 ⟨rfl, B2⟩
    have K2 := Lib.hid (K1.out.call B2)
    clear B2
    clear x0 x1
    have x0 := (K2.out.b (w.heap.size, .slice A n c) (by simp)).cell
    have x1 := (K2.out.b (w.heap.size + 1, .slice A' n' c') (by simp)).cell
    go_wp2
    go_ret
    exact ⟨rfl, K2.out.bel⟩
  · rw [hf] at fw
    have FW := Lib.hid fw
    clear fw hf
    cases hv : (Nt.vd f n && Nt.vd f' n')
    · have CA := Lib.hid fun W (hb : Below w.heap.size w W) => nat_GCD_bad (c := c) (c' := c') W (h.on hb).d (h'.on hb).d h.big h'.big hv
      have CB := Lib.hid fun W (hb : Below w.heap.size w W) => ref3_GCD_bad (c := c) (c' := c') W (h.on hb).d (h'.on hb).d h.big h'.big hv
      clear hv h h'
      go_enter Try.func8, Try.ntmps8
      go_wp2_with fail
      refine (FW.out _).mono ?_
      rintro e w1 ⟨rfl, B1⟩
      have K1 := Lib.hid (K0.out.call B1)
      clear B1
      have x0 := (K1.out.b (w.heap.size, .slice A n c) (by simp)).cell
      have x1 := (K1.out.b (w.heap.size + 1, .slice A' n' c') (by simp)).cell
      go_wp2_with fail
      refine (CA.out _ K1.out.bel).mono ?_
      rintro e w2 ⟨A2, n2, c2, rfl, B2, D2, h2, l2⟩
      have K2 := Lib.hid (((K1.out.call B2).num D2).box (.slice A2 n2 c2))
      clear B2 D2
      clear x0 x1
      have x0 := (K2.out.b (w.heap.size, .slice A n c) (by simp)).cell
      have x1 := (K2.out.b (w.heap.size + 1, .slice A' n' c') (by simp)).cell
      go_wp2_with fail
      refine (CB.out _ K2.out.bel).mono ?_
      rintro e w3 ⟨A3, n3, c3, rfl, B3, D3, h3, l3⟩
      have K3 := Lib.hid (((K2.out.call B3).num D3).box (.slice A3 n3 c3))
      clear B3 D3
      clear x0 x1
      have x0 := (K3.out.b (w.heap.size, .slice A n c) (by simp)).cell
      have x1 := (K3.out.b (w.heap.size + 1, .slice A' n' c') (by simp)).cell
      have x2 := (K3.out.b (w2.heap.size, .slice A2 n2 c2) (by simp)).cell
      go_wp2_with fail
      refine (law3_same _ (K3.out.n (A2, n2, 0) (by simp)) (K3.out.n (A3, n3, 0) (by simp)) h2).mono ?_
      rintro e w4 ⟨rfl, B4⟩
      have K4 := Lib.hid (K3.out.call B4)
      clear B4
      clear x0 x1 x2
      have x0 := (K4.out.b (w.heap.size, .slice A n c) (by simp)).cell
      have x1 := (K4.out.b (w.heap.size + 1, .slice A' n' c') (by simp)).cell
      have x2 := (K4.out.b (w2.heap.size, .slice A2 n2 c2) (by simp)).cell
      have x3 := (K4.out.b (w3.heap.size, .slice A3 n3 c3) (by simp)).cell
      go_wp2_with fail
      refine (law3_common _).mono ?_
      rintro e w5 ⟨rfl, B5⟩
      have K5 := Lib.hid (K4.out.call B5)
      clear B5
      clear x0 x1 x2 x3
      have x0 := (K5.out.b (w.heap.size, .slice A n c) (by simp)).cell
      have x1 := (K5.out.b (w.heap.size + 1, .slice A' n' c') (by simp)).cell
      have x2 := (K5.out.b (w2.heap.size, .slice A2 n2 c2) (by simp)).cell
      have x3 := (K5.out.b (w3.heap.size, .slice A3 n3 c3) (by simp)).cell
      go_wp2
      go_ret
      exact ⟨rfl, K5.out.bel⟩
    · obtain ⟨e1, e2⟩ := Bool.and_eq_true_iff.1 hv
      have i1 := h.isN e1
      have i2 := h'.isN e2
      have hn := (Nt.vd_iff.1 e1).1
      have hn' := (Nt.vd_iff.1 e2).1
      have hc := h.cap
      have hc' := h'.cap
      obtain ⟨a, ea⟩ : ∃ x, x = Nt.vl 4294967296 f n := ⟨_, rfl⟩
      obtain ⟨b, eb⟩ : ∃ y, y = Nt.vl 4294967296 f' n' := ⟨_, rfl⟩
      rw [← ea] at i1
      rw [← eb] at i2
      have I1 := Lib.hid i1
      have I2 := Lib.hid i2
      have ca := fun W (hb : Below w.heap.size w W) => nat_GCD_ok (c := c) (c' := c') W (i1.on hb) (i2.on hb) hn hn' hc hc'
      have cb := fun W (hb : Below w.heap.size w W) => ref3_GCD_ok (c := c) (c' := c') W (i1.on hb) (i2.on hb) hn hn'
      have d1 := Nat.gcd_dvd_left a b
      have d2 := Nat.gcd_dvd_right a b
      obtain ⟨x, ex⟩ : ∃ x, x = Nat.gcd a b := ⟨_, rfl⟩
      rw [← ex] at ca cb d1 d2
      have CA := Lib.hid ca
      have CB := Lib.hid cb
      have HD1 := Lib.hid d1
      have HD2 := Lib.hid d2
      clear ca cb d1 d2 ex ea eb e1 e2 hv h h' i1 i2
      rcases Nat.eq_zero_or_pos x with hz | hz
      · have HZ := Lib.hid hz
        clear hz
        go_enter Try.func8, Try.ntmps8
        go_wp2_with fail
        refine (FW.out _).mono ?_
        rintro e w1 ⟨rfl, B1⟩
        have K1 := Lib.hid (K0.out.call B1)
        clear B1
        have x0 := (K1.out.b (w.heap.size, .slice A n c) (by simp)).cell
        have x1 := (K1.out.b (w.heap.size + 1, .slice A' n' c') (by simp)).cell
        go_wp2_with fail
        refine (CA.out _ K1.out.bel).mono ?_
        rintro e w2 ⟨A2, n2, c2, rfl, B2, D2, h2, l2⟩
        have K2 := Lib.hid (((K1.out.call B2).num D2).box (.slice A2 n2 c2))
        clear B2 D2
        clear x0 x1
        have x0 := (K2.out.b (w.heap.size, .slice A n c) (by simp)).cell
        have x1 := (K2.out.b (w.heap.size + 1, .slice A' n' c') (by simp)).cell
        have hL : ((n2 : Int) == 0) = true := by
          have e1 := (K2.out.n (A2, n2, x) (by simp)).l
          have e2 : Nt.ln 4294967296 x = 0 := by rw [HZ.out]; exact Nt.ln_zero
          have e3 : n2 = 0 := e1.symm.trans e2
          simp [e3]
        go_wp2_with fail
        refine (CB.out _ K2.out.bel).mono ?_
        rintro e w3 ⟨A3, n3, c3, rfl, B3, D3, h3, l3⟩
        have K3 := Lib.hid (((K2.out.call B3).num D3).box (.slice A3 n3 c3))
        clear B3 D3
        clear x0 x1
        have x0 := (K3.out.b (w.heap.size, .slice A n c) (by simp)).cell
        have x1 := (K3.out.b (w.heap.size + 1, .slice A' n' c') (by simp)).cell
        have x2 := (K3.out.b (w2.heap.size, .slice A2 n2 c2) (by simp)).cell
        go_wp2_with fail
        refine (law3_same _ (K3.out.n (A2, n2, x) (by simp)) (K3.out.n (A3, n3, x) (by simp)) h2).mono ?_
        rintro e w4 ⟨rfl, B4⟩
        have K4 := Lib.hid (K3.out.call B4)
        clear B4
        clear x0 x1 x2
        have x0 := (K4.out.b (w.heap.size, .slice A n c) (by simp)).cell
        have x1 := (K4.out.b (w.heap.size + 1, .slice A' n' c') (by simp)).cell
        have x2 := (K4.out.b (w2.heap.size, .slice A2 n2 c2) (by simp)).cell
        have x3 := (K4.out.b (w3.heap.size, .slice A3 n3 c3) (by simp)).cell
        go_wp2_with fail
        refine (law3_common _).mono ?_
        rintro e w5 ⟨rfl, B5⟩
        have K5 := Lib.hid (K4.out.call B5)
        clear B5
        clear x0 x1 x2 x3
        have x0 := (K5.out.b (w.heap.size, .slice A n c) (by simp)).cell
        have x1 := (K5.out.b (w.heap.size + 1, .slice A' n' c') (by simp)).cell
        have x2 := (K5.out.b (w2.heap.size, .slice A2 n2 c2) (by simp)).cell
        have x3 := (K5.out.b (w3.heap.size, .slice A3 n3 c3) (by simp)).cell
        go_wp2
        go_ret
        exact ⟨rfl, K5.out.bel⟩
      · have HZ := Lib.hid hz
        clear hz
        go_enter Try.func8, Try.ntmps8
        go_wp2_with fail
        refine (FW.out _).mono ?_
        rintro e w1 ⟨rfl, B1⟩
        have K1 := Lib.hid (K0.out.call B1)
        clear B1
        have x0 := (K1.out.b (w.heap.size, .slice A n c) (by simp)).cell
        have x1 := (K1.out.b (w.heap.size + 1, .slice A' n' c') (by simp)).cell
        go_wp2_with fail
        refine (CA.out _ K1.out.bel).mono ?_
        rintro e w2 ⟨A2, n2, c2, rfl, B2, D2, h2, l2⟩
        have K2 := Lib.hid (((K1.out.call B2).num D2).box (.slice A2 n2 c2))
        clear B2 D2
        clear x0 x1
        have x0 := (K2.out.b (w.heap.size, .slice A n c) (by simp)).cell
        have x1 := (K2.out.b (w.heap.size + 1, .slice A' n' c') (by simp)).cell
        have hL : ((n2 : Int) == 0) = false := by
          have e1 := (K2.out.n (A2, n2, x) (by simp)).l
          have e2 := Nt.ln_pos (B := 4294967296) (by omega) (Nat.pos_iff_ne_zero.1 HZ.out)
          have e3 : 0 < n2 := by rw [e1] at e2; exact e2
          simp; omega
        go_wp2_with fail
        refine (CB.out _ K2.out.bel).mono ?_
        rintro e w3 ⟨A3, n3, c3, rfl, B3, D3, h3, l3⟩
        have K3 := Lib.hid (((K2.out.call B3).num D3).box (.slice A3 n3 c3))
        clear B3 D3
        clear x0 x1
        have x0 := (K3.out.b (w.heap.size, .slice A n c) (by simp)).cell
        have x1 := (K3.out.b (w.heap.size + 1, .slice A' n' c') (by simp)).cell
        have x2 := (K3.out.b (w2.heap.size, .slice A2 n2 c2) (by simp)).cell
        go_wp2_with fail
        refine (law3_same _ (K3.out.n (A2, n2, x) (by simp)) (K3.out.n (A3, n3, x) (by simp)) h2).mono ?_
        rintro e w4 ⟨rfl, B4⟩
        have K4 := Lib.hid (K3.out.call B4)
        clear B4
        clear x0 x1 x2
        have x0 := (K4.out.b (w.heap.size, .slice A n c) (by simp)).cell
        have x1 := (K4.out.b (w.heap.size + 1, .slice A' n' c') (by simp)).cell
        have x2 := (K4.out.b (w2.heap.size, .slice A2 n2 c2) (by simp)).cell
        have x3 := (K4.out.b (w3.heap.size, .slice A3 n3 c3) (by simp)).cell
        go_wp2_with fail
        refine (nat_DivMod_exact _ (I1.out.on K4.out.bel) hn hc (K4.out.n (A2, n2, x) (by simp)) h2 HZ.out HD1.out).mono ?_
        rintro e w5 ⟨A5, n5, c5, A5r, n5r, c5r, rfl, B5, D5, D5r, h5, h5r, l5, l5r⟩
        have K5 := Lib.hid (((((K4.out.call B5).num D5).num D5r).box (.slice A5 n5 c5)).box (.slice A5r n5r c5r))
        rw [show (w5.alloc (.cells #[.slice A5 n5 c5] 25)).heap.size = w5.heap.size + 1 by simp] at K5
        clear B5 D5 D5r
        clear x0 x1 x2 x3
        have x0 := (K5.out.b (w.heap.size, .slice A n c) (by simp)).cell
        have x1 := (K5.out.b (w.heap.size + 1, .slice A' n' c') (by simp)).cell
        have x2 := (K5.out.b (w2.heap.size, .slice A2 n2 c2) (by simp)).cell
        have x3 := (K5.out.b (w3.heap.size, .slice A3 n3 c3) (by simp)).cell
        have hL5 : ((n5r : Int) == 0) = true := by
          have e1 := (K5.out.n (A5r, n5r, 0) (by simp)).l
          have e3 : n5r = 0 := e1.symm.trans Nt.ln_zero
          simp [e3]
        go_wp2_with fail
        refine (nat_DivMod_exact _ (I2.out.on K5.out.bel) hn' hc' (K5.out.n (A2, n2, x) (by simp)) h2 HZ.out HD2.out).mono ?_
        rintro e w6 ⟨A6, n6, c6, A6r, n6r, c6r, rfl, B6, D6, D6r, h6, h6r, l6, l6r⟩
        have K6 := Lib.hid (((((K5.out.call B6).num D6).num D6r).box (.slice A6 n6 c6)).box (.slice A6r n6r c6r))
        rw [show (w6.alloc (.cells #[.slice A6 n6 c6] 25)).heap.size = w6.heap.size + 1 by simp] at K6
        clear B6 D6 D6r
        clear x0 x1 x2 x3
        have x0 := (K6.out.b (w.heap.size, .slice A n c) (by simp)).cell
        have x1 := (K6.out.b (w.heap.size + 1, .slice A' n' c') (by simp)).cell
        have x2 := (K6.out.b (w2.heap.size, .slice A2 n2 c2) (by simp)).cell
        have x3 := (K6.out.b (w3.heap.size, .slice A3 n3 c3) (by simp)).cell
        have x4 := (K6.out.b (w5.heap.size, .slice A5 n5 c5) (by simp)).cell
        have x5 := (K6.out.b (w5.heap.size + 1, .slice A5r n5r c5r) (by simp)).cell
        have hL6 : ((n6r : Int) == 0) = true := by
          have e1 := (K6.out.n (A6r, n6r, 0) (by simp)).l
          have e3 : n6r = 0 := e1.symm.trans Nt.ln_zero
          simp [e3]
        go_wp2_with fail
        refine (law3_common _).mono ?_
        rintro e w7 ⟨rfl, B7⟩
        have K7 := Lib.hid (K6.out.call B7)
        clear B7
        clear x0 x1 x2 x3 x4 x5
        have x0 := (K7.out.b (w.heap.size, .slice A n c) (by simp)).cell
        have x1 := (K7.out.b (w.heap.size + 1, .slice A' n' c') (by simp)).cell
        have x2 := (K7.out.b (w2.heap.size, .slice A2 n2 c2) (by simp)).cell
        have x3 := (K7.out.b (w3.heap.size, .slice A3 n3 c3) (by simp)).cell
        have x4 := (K7.out.b (w5.heap.size, .slice A5 n5 c5) (by simp)).cell
        have x5 := (K7.out.b (w5.heap.size + 1, .slice A5r n5r c5r) (by simp)).cell
        have x6 := (K7.out.b (w6.heap.size, .slice A6 n6 c6) (by simp)).cell
        have x7 := (K7.out.b (w6.heap.size + 1, .slice A6r n6r c6r) (by simp)).cell
        go_wp2
        go_ret
        exact ⟨rfl, K7.out.bel⟩

/-! ### The row's step, the row -/
set_option maxRecDepth 100000 in
theorem lifted (os : Os) (started : os.Started) (H : Type) (enc : TypeId × Value → H) :
    ReturnsInHanded {} Try.checked os 8 .any (Rows.natDivisorsSpec.pre6 enc Try.prog Try.f8 Rows.natDivisorsRow.domain false) (Rows.natDivisorsSpec.post enc Try.prog Try.f8 false true false false) := by
  refine returnsInHanded_of_change (C := Try.checked) own started (by kernel_rfl) Try.func8
    (ChangeSpec.witness6 (enc := enc) (C := Try.checked) false ⟨#[], #[.agg #[.slice none 0 0], .agg #[.slice none 0 0]], []⟩ 8 (by kernel_rfl) (by kernel_rfl) (by kernel_rfl) (by kernel_rfl)) ?_
  intro W base args ds gs before hval0 hW hcnd _
  have hval : ∀ (j : Nat) t v, Try.f8.params[j]? = some t → args[j]? = some v → Value.okWide Try.prog W .any base t v := hval0
  have hW' := hW
  obtain ⟨p, q, hA0, hV, rfl, hfz, hnd⟩ := hW
  have hA : DataW.TrodAll enc Try.prog W 0 (fun _ => true) true Try.f8.params.toList args.toList ds p := hA0
  rw [Try.params8] at hA hval

  obtain ⟨v0, vs0, d0, ds0, p0, q0, hargs, rfl, rfl, h0, r0⟩ := trodAll_cons hA
  obtain ⟨v1, vs1, d1, ds1, p1, q1, rfl, rfl, rfl, h1, r1⟩ := trodAll_cons r0
  obtain ⟨rfl, rfl, rfl⟩ := trodAll_nil r1
  obtain rfl : args = #[v0, v1] := by cases args; simp_all
  obtain ⟨rfl, rfl⟩ := trodVars_none hV
  have k0 := h0
  have lt0 : ∀ x ∈ p0, x.block < W.heap.size := by
    obtain ⟨m, hm⟩ := k0
    exact DataW.trod_lt m _ _ _ hm
  obtain ⟨A0, n0, c0, f0, rfl, w0⟩ := nat_opened (hval 0 25 v0 rfl rfl) h0
  have k1 := h1
  have lt1 : ∀ x ∈ p1, x.block < W.heap.size := by
    obtain ⟨m, hm⟩ := k1
    exact DataW.trod_lt m _ _ _ hm
  obtain ⟨A1, n1, c1, f1, rfl, w1⟩ := nat_opened (hval 1 25 v1 rfl rfl) h1
  clear hA0 hval0
  refine (walk A0 n0 c0 f0 A1 n1 c1 f1   W w0 w1).mono fun e W' ⟨he, bel⟩ => ?_
  subst he
  exact ⟨_, rfl, _, _, _, [], _, [], hW', trodAll_mk1 (shut_bool Try.underlying4 _), (trodAll_cons_mk (Below.trod laidOut (by kernel_rfl) (of_decide_eq_true (by kernel_rfl)) k0 bel lt0) (trodAll_cons_mk (Below.trod laidOut (by kernel_rfl) (of_decide_eq_true (by kernel_rfl)) k1 bel lt1) trodAll_mk0)), rfl, bel.frame _, fun h => by cases h⟩

theorem over : Rows.NatDivisorsSaid :=
  OpenClaim.holds_of_wide 8 Try.f8 rfl rfl rfl rfl rfl rfl rfl ⟨rfl, rfl, rfl, rfl, rfl⟩ rfl rfl rfl rfl rfl (by kernel_rfl) Try.func8 (by kernel_rfl)
    (of_decide_eq_true (by kernel_rfl)) (by unfold Func.isWrapper; first | (rw [if_pos (by decide +kernel)]; kernel_rfl) | (rw [if_neg (by decide +kernel)]; exact ⟨rfl, rfl⟩))
    (fun os started H enc _ => lifted os started H enc)
/-- The statement. -/
theorem proved : Rows.NatDivisorsSaid := over
end Go.Proofs.Ytpgdjkklhcjajaa.natDivisors
