/- NatDivides (P3.4, the stage's theorem): for all valid numbers the quotient times the divisor, and the rest, is the dividend, and the rest is less than the divisor; for all other structs, and where the divisor is 0, DivMod answers an error: the law returns true. No condition. -/
import Derived.Test.YtpgdjkklhcjajaaNatO
import Derived.Test.YtpgdjkklhcjajaaNatM
namespace Go.Proofs.Ytpgdjkklhcjajaa.natDivides
open Go.RowKit Go.ChangeShapes Go.WideShapes Go.ChangeAt Go.WideElems
open Go.ChangeMaps (open_string shut_string)
set_option linter.unusedVariables false

theorem walk (A : Option Addr) (n c : Nat) (f : Nat → Nat) (A' : Option Addr) (n' c' : Nat) (f' : Nat → Nat) (w : World) (h : Arg w A n c f) (h' : Arg w A' n' c' f') :
    Calls Try.prog 7 #[.agg #[.slice A n c], .agg #[.slice A' n' c']] w fun e w' => e = .returned (.bool true) ∧ Below w.heap.size w w' := by
  have v1 := fun W (hb : Below w.heap.size w W) => nat_Valid (c := c) W (h.on hb).d h.big
  have v2 := fun W (hb : Below w.heap.size w W) => nat_Valid (c := c') W (h'.on hb).d h'.big
  have k0 := ((Kp.start w).box (.slice A n c)).box (.slice A' n' c')
  have K0 := Lib.hid k0
  rw [show (w.alloc (.cells #[.slice A n c] 25)).heap.size = w.heap.size + 1 by simp] at K0
  clear k0
  cases e1 : Nt.vd f n
  · have c1 := fun W (hb : Below w.heap.size w W) => nat_DivMod_bad (c := c) (c' := c') W (h.on hb).d (h'.on hb).d h.big h'.big (by rw [e1]; rfl)
    rw [e1] at v1
    have VA := Lib.hid v1
    have CA := Lib.hid c1
    clear v1 v2 c1 e1 h h'
    go_enter Try.func7, Try.ntmps7
    go_wp2_with fail
    refine (VA.out _ K0.out.bel).mono ?_
    rintro e w1 ⟨rfl, B1⟩
    have K1 := Lib.hid (K0.out.call B1)
    clear B1
    have x0 := (K1.out.b (w.heap.size, .slice A n c) (by simp)).cell
    have x1 := (K1.out.b (w.heap.size + 1, .slice A' n' c') (by simp)).cell
    go_wp2_with fail
    refine (CA.out _ K1.out.bel).mono ?_
    rintro e w2 ⟨A2, n2, c2, A2r, n2r, c2r, rfl, B2, D2, D2r, h2, h2r, l2, l2r⟩
    have K2 := Lib.hid (((((K1.out.call B2).num D2).num D2r).box (.slice A2 n2 c2)).box (.slice A2r n2r c2r))
    rw [show (w2.alloc (.cells #[.slice A2 n2 c2] 25)).heap.size = w2.heap.size + 1 by simp] at K2
    clear B2 D2 D2r
    clear x0 x1
    have x0 := (K2.out.b (w.heap.size, .slice A n c) (by simp)).cell
    have x1 := (K2.out.b (w.heap.size + 1, .slice A' n' c') (by simp)).cell
    go_wp2_with fail
    refine (law3_divided _).mono ?_
    rintro e w3 ⟨rfl, B3⟩
    have K3 := Lib.hid (K2.out.call B3)
    clear B3
    clear x0 x1
    have x0 := (K3.out.b (w.heap.size, .slice A n c) (by simp)).cell
    have x1 := (K3.out.b (w.heap.size + 1, .slice A' n' c') (by simp)).cell
    have x2 := (K3.out.b (w2.heap.size, .slice A2 n2 c2) (by simp)).cell
    have x3 := (K3.out.b (w2.heap.size + 1, .slice A2r n2r c2r) (by simp)).cell
    go_wp2
    go_ret
    exact ⟨rfl, K3.out.bel⟩
  · rw [e1] at v1
    have VA := Lib.hid v1
    clear v1
    cases e2 : Nt.vd f' n'
    · have c1 := fun W (hb : Below w.heap.size w W) => nat_DivMod_bad (c := c) (c' := c') W (h.on hb).d (h'.on hb).d h.big h'.big (by rw [e2, Bool.and_false])
      rw [e2] at v2
      have VB := Lib.hid v2
      have CA := Lib.hid c1
      clear v2 c1 e1 e2 h h'
      go_enter Try.func7, Try.ntmps7
      go_wp2_with fail
      refine (VA.out _ K0.out.bel).mono ?_
      rintro e w1 ⟨rfl, B1⟩
      have K1 := Lib.hid (K0.out.call B1)
      clear B1
      have x0 := (K1.out.b (w.heap.size, .slice A n c) (by simp)).cell
      have x1 := (K1.out.b (w.heap.size + 1, .slice A' n' c') (by simp)).cell
      go_wp2_with fail
      refine (VB.out _ K1.out.bel).mono ?_
      rintro e w2 ⟨rfl, B2⟩
      have K2 := Lib.hid (K1.out.call B2)
      clear B2
      clear x0 x1
      have x0 := (K2.out.b (w.heap.size, .slice A n c) (by simp)).cell
      have x1 := (K2.out.b (w.heap.size + 1, .slice A' n' c') (by simp)).cell
      go_wp2_with fail
      refine (CA.out _ K2.out.bel).mono ?_
      rintro e w3 ⟨A3, n3, c3, A3r, n3r, c3r, rfl, B3, D3, D3r, h3, h3r, l3, l3r⟩
      have K3 := Lib.hid (((((K2.out.call B3).num D3).num D3r).box (.slice A3 n3 c3)).box (.slice A3r n3r c3r))
      rw [show (w3.alloc (.cells #[.slice A3 n3 c3] 25)).heap.size = w3.heap.size + 1 by simp] at K3
      clear B3 D3 D3r
      clear x0 x1
      have x0 := (K3.out.b (w.heap.size, .slice A n c) (by simp)).cell
      have x1 := (K3.out.b (w.heap.size + 1, .slice A' n' c') (by simp)).cell
      go_wp2_with fail
      refine (law3_divided _).mono ?_
      rintro e w4 ⟨rfl, B4⟩
      have K4 := Lib.hid (K3.out.call B4)
      clear B4
      clear x0 x1
      have x0 := (K4.out.b (w.heap.size, .slice A n c) (by simp)).cell
      have x1 := (K4.out.b (w.heap.size + 1, .slice A' n' c') (by simp)).cell
      have x2 := (K4.out.b (w3.heap.size, .slice A3 n3 c3) (by simp)).cell
      have x3 := (K4.out.b (w3.heap.size + 1, .slice A3r n3r c3r) (by simp)).cell
      go_wp2
      go_ret
      exact ⟨rfl, K4.out.bel⟩
    · rw [e2] at v2
      have VB := Lib.hid v2
      have i1 := h.isN e1
      have i2 := h'.isN e2
      have hn := (Nt.vd_iff.1 e1).1
      have hn' := (Nt.vd_iff.1 e2).1
      have hc := h.cap
      obtain ⟨x, ex⟩ : ∃ x, x = Nt.vl 4294967296 f n := ⟨_, rfl⟩
      obtain ⟨y, ey⟩ : ∃ y, y = Nt.vl 4294967296 f' n' := ⟨_, rfl⟩
      rw [← ex] at i1
      rw [← ey] at i2
      have I1 := Lib.hid i1
      have I2 := Lib.hid i2
      clear v2 e1 e2 h h' ex ey
      by_cases h0 : n' = 0
      · have hy : y = 0 := by
          have := i2.val
          rw [h0] at this
          exact this.symm
        have c1 := fun W (hb : Below w.heap.size w W) => nat_DivMod_zero (c := c) (c' := c') W (i1.on hb) (i2.on hb) hn hn' hy
        have CA := Lib.hid c1
        have hl : ((n' : Int) == 0) = true := by simp [h0]
        clear c1 hy h0 i1 i2
        go_enter Try.func7, Try.ntmps7
        go_wp2_with fail
        refine (VA.out _ K0.out.bel).mono ?_
        rintro e w1 ⟨rfl, B1⟩
        have K1 := Lib.hid (K0.out.call B1)
        clear B1
        have x0 := (K1.out.b (w.heap.size, .slice A n c) (by simp)).cell
        have x1 := (K1.out.b (w.heap.size + 1, .slice A' n' c') (by simp)).cell
        go_wp2_with fail
        refine (VB.out _ K1.out.bel).mono ?_
        rintro e w2 ⟨rfl, B2⟩
        have K2 := Lib.hid (K1.out.call B2)
        clear B2
        clear x0 x1
        have x0 := (K2.out.b (w.heap.size, .slice A n c) (by simp)).cell
        have x1 := (K2.out.b (w.heap.size + 1, .slice A' n' c') (by simp)).cell
        go_wp2_with fail
        refine (CA.out _ K2.out.bel).mono ?_
        rintro e w3 ⟨A3, n3, c3, A3r, n3r, c3r, rfl, B3, D3, D3r, h3, h3r, l3, l3r⟩
        have K3 := Lib.hid (((((K2.out.call B3).num D3).num D3r).box (.slice A3 n3 c3)).box (.slice A3r n3r c3r))
        rw [show (w3.alloc (.cells #[.slice A3 n3 c3] 25)).heap.size = w3.heap.size + 1 by simp] at K3
        clear B3 D3 D3r
        clear x0 x1
        have x0 := (K3.out.b (w.heap.size, .slice A n c) (by simp)).cell
        have x1 := (K3.out.b (w.heap.size + 1, .slice A' n' c') (by simp)).cell
        go_wp2_with fail
        refine (law3_divided _).mono ?_
        rintro e w4 ⟨rfl, B4⟩
        have K4 := Lib.hid (K3.out.call B4)
        clear B4
        clear x0 x1
        have x0 := (K4.out.b (w.heap.size, .slice A n c) (by simp)).cell
        have x1 := (K4.out.b (w.heap.size + 1, .slice A' n' c') (by simp)).cell
        have x2 := (K4.out.b (w3.heap.size, .slice A3 n3 c3) (by simp)).cell
        have x3 := (K4.out.b (w3.heap.size + 1, .slice A3r n3r c3r) (by simp)).cell
        go_wp2
        go_ret
        exact ⟨rfl, K4.out.bel⟩
      · have hy : 0 < y := by
          have := i2.l
          rcases Nat.eq_zero_or_pos y with h | h
          · rw [h, Nt.ln_zero] at this; omega
          · exact h
        have c1 := fun W (hb : Below w.heap.size w W) => nat_DivMod_ok (c := c) (c' := c') W (i1.on hb) (i2.on hb) hn hn' hc hy
        have hl : ((n' : Int) == 0) = false := by simp [h0]
        have fx := i1.fit hn
        have hp0 := Nat.div_mul_le_self x y
        have hr0 := Nat.mod_lt x hy
        have hs0 : x / y * y + x % y = x := by rw [Nat.mul_comm]; exact Nat.div_add_mod x y
        obtain ⟨q, eq⟩ : ∃ q, q = x / y := ⟨_, rfl⟩
        obtain ⟨r, er⟩ : ∃ r, r = x % y := ⟨_, rfl⟩
        rw [← eq] at c1 hp0 hs0
        rw [← er] at c1 hr0 hs0
        obtain ⟨p, ep⟩ : ∃ p, p = q * y := ⟨_, rfl⟩
        have CA := Lib.hid c1
        have HF := Lib.hid (Nt.fits_mono hp0 fx)
        have HP := Lib.hid ep.symm
        have HR := Lib.hid hr0
        rw [← ep] at hs0
        have HX := Lib.hid fx
        have HS := Lib.hid hs0
        clear c1 hy h0 i1 i2 fx hp0 hr0 hs0 eq er ep
        go_enter Try.func7, Try.ntmps7
        go_wp2_with fail
        refine (VA.out _ K0.out.bel).mono ?_
        rintro e w1 ⟨rfl, B1⟩
        have K1 := Lib.hid (K0.out.call B1)
        clear B1
        have x0 := (K1.out.b (w.heap.size, .slice A n c) (by simp)).cell
        have x1 := (K1.out.b (w.heap.size + 1, .slice A' n' c') (by simp)).cell
        go_wp2_with fail
        refine (VB.out _ K1.out.bel).mono ?_
        rintro e w2 ⟨rfl, B2⟩
        have K2 := Lib.hid (K1.out.call B2)
        clear B2
        clear x0 x1
        have x0 := (K2.out.b (w.heap.size, .slice A n c) (by simp)).cell
        have x1 := (K2.out.b (w.heap.size + 1, .slice A' n' c') (by simp)).cell
        go_wp2_with fail
        refine (CA.out _ K2.out.bel).mono ?_
        rintro e w3 ⟨A3, n3, c3, A3r, n3r, c3r, rfl, B3, D3, D3r, h3, h3r, l3, l3r⟩
        have K3 := Lib.hid (((((K2.out.call B3).num D3).num D3r).box (.slice A3 n3 c3)).box (.slice A3r n3r c3r))
        rw [show (w3.alloc (.cells #[.slice A3 n3 c3] 25)).heap.size = w3.heap.size + 1 by simp] at K3
        clear B3 D3 D3r
        clear x0 x1
        have x0 := (K3.out.b (w.heap.size, .slice A n c) (by simp)).cell
        have x1 := (K3.out.b (w.heap.size + 1, .slice A' n' c') (by simp)).cell
        go_wp2_with fail
        refine (nat_Mul_to _ (K3.out.n (A3, n3, q) (by simp)) h3 (I2.out.on K3.out.bel) hn' HF.out HP.out).mono ?_
        rintro e w4 ⟨A4, n4, c4, rfl, B4, D4, h4, l4⟩
        have K4 := Lib.hid (((K3.out.call B4).num D4).box (.slice A4 n4 c4))
        clear B4 D4
        clear x0 x1
        have x0 := (K4.out.b (w.heap.size, .slice A n c) (by simp)).cell
        have x1 := (K4.out.b (w.heap.size + 1, .slice A' n' c') (by simp)).cell
        have x2 := (K4.out.b (w3.heap.size, .slice A3 n3 c3) (by simp)).cell
        have x3 := (K4.out.b (w3.heap.size + 1, .slice A3r n3r c3r) (by simp)).cell
        go_wp2_with fail
        refine (nat_Add_to _ (K4.out.n (A4, n4, p) (by simp)) h4 (K4.out.n (A3r, n3r, r) (by simp)) h3r HX.out HS.out).mono ?_
        rintro e w5 ⟨A5, n5, c5, rfl, B5, D5, h5, l5⟩
        have K5 := Lib.hid (((K4.out.call B5).num D5).box (.slice A5 n5 c5))
        clear B5 D5
        clear x0 x1 x2 x3
        have x0 := (K5.out.b (w.heap.size, .slice A n c) (by simp)).cell
        have x1 := (K5.out.b (w.heap.size + 1, .slice A' n' c') (by simp)).cell
        have x2 := (K5.out.b (w3.heap.size, .slice A3 n3 c3) (by simp)).cell
        have x3 := (K5.out.b (w3.heap.size + 1, .slice A3r n3r c3r) (by simp)).cell
        have x4 := (K5.out.b (w4.heap.size, .slice A4 n4 c4) (by simp)).cell
        have hL : ((n5 : Int) == (n : Int)) = true := by
          have e1 := (K5.out.n (A5, n5, x) (by simp)).l
          have e2 := I1.out.l
          have e3 : n5 = n := e1.symm.trans e2
          simp [e3]
        go_wp2_with fail
        refine (nat_Valid_yes _ (K5.out.n (A3, n3, q) (by simp)) h3).mono ?_
        rintro e w6 ⟨rfl, B6⟩
        have K6 := Lib.hid (K5.out.call B6)
        clear B6
        clear x0 x1 x2 x3 x4
        have x0 := (K6.out.b (w.heap.size, .slice A n c) (by simp)).cell
        have x1 := (K6.out.b (w.heap.size + 1, .slice A' n' c') (by simp)).cell
        have x2 := (K6.out.b (w3.heap.size, .slice A3 n3 c3) (by simp)).cell
        have x3 := (K6.out.b (w3.heap.size + 1, .slice A3r n3r c3r) (by simp)).cell
        have x4 := (K6.out.b (w4.heap.size, .slice A4 n4 c4) (by simp)).cell
        have x5 := (K6.out.b (w5.heap.size, .slice A5 n5 c5) (by simp)).cell
        go_wp2_with fail
        refine (nat_Valid_yes _ (K6.out.n (A3r, n3r, r) (by simp)) h3r).mono ?_
        rintro e w7 ⟨rfl, B7⟩
        have K7 := Lib.hid (K6.out.call B7)
        clear B7
        clear x0 x1 x2 x3 x4 x5
        have x0 := (K7.out.b (w.heap.size, .slice A n c) (by simp)).cell
        have x1 := (K7.out.b (w.heap.size + 1, .slice A' n' c') (by simp)).cell
        have x2 := (K7.out.b (w3.heap.size, .slice A3 n3 c3) (by simp)).cell
        have x3 := (K7.out.b (w3.heap.size + 1, .slice A3r n3r c3r) (by simp)).cell
        have x4 := (K7.out.b (w4.heap.size, .slice A4 n4 c4) (by simp)).cell
        have x5 := (K7.out.b (w5.heap.size, .slice A5 n5 c5) (by simp)).cell
        go_wp2_with fail
        refine (nat_Cmp_less _ (K7.out.n (A3r, n3r, r) (by simp)) h3r (I2.out.on K7.out.bel) hn' HR.out).mono ?_
        rintro e w8 ⟨rfl, B8⟩
        have K8 := Lib.hid (K7.out.call B8)
        clear B8
        clear x0 x1 x2 x3 x4 x5
        have x0 := (K8.out.b (w.heap.size, .slice A n c) (by simp)).cell
        have x1 := (K8.out.b (w.heap.size + 1, .slice A' n' c') (by simp)).cell
        have x2 := (K8.out.b (w3.heap.size, .slice A3 n3 c3) (by simp)).cell
        have x3 := (K8.out.b (w3.heap.size + 1, .slice A3r n3r c3r) (by simp)).cell
        have x4 := (K8.out.b (w4.heap.size, .slice A4 n4 c4) (by simp)).cell
        have x5 := (K8.out.b (w5.heap.size, .slice A5 n5 c5) (by simp)).cell
        go_wp2_with fail
        refine (nat_Cmp_same _ (K8.out.n (A5, n5, x) (by simp)) h5 (I1.out.on K8.out.bel) hn).mono ?_
        rintro e w9 ⟨rfl, B9⟩
        have K9 := Lib.hid (K8.out.call B9)
        clear B9
        clear x0 x1 x2 x3 x4 x5
        have x0 := (K9.out.b (w.heap.size, .slice A n c) (by simp)).cell
        have x1 := (K9.out.b (w.heap.size + 1, .slice A' n' c') (by simp)).cell
        have x2 := (K9.out.b (w3.heap.size, .slice A3 n3 c3) (by simp)).cell
        have x3 := (K9.out.b (w3.heap.size + 1, .slice A3r n3r c3r) (by simp)).cell
        have x4 := (K9.out.b (w4.heap.size, .slice A4 n4 c4) (by simp)).cell
        have x5 := (K9.out.b (w5.heap.size, .slice A5 n5 c5) (by simp)).cell
        go_wp2_with fail
        refine (law3_divided _).mono ?_
        rintro e w10 ⟨rfl, B10⟩
        have K10 := Lib.hid (K9.out.call B10)
        clear B10
        clear x0 x1 x2 x3 x4 x5
        have x0 := (K10.out.b (w.heap.size, .slice A n c) (by simp)).cell
        have x1 := (K10.out.b (w.heap.size + 1, .slice A' n' c') (by simp)).cell
        have x2 := (K10.out.b (w3.heap.size, .slice A3 n3 c3) (by simp)).cell
        have x3 := (K10.out.b (w3.heap.size + 1, .slice A3r n3r c3r) (by simp)).cell
        have x4 := (K10.out.b (w4.heap.size, .slice A4 n4 c4) (by simp)).cell
        have x5 := (K10.out.b (w5.heap.size, .slice A5 n5 c5) (by simp)).cell
        go_wp2
        go_ret
        exact ⟨rfl, K10.out.bel⟩

/-! ### The row's step, the row -/
set_option maxRecDepth 100000 in
theorem lifted (os : Os) (started : os.Started) (H : Type) (enc : TypeId × Value → H) :
    ReturnsInHanded {} Try.checked os 7 .any (Rows.natDividesSpec.pre6 enc Try.prog Try.f7 Rows.natDividesRow.domain false) (Rows.natDividesSpec.post enc Try.prog Try.f7 false true false false) := by
  refine returnsInHanded_of_change (C := Try.checked) own started (by kernel_rfl) Try.func7
    (ChangeSpec.witness6 (enc := enc) (C := Try.checked) false ⟨#[], #[.agg #[.slice none 0 0], .agg #[.slice none 0 0]], []⟩ 8 (by kernel_rfl) (by kernel_rfl) (by kernel_rfl) (by kernel_rfl)) ?_
  intro W base args ds gs before hval0 hW hcnd _
  have hval : ∀ (j : Nat) t v, Try.f7.params[j]? = some t → args[j]? = some v → Value.okWide Try.prog W .any base t v := hval0
  have hW' := hW
  obtain ⟨p, q, hA0, hV, rfl, hfz, hnd⟩ := hW
  have hA : DataW.TrodAll enc Try.prog W 0 (fun _ => true) true Try.f7.params.toList args.toList ds p := hA0
  rw [Try.params7] at hA hval

  obtain ⟨v0, vs0, d0, ds0, p0, q0, hargs, rfl, rfl, h0, r0⟩ := trodAll_cons hA
  obtain ⟨v1, vs1, d1, ds1, p1, q1, rfl, rfl, rfl, h1, r1⟩ := trodAll_cons r0
  obtain ⟨rfl, rfl, rfl⟩ := trodAll_nil r1
  obtain rfl : args = #[v0, v1] := by cases args; simp_all
  obtain ⟨rfl, rfl⟩ := trodVars_none hV
  have k0 := h0
  have lt0 : ∀ x ∈ p0, x.block < W.heap.size := by
    obtain ⟨m, hm⟩ := k0
    exact DataW.trod_lt m _ _ _ hm
  obtain ⟨A0, n0, c0, f0, rfl, w0⟩ := nat_opened (hval 0 25 v0 rfl rfl) h0
  have k1 := h1
  have lt1 : ∀ x ∈ p1, x.block < W.heap.size := by
    obtain ⟨m, hm⟩ := k1
    exact DataW.trod_lt m _ _ _ hm
  obtain ⟨A1, n1, c1, f1, rfl, w1⟩ := nat_opened (hval 1 25 v1 rfl rfl) h1
  clear hA0 hval0
  refine (walk A0 n0 c0 f0 A1 n1 c1 f1   W w0 w1).mono fun e W' ⟨he, bel⟩ => ?_
  subst he
  exact ⟨_, rfl, _, _, _, [], _, [], hW', trodAll_mk1 (shut_bool Try.underlying4 _), (trodAll_cons_mk (Below.trod laidOut (by kernel_rfl) (of_decide_eq_true (by kernel_rfl)) k0 bel lt0) (trodAll_cons_mk (Below.trod laidOut (by kernel_rfl) (of_decide_eq_true (by kernel_rfl)) k1 bel lt1) trodAll_mk0)), rfl, bel.frame _, fun h => by cases h⟩

theorem over : Rows.NatDividesSaid :=
  OpenClaim.holds_of_wide 7 Try.f7 rfl rfl rfl rfl rfl rfl rfl ⟨rfl, rfl, rfl, rfl, rfl⟩ rfl rfl rfl rfl rfl (by kernel_rfl) Try.func7 (by kernel_rfl)
    (of_decide_eq_true (by kernel_rfl)) (by unfold Func.isWrapper; first | (rw [if_pos (by decide +kernel)]; kernel_rfl) | (rw [if_neg (by decide +kernel)]; exact ⟨rfl, rfl⟩))
    (fun os started H enc _ => lifted os started H enc)
/-- The statement. -/
theorem proved : Rows.NatDividesSaid := over
end Go.Proofs.Ytpgdjkklhcjajaa.natDivides
