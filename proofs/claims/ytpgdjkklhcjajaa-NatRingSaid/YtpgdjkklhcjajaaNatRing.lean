/- NatRing (P3.2, P3.3): where nothing is too great a product distributes over a sum, sums and products do not depend on the order, and a difference undoes a sum: the law returns true. No condition. -/
import Derived.Test.YtpgdjkklhcjajaaNatO
import Derived.Test.YtpgdjkklhcjajaaNatM
namespace Go.Proofs.Ytpgdjkklhcjajaa.natRing
open Go.RowKit Go.ChangeShapes Go.WideShapes Go.ChangeAt Go.WideElems
open Go.ChangeMaps (open_string shut_string)
set_option linter.unusedVariables false

theorem walk_sum (A : Option Addr) (n c : Nat) (f : Nat → Nat) (A' : Option Addr) (n' c' : Nat) (f' : Nat → Nat) (A'' : Option Addr) (n'' c'' : Nat) (f'' : Nat → Nat) (w : World) (s : Nat) (er : Int) (he : (er != 0) = true) (h : Arg w A n c f) (ca : ∀ W, Below w.heap.size w W → Calls Try.prog 20 #[.agg #[.slice A' n' c'], .agg #[.slice A'' n'' c'']] W (NRes s er W)) :
    Calls Try.prog 9 #[.agg #[.slice A n c], .agg #[.slice A' n' c'], .agg #[.slice A'' n'' c'']] w fun e w' => e = .returned (.bool true) ∧ Below w.heap.size w w' := by
  have CA := Lib.hid ca
  have H := Lib.hid h
  clear ca h
  have k0 := (((Kp.start w).box (.slice A n c)).box (.slice A' n' c')).box (.slice A'' n'' c'')
  have K0 := Lib.hid k0
  rw [show ((w.alloc (.cells #[.slice A n c] 25)).alloc (.cells #[.slice A' n' c'] 25)).heap.size = w.heap.size + 1 + 1 by simp, show (w.alloc (.cells #[.slice A n c] 25)).heap.size = w.heap.size + 1 by simp] at K0
  clear k0
  go_enter Try.func9, Try.ntmps9
  go_wp2_with fail
  refine (CA.out _ K0.out.bel).mono ?_
  rintro e w1 ⟨A1, n1, c1, rfl, B1, D1, h1, l1⟩
  have K1 := Lib.hid (((K0.out.call B1).num D1).box (.slice A1 n1 c1))
  clear B1 D1
  have x0 := (K1.out.b (w.heap.size, .slice A n c) (by simp)).cell
  have x1 := (K1.out.b (w.heap.size + 1, .slice A' n' c') (by simp)).cell
  have x2 := (K1.out.b (w.heap.size + 1 + 1, .slice A'' n'' c'') (by simp)).cell
  go_wp2_with fail
  refine (nat_Mul_any _ (H.out.on K1.out.bel) ((K1.out.n (A1, n1, s) (by simp)).arg h1 l1)).mono ?_
  rintro e w2 ⟨A2, n2, c2, rfl, B2, D2, h2, l2⟩
  have K2 := Lib.hid (((K1.out.call B2).num D2).box (.slice A2 n2 c2))
  clear B2 D2
  clear x0 x1 x2
  have x0 := (K2.out.b (w.heap.size, .slice A n c) (by simp)).cell
  have x1 := (K2.out.b (w.heap.size + 1, .slice A' n' c') (by simp)).cell
  have x2 := (K2.out.b (w.heap.size + 1 + 1, .slice A'' n'' c'') (by simp)).cell
  have x3 := (K2.out.b (w1.heap.size, .slice A1 n1 c1) (by simp)).cell
  go_wp2_with fail
  refine (law3_multiplied _).mono ?_
  rintro e w3 ⟨rfl, B3⟩
  have K3 := Lib.hid (K2.out.call B3)
  clear B3
  clear x0 x1 x2 x3
  have x0 := (K3.out.b (w.heap.size, .slice A n c) (by simp)).cell
  have x1 := (K3.out.b (w.heap.size + 1, .slice A' n' c') (by simp)).cell
  have x2 := (K3.out.b (w.heap.size + 1 + 1, .slice A'' n'' c'') (by simp)).cell
  have x3 := (K3.out.b (w1.heap.size, .slice A1 n1 c1) (by simp)).cell
  have x4 := (K3.out.b (w2.heap.size, .slice A2 n2 c2) (by simp)).cell
  go_wp2
  go_ret
  exact ⟨rfl, K3.out.bel⟩
theorem walk_mul (A : Option Addr) (n c : Nat) (f : Nat → Nat) (A' : Option Addr) (n' c' : Nat) (f' : Nat → Nat) (A'' : Option Addr) (n'' c'' : Nat) (f'' : Nat → Nat) (w : World) (s x : Nat) (er : Int) (he : (er != 0) = true) (ca : ∀ W, Below w.heap.size w W → Calls Try.prog 20 #[.agg #[.slice A' n' c'], .agg #[.slice A'' n'' c'']] W (NRes s 0 W)) (cb : ∀ W A1 n1 c1, Below w.heap.size w W → IsN W W.heap.size A1 n1 s → n1 ≤ 64 → Calls Try.prog 25 #[.agg #[.slice A n c], .agg #[.slice A1 n1 c1]] W (NRes x er W)) :
    Calls Try.prog 9 #[.agg #[.slice A n c], .agg #[.slice A' n' c'], .agg #[.slice A'' n'' c'']] w fun e w' => e = .returned (.bool true) ∧ Below w.heap.size w w' := by
  have CA := Lib.hid ca
  have CB := Lib.hid cb
  clear ca cb
  have k0 := (((Kp.start w).box (.slice A n c)).box (.slice A' n' c')).box (.slice A'' n'' c'')
  have K0 := Lib.hid k0
  rw [show ((w.alloc (.cells #[.slice A n c] 25)).alloc (.cells #[.slice A' n' c'] 25)).heap.size = w.heap.size + 1 + 1 by simp, show (w.alloc (.cells #[.slice A n c] 25)).heap.size = w.heap.size + 1 by simp] at K0
  clear k0
  go_enter Try.func9, Try.ntmps9
  go_wp2_with fail
  refine (CA.out _ K0.out.bel).mono ?_
  rintro e w1 ⟨A1, n1, c1, rfl, B1, D1, h1, l1⟩
  have K1 := Lib.hid (((K0.out.call B1).num D1).box (.slice A1 n1 c1))
  clear B1 D1
  have x0 := (K1.out.b (w.heap.size, .slice A n c) (by simp)).cell
  have x1 := (K1.out.b (w.heap.size + 1, .slice A' n' c') (by simp)).cell
  have x2 := (K1.out.b (w.heap.size + 1 + 1, .slice A'' n'' c'') (by simp)).cell
  go_wp2_with fail
  refine (CB.out _ _ _ c1 K1.out.bel (K1.out.n (A1, n1, s) (by simp)) h1).mono ?_
  rintro e w2 ⟨A2, n2, c2, rfl, B2, D2, h2, l2⟩
  have K2 := Lib.hid (((K1.out.call B2).num D2).box (.slice A2 n2 c2))
  clear B2 D2
  clear x0 x1 x2
  have x0 := (K2.out.b (w.heap.size, .slice A n c) (by simp)).cell
  have x1 := (K2.out.b (w.heap.size + 1, .slice A' n' c') (by simp)).cell
  have x2 := (K2.out.b (w.heap.size + 1 + 1, .slice A'' n'' c'') (by simp)).cell
  have x3 := (K2.out.b (w1.heap.size, .slice A1 n1 c1) (by simp)).cell
  go_wp2_with fail
  refine (law3_multiplied _).mono ?_
  rintro e w3 ⟨rfl, B3⟩
  have K3 := Lib.hid (K2.out.call B3)
  clear B3
  clear x0 x1 x2 x3
  have x0 := (K3.out.b (w.heap.size, .slice A n c) (by simp)).cell
  have x1 := (K3.out.b (w.heap.size + 1, .slice A' n' c') (by simp)).cell
  have x2 := (K3.out.b (w.heap.size + 1 + 1, .slice A'' n'' c'') (by simp)).cell
  have x3 := (K3.out.b (w1.heap.size, .slice A1 n1 c1) (by simp)).cell
  have x4 := (K3.out.b (w2.heap.size, .slice A2 n2 c2) (by simp)).cell
  go_wp2
  go_ret
  exact ⟨rfl, K3.out.bel⟩
theorem walk_all (A : Option Addr) (n c : Nat) (f : Nat → Nat) (A' : Option Addr) (n' c' : Nat) (f' : Nat → Nat) (A'' : Option Addr) (n'' c'' : Nat) (f'' : Nat → Nat) (w : World) (x y z s t u p : Nat) (i1 : IsN w w.heap.size A n x) (i2 : IsN w w.heap.size A' n' y) (i3 : IsN w w.heap.size A'' n'' z) (hn : n ≤ 64) (hn' : n' ≤ 64) (hn'' : n'' ≤ 64) (ca : ∀ W, Below w.heap.size w W → Calls Try.prog 20 #[.agg #[.slice A' n' c'], .agg #[.slice A'' n'' c'']] W (NRes s 0 W)) (es : s - y = z) (hs : y ≤ s) (ep : x * s = p) (fp : Nt.fits p = true) (et : x * y = t) (ft : Nt.fits t = true) (eu : z * x = u) (fu : Nt.fits u = true) (ez : u + t = p) :
    Calls Try.prog 9 #[.agg #[.slice A n c], .agg #[.slice A' n' c'], .agg #[.slice A'' n'' c'']] w fun e w' => e = .returned (.bool true) ∧ Below w.heap.size w w' := by
  have CA := Lib.hid ca
  have I1 := Lib.hid i1
  have I2 := Lib.hid i2
  have I3 := Lib.hid i3
  have FP := Lib.hid (show Nt.fits (x * s) = true by rw [ep]; exact fp)
  have EP := Lib.hid ep
  have FX := Lib.hid (show Nt.fits (x * y) = true by rw [et]; exact ft)
  have EX := Lib.hid et
  have FY := Lib.hid (show Nt.fits (z * x) = true by rw [eu]; exact fu)
  have EY := Lib.hid eu
  have FZ := Lib.hid fp
  have EZ := Lib.hid ez
  have ES := Lib.hid (And.intro hs es)
  clear ca i1 i2 i3 es hs ep fp et ft eu fu ez
  have k0 := (((Kp.start w).box (.slice A n c)).box (.slice A' n' c')).box (.slice A'' n'' c'')
  have K0 := Lib.hid k0
  rw [show ((w.alloc (.cells #[.slice A n c] 25)).alloc (.cells #[.slice A' n' c'] 25)).heap.size = w.heap.size + 1 + 1 by simp, show (w.alloc (.cells #[.slice A n c] 25)).heap.size = w.heap.size + 1 by simp] at K0
  clear k0
  go_enter Try.func9, Try.ntmps9
  go_wp2_with fail
  refine (CA.out _ K0.out.bel).mono ?_
  rintro e w1 ⟨A1, n1, c1, rfl, B1, D1, h1, l1⟩
  have K1 := Lib.hid (((K0.out.call B1).num D1).box (.slice A1 n1 c1))
  clear B1 D1
  have x0 := (K1.out.b (w.heap.size, .slice A n c) (by simp)).cell
  have x1 := (K1.out.b (w.heap.size + 1, .slice A' n' c') (by simp)).cell
  have x2 := (K1.out.b (w.heap.size + 1 + 1, .slice A'' n'' c'') (by simp)).cell
  go_wp2_with fail
  refine (nat_Mul_to _ (I1.out.on K1.out.bel) hn (K1.out.n (A1, n1, s) (by simp)) h1 FP.out EP.out).mono ?_
  rintro e w2 ⟨A2, n2, c2, rfl, B2, D2, h2, l2⟩
  have K2 := Lib.hid (((K1.out.call B2).num D2).box (.slice A2 n2 c2))
  clear B2 D2
  clear x0 x1 x2
  have x0 := (K2.out.b (w.heap.size, .slice A n c) (by simp)).cell
  have x1 := (K2.out.b (w.heap.size + 1, .slice A' n' c') (by simp)).cell
  have x2 := (K2.out.b (w.heap.size + 1 + 1, .slice A'' n'' c'') (by simp)).cell
  have x3 := (K2.out.b (w1.heap.size, .slice A1 n1 c1) (by simp)).cell
  go_wp2_with fail
  refine (nat_Mul_to _ (I1.out.on K2.out.bel) hn (I2.out.on K2.out.bel) hn' FX.out EX.out).mono ?_
  rintro e w3 ⟨A3, n3, c3, rfl, B3, D3, h3, l3⟩
  have K3 := Lib.hid (((K2.out.call B3).num D3).box (.slice A3 n3 c3))
  clear B3 D3
  clear x0 x1 x2 x3
  have x0 := (K3.out.b (w.heap.size, .slice A n c) (by simp)).cell
  have x1 := (K3.out.b (w.heap.size + 1, .slice A' n' c') (by simp)).cell
  have x2 := (K3.out.b (w.heap.size + 1 + 1, .slice A'' n'' c'') (by simp)).cell
  have x3 := (K3.out.b (w1.heap.size, .slice A1 n1 c1) (by simp)).cell
  have x4 := (K3.out.b (w2.heap.size, .slice A2 n2 c2) (by simp)).cell
  go_wp2_with fail
  refine (nat_Mul_to _ (I3.out.on K3.out.bel) hn'' (I1.out.on K3.out.bel) hn FY.out EY.out).mono ?_
  rintro e w4 ⟨A4, n4, c4, rfl, B4, D4, h4, l4⟩
  have K4 := Lib.hid (((K3.out.call B4).num D4).box (.slice A4 n4 c4))
  clear B4 D4
  clear x0 x1 x2 x3 x4
  have x0 := (K4.out.b (w.heap.size, .slice A n c) (by simp)).cell
  have x1 := (K4.out.b (w.heap.size + 1, .slice A' n' c') (by simp)).cell
  have x2 := (K4.out.b (w.heap.size + 1 + 1, .slice A'' n'' c'') (by simp)).cell
  have x3 := (K4.out.b (w1.heap.size, .slice A1 n1 c1) (by simp)).cell
  have x4 := (K4.out.b (w2.heap.size, .slice A2 n2 c2) (by simp)).cell
  have x5 := (K4.out.b (w3.heap.size, .slice A3 n3 c3) (by simp)).cell
  go_wp2_with fail
  refine (nat_Add_to _ (K4.out.n (A4, n4, u) (by simp)) h4 (K4.out.n (A3, n3, t) (by simp)) h3 FZ.out EZ.out).mono ?_
  rintro e w5 ⟨A5, n5, c5, rfl, B5, D5, h5, l5⟩
  have K5 := Lib.hid (((K4.out.call B5).num D5).box (.slice A5 n5 c5))
  clear B5 D5
  clear x0 x1 x2 x3 x4 x5
  have x0 := (K5.out.b (w.heap.size, .slice A n c) (by simp)).cell
  have x1 := (K5.out.b (w.heap.size + 1, .slice A' n' c') (by simp)).cell
  have x2 := (K5.out.b (w.heap.size + 1 + 1, .slice A'' n'' c'') (by simp)).cell
  have x3 := (K5.out.b (w1.heap.size, .slice A1 n1 c1) (by simp)).cell
  have x4 := (K5.out.b (w2.heap.size, .slice A2 n2 c2) (by simp)).cell
  have x5 := (K5.out.b (w3.heap.size, .slice A3 n3 c3) (by simp)).cell
  have x6 := (K5.out.b (w4.heap.size, .slice A4 n4 c4) (by simp)).cell
  go_wp2_with fail
  refine (nat_Sub_to _ (K5.out.n (A1, n1, s) (by simp)) h1 l1 (I2.out.on K5.out.bel) hn' ES.out).mono ?_
  rintro e w6 ⟨A6, n6, c6, rfl, B6, D6, h6, l6⟩
  have K6 := Lib.hid (((K5.out.call B6).num D6).box (.slice A6 n6 c6))
  clear B6 D6
  clear x0 x1 x2 x3 x4 x5 x6
  have x0 := (K6.out.b (w.heap.size, .slice A n c) (by simp)).cell
  have x1 := (K6.out.b (w.heap.size + 1, .slice A' n' c') (by simp)).cell
  have x2 := (K6.out.b (w.heap.size + 1 + 1, .slice A'' n'' c'') (by simp)).cell
  have x3 := (K6.out.b (w1.heap.size, .slice A1 n1 c1) (by simp)).cell
  have x4 := (K6.out.b (w2.heap.size, .slice A2 n2 c2) (by simp)).cell
  have x5 := (K6.out.b (w3.heap.size, .slice A3 n3 c3) (by simp)).cell
  have x6 := (K6.out.b (w4.heap.size, .slice A4 n4 c4) (by simp)).cell
  have x7 := (K6.out.b (w5.heap.size, .slice A5 n5 c5) (by simp)).cell
  go_wp2_with fail
  refine (nat_Cmp_same _ (K6.out.n (A5, n5, p) (by simp)) h5 (K6.out.n (A2, n2, p) (by simp)) h2).mono ?_
  rintro e w7 ⟨rfl, B7⟩
  have K7 := Lib.hid (K6.out.call B7)
  clear B7
  clear x0 x1 x2 x3 x4 x5 x6 x7
  have x0 := (K7.out.b (w.heap.size, .slice A n c) (by simp)).cell
  have x1 := (K7.out.b (w.heap.size + 1, .slice A' n' c') (by simp)).cell
  have x2 := (K7.out.b (w.heap.size + 1 + 1, .slice A'' n'' c'') (by simp)).cell
  have x3 := (K7.out.b (w1.heap.size, .slice A1 n1 c1) (by simp)).cell
  have x4 := (K7.out.b (w2.heap.size, .slice A2 n2 c2) (by simp)).cell
  have x5 := (K7.out.b (w3.heap.size, .slice A3 n3 c3) (by simp)).cell
  have x6 := (K7.out.b (w4.heap.size, .slice A4 n4 c4) (by simp)).cell
  have x7 := (K7.out.b (w5.heap.size, .slice A5 n5 c5) (by simp)).cell
  have x8 := (K7.out.b (w6.heap.size, .slice A6 n6 c6) (by simp)).cell
  go_wp2_with fail
  refine (nat_Cmp_same _ (K7.out.n (A6, n6, z) (by simp)) h6 (I3.out.on K7.out.bel) hn'').mono ?_
  rintro e w8 ⟨rfl, B8⟩
  have K8 := Lib.hid (K7.out.call B8)
  clear B8
  clear x0 x1 x2 x3 x4 x5 x6 x7 x8
  have x0 := (K8.out.b (w.heap.size, .slice A n c) (by simp)).cell
  have x1 := (K8.out.b (w.heap.size + 1, .slice A' n' c') (by simp)).cell
  have x2 := (K8.out.b (w.heap.size + 1 + 1, .slice A'' n'' c'') (by simp)).cell
  have x3 := (K8.out.b (w1.heap.size, .slice A1 n1 c1) (by simp)).cell
  have x4 := (K8.out.b (w2.heap.size, .slice A2 n2 c2) (by simp)).cell
  have x5 := (K8.out.b (w3.heap.size, .slice A3 n3 c3) (by simp)).cell
  have x6 := (K8.out.b (w4.heap.size, .slice A4 n4 c4) (by simp)).cell
  have x7 := (K8.out.b (w5.heap.size, .slice A5 n5 c5) (by simp)).cell
  have x8 := (K8.out.b (w6.heap.size, .slice A6 n6 c6) (by simp)).cell
  go_wp2_with fail
  refine (law3_multiplied _).mono ?_
  rintro e w9 ⟨rfl, B9⟩
  have K9 := Lib.hid (K8.out.call B9)
  clear B9
  clear x0 x1 x2 x3 x4 x5 x6 x7 x8
  have x0 := (K9.out.b (w.heap.size, .slice A n c) (by simp)).cell
  have x1 := (K9.out.b (w.heap.size + 1, .slice A' n' c') (by simp)).cell
  have x2 := (K9.out.b (w.heap.size + 1 + 1, .slice A'' n'' c'') (by simp)).cell
  have x3 := (K9.out.b (w1.heap.size, .slice A1 n1 c1) (by simp)).cell
  have x4 := (K9.out.b (w2.heap.size, .slice A2 n2 c2) (by simp)).cell
  have x5 := (K9.out.b (w3.heap.size, .slice A3 n3 c3) (by simp)).cell
  have x6 := (K9.out.b (w4.heap.size, .slice A4 n4 c4) (by simp)).cell
  have x7 := (K9.out.b (w5.heap.size, .slice A5 n5 c5) (by simp)).cell
  have x8 := (K9.out.b (w6.heap.size, .slice A6 n6 c6) (by simp)).cell
  go_wp2
  go_ret
  exact ⟨rfl, K9.out.bel⟩
theorem walk (A : Option Addr) (n c : Nat) (f : Nat → Nat) (A' : Option Addr) (n' c' : Nat) (f' : Nat → Nat) (A'' : Option Addr) (n'' c'' : Nat) (f'' : Nat → Nat) (w : World) (h : Arg w A n c f) (h' : Arg w A' n' c' f') (h'' : Arg w A'' n'' c'' f'') :
    Calls Try.prog 9 #[.agg #[.slice A n c], .agg #[.slice A' n' c'], .agg #[.slice A'' n'' c'']] w fun e w' => e = .returned (.bool true) ∧ Below w.heap.size w w' := by
  cases hv : (Nt.vd f' n' && Nt.vd f'' n'')
  · exact walk_sum A n c f A' n' c' f' A'' n'' c'' f'' w 0 2 (by decide) h fun W hb => nat_Add_bad W (h'.on hb).d (h''.on hb).d h'.big h''.big hv
  · obtain ⟨v2, v3⟩ := Bool.and_eq_true_iff.1 hv
    have i2 := h'.isN v2
    have i3 := h''.isN v3
    have hn' := (Nt.vd_iff.1 v2).1
    have hn'' := (Nt.vd_iff.1 v3).1
    generalize Nt.vl 4294967296 f' n' = y at i2
    generalize Nt.vl 4294967296 f'' n'' = z at i3
    have ca := fun W (hb : Below w.heap.size w W) => nat_Add_ok (c := c') (c' := c'') W (i2.on hb) (i3.on hb) hn' hn''
    cases hf : Nt.fits (y + z)
    · rw [show Nt.be (y + z) = 9 by rw [Nt.be, hf]; rfl] at ca
      exact walk_sum A n c f A' n' c' f' A'' n'' c'' f'' w _ 9 (by decide) h ca
    · rw [Nt.bv_fit hf, Nt.be_fit hf] at ca
      cases v1 : Nt.vd f n
      · exact walk_mul A n c f A' n' c' f' A'' n'' c'' f'' w _ 0 2 (by decide) ca fun W A1 n1 c1 hb hi h1 => nat_Mul_bad W (h.on hb).d hi.d h.big (by omega) (by rw [v1]; rfl)
      · have i1 := h.isN v1
        have hn := (Nt.vd_iff.1 v1).1
        generalize Nt.vl 4294967296 f n = x at i1
        cases hg : Nt.fits (x * (y + z))
        · exact walk_mul A n c f A' n' c' f' A'' n'' c'' f'' w _ (Nt.bv (x * (y + z))) 9 (by decide) ca fun W A1 n1 c1 hb hi h1 => by
            have := nat_Mul_ok (c := c) (c' := c1) W (i1.on hb) hi hn h1
            rwa [show Nt.be (x * (y + z)) = 9 by rw [Nt.be, hg]; rfl] at this
        · have e : x * (y + z) = x * y + z * x := by rw [Nat.mul_add, Nat.mul_comm z x]
          exact walk_all A n c f A' n' c' f' A'' n'' c'' f'' w x y z (y + z) (x * y) (z * x) (x * (y + z)) i1 i2 i3 hn hn' hn'' ca (by omega) (by omega) rfl hg rfl (Nt.fits_mono (by omega) hg) rfl (Nt.fits_mono (by omega) hg) (by omega)

/-! ### The row's step, the row -/
set_option maxRecDepth 100000 in
theorem lifted (os : Os) (started : os.Started) (H : Type) (enc : TypeId × Value → H) :
    ReturnsInHanded {} Try.checked os 9 .any (Rows.natRingSpec.pre6 enc Try.prog Try.f9 Rows.natRingRow.domain false) (Rows.natRingSpec.post enc Try.prog Try.f9 false true false false) := by
  refine returnsInHanded_of_change (C := Try.checked) own started (by kernel_rfl) Try.func9
    (ChangeSpec.witness6 (enc := enc) (C := Try.checked) false ⟨#[], #[.agg #[.slice none 0 0], .agg #[.slice none 0 0], .agg #[.slice none 0 0]], []⟩ 8 (by kernel_rfl) (by kernel_rfl) (by kernel_rfl) (by kernel_rfl)) ?_
  intro W base args ds gs before hval0 hW hcnd _
  have hval : ∀ (j : Nat) t v, Try.f9.params[j]? = some t → args[j]? = some v → Value.okWide Try.prog W .any base t v := hval0
  have hW' := hW
  obtain ⟨p, q, hA0, hV, rfl, hfz, hnd⟩ := hW
  have hA : DataW.TrodAll enc Try.prog W 0 (fun _ => true) true Try.f9.params.toList args.toList ds p := hA0
  rw [Try.params9] at hA hval

  obtain ⟨v0, vs0, d0, ds0, p0, q0, hargs, rfl, rfl, h0, r0⟩ := trodAll_cons hA
  obtain ⟨v1, vs1, d1, ds1, p1, q1, rfl, rfl, rfl, h1, r1⟩ := trodAll_cons r0
  obtain ⟨v2, vs2, d2, ds2, p2, q2, rfl, rfl, rfl, h2, r2⟩ := trodAll_cons r1
  obtain ⟨rfl, rfl, rfl⟩ := trodAll_nil r2
  obtain rfl : args = #[v0, v1, v2] := by cases args; simp_all
  obtain ⟨rfl, rfl⟩ := trodVars_none hV
  have k0 := h0
  have lt0 : ∀ x ∈ p0, x.block < W.heap.size := by
    obtain ⟨m, hm⟩ := k0
    exact DataW.trod_lt m _ _ _ hm
  obtain ⟨A0, n0, c0, f0, rfl, w0⟩ := nat_opened (hval 0 25 v0 rfl rfl) h0
  have k1 := h1
  have lt1 : ∀ x ∈ p1, x.block < W.heap.size := by
    obtain ⟨m, hm⟩ := k1
    exact DataW.trod_lt m _ _ _ hm
  obtain ⟨A1, n1, c1, f1, rfl, w1⟩ := nat_opened (hval 1 25 v1 rfl rfl) h1
  have k2 := h2
  have lt2 : ∀ x ∈ p2, x.block < W.heap.size := by
    obtain ⟨m, hm⟩ := k2
    exact DataW.trod_lt m _ _ _ hm
  obtain ⟨A2, n2, c2, f2, rfl, w2⟩ := nat_opened (hval 2 25 v2 rfl rfl) h2
  clear hA0 hval0
  refine (walk A0 n0 c0 f0 A1 n1 c1 f1 A2 n2 c2 f2    W w0 w1 w2).mono fun e W' ⟨he, bel⟩ => ?_
  subst he
  exact ⟨_, rfl, _, _, _, [], _, [], hW', trodAll_mk1 (shut_bool Try.underlying4 _), (trodAll_cons_mk (Below.trod laidOut (by kernel_rfl) (of_decide_eq_true (by kernel_rfl)) k0 bel lt0) (trodAll_cons_mk (Below.trod laidOut (by kernel_rfl) (of_decide_eq_true (by kernel_rfl)) k1 bel lt1) (trodAll_cons_mk (Below.trod laidOut (by kernel_rfl) (of_decide_eq_true (by kernel_rfl)) k2 bel lt2) trodAll_mk0))), rfl, bel.frame _, fun h => by cases h⟩

theorem over : Rows.NatRingSaid :=
  OpenClaim.holds_of_wide 9 Try.f9 rfl rfl rfl rfl rfl rfl rfl ⟨rfl, rfl, rfl, rfl, rfl⟩ rfl rfl rfl rfl rfl (by kernel_rfl) Try.func9 (by kernel_rfl)
    (of_decide_eq_true (by kernel_rfl)) (by unfold Func.isWrapper; first | (rw [if_pos (by decide +kernel)]; kernel_rfl) | (rw [if_neg (by decide +kernel)]; exact ⟨rfl, rfl⟩))
    (fun os started H enc _ => lifted os started H enc)
/-- The statement. -/
theorem proved : Rows.NatRingSaid := over
end Go.Proofs.Ytpgdjkklhcjajaa.natRing
