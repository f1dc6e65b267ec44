/- FracOrders (P4.2, P4.7, P4.8): of every three valid fractions of at most 8 limbs in each part the order is antisymmetric, tells equality of the parts, and is kept when a fraction is added: the law returns true. No condition. -/
import Derived.Test.YtclejcijnfpgaaaGreatDoorLaid
import Derived.Test.YtclejcijnfpgaaaGreatDoorFracQ
namespace Go.Proofs.YtclejcijnfpgaaaGreatDoor.fracOrders
set_option maxRecDepth 20000
open Go.RowKit Go.ChangeShapes Go.WideShapes Go.ChangeAt Go.WideElems
open Go.ChangeMaps (open_string shut_string)
set_option linter.unusedVariables false

set_option maxHeartbeats 4000000 in
theorem walk (A : Option Addr) (n c : Nat) (f : Nat → Nat) (A' : Option Addr) (n' c' : Nat) (f' : Nat → Nat) (B : Option Addr) (m j : Nat) (g : Nat → Nat) (B' : Option Addr) (m' j' : Nat) (g' : Nat → Nat) (C : Option Addr) (p k : Nat) (h : Nat → Nat) (C' : Option Addr) (p' k' : Nat) (h' : Nat → Nat) (w : World) (hE : Env w) (gA : FArg w A n c f A' n' c' f') (gB : FArg w B m j g B' m' j' g') (gC : FArg w C p k h C' p' k' h') :
    Calls Tryz.prog 10 #[.agg #[.slice A n c, .slice A' n' c'], .agg #[.slice B m j, .slice B' m' j'], .agg #[.slice C p k, .slice C' p' k']] w fun e w' => e = .returned (.bool true) ∧ Below w.heap.size w w' := by
  have tbf0 := fun W => law4_brief (A := A) (n := n) (c := c) (A' := A') (n' := n') (c' := c') 8 W
  have tvl0 := fun W (hb : Below w.heap.size w W) => frac_Valid_arg W (gA.on hb)
  have tbf1 := fun W => law4_brief (A := B) (n := m) (c := j) (A' := B') (n' := m') (c' := j') 8 W
  have tvl1 := fun W (hb : Below w.heap.size w W) => frac_Valid_arg W (gB.on hb)
  have tbf2 := fun W => law4_brief (A := C) (n := p) (c := k) (A' := C') (n' := p') (c' := k') 8 W
  have tvl2 := fun W (hb : Below w.heap.size w W) => frac_Valid_arg W (gC.on hb)
  have AW := Lib.hid fun W (hb : Below w.heap.size w W) => law4_awake W (hE.on hb)
  clear hE
  cases e0 : Fr.brf n n' 8
  · rw [e0] at tbf0
    have T0 := Lib.hid tbf0
    clear tbf0 tbf1 tbf2 tvl0 tvl1 tvl2 e0 gA gB gC
    have k0 := (((Ks.start w).box [.slice A n c, .slice A' n' c'] 28).box [.slice B m j, .slice B' m' j'] 28).box [.slice C p k, .slice C' p' k'] 28
    simp only [size_alloc] at k0
    have K0 := Lib.hid k0
    clear k0
    go_enter Tryz.func10, Tryz.ntmps10
    go_wp2_with fail
    refine (T0.out _).mono ?_
    rintro e w1 ⟨rfl, B1⟩
    have k1 := K0.out.call B1
    have K1 := Lib.hid k1
    clear k1 B1 
    have x0_0 := K1.out.cell0 at2
    have x0_1 := K1.out.cell1 at2
    have x1_0 := K1.out.cell0 at1
    have x1_1 := K1.out.cell1 at1
    have x2_0 := K1.out.cell0 at0
    have x2_1 := K1.out.cell1 at0
    go_wp2_with fail
    refine (AW.out _ K1.out.bel).mono ?_
    rintro e w2 ⟨rfl, B2⟩
    have k2 := K1.out.call B2
    have K2 := Lib.hid k2
    clear k2 B2 
    clear x0_0 x0_1 x1_0 x1_1 x2_0 x2_1
    have x0_0 := K2.out.cell0 at2
    have x0_1 := K2.out.cell1 at2
    have x1_0 := K2.out.cell0 at1
    have x1_1 := K2.out.cell1 at1
    have x2_0 := K2.out.cell0 at0
    have x2_1 := K2.out.cell1 at0
    go_wp2_with fail
    go_ret
    exact ⟨rfl, K2.out.bel⟩
  · rw [e0] at tbf0
    have T0 := Lib.hid tbf0
    clear tbf0
    cases e1 : Fr.brf m m' 8
    · rw [e1] at tbf1
      have T1 := Lib.hid tbf1
      clear tbf1 tbf2 tvl0 tvl1 tvl2 e0 e1 gA gB gC
      have k0 := (((Ks.start w).box [.slice A n c, .slice A' n' c'] 28).box [.slice B m j, .slice B' m' j'] 28).box [.slice C p k, .slice C' p' k'] 28
      simp only [size_alloc] at k0
      have K0 := Lib.hid k0
      clear k0
      go_enter Tryz.func10, Tryz.ntmps10
      go_wp2_with fail
      refine (T0.out _).mono ?_
      rintro e w1 ⟨rfl, B1⟩
      have k1 := K0.out.call B1
      have K1 := Lib.hid k1
      clear k1 B1 
      have x0_0 := K1.out.cell0 at2
      have x0_1 := K1.out.cell1 at2
      have x1_0 := K1.out.cell0 at1
      have x1_1 := K1.out.cell1 at1
      have x2_0 := K1.out.cell0 at0
      have x2_1 := K1.out.cell1 at0
      go_wp2_with fail
      refine (T1.out _).mono ?_
      rintro e w2 ⟨rfl, B2⟩
      have k2 := K1.out.call B2
      have K2 := Lib.hid k2
      clear k2 B2 
      clear x0_0 x0_1 x1_0 x1_1 x2_0 x2_1
      have x0_0 := K2.out.cell0 at2
      have x0_1 := K2.out.cell1 at2
      have x1_0 := K2.out.cell0 at1
      have x1_1 := K2.out.cell1 at1
      have x2_0 := K2.out.cell0 at0
      have x2_1 := K2.out.cell1 at0
      go_wp2_with fail
      refine (AW.out _ K2.out.bel).mono ?_
      rintro e w3 ⟨rfl, B3⟩
      have k3 := K2.out.call B3
      have K3 := Lib.hid k3
      clear k3 B3 
      clear x0_0 x0_1 x1_0 x1_1 x2_0 x2_1
      have x0_0 := K3.out.cell0 at2
      have x0_1 := K3.out.cell1 at2
      have x1_0 := K3.out.cell0 at1
      have x1_1 := K3.out.cell1 at1
      have x2_0 := K3.out.cell0 at0
      have x2_1 := K3.out.cell1 at0
      go_wp2_with fail
      go_ret
      exact ⟨rfl, K3.out.bel⟩
    · rw [e1] at tbf1
      have T1 := Lib.hid tbf1
      clear tbf1
      cases e2 : Fr.brf p p' 8
      · rw [e2] at tbf2
        have T2 := Lib.hid tbf2
        clear tbf2 tvl0 tvl1 tvl2 e0 e1 e2 gA gB gC
        have k0 := (((Ks.start w).box [.slice A n c, .slice A' n' c'] 28).box [.slice B m j, .slice B' m' j'] 28).box [.slice C p k, .slice C' p' k'] 28
        simp only [size_alloc] at k0
        have K0 := Lib.hid k0
        clear k0
        go_enter Tryz.func10, Tryz.ntmps10
        go_wp2_with fail
        refine (T0.out _).mono ?_
        rintro e w1 ⟨rfl, B1⟩
        have k1 := K0.out.call B1
        have K1 := Lib.hid k1
        clear k1 B1 
        have x0_0 := K1.out.cell0 at2
        have x0_1 := K1.out.cell1 at2
        have x1_0 := K1.out.cell0 at1
        have x1_1 := K1.out.cell1 at1
        have x2_0 := K1.out.cell0 at0
        have x2_1 := K1.out.cell1 at0
        go_wp2_with fail
        refine (T1.out _).mono ?_
        rintro e w2 ⟨rfl, B2⟩
        have k2 := K1.out.call B2
        have K2 := Lib.hid k2
        clear k2 B2 
        clear x0_0 x0_1 x1_0 x1_1 x2_0 x2_1
        have x0_0 := K2.out.cell0 at2
        have x0_1 := K2.out.cell1 at2
        have x1_0 := K2.out.cell0 at1
        have x1_1 := K2.out.cell1 at1
        have x2_0 := K2.out.cell0 at0
        have x2_1 := K2.out.cell1 at0
        go_wp2_with fail
        refine (T2.out _).mono ?_
        rintro e w3 ⟨rfl, B3⟩
        have k3 := K2.out.call B3
        have K3 := Lib.hid k3
        clear k3 B3 
        clear x0_0 x0_1 x1_0 x1_1 x2_0 x2_1
        have x0_0 := K3.out.cell0 at2
        have x0_1 := K3.out.cell1 at2
        have x1_0 := K3.out.cell0 at1
        have x1_1 := K3.out.cell1 at1
        have x2_0 := K3.out.cell0 at0
        have x2_1 := K3.out.cell1 at0
        go_wp2_with fail
        refine (AW.out _ K3.out.bel).mono ?_
        rintro e w4 ⟨rfl, B4⟩
        have k4 := K3.out.call B4
        have K4 := Lib.hid k4
        clear k4 B4 
        clear x0_0 x0_1 x1_0 x1_1 x2_0 x2_1
        have x0_0 := K4.out.cell0 at2
        have x0_1 := K4.out.cell1 at2
        have x1_0 := K4.out.cell0 at1
        have x1_1 := K4.out.cell1 at1
        have x2_0 := K4.out.cell0 at0
        have x2_1 := K4.out.cell1 at0
        go_wp2_with fail
        go_ret
        exact ⟨rfl, K4.out.bel⟩
      · rw [e2] at tbf2
        have T2 := Lib.hid tbf2
        clear tbf2
        cases e3 : Fr.vld f n f' n'
        · rw [e3] at tvl0
          have T3 := Lib.hid tvl0
          clear tvl0 tvl1 tvl2 e0 e1 e2 e3 gA gB gC
          have k0 := (((Ks.start w).box [.slice A n c, .slice A' n' c'] 28).box [.slice B m j, .slice B' m' j'] 28).box [.slice C p k, .slice C' p' k'] 28
          simp only [size_alloc] at k0
          have K0 := Lib.hid k0
          clear k0
          go_enter Tryz.func10, Tryz.ntmps10
          go_wp2_with fail
          refine (T0.out _).mono ?_
          rintro e w1 ⟨rfl, B1⟩
          have k1 := K0.out.call B1
          have K1 := Lib.hid k1
          clear k1 B1 
          have x0_0 := K1.out.cell0 at2
          have x0_1 := K1.out.cell1 at2
          have x1_0 := K1.out.cell0 at1
          have x1_1 := K1.out.cell1 at1
          have x2_0 := K1.out.cell0 at0
          have x2_1 := K1.out.cell1 at0
          go_wp2_with fail
          refine (T1.out _).mono ?_
          rintro e w2 ⟨rfl, B2⟩
          have k2 := K1.out.call B2
          have K2 := Lib.hid k2
          clear k2 B2 
          clear x0_0 x0_1 x1_0 x1_1 x2_0 x2_1
          have x0_0 := K2.out.cell0 at2
          have x0_1 := K2.out.cell1 at2
          have x1_0 := K2.out.cell0 at1
          have x1_1 := K2.out.cell1 at1
          have x2_0 := K2.out.cell0 at0
          have x2_1 := K2.out.cell1 at0
          go_wp2_with fail
          refine (T2.out _).mono ?_
          rintro e w3 ⟨rfl, B3⟩
          have k3 := K2.out.call B3
          have K3 := Lib.hid k3
          clear k3 B3 
          clear x0_0 x0_1 x1_0 x1_1 x2_0 x2_1
          have x0_0 := K3.out.cell0 at2
          have x0_1 := K3.out.cell1 at2
          have x1_0 := K3.out.cell0 at1
          have x1_1 := K3.out.cell1 at1
          have x2_0 := K3.out.cell0 at0
          have x2_1 := K3.out.cell1 at0
          go_wp2_with fail
          refine (T3.out _ K3.out.bel).mono ?_
          rintro e w4 ⟨rfl, B4⟩
          have k4 := K3.out.call B4
          have K4 := Lib.hid k4
          clear k4 B4 
          clear x0_0 x0_1 x1_0 x1_1 x2_0 x2_1
          have x0_0 := K4.out.cell0 at2
          have x0_1 := K4.out.cell1 at2
          have x1_0 := K4.out.cell0 at1
          have x1_1 := K4.out.cell1 at1
          have x2_0 := K4.out.cell0 at0
          have x2_1 := K4.out.cell1 at0
          go_wp2_with fail
          refine (AW.out _ K4.out.bel).mono ?_
          rintro e w5 ⟨rfl, B5⟩
          have k5 := K4.out.call B5
          have K5 := Lib.hid k5
          clear k5 B5 
          clear x0_0 x0_1 x1_0 x1_1 x2_0 x2_1
          have x0_0 := K5.out.cell0 at2
          have x0_1 := K5.out.cell1 at2
          have x1_0 := K5.out.cell0 at1
          have x1_1 := K5.out.cell1 at1
          have x2_0 := K5.out.cell0 at0
          have x2_1 := K5.out.cell1 at0
          go_wp2_with fail
          go_ret
          exact ⟨rfl, K5.out.bel⟩
        · rw [e3] at tvl0
          have T3 := Lib.hid tvl0
          clear tvl0
          cases e4 : Fr.vld g m g' m'
          · rw [e4] at tvl1
            have T4 := Lib.hid tvl1
            clear tvl1 tvl2 e0 e1 e2 e3 e4 gA gB gC
            have k0 := (((Ks.start w).box [.slice A n c, .slice A' n' c'] 28).box [.slice B m j, .slice B' m' j'] 28).box [.slice C p k, .slice C' p' k'] 28
            simp only [size_alloc] at k0
            have K0 := Lib.hid k0
            clear k0
            go_enter Tryz.func10, Tryz.ntmps10
            go_wp2_with fail
            refine (T0.out _).mono ?_
            rintro e w1 ⟨rfl, B1⟩
            have k1 := K0.out.call B1
            have K1 := Lib.hid k1
            clear k1 B1 
            have x0_0 := K1.out.cell0 at2
            have x0_1 := K1.out.cell1 at2
            have x1_0 := K1.out.cell0 at1
            have x1_1 := K1.out.cell1 at1
            have x2_0 := K1.out.cell0 at0
            have x2_1 := K1.out.cell1 at0
            go_wp2_with fail
            refine (T1.out _).mono ?_
            rintro e w2 ⟨rfl, B2⟩
            have k2 := K1.out.call B2
            have K2 := Lib.hid k2
            clear k2 B2 
            clear x0_0 x0_1 x1_0 x1_1 x2_0 x2_1
            have x0_0 := K2.out.cell0 at2
            have x0_1 := K2.out.cell1 at2
            have x1_0 := K2.out.cell0 at1
            have x1_1 := K2.out.cell1 at1
            have x2_0 := K2.out.cell0 at0
            have x2_1 := K2.out.cell1 at0
            go_wp2_with fail
            refine (T2.out _).mono ?_
            rintro e w3 ⟨rfl, B3⟩
            have k3 := K2.out.call B3
            have K3 := Lib.hid k3
            clear k3 B3 
            clear x0_0 x0_1 x1_0 x1_1 x2_0 x2_1
            have x0_0 := K3.out.cell0 at2
            have x0_1 := K3.out.cell1 at2
            have x1_0 := K3.out.cell0 at1
            have x1_1 := K3.out.cell1 at1
            have x2_0 := K3.out.cell0 at0
            have x2_1 := K3.out.cell1 at0
            go_wp2_with fail
            refine (T3.out _ K3.out.bel).mono ?_
            rintro e w4 ⟨rfl, B4⟩
            have k4 := K3.out.call B4
            have K4 := Lib.hid k4
            clear k4 B4 
            clear x0_0 x0_1 x1_0 x1_1 x2_0 x2_1
            have x0_0 := K4.out.cell0 at2
            have x0_1 := K4.out.cell1 at2
            have x1_0 := K4.out.cell0 at1
            have x1_1 := K4.out.cell1 at1
            have x2_0 := K4.out.cell0 at0
            have x2_1 := K4.out.cell1 at0
            go_wp2_with fail
            refine (T4.out _ K4.out.bel).mono ?_
            rintro e w5 ⟨rfl, B5⟩
            have k5 := K4.out.call B5
            have K5 := Lib.hid k5
            clear k5 B5 
            clear x0_0 x0_1 x1_0 x1_1 x2_0 x2_1
            have x0_0 := K5.out.cell0 at2
            have x0_1 := K5.out.cell1 at2
            have x1_0 := K5.out.cell0 at1
            have x1_1 := K5.out.cell1 at1
            have x2_0 := K5.out.cell0 at0
            have x2_1 := K5.out.cell1 at0
            go_wp2_with fail
            refine (AW.out _ K5.out.bel).mono ?_
            rintro e w6 ⟨rfl, B6⟩
            have k6 := K5.out.call B6
            have K6 := Lib.hid k6
            clear k6 B6 
            clear x0_0 x0_1 x1_0 x1_1 x2_0 x2_1
            have x0_0 := K6.out.cell0 at2
            have x0_1 := K6.out.cell1 at2
            have x1_0 := K6.out.cell0 at1
            have x1_1 := K6.out.cell1 at1
            have x2_0 := K6.out.cell0 at0
            have x2_1 := K6.out.cell1 at0
            go_wp2_with fail
            go_ret
            exact ⟨rfl, K6.out.bel⟩
          · rw [e4] at tvl1
            have T4 := Lib.hid tvl1
            clear tvl1
            cases e5 : Fr.vld h p h' p'
            · rw [e5] at tvl2
              have T5 := Lib.hid tvl2
              clear tvl2  e0 e1 e2 e3 e4 e5 gA gB gC
              have k0 := (((Ks.start w).box [.slice A n c, .slice A' n' c'] 28).box [.slice B m j, .slice B' m' j'] 28).box [.slice C p k, .slice C' p' k'] 28
              simp only [size_alloc] at k0
              have K0 := Lib.hid k0
              clear k0
              go_enter Tryz.func10, Tryz.ntmps10
              go_wp2_with fail
              refine (T0.out _).mono ?_
              rintro e w1 ⟨rfl, B1⟩
              have k1 := K0.out.call B1
              have K1 := Lib.hid k1
              clear k1 B1 
              have x0_0 := K1.out.cell0 at2
              have x0_1 := K1.out.cell1 at2
              have x1_0 := K1.out.cell0 at1
              have x1_1 := K1.out.cell1 at1
              have x2_0 := K1.out.cell0 at0
              have x2_1 := K1.out.cell1 at0
              go_wp2_with fail
              refine (T1.out _).mono ?_
              rintro e w2 ⟨rfl, B2⟩
              have k2 := K1.out.call B2
              have K2 := Lib.hid k2
              clear k2 B2 
              clear x0_0 x0_1 x1_0 x1_1 x2_0 x2_1
              have x0_0 := K2.out.cell0 at2
              have x0_1 := K2.out.cell1 at2
              have x1_0 := K2.out.cell0 at1
              have x1_1 := K2.out.cell1 at1
              have x2_0 := K2.out.cell0 at0
              have x2_1 := K2.out.cell1 at0
              go_wp2_with fail
              refine (T2.out _).mono ?_
              rintro e w3 ⟨rfl, B3⟩
              have k3 := K2.out.call B3
              have K3 := Lib.hid k3
              clear k3 B3 
              clear x0_0 x0_1 x1_0 x1_1 x2_0 x2_1
              have x0_0 := K3.out.cell0 at2
              have x0_1 := K3.out.cell1 at2
              have x1_0 := K3.out.cell0 at1
              have x1_1 := K3.out.cell1 at1
              have x2_0 := K3.out.cell0 at0
              have x2_1 := K3.out.cell1 at0
              go_wp2_with fail
              refine (T3.out _ K3.out.bel).mono ?_
              rintro e w4 ⟨rfl, B4⟩
              have k4 := K3.out.call B4
              have K4 := Lib.hid k4
              clear k4 B4 
              clear x0_0 x0_1 x1_0 x1_1 x2_0 x2_1
              have x0_0 := K4.out.cell0 at2
              have x0_1 := K4.out.cell1 at2
              have x1_0 := K4.out.cell0 at1
              have x1_1 := K4.out.cell1 at1
              have x2_0 := K4.out.cell0 at0
              have x2_1 := K4.out.cell1 at0
              go_wp2_with fail
              refine (T4.out _ K4.out.bel).mono ?_
              rintro e w5 ⟨rfl, B5⟩
              have k5 := K4.out.call B5
              have K5 := Lib.hid k5
              clear k5 B5 
              clear x0_0 x0_1 x1_0 x1_1 x2_0 x2_1
              have x0_0 := K5.out.cell0 at2
              have x0_1 := K5.out.cell1 at2
              have x1_0 := K5.out.cell0 at1
              have x1_1 := K5.out.cell1 at1
              have x2_0 := K5.out.cell0 at0
              have x2_1 := K5.out.cell1 at0
              go_wp2_with fail
              refine (T5.out _ K5.out.bel).mono ?_
              rintro e w6 ⟨rfl, B6⟩
              have k6 := K5.out.call B6
              have K6 := Lib.hid k6
              clear k6 B6 
              clear x0_0 x0_1 x1_0 x1_1 x2_0 x2_1
              have x0_0 := K6.out.cell0 at2
              have x0_1 := K6.out.cell1 at2
              have x1_0 := K6.out.cell0 at1
              have x1_1 := K6.out.cell1 at1
              have x2_0 := K6.out.cell0 at0
              have x2_1 := K6.out.cell1 at0
              go_wp2_with fail
              refine (AW.out _ K6.out.bel).mono ?_
              rintro e w7 ⟨rfl, B7⟩
              have k7 := K6.out.call B7
              have K7 := Lib.hid k7
              clear k7 B7 
              clear x0_0 x0_1 x1_0 x1_1 x2_0 x2_1
              have x0_0 := K7.out.cell0 at2
              have x0_1 := K7.out.cell1 at2
              have x1_0 := K7.out.cell0 at1
              have x1_1 := K7.out.cell1 at1
              have x2_0 := K7.out.cell0 at0
              have x2_1 := K7.out.cell1 at0
              go_wp2_with fail
              go_ret
              exact ⟨rfl, K7.out.bel⟩
            · rw [e5] at tvl2
              have T5 := Lib.hid tvl2
              clear tvl2
              have ia := gA.is e3
              have ib := gB.is e4
              have ic := gC.is e5
              have la := ia.lim (k := 8) (Fr.brf_iff.1 e0)
              have lb := ib.lim (k := 8) (Fr.brf_iff.1 e1)
              have lc := ic.lim (k := 8) (Fr.brf_iff.1 e2)
              obtain ⟨a, ea⟩ : ∃ a, a = Nt.vl 4294967296 f n := ⟨_, rfl⟩
              obtain ⟨b, eb⟩ : ∃ b, b = Nt.vl 4294967296 f' n' := ⟨_, rfl⟩
              obtain ⟨x, ex⟩ : ∃ x, x = Nt.vl 4294967296 g m := ⟨_, rfl⟩
              obtain ⟨y, ey⟩ : ∃ y, y = Nt.vl 4294967296 g' m' := ⟨_, rfl⟩
              obtain ⟨s, es⟩ : ∃ s, s = Nt.vl 4294967296 h p := ⟨_, rfl⟩
              obtain ⟨t, et⟩ : ∃ t, t = Nt.vl 4294967296 h' p' := ⟨_, rfl⟩
              rw [← ea, ← eb] at ia la
              rw [← ex, ← ey] at ib lb
              rw [← es, ← et] at ic lc
              have IA := Lib.hid ia
              have IB := Lib.hid ib
              have IC := Lib.hid ic
              obtain ⟨z, ez⟩ : ∃ z, z = Fr.cz a b x y := ⟨_, rfl⟩
              obtain ⟨z0, z1⟩ := Fr.cz_bd a b x y
              have c1 := fun W (hb : Below w.heap.size w W) => frac_Cmp_is W (ia.on hb) (ib.on hb)
              have c2 := fun W (hb : Below w.heap.size w W) => frac_Cmp_is W (ib.on hb) (ia.on hb)
              have c3 := fun W (hb : Below w.heap.size w W) => frac_Cmp_is W (ia.on hb) (ia.on hb)
              rw [show Fr.ci (a * y) (x * b) = Fr.cz a b x y from rfl, ← ez] at c1
              rw [show Fr.ci (x * b) (a * y) = Fr.cz x y a b from rfl, Fr.cz_anti, ← ez] at c2
              rw [show Fr.ci (a * b) (a * b) = Fr.cz a b a b from rfl, Fr.cz_self] at c3
              have d1 := fun W (hb : Below w.heap.size w W) => frac_Add_is W (ia.on hb) (ic.on hb)
              have d2 := fun W (hb : Below w.heap.size w W) => frac_Add_is W (ib.on hb) (ic.on hb)
              rw [la.addT lc (m := 16) (by omega) (by omega) (by omega) (by omega)] at d1
              rw [lb.addT lc (m := 16) (by omega) (by omega) (by omega) (by omega)] at d2
              have s1 := fun W (hb : Below w.heap.size w W) => ref4_Same W (ia.on hb).n (ia.on hb).d (ib.on hb).n (ib.on hb).d
              rw [← Fr.cz_same ia.cp ib.cp, ← ez] at s1
              have m1 := la.add lc (m := 16) (by omega) (by omega)
              have m2 := lb.add lc (m := 16) (by omega) (by omega)
              have hz := Fr.cz_add (a := a) (b := b) (c := x) (d := y) (e := s) (f := t) ia.b0 ib.b0 ic.b0
              rw [← ez] at hz z0 z1
              obtain ⟨u, eu⟩ : ∃ u, u = Fr.an a b s t := ⟨_, rfl⟩
              obtain ⟨u', eu'⟩ : ∃ u, u = Fr.ad a b s t := ⟨_, rfl⟩
              obtain ⟨v, ev⟩ : ∃ u, u = Fr.an x y s t := ⟨_, rfl⟩
              obtain ⟨v', ev'⟩ : ∃ u, u = Fr.ad x y s t := ⟨_, rfl⟩
              rw [← eu, ← eu'] at d1 m1 hz
              rw [← ev, ← ev'] at d2 m2 hz
              have hz : Fr.ci (u * v') (v * u') = z := hz
              have CA := Lib.hid c1
              have CB := Lib.hid c2
              have CC := Lib.hid c3
              have DA := Lib.hid d1
              have DB := Lib.hid d2
              have SS := Lib.hid s1
              have M1 := Lib.hid m1
              have M2 := Lib.hid m2
              have HZ := Lib.hid hz
              have nz : (z == - -z) = true := by simp
              have w2 : IntKind.i64.wrap (- -z) = z := by rw [IntKind.wrap_i64]; omega
              clear e0 e1 e2 e3 e4 e5 gA gB gC ia ib ic la lb lc ea eb ex ey es et ez c1 c2 c3 d1 d2 s1 m1 m2 hz eu eu' ev ev'
              have k0 := (((Ks.start w).box [.slice A n c, .slice A' n' c'] 28).box [.slice B m j, .slice B' m' j'] 28).box [.slice C p k, .slice C' p' k'] 28
              simp only [size_alloc] at k0
              have K0 := Lib.hid k0
              clear k0
              go_enter Tryz.func10, Tryz.ntmps10
              go_wp2_with fail
              refine (T0.out _).mono ?_
              rintro e w1 ⟨rfl, B1⟩
              have k1 := K0.out.call B1
              have K1 := Lib.hid k1
              clear k1 B1 
              have x0_0 := K1.out.cell0 at2
              have x0_1 := K1.out.cell1 at2
              have x1_0 := K1.out.cell0 at1
              have x1_1 := K1.out.cell1 at1
              have x2_0 := K1.out.cell0 at0
              have x2_1 := K1.out.cell1 at0
              go_wp2_with fail
              refine (T1.out _).mono ?_
              rintro e w2 ⟨rfl, B2⟩
              have k2 := K1.out.call B2
              have K2 := Lib.hid k2
              clear k2 B2 
              clear x0_0 x0_1 x1_0 x1_1 x2_0 x2_1
              have x0_0 := K2.out.cell0 at2
              have x0_1 := K2.out.cell1 at2
              have x1_0 := K2.out.cell0 at1
              have x1_1 := K2.out.cell1 at1
              have x2_0 := K2.out.cell0 at0
              have x2_1 := K2.out.cell1 at0
              go_wp2_with fail
              refine (T2.out _).mono ?_
              rintro e w3 ⟨rfl, B3⟩
              have k3 := K2.out.call B3
              have K3 := Lib.hid k3
              clear k3 B3 
              clear x0_0 x0_1 x1_0 x1_1 x2_0 x2_1
              have x0_0 := K3.out.cell0 at2
              have x0_1 := K3.out.cell1 at2
              have x1_0 := K3.out.cell0 at1
              have x1_1 := K3.out.cell1 at1
              have x2_0 := K3.out.cell0 at0
              have x2_1 := K3.out.cell1 at0
              go_wp2_with fail
              refine (T3.out _ K3.out.bel).mono ?_
              rintro e w4 ⟨rfl, B4⟩
              have k4 := K3.out.call B4
              have K4 := Lib.hid k4
              clear k4 B4 
              clear x0_0 x0_1 x1_0 x1_1 x2_0 x2_1
              have x0_0 := K4.out.cell0 at2
              have x0_1 := K4.out.cell1 at2
              have x1_0 := K4.out.cell0 at1
              have x1_1 := K4.out.cell1 at1
              have x2_0 := K4.out.cell0 at0
              have x2_1 := K4.out.cell1 at0
              go_wp2_with fail
              refine (T4.out _ K4.out.bel).mono ?_
              rintro e w5 ⟨rfl, B5⟩
              have k5 := K4.out.call B5
              have K5 := Lib.hid k5
              clear k5 B5 
              clear x0_0 x0_1 x1_0 x1_1 x2_0 x2_1
              have x0_0 := K5.out.cell0 at2
              have x0_1 := K5.out.cell1 at2
              have x1_0 := K5.out.cell0 at1
              have x1_1 := K5.out.cell1 at1
              have x2_0 := K5.out.cell0 at0
              have x2_1 := K5.out.cell1 at0
              go_wp2_with fail
              refine (T5.out _ K5.out.bel).mono ?_
              rintro e w6 ⟨rfl, B6⟩
              have k6 := K5.out.call B6
              have K6 := Lib.hid k6
              clear k6 B6 
              clear x0_0 x0_1 x1_0 x1_1 x2_0 x2_1
              have x0_0 := K6.out.cell0 at2
              have x0_1 := K6.out.cell1 at2
              have x1_0 := K6.out.cell0 at1
              have x1_1 := K6.out.cell1 at1
              have x2_0 := K6.out.cell0 at0
              have x2_1 := K6.out.cell1 at0
              go_wp2_with fail
              refine (CA.out _ K6.out.bel).mono ?_
              rintro e w7 ⟨rfl, B7⟩
              have k7 := K6.out.call B7
              have K7 := Lib.hid k7
              clear k7 B7 
              clear x0_0 x0_1 x1_0 x1_1 x2_0 x2_1
              have x0_0 := K7.out.cell0 at2
              have x0_1 := K7.out.cell1 at2
              have x1_0 := K7.out.cell0 at1
              have x1_1 := K7.out.cell1 at1
              have x2_0 := K7.out.cell0 at0
              have x2_1 := K7.out.cell1 at0
              go_wp2_with fail
              refine (DA.out _ K7.out.bel).mono ?_
              rintro e w8 ⟨A8, n8, c8, A8r, n8r, c8r, rfl, B8, D8, D8r, h8, h8r, l8, l8r⟩
              have k8 := (((K7.out.call B8).num D8).num D8r).box [.slice A8 n8 c8, .slice A8r n8r c8r] 28
              have K8 := Lib.hid k8
              clear k8 B8 D8 D8r
              clear x0_0 x0_1 x1_0 x1_1 x2_0 x2_1
              have x0_0 := K8.out.cell0 at3
              have x0_1 := K8.out.cell1 at3
              have x1_0 := K8.out.cell0 at2
              have x1_1 := K8.out.cell1 at2
              have x2_0 := K8.out.cell0 at1
              have x2_1 := K8.out.cell1 at1
              go_wp2_with fail
              refine (DB.out _ K8.out.bel).mono ?_
              rintro e w9 ⟨A9, n9, c9, A9r, n9r, c9r, rfl, B9, D9, D9r, h9, h9r, l9, l9r⟩
              have k9 := (((K8.out.call B9).num D9).num D9r).box [.slice A9 n9 c9, .slice A9r n9r c9r] 28
              have K9 := Lib.hid k9
              clear k9 B9 D9 D9r
              clear x0_0 x0_1 x1_0 x1_1 x2_0 x2_1
              have x0_0 := K9.out.cell0 at4
              have x0_1 := K9.out.cell1 at4
              have x1_0 := K9.out.cell0 at3
              have x1_1 := K9.out.cell1 at3
              have x2_0 := K9.out.cell0 at2
              have x2_1 := K9.out.cell1 at2
              have x3_0 := K9.out.cell0 at1
              have x3_1 := K9.out.cell1 at1
              go_wp2_with fail
              refine (CB.out _ K9.out.bel).mono ?_
              rintro e w10 ⟨rfl, B10⟩
              have k10 := K9.out.call B10
              have K10 := Lib.hid k10
              clear k10 B10 
              clear x0_0 x0_1 x1_0 x1_1 x2_0 x2_1 x3_0 x3_1
              have x0_0 := K10.out.cell0 at4
              have x0_1 := K10.out.cell1 at4
              have x1_0 := K10.out.cell0 at3
              have x1_1 := K10.out.cell1 at3
              have x2_0 := K10.out.cell0 at2
              have x2_1 := K10.out.cell1 at2
              have x3_0 := K10.out.cell0 at1
              have x3_1 := K10.out.cell1 at1
              have x4_0 := K10.out.cell0 at0
              have x4_1 := K10.out.cell1 at0
              go_wp2_with fail
              refine (SS.out _ K10.out.bel).mono ?_
              rintro e w11 ⟨rfl, B11⟩
              have k11 := K10.out.call B11
              have K11 := Lib.hid k11
              clear k11 B11 
              clear x0_0 x0_1 x1_0 x1_1 x2_0 x2_1 x3_0 x3_1 x4_0 x4_1
              have x0_0 := K11.out.cell0 at4
              have x0_1 := K11.out.cell1 at4
              have x1_0 := K11.out.cell0 at3
              have x1_1 := K11.out.cell1 at3
              have x2_0 := K11.out.cell0 at2
              have x2_1 := K11.out.cell1 at2
              have x3_0 := K11.out.cell0 at1
              have x3_1 := K11.out.cell1 at1
              have x4_0 := K11.out.cell0 at0
              have x4_1 := K11.out.cell1 at0
              go_wp2_with fail
              refine (HZ.out ▸ frac_Cmp_is _ ⟨⟨(K11.out.get at3), h8, l8⟩, ⟨(K11.out.get at2), h8r, l8r⟩, M1.out.b0, M1.out.cp⟩ ⟨⟨(K11.out.get at1), h9, l9⟩, ⟨(K11.out.get at0), h9r, l9r⟩, M2.out.b0, M2.out.cp⟩).mono ?_
              rintro e w12 ⟨rfl, B12⟩
              have k12 := K11.out.call B12
              have K12 := Lib.hid k12
              clear k12 B12 
              clear x0_0 x0_1 x1_0 x1_1 x2_0 x2_1 x3_0 x3_1 x4_0 x4_1
              have x0_0 := K12.out.cell0 at4
              have x0_1 := K12.out.cell1 at4
              have x1_0 := K12.out.cell0 at3
              have x1_1 := K12.out.cell1 at3
              have x2_0 := K12.out.cell0 at2
              have x2_1 := K12.out.cell1 at2
              have x3_0 := K12.out.cell0 at1
              have x3_1 := K12.out.cell1 at1
              have x4_0 := K12.out.cell0 at0
              have x4_1 := K12.out.cell1 at0
              go_wp2_with fail
              refine (CC.out _ K12.out.bel).mono ?_
              rintro e w13 ⟨rfl, B13⟩
              have k13 := K12.out.call B13
              have K13 := Lib.hid k13
              clear k13 B13 
              clear x0_0 x0_1 x1_0 x1_1 x2_0 x2_1 x3_0 x3_1 x4_0 x4_1
              have x0_0 := K13.out.cell0 at4
              have x0_1 := K13.out.cell1 at4
              have x1_0 := K13.out.cell0 at3
              have x1_1 := K13.out.cell1 at3
              have x2_0 := K13.out.cell0 at2
              have x2_1 := K13.out.cell1 at2
              have x3_0 := K13.out.cell0 at1
              have x3_1 := K13.out.cell1 at1
              have x4_0 := K13.out.cell0 at0
              have x4_1 := K13.out.cell1 at0
              go_wp2_with fail
              refine (AW.out _ K13.out.bel).mono ?_
              rintro e w14 ⟨rfl, B14⟩
              have k14 := K13.out.call B14
              have K14 := Lib.hid k14
              clear k14 B14 
              clear x0_0 x0_1 x1_0 x1_1 x2_0 x2_1 x3_0 x3_1 x4_0 x4_1
              have x0_0 := K14.out.cell0 at4
              have x0_1 := K14.out.cell1 at4
              have x1_0 := K14.out.cell0 at3
              have x1_1 := K14.out.cell1 at3
              have x2_0 := K14.out.cell0 at2
              have x2_1 := K14.out.cell1 at2
              have x3_0 := K14.out.cell0 at1
              have x3_1 := K14.out.cell1 at1
              have x4_0 := K14.out.cell0 at0
              have x4_1 := K14.out.cell1 at0
              go_wp2_with fail
              go_ret
              exact ⟨rfl, K14.out.bel⟩

/-! ### The row's step, the row, the card -/
set_option maxRecDepth 100000 in
theorem lifted (os : Os) (started : os.Started) (H : Type) (enc : TypeId × Value → H) :
    ReturnsInHanded {} Tryz.checked os 10 .any (fun w args => (Rows.fracOrdersSpec.pre enc Tryz.prog Tryz.f10 Rows.fracOrdersRow.domain false w args ∧ laidMetH Tryz.prog Rows.fracOrdersRow.laid w) ∧ sizedMet enc Tryz.prog Tryz.f10 (OpenSpec.ofChange Rows.fracOrdersSpec) false w args)
      (Rows.fracOrdersSpec.post enc Tryz.prog Tryz.f10 false true false false) := by
  refine returnsInHanded_of_change_and (C := Tryz.checked) (X := fun w _ => laidMetH Tryz.prog Rows.fracOrdersRow.laid w) (fun _ _ _ hh h => h.of_heap hh) own started (by kernel_rfl) Tryz.func10
    (ChangeSpec.witness_shaped (enc := enc) (C := Tryz.checked) (os := os) (X := fun w _ => laidMetH Tryz.prog Rows.fracOrdersRow.laid w) false (World.doorLaid Tryz.prog 62 os) #[.agg #[.slice none 0 0, .slice none 0 0], .agg #[.slice none 0 0, .slice none 0 0], .agg #[.slice none 0 0, .slice none 0 0]] 8 rfl (World.shaped_of_RefB (by kernel_rfl) (by kernel_rfl)) (by kernel_rfl) (by kernel_rfl) (by kernel_rfl) (door_met os _)) ?_
  intro W base args ds gs before hval0 hW _ hsz0 hL _
  have hsz : (DataW.weightsEach Tryz.prog (Tryz.f10.params.toList ++ Rows.fracOrdersSpec.plain.varTypes Tryz.prog) (ds ++ gs)).all (· ≤ reachBytes) = true := hsz0
  clear hsz0
  have hval : ∀ (j : Nat) t v, Tryz.f10.params[j]? = some t → args[j]? = some v → Value.okWide Tryz.prog W .any base t v := hval0
  have hW' := hW
  obtain ⟨p, q, hA0, hV, rfl, hfz, hnd⟩ := hW
  have hA : DataW.TrodAll enc Tryz.prog W 0 (fun _ => true) true Tryz.f10.params.toList args.toList ds p := hA0
  rw [Tryz.params10] at hA hval hsz

  obtain ⟨v0, vs0, d0, ds0, p0, q0, hargs, rfl, rfl, h0, r0⟩ := trodAll_cons hA
  obtain ⟨v1, vs1, d1, ds1, p1, q1, rfl, rfl, rfl, h1, r1⟩ := trodAll_cons r0
  obtain ⟨v2, vs2, d2, ds2, p2, q2, rfl, rfl, rfl, h2, r2⟩ := trodAll_cons r1
  obtain ⟨rfl, rfl, rfl⟩ := trodAll_nil r2
  obtain rfl : args = #[v0, v1, v2] := by cases args; simp_all
  obtain ⟨rfl, rfl⟩ := trodVars_none hV
  have k0 := h0
  have lt0 : ∀ x ∈ p0, x.block < W.heap.size := by
    obtain ⟨m, hm⟩ := k0
    exact DataW.trod_lt m _ _ _ hm
  obtain ⟨A0, n0, c0, f0, A0', n0', c0', f0', rfl, w0⟩ := frac_opened (hval 0 28 v0 rfl rfl) h0
  have k1 := h1
  have lt1 : ∀ x ∈ p1, x.block < W.heap.size := by
    obtain ⟨m, hm⟩ := k1
    exact DataW.trod_lt m _ _ _ hm
  obtain ⟨A1, n1, c1, f1, A1', n1', c1', f1', rfl, w1⟩ := frac_opened (hval 1 28 v1 rfl rfl) h1
  have k2 := h2
  have lt2 : ∀ x ∈ p2, x.block < W.heap.size := by
    obtain ⟨m, hm⟩ := k2
    exact DataW.trod_lt m _ _ _ hm
  obtain ⟨A2, n2, c2, f2, A2', n2', c2', f2', rfl, w2⟩ := frac_opened (hval 2 28 v2 rfl rfl) h2
  clear hA0 hval0
  simp only [List.append_nil] at hW'
  refine (walk A0 n0 c0 f0 A0' n0' c0' f0' A1 n1 c1 f1 A1' n1' c1' f1' A2 n2 c2 f2 A2' n2' c2' f2'    W (env_of_laid hL) w0 w1 w2).mono fun e W' ⟨he, bel⟩ => ?_
  subst he
  exact ⟨_, rfl, _, _, _, [], _, [], hW', trodAll_mk1 (shut_bool Tryz.underlying4 _), (trodAll_cons_mk (Below.trod laidOut (by kernel_rfl) (of_decide_eq_true (by kernel_rfl)) k0 bel lt0) (trodAll_cons_mk (Below.trod laidOut (by kernel_rfl) (of_decide_eq_true (by kernel_rfl)) k1 bel lt1) (trodAll_cons_mk (Below.trod laidOut (by kernel_rfl) (of_decide_eq_true (by kernel_rfl)) k2 bel lt2) trodAll_mk0))), rfl, bel.frame _, fun h => by cases h⟩

theorem over : Rows.FracOrdersSaid :=
  OpenClaim.holds_of_wide 10 Tryz.f10 rfl rfl rfl rfl rfl rfl rfl ⟨rfl, rfl, rfl, rfl, rfl⟩ rfl rfl rfl rfl rfl (by kernel_rfl) Tryz.func10 (by kernel_rfl)
    (of_decide_eq_true (by kernel_rfl)) (by unfold Func.isWrapper; first | (rw [if_pos (by decide +kernel)]; kernel_rfl) | (rw [if_neg (by decide +kernel)]; exact ⟨rfl, rfl⟩))
    (fun os started H enc _ => lifted os started H enc)
theorem plain (f : FuncId) (fn : Func) (hf : Tryz.pinned.checked.prog.funcNamed "lottery/lotterylaw04.FracOrders" = some f) (hfn : Tryz.pinned.checked.prog.funcs[f]? = some fn) :
    true = Tryz.pinned.checked.prog.looks [] ∧ ∀ (j : Nat) t, fn.params[j]? = some t → Tryz.pinned.checked.prog.wantsStandIn t = false := by
  obtain rfl : f = 10 := Option.some.inj ((show Tryz.prog.funcNamed "lottery/lotterylaw04.FracOrders" = some 10 by kernel_rfl).symm.trans hf) |>.symm
  obtain rfl : fn = Tryz.f10 := (Option.some.inj (Tryz.func10.symm.trans hfn)).symm
  refine ⟨by kernel_rfl, fun j t ht => ?_⟩
  rw [Tryz.params10] at ht
  have ht := Array.mem_of_getElem? ht
  simp only [List.mem_toArray, List.mem_cons, List.not_mem_nil, or_false] at ht
  rcases ht with rfl | rfl | rfl

  · exact (show Tryz.prog.wantsStandIn 28 = false by kernel_rfl)
  · exact (show Tryz.prog.wantsStandIn 28 = false by kernel_rfl)
  · exact (show Tryz.prog.wantsStandIn 28 = false by kernel_rfl)
/-- The statement. -/
theorem card : Rows.FracOrdersCardSaid :=
  Claim7.holds_tied_plain_at .later [] _ _ _ _ over (fun _ h => by cases h) (by kernel_rfl) (fun _ h => by cases h) fracOrders_row_tie rfl ⟨rfl, rfl⟩ (by kernel_rfl) rfl plain (by kernel_rfl)
end Go.Proofs.YtclejcijnfpgaaaGreatDoor.fracOrders
