/- FracField (P4.3, P4.4, P4.6): of every three valid fractions of at most 8 limbs in each part no sum and no product overflows, and the laws of a field hold: the law returns true. No condition. -/
import Derived.Test.YtclejcijnfpgaaaGreatDoorLaid
import Derived.Test.YtclejcijnfpgaaaGreatDoorFracP
namespace Go.Proofs.YtclejcijnfpgaaaGreatDoor.fracField
set_option maxRecDepth 20000
open Go.RowKit Go.ChangeShapes Go.WideShapes Go.ChangeAt Go.WideElems
open Go.ChangeMaps (open_string shut_string)
set_option linter.unusedVariables false

set_option maxHeartbeats 4000000 in
theorem walk (A : Option Addr) (n c : Nat) (f : Nat → Nat) (A' : Option Addr) (n' c' : Nat) (f' : Nat → Nat) (B : Option Addr) (m j : Nat) (g : Nat → Nat) (B' : Option Addr) (m' j' : Nat) (g' : Nat → Nat) (C : Option Addr) (p k : Nat) (h : Nat → Nat) (C' : Option Addr) (p' k' : Nat) (h' : Nat → Nat) (w : World) (hE : Env w) (gA : FArg w A n c f A' n' c' f') (gB : FArg w B m j g B' m' j' g') (gC : FArg w C p k h C' p' k' h') :
    Calls Tryz.prog 9 #[.agg #[.slice A n c, .slice A' n' c'], .agg #[.slice B m j, .slice B' m' j'], .agg #[.slice C p k, .slice C' p' k']] w fun e w' => e = .returned (.bool true) ∧ Below w.heap.size w w' := by
  have tbf0 := fun W => law4_brief (A := A) (n := n) (c := c) (A' := A') (n' := n') (c' := c') 8 W
  have tvl0 := fun W (hb : Below w.heap.size w W) => frac_Valid_arg W (gA.on hb)
  have tbf1 := fun W => law4_brief (A := B) (n := m) (c := j) (A' := B') (n' := m') (c' := j') 8 W
  have tvl1 := fun W (hb : Below w.heap.size w W) => frac_Valid_arg W (gB.on hb)
  have tbf2 := fun W => law4_brief (A := C) (n := p) (c := k) (A' := C') (n' := p') (c' := k') 8 W
  have tvl2 := fun W (hb : Below w.heap.size w W) => frac_Valid_arg W (gC.on hb)
  have AW := Lib.hid fun W (hb : Below w.heap.size w W) => law4_awake W (hE.on hb)
  clear hE
  cases e0 : Fr.brf n n' 8
  · rw [e0] at tbf0
    have T0 := Lib.hid tbf0
    clear tbf0 tbf1 tbf2 tvl0 tvl1 tvl2 e0 gA gB gC
    have k0 := (((Ks.start w).box [.slice A n c, .slice A' n' c'] 28).box [.slice B m j, .slice B' m' j'] 28).box [.slice C p k, .slice C' p' k'] 28
    simp only [size_alloc] at k0
    have K0 := Lib.hid k0
    clear k0
    go_enter Tryz.func9, Tryz.ntmps9
    go_wp2_with fail
    refine (T0.out _).mono ?_
    rintro e w1 ⟨rfl, B1⟩
    have k1 := K0.out.call B1
    have K1 := Lib.hid k1
    clear k1 B1 
    have x0_0 := K1.out.cell0 at2
    have x0_1 := K1.out.cell1 at2
    have x1_0 := K1.out.cell0 at1
    have x1_1 := K1.out.cell1 at1
    have x2_0 := K1.out.cell0 at0
    have x2_1 := K1.out.cell1 at0
    go_wp2_with fail
    refine (AW.out _ K1.out.bel).mono ?_
    rintro e w2 ⟨rfl, B2⟩
    have k2 := K1.out.call B2
    have K2 := Lib.hid k2
    clear k2 B2 
    clear x0_0 x0_1 x1_0 x1_1 x2_0 x2_1
    have x0_0 := K2.out.cell0 at2
    have x0_1 := K2.out.cell1 at2
    have x1_0 := K2.out.cell0 at1
    have x1_1 := K2.out.cell1 at1
    have x2_0 := K2.out.cell0 at0
    have x2_1 := K2.out.cell1 at0
    go_wp2_with fail
    go_ret
    exact ⟨rfl, K2.out.bel⟩
  · rw [e0] at tbf0
    have T0 := Lib.hid tbf0
    clear tbf0
    cases e1 : Fr.brf m m' 8
    · rw [e1] at tbf1
      have T1 := Lib.hid tbf1
      clear tbf1 tbf2 tvl0 tvl1 tvl2 e0 e1 gA gB gC
      have k0 := (((Ks.start w).box [.slice A n c, .slice A' n' c'] 28).box [.slice B m j, .slice B' m' j'] 28).box [.slice C p k, .slice C' p' k'] 28
      simp only [size_alloc] at k0
      have K0 := Lib.hid k0
      clear k0
      go_enter Tryz.func9, Tryz.ntmps9
      go_wp2_with fail
      refine (T0.out _).mono ?_
      rintro e w1 ⟨rfl, B1⟩
      have k1 := K0.out.call B1
      have K1 := Lib.hid k1
      clear k1 B1 
      have x0_0 := K1.out.cell0 at2
      have x0_1 := K1.out.cell1 at2
      have x1_0 := K1.out.cell0 at1
      have x1_1 := K1.out.cell1 at1
      have x2_0 := K1.out.cell0 at0
      have x2_1 := K1.out.cell1 at0
      go_wp2_with fail
      refine (T1.out _).mono ?_
      rintro e w2 ⟨rfl, B2⟩
      have k2 := K1.out.call B2
      have K2 := Lib.hid k2
      clear k2 B2 
      clear x0_0 x0_1 x1_0 x1_1 x2_0 x2_1
      have x0_0 := K2.out.cell0 at2
      have x0_1 := K2.out.cell1 at2
      have x1_0 := K2.out.cell0 at1
      have x1_1 := K2.out.cell1 at1
      have x2_0 := K2.out.cell0 at0
      have x2_1 := K2.out.cell1 at0
      go_wp2_with fail
      refine (AW.out _ K2.out.bel).mono ?_
      rintro e w3 ⟨rfl, B3⟩
      have k3 := K2.out.call B3
      have K3 := Lib.hid k3
      clear k3 B3 
      clear x0_0 x0_1 x1_0 x1_1 x2_0 x2_1
      have x0_0 := K3.out.cell0 at2
      have x0_1 := K3.out.cell1 at2
      have x1_0 := K3.out.cell0 at1
      have x1_1 := K3.out.cell1 at1
      have x2_0 := K3.out.cell0 at0
      have x2_1 := K3.out.cell1 at0
      go_wp2_with fail
      go_ret
      exact ⟨rfl, K3.out.bel⟩
    · rw [e1] at tbf1
      have T1 := Lib.hid tbf1
      clear tbf1
      cases e2 : Fr.brf p p' 8
      · rw [e2] at tbf2
        have T2 := Lib.hid tbf2
        clear tbf2 tvl0 tvl1 tvl2 e0 e1 e2 gA gB gC
        have k0 := (((Ks.start w).box [.slice A n c, .slice A' n' c'] 28).box [.slice B m j, .slice B' m' j'] 28).box [.slice C p k, .slice C' p' k'] 28
        simp only [size_alloc] at k0
        have K0 := Lib.hid k0
        clear k0
        go_enter Tryz.func9, Tryz.ntmps9
        go_wp2_with fail
        refine (T0.out _).mono ?_
        rintro e w1 ⟨rfl, B1⟩
        have k1 := K0.out.call B1
        have K1 := Lib.hid k1
        clear k1 B1 
        have x0_0 := K1.out.cell0 at2
        have x0_1 := K1.out.cell1 at2
        have x1_0 := K1.out.cell0 at1
        have x1_1 := K1.out.cell1 at1
        have x2_0 := K1.out.cell0 at0
        have x2_1 := K1.out.cell1 at0
        go_wp2_with fail
        refine (T1.out _).mono ?_
        rintro e w2 ⟨rfl, B2⟩
        have k2 := K1.out.call B2
        have K2 := Lib.hid k2
        clear k2 B2 
        clear x0_0 x0_1 x1_0 x1_1 x2_0 x2_1
        have x0_0 := K2.out.cell0 at2
        have x0_1 := K2.out.cell1 at2
        have x1_0 := K2.out.cell0 at1
        have x1_1 := K2.out.cell1 at1
        have x2_0 := K2.out.cell0 at0
        have x2_1 := K2.out.cell1 at0
        go_wp2_with fail
        refine (T2.out _).mono ?_
        rintro e w3 ⟨rfl, B3⟩
        have k3 := K2.out.call B3
        have K3 := Lib.hid k3
        clear k3 B3 
        clear x0_0 x0_1 x1_0 x1_1 x2_0 x2_1
        have x0_0 := K3.out.cell0 at2
        have x0_1 := K3.out.cell1 at2
        have x1_0 := K3.out.cell0 at1
        have x1_1 := K3.out.cell1 at1
        have x2_0 := K3.out.cell0 at0
        have x2_1 := K3.out.cell1 at0
        go_wp2_with fail
        refine (AW.out _ K3.out.bel).mono ?_
        rintro e w4 ⟨rfl, B4⟩
        have k4 := K3.out.call B4
        have K4 := Lib.hid k4
        clear k4 B4 
        clear x0_0 x0_1 x1_0 x1_1 x2_0 x2_1
        have x0_0 := K4.out.cell0 at2
        have x0_1 := K4.out.cell1 at2
        have x1_0 := K4.out.cell0 at1
        have x1_1 := K4.out.cell1 at1
        have x2_0 := K4.out.cell0 at0
        have x2_1 := K4.out.cell1 at0
        go_wp2_with fail
        go_ret
        exact ⟨rfl, K4.out.bel⟩
      · rw [e2] at tbf2
        have T2 := Lib.hid tbf2
        clear tbf2
        cases e3 : Fr.vld f n f' n'
        · rw [e3] at tvl0
          have T3 := Lib.hid tvl0
          clear tvl0 tvl1 tvl2 e0 e1 e2 e3 gA gB gC
          have k0 := (((Ks.start w).box [.slice A n c, .slice A' n' c'] 28).box [.slice B m j, .slice B' m' j'] 28).box [.slice C p k, .slice C' p' k'] 28
          simp only [size_alloc] at k0
          have K0 := Lib.hid k0
          clear k0
          go_enter Tryz.func9, Tryz.ntmps9
          go_wp2_with fail
          refine (T0.out _).mono ?_
          rintro e w1 ⟨rfl, B1⟩
          have k1 := K0.out.call B1
          have K1 := Lib.hid k1
          clear k1 B1 
          have x0_0 := K1.out.cell0 at2
          have x0_1 := K1.out.cell1 at2
          have x1_0 := K1.out.cell0 at1
          have x1_1 := K1.out.cell1 at1
          have x2_0 := K1.out.cell0 at0
          have x2_1 := K1.out.cell1 at0
          go_wp2_with fail
          refine (T1.out _).mono ?_
          rintro e w2 ⟨rfl, B2⟩
          have k2 := K1.out.call B2
          have K2 := Lib.hid k2
          clear k2 B2 
          clear x0_0 x0_1 x1_0 x1_1 x2_0 x2_1
          have x0_0 := K2.out.cell0 at2
          have x0_1 := K2.out.cell1 at2
          have x1_0 := K2.out.cell0 at1
          have x1_1 := K2.out.cell1 at1
          have x2_0 := K2.out.cell0 at0
          have x2_1 := K2.out.cell1 at0
          go_wp2_with fail
          refine (T2.out _).mono ?_
          rintro e w3 ⟨rfl, B3⟩
          have k3 := K2.out.call B3
          have K3 := Lib.hid k3
          clear k3 B3 
          clear x0_0 x0_1 x1_0 x1_1 x2_0 x2_1
          have x0_0 := K3.out.cell0 at2
          have x0_1 := K3.out.cell1 at2
          have x1_0 := K3.out.cell0 at1
          have x1_1 := K3.out.cell1 at1
          have x2_0 := K3.out.cell0 at0
          have x2_1 := K3.out.cell1 at0
          go_wp2_with fail
          refine (T3.out _ K3.out.bel).mono ?_
          rintro e w4 ⟨rfl, B4⟩
          have k4 := K3.out.call B4
          have K4 := Lib.hid k4
          clear k4 B4 
          clear x0_0 x0_1 x1_0 x1_1 x2_0 x2_1
          have x0_0 := K4.out.cell0 at2
          have x0_1 := K4.out.cell1 at2
          have x1_0 := K4.out.cell0 at1
          have x1_1 := K4.out.cell1 at1
          have x2_0 := K4.out.cell0 at0
          have x2_1 := K4.out.cell1 at0
          go_wp2_with fail
          refine (AW.out _ K4.out.bel).mono ?_
          rintro e w5 ⟨rfl, B5⟩
          have k5 := K4.out.call B5
          have K5 := Lib.hid k5
          clear k5 B5 
          clear x0_0 x0_1 x1_0 x1_1 x2_0 x2_1
          have x0_0 := K5.out.cell0 at2
          have x0_1 := K5.out.cell1 at2
          have x1_0 := K5.out.cell0 at1
          have x1_1 := K5.out.cell1 at1
          have x2_0 := K5.out.cell0 at0
          have x2_1 := K5.out.cell1 at0
          go_wp2_with fail
          go_ret
          exact ⟨rfl, K5.out.bel⟩
        · rw [e3] at tvl0
          have T3 := Lib.hid tvl0
          clear tvl0
          cases e4 : Fr.vld g m g' m'
          · rw [e4] at tvl1
            have T4 := Lib.hid tvl1
            clear tvl1 tvl2 e0 e1 e2 e3 e4 gA gB gC
            have k0 := (((Ks.start w).box [.slice A n c, .slice A' n' c'] 28).box [.slice B m j, .slice B' m' j'] 28).box [.slice C p k, .slice C' p' k'] 28
            simp only [size_alloc] at k0
            have K0 := Lib.hid k0
            clear k0
            go_enter Tryz.func9, Tryz.ntmps9
            go_wp2_with fail
            refine (T0.out _).mono ?_
            rintro e w1 ⟨rfl, B1⟩
            have k1 := K0.out.call B1
            have K1 := Lib.hid k1
            clear k1 B1 
            have x0_0 := K1.out.cell0 at2
            have x0_1 := K1.out.cell1 at2
            have x1_0 := K1.out.cell0 at1
            have x1_1 := K1.out.cell1 at1
            have x2_0 := K1.out.cell0 at0
            have x2_1 := K1.out.cell1 at0
            go_wp2_with fail
            refine (T1.out _).mono ?_
            rintro e w2 ⟨rfl, B2⟩
            have k2 := K1.out.call B2
            have K2 := Lib.hid k2
            clear k2 B2 
            clear x0_0 x0_1 x1_0 x1_1 x2_0 x2_1
            have x0_0 := K2.out.cell0 at2
            have x0_1 := K2.out.cell1 at2
            have x1_0 := K2.out.cell0 at1
            have x1_1 := K2.out.cell1 at1
            have x2_0 := K2.out.cell0 at0
            have x2_1 := K2.out.cell1 at0
            go_wp2_with fail
            refine (T2.out _).mono ?_
            rintro e w3 ⟨rfl, B3⟩
            have k3 := K2.out.call B3
            have K3 := Lib.hid k3
            clear k3 B3 
            clear x0_0 x0_1 x1_0 x1_1 x2_0 x2_1
            have x0_0 := K3.out.cell0 at2
            have x0_1 := K3.out.cell1 at2
            have x1_0 := K3.out.cell0 at1
            have x1_1 := K3.out.cell1 at1
            have x2_0 := K3.out.cell0 at0
            have x2_1 := K3.out.cell1 at0
            go_wp2_with fail
            refine (T3.out _ K3.out.bel).mono ?_
            rintro e w4 ⟨rfl, B4⟩
            have k4 := K3.out.call B4
            have K4 := Lib.hid k4
            clear k4 B4 
            clear x0_0 x0_1 x1_0 x1_1 x2_0 x2_1
            have x0_0 := K4.out.cell0 at2
            have x0_1 := K4.out.cell1 at2
            have x1_0 := K4.out.cell0 at1
            have x1_1 := K4.out.cell1 at1
            have x2_0 := K4.out.cell0 at0
            have x2_1 := K4.out.cell1 at0
            go_wp2_with fail
            refine (T4.out _ K4.out.bel).mono ?_
            rintro e w5 ⟨rfl, B5⟩
            have k5 := K4.out.call B5
            have K5 := Lib.hid k5
            clear k5 B5 
            clear x0_0 x0_1 x1_0 x1_1 x2_0 x2_1
            have x0_0 := K5.out.cell0 at2
            have x0_1 := K5.out.cell1 at2
            have x1_0 := K5.out.cell0 at1
            have x1_1 := K5.out.cell1 at1
            have x2_0 := K5.out.cell0 at0
            have x2_1 := K5.out.cell1 at0
            go_wp2_with fail
            refine (AW.out _ K5.out.bel).mono ?_
            rintro e w6 ⟨rfl, B6⟩
            have k6 := K5.out.call B6
            have K6 := Lib.hid k6
            clear k6 B6 
            clear x0_0 x0_1 x1_0 x1_1 x2_0 x2_1
            have x0_0 := K6.out.cell0 at2
            have x0_1 := K6.out.cell1 at2
            have x1_0 := K6.out.cell0 at1
            have x1_1 := K6.out.cell1 at1
            have x2_0 := K6.out.cell0 at0
            have x2_1 := K6.out.cell1 at0
            go_wp2_with fail
            go_ret
            exact ⟨rfl, K6.out.bel⟩
          · rw [e4] at tvl1
            have T4 := Lib.hid tvl1
            clear tvl1
            cases e5 : Fr.vld h p h' p'
            · rw [e5] at tvl2
              have T5 := Lib.hid tvl2
              clear tvl2  e0 e1 e2 e3 e4 e5 gA gB gC
              have k0 := (((Ks.start w).box [.slice A n c, .slice A' n' c'] 28).box [.slice B m j, .slice B' m' j'] 28).box [.slice C p k, .slice C' p' k'] 28
              simp only [size_alloc] at k0
              have K0 := Lib.hid k0
              clear k0
              go_enter Tryz.func9, Tryz.ntmps9
              go_wp2_with fail
              refine (T0.out _).mono ?_
              rintro e w1 ⟨rfl, B1⟩
              have k1 := K0.out.call B1
              have K1 := Lib.hid k1
              clear k1 B1 
              have x0_0 := K1.out.cell0 at2
              have x0_1 := K1.out.cell1 at2
              have x1_0 := K1.out.cell0 at1
              have x1_1 := K1.out.cell1 at1
              have x2_0 := K1.out.cell0 at0
              have x2_1 := K1.out.cell1 at0
              go_wp2_with fail
              refine (T1.out _).mono ?_
              rintro e w2 ⟨rfl, B2⟩
              have k2 := K1.out.call B2
              have K2 := Lib.hid k2
              clear k2 B2 
              clear x0_0 x0_1 x1_0 x1_1 x2_0 x2_1
              have x0_0 := K2.out.cell0 at2
              have x0_1 := K2.out.cell1 at2
              have x1_0 := K2.out.cell0 at1
              have x1_1 := K2.out.cell1 at1
              have x2_0 := K2.out.cell0 at0
              have x2_1 := K2.out.cell1 at0
              go_wp2_with fail
              refine (T2.out _).mono ?_
              rintro e w3 ⟨rfl, B3⟩
              have k3 := K2.out.call B3
              have K3 := Lib.hid k3
              clear k3 B3 
              clear x0_0 x0_1 x1_0 x1_1 x2_0 x2_1
              have x0_0 := K3.out.cell0 at2
              have x0_1 := K3.out.cell1 at2
              have x1_0 := K3.out.cell0 at1
              have x1_1 := K3.out.cell1 at1
              have x2_0 := K3.out.cell0 at0
              have x2_1 := K3.out.cell1 at0
              go_wp2_with fail
              refine (T3.out _ K3.out.bel).mono ?_
              rintro e w4 ⟨rfl, B4⟩
              have k4 := K3.out.call B4
              have K4 := Lib.hid k4
              clear k4 B4 
              clear x0_0 x0_1 x1_0 x1_1 x2_0 x2_1
              have x0_0 := K4.out.cell0 at2
              have x0_1 := K4.out.cell1 at2
              have x1_0 := K4.out.cell0 at1
              have x1_1 := K4.out.cell1 at1
              have x2_0 := K4.out.cell0 at0
              have x2_1 := K4.out.cell1 at0
              go_wp2_with fail
              refine (T4.out _ K4.out.bel).mono ?_
              rintro e w5 ⟨rfl, B5⟩
              have k5 := K4.out.call B5
              have K5 := Lib.hid k5
              clear k5 B5 
              clear x0_0 x0_1 x1_0 x1_1 x2_0 x2_1
              have x0_0 := K5.out.cell0 at2
              have x0_1 := K5.out.cell1 at2
              have x1_0 := K5.out.cell0 at1
              have x1_1 := K5.out.cell1 at1
              have x2_0 := K5.out.cell0 at0
              have x2_1 := K5.out.cell1 at0
              go_wp2_with fail
              refine (T5.out _ K5.out.bel).mono ?_
              rintro e w6 ⟨rfl, B6⟩
              have k6 := K5.out.call B6
              have K6 := Lib.hid k6
              clear k6 B6 
              clear x0_0 x0_1 x1_0 x1_1 x2_0 x2_1
              have x0_0 := K6.out.cell0 at2
              have x0_1 := K6.out.cell1 at2
              have x1_0 := K6.out.cell0 at1
              have x1_1 := K6.out.cell1 at1
              have x2_0 := K6.out.cell0 at0
              have x2_1 := K6.out.cell1 at0
              go_wp2_with fail
              refine (AW.out _ K6.out.bel).mono ?_
              rintro e w7 ⟨rfl, B7⟩
              have k7 := K6.out.call B7
              have K7 := Lib.hid k7
              clear k7 B7 
              clear x0_0 x0_1 x1_0 x1_1 x2_0 x2_1
              have x0_0 := K7.out.cell0 at2
              have x0_1 := K7.out.cell1 at2
              have x1_0 := K7.out.cell0 at1
              have x1_1 := K7.out.cell1 at1
              have x2_0 := K7.out.cell0 at0
              have x2_1 := K7.out.cell1 at0
              go_wp2_with fail
              go_ret
              exact ⟨rfl, K7.out.bel⟩
            · rw [e5] at tvl2
              have T5 := Lib.hid tvl2
              clear tvl2
              have ia := gA.is e3
              have ib := gB.is e4
              have ic := gC.is e5
              have la := ia.lim (k := 8) (Fr.brf_iff.1 e0)
              have lb := ib.lim (k := 8) (Fr.brf_iff.1 e1)
              have lc := ic.lim (k := 8) (Fr.brf_iff.1 e2)
              obtain ⟨a, ea⟩ : ∃ a, a = Nt.vl 4294967296 f n := ⟨_, rfl⟩
              obtain ⟨b, eb⟩ : ∃ b, b = Nt.vl 4294967296 f' n' := ⟨_, rfl⟩
              obtain ⟨x, ex⟩ : ∃ x, x = Nt.vl 4294967296 g m := ⟨_, rfl⟩
              obtain ⟨y, ey⟩ : ∃ y, y = Nt.vl 4294967296 g' m' := ⟨_, rfl⟩
              obtain ⟨s, es⟩ : ∃ s, s = Nt.vl 4294967296 h p := ⟨_, rfl⟩
              obtain ⟨t, et⟩ : ∃ t, t = Nt.vl 4294967296 h' p' := ⟨_, rfl⟩
              rw [← ea, ← eb] at ia la
              rw [← ex, ← ey] at ib lb
              rw [← es, ← et] at ic lc
              have IA := Lib.hid ia
              have IB := Lib.hid ib
              have IC := Lib.hid ic
              have m1 := la.add lb (m := 16) (by omega) (by omega)
              have m3 := lb.add lc (m := 16) (by omega) (by omega)
              have d1 := fun W (hb : Below w.heap.size w W) => frac_Add_is W (ia.on hb) (ib.on hb)
              have d2 := fun W (hb : Below w.heap.size w W) => frac_Add_is W (ib.on hb) (ia.on hb)
              have d3 := fun W (hb : Below w.heap.size w W) => frac_Add_is W (ib.on hb) (ic.on hb)
              rw [la.addT lb (m := 16) (by omega) (by omega) (by omega) (by omega)] at d1
              rw [lb.addT la (m := 16) (by omega) (by omega) (by omega) (by omega), Fr.an_comm x y, Fr.ad_comm x y] at d2
              rw [lb.addT lc (m := 16) (by omega) (by omega) (by omega) (by omega)] at d3
              have t4 := m1.addT lc (m := 25) (by omega) (by omega) (by omega) (by omega)
              have t5 := la.addT m3 (m := 25) (by omega) (by omega) (by omega) (by omega)
              have g5 := Fr.add_assoc (a := a) (b := b) (c := x) (d := y) (e := s) (f := t) ia.b0 ib.b0 ic.b0
              rw [← g5.1, ← g5.2] at t5
              have t6 := m1.subT lb (Fr.sub_ok ia.b0) (by omega) (by omega) (by omega)
              have g6 := Fr.sub_add (a := a) (b := b) (c := x) (d := y) ia.b0 ib.b0 ia.cp
              rw [g6.1, g6.2] at t6
              have t7 := la.addT (⟨by omega, by omega, by omega, by decide⟩ : Fr.Lim 1 1 0 1) (m := 9) (by omega) (by omega) (by omega) (by omega)
              have g7 := Fr.add_zero ia.b0 ia.cp
              rw [g7.1, g7.2] at t7
              have d7 := fun W {A A' : Option Addr} {n c n' c' : Nat} (hb : Below w.heap.size w W) (h : FIs W A n c A' n' c' 0 1) => frac_Add_is W (ia.on hb) h
              rw [t7] at d7
              have pr := fun W {E E' : Option Addr} {r l r' l' : Nat} (hb : Below w.heap.size w W) (h : FIs W E r l E' r' l' (Fr.an x y s t) (Fr.ad x y s t)) => law4_products W (ia.on hb) (ib.on hb) (ic.on hb) h la lb lc
              obtain ⟨x1, ex1⟩ : ∃ u, u = Fr.an a b x y := ⟨_, rfl⟩
              obtain ⟨y1, ey1⟩ : ∃ u, u = Fr.ad a b x y := ⟨_, rfl⟩
              obtain ⟨x3, ex3⟩ : ∃ u, u = Fr.an x y s t := ⟨_, rfl⟩
              obtain ⟨y3, ey3⟩ : ∃ u, u = Fr.ad x y s t := ⟨_, rfl⟩
              rw [← ex1, ← ey1] at d1 d2 m1 t4 t6 t5
              rw [← ex3, ← ey3] at d3 m3 t5 pr
              obtain ⟨x4, ex4⟩ : ∃ u, u = Fr.an x1 y1 s t := ⟨_, rfl⟩
              obtain ⟨y4, ey4⟩ : ∃ u, u = Fr.ad x1 y1 s t := ⟨_, rfl⟩
              rw [← ex4, ← ey4] at t4 t5
              have D1 := Lib.hid d1
              have D2 := Lib.hid d2
              have D3 := Lib.hid d3
              have D7 := Lib.hid d7
              have PR := Lib.hid pr
              have M1 := Lib.hid m1
              have M3 := Lib.hid m3
              have U4 := Lib.hid t4
              have U5 := Lib.hid t5
              have U6 := Lib.hid t6
              have O0 := Lib.hid fun W => law4_of0 0 1 1 W rfl rfl (by omega) (by omega)
              clear e0 e1 e2 e3 e4 e5 gA gB gC ia ib ic la lb lc ea eb ex ey es et d1 d2 d3 d7 pr m1 m3 t4 t5 t6 t7 g5 g6 g7 ex1 ey1 ex3 ey3 ex4 ey4
              have k0 := (((Ks.start w).box [.slice A n c, .slice A' n' c'] 28).box [.slice B m j, .slice B' m' j'] 28).box [.slice C p k, .slice C' p' k'] 28
              simp only [size_alloc] at k0
              have K0 := Lib.hid k0
              clear k0
              go_enter Tryz.func9, Tryz.ntmps9
              go_wp2_with fail
              refine (T0.out _).mono ?_
              rintro e w1 ⟨rfl, B1⟩
              have k1 := K0.out.call B1
              have K1 := Lib.hid k1
              clear k1 B1 
              have x0_0 := K1.out.cell0 at2
              have x0_1 := K1.out.cell1 at2
              have x1_0 := K1.out.cell0 at1
              have x1_1 := K1.out.cell1 at1
              have x2_0 := K1.out.cell0 at0
              have x2_1 := K1.out.cell1 at0
              go_wp2_with fail
              refine (T1.out _).mono ?_
              rintro e w2 ⟨rfl, B2⟩
              have k2 := K1.out.call B2
              have K2 := Lib.hid k2
              clear k2 B2 
              clear x0_0 x0_1 x1_0 x1_1 x2_0 x2_1
              have x0_0 := K2.out.cell0 at2
              have x0_1 := K2.out.cell1 at2
              have x1_0 := K2.out.cell0 at1
              have x1_1 := K2.out.cell1 at1
              have x2_0 := K2.out.cell0 at0
              have x2_1 := K2.out.cell1 at0
              go_wp2_with fail
              refine (T2.out _).mono ?_
              rintro e w3 ⟨rfl, B3⟩
              have k3 := K2.out.call B3
              have K3 := Lib.hid k3
              clear k3 B3 
              clear x0_0 x0_1 x1_0 x1_1 x2_0 x2_1
              have x0_0 := K3.out.cell0 at2
              have x0_1 := K3.out.cell1 at2
              have x1_0 := K3.out.cell0 at1
              have x1_1 := K3.out.cell1 at1
              have x2_0 := K3.out.cell0 at0
              have x2_1 := K3.out.cell1 at0
              go_wp2_with fail
              refine (T3.out _ K3.out.bel).mono ?_
              rintro e w4 ⟨rfl, B4⟩
              have k4 := K3.out.call B4
              have K4 := Lib.hid k4
              clear k4 B4 
              clear x0_0 x0_1 x1_0 x1_1 x2_0 x2_1
              have x0_0 := K4.out.cell0 at2
              have x0_1 := K4.out.cell1 at2
              have x1_0 := K4.out.cell0 at1
              have x1_1 := K4.out.cell1 at1
              have x2_0 := K4.out.cell0 at0
              have x2_1 := K4.out.cell1 at0
              go_wp2_with fail
              refine (T4.out _ K4.out.bel).mono ?_
              rintro e w5 ⟨rfl, B5⟩
              have k5 := K4.out.call B5
              have K5 := Lib.hid k5
              clear k5 B5 
              clear x0_0 x0_1 x1_0 x1_1 x2_0 x2_1
              have x0_0 := K5.out.cell0 at2
              have x0_1 := K5.out.cell1 at2
              have x1_0 := K5.out.cell0 at1
              have x1_1 := K5.out.cell1 at1
              have x2_0 := K5.out.cell0 at0
              have x2_1 := K5.out.cell1 at0
              go_wp2_with fail
              refine (T5.out _ K5.out.bel).mono ?_
              rintro e w6 ⟨rfl, B6⟩
              have k6 := K5.out.call B6
              have K6 := Lib.hid k6
              clear k6 B6 
              clear x0_0 x0_1 x1_0 x1_1 x2_0 x2_1
              have x0_0 := K6.out.cell0 at2
              have x0_1 := K6.out.cell1 at2
              have x1_0 := K6.out.cell0 at1
              have x1_1 := K6.out.cell1 at1
              have x2_0 := K6.out.cell0 at0
              have x2_1 := K6.out.cell1 at0
              go_wp2_with fail
              refine (D1.out _ K6.out.bel).mono ?_
              rintro e w7 ⟨A7, n7, c7, A7r, n7r, c7r, rfl, B7, D7, D7r, h7, h7r, l7, l7r⟩
              have k7 := (((K6.out.call B7).num D7).num D7r).box [.slice A7 n7 c7, .slice A7r n7r c7r] 28
              have K7 := Lib.hid k7
              clear k7 B7 D7 D7r
              clear x0_0 x0_1 x1_0 x1_1 x2_0 x2_1
              have x0_0 := K7.out.cell0 at3
              have x0_1 := K7.out.cell1 at3
              have x1_0 := K7.out.cell0 at2
              have x1_1 := K7.out.cell1 at2
              have x2_0 := K7.out.cell0 at1
              have x2_1 := K7.out.cell1 at1
              go_wp2_with fail
              refine (D2.out _ K7.out.bel).mono ?_
              rintro e w8 ⟨A8, n8, c8, A8r, n8r, c8r, rfl, B8, D8, D8r, h8, h8r, l8, l8r⟩
              have k8 := (((K7.out.call B8).num D8).num D8r).box [.slice A8 n8 c8, .slice A8r n8r c8r] 28
              have K8 := Lib.hid k8
              clear k8 B8 D8 D8r
              clear x0_0 x0_1 x1_0 x1_1 x2_0 x2_1
              have x0_0 := K8.out.cell0 at4
              have x0_1 := K8.out.cell1 at4
              have x1_0 := K8.out.cell0 at3
              have x1_1 := K8.out.cell1 at3
              have x2_0 := K8.out.cell0 at2
              have x2_1 := K8.out.cell1 at2
              have x3_0 := K8.out.cell0 at1
              have x3_1 := K8.out.cell1 at1
              go_wp2_with fail
              refine (D3.out _ K8.out.bel).mono ?_
              rintro e w9 ⟨A9, n9, c9, A9r, n9r, c9r, rfl, B9, D9, D9r, h9, h9r, l9, l9r⟩
              have k9 := (((K8.out.call B9).num D9).num D9r).box [.slice A9 n9 c9, .slice A9r n9r c9r] 28
              have K9 := Lib.hid k9
              clear k9 B9 D9 D9r
              clear x0_0 x0_1 x1_0 x1_1 x2_0 x2_1 x3_0 x3_1
              have x0_0 := K9.out.cell0 at5
              have x0_1 := K9.out.cell1 at5
              have x1_0 := K9.out.cell0 at4
              have x1_1 := K9.out.cell1 at4
              have x2_0 := K9.out.cell0 at3
              have x2_1 := K9.out.cell1 at3
              have x3_0 := K9.out.cell0 at2
              have x3_1 := K9.out.cell1 at2
              have x4_0 := K9.out.cell0 at1
              have x4_1 := K9.out.cell1 at1
              go_wp2_with fail
              refine (U4.out ▸ frac_Add_is _ ⟨⟨(K9.out.get at5), h7, l7⟩, ⟨(K9.out.get at4), h7r, l7r⟩, M1.out.b0, M1.out.cp⟩ (IC.out.on K9.out.bel)).mono ?_
              rintro e w10 ⟨A10, n10, c10, A10r, n10r, c10r, rfl, B10, D10, D10r, h10, h10r, l10, l10r⟩
              have k10 := (((K9.out.call B10).num D10).num D10r).box [.slice A10 n10 c10, .slice A10r n10r c10r] 28
              have K10 := Lib.hid k10
              clear k10 B10 D10 D10r
              clear x0_0 x0_1 x1_0 x1_1 x2_0 x2_1 x3_0 x3_1 x4_0 x4_1
              have x0_0 := K10.out.cell0 at6
              have x0_1 := K10.out.cell1 at6
              have x1_0 := K10.out.cell0 at5
              have x1_1 := K10.out.cell1 at5
              have x2_0 := K10.out.cell0 at4
              have x2_1 := K10.out.cell1 at4
              have x3_0 := K10.out.cell0 at3
              have x3_1 := K10.out.cell1 at3
              have x4_0 := K10.out.cell0 at2
              have x4_1 := K10.out.cell1 at2
              have x5_0 := K10.out.cell0 at1
              have x5_1 := K10.out.cell1 at1
              go_wp2_with fail
              refine (U5.out ▸ frac_Add_is _ (IA.out.on K10.out.bel) ⟨⟨(K10.out.get at3), h9, l9⟩, ⟨(K10.out.get at2), h9r, l9r⟩, M3.out.b0, M3.out.cp⟩).mono ?_
              rintro e w11 ⟨A11, n11, c11, A11r, n11r, c11r, rfl, B11, D11, D11r, h11, h11r, l11, l11r⟩
              have k11 := (((K10.out.call B11).num D11).num D11r).box [.slice A11 n11 c11, .slice A11r n11r c11r] 28
              have K11 := Lib.hid k11
              clear k11 B11 D11 D11r
              clear x0_0 x0_1 x1_0 x1_1 x2_0 x2_1 x3_0 x3_1 x4_0 x4_1 x5_0 x5_1
              have x0_0 := K11.out.cell0 at7
              have x0_1 := K11.out.cell1 at7
              have x1_0 := K11.out.cell0 at6
              have x1_1 := K11.out.cell1 at6
              have x2_0 := K11.out.cell0 at5
              have x2_1 := K11.out.cell1 at5
              have x3_0 := K11.out.cell0 at4
              have x3_1 := K11.out.cell1 at4
              have x4_0 := K11.out.cell0 at3
              have x4_1 := K11.out.cell1 at3
              have x5_0 := K11.out.cell0 at2
              have x5_1 := K11.out.cell1 at2
              have x6_0 := K11.out.cell0 at1
              have x6_1 := K11.out.cell1 at1
              go_wp2_with fail
              refine (U6.out ▸ frac_Sub_is _ ⟨⟨(K11.out.get at9), h7, l7⟩, ⟨(K11.out.get at8), h7r, l7r⟩, M1.out.b0, M1.out.cp⟩ (IB.out.on K11.out.bel)).mono ?_
              rintro e w12 ⟨A12, n12, c12, A12r, n12r, c12r, rfl, B12, D12, D12r, h12, h12r, l12, l12r⟩
              have k12 := (((K11.out.call B12).num D12).num D12r).box [.slice A12 n12 c12, .slice A12r n12r c12r] 28
              have K12 := Lib.hid k12
              clear k12 B12 D12 D12r
              clear x0_0 x0_1 x1_0 x1_1 x2_0 x2_1 x3_0 x3_1 x4_0 x4_1 x5_0 x5_1 x6_0 x6_1
              have x0_0 := K12.out.cell0 at8
              have x0_1 := K12.out.cell1 at8
              have x1_0 := K12.out.cell0 at7
              have x1_1 := K12.out.cell1 at7
              have x2_0 := K12.out.cell0 at6
              have x2_1 := K12.out.cell1 at6
              have x3_0 := K12.out.cell0 at5
              have x3_1 := K12.out.cell1 at5
              have x4_0 := K12.out.cell0 at4
              have x4_1 := K12.out.cell1 at4
              have x5_0 := K12.out.cell0 at3
              have x5_1 := K12.out.cell1 at3
              have x6_0 := K12.out.cell0 at2
              have x6_1 := K12.out.cell1 at2
              have x7_0 := K12.out.cell0 at1
              have x7_1 := K12.out.cell1 at1
              clear x0_0 x0_1 x1_0 x1_1 x2_0 x2_1 x3_0 x3_1 x4_0 x4_1 x5_0 x5_1 x6_0 x6_1 x7_0 x7_1
              go_wp2_with fail
              go_cut [19, 20] from 86 to 91 (fun sx tx wx => OutF w (w12.alloc (.cells #[.slice A12 n12 c12, .slice A12r n12r c12r] 28)) a b sx tx wx)
              case first =>
                have K12d := Lib.hid (K12.out.call (Below.refl _ (w12.alloc (.cells #[.slice A12 n12 c12, .slice A12r n12r c12r] 28))).drew)
                go_region_held3 (fun W => W.cell? ⟨w.heap.size, 0, none⟩ = some (.slice A n c) ∧ W.cell? ⟨w.heap.size, 1, none⟩ = some (.slice A' n' c'))
                  (first | (with_reducible exact ⟨K12d.out.cell0 at8, K12d.out.cell1 at8⟩) | (with_reducible exact ⟨K13.out.cell0 at8, K13.out.cell1 at8⟩) | (with_reducible exact ⟨K14.out.cell0 at9, K14.out.cell1 at9⟩) | (with_reducible exact ⟨K15.out.cell0 at8, K15.out.cell1 at8⟩) | (with_reducible exact ⟨K16.out.cell0 at9, K16.out.cell1 at9⟩) | (with_reducible exact ⟨K17.out.cell0 at9, K17.out.cell1 at9⟩) | (with_reducible exact kAl (by assumption)) | (with_reducible exact kAd (by assumption)) | (with_reducible exact kSt NR (by assumption)) | (with_reducible exact kAl ⟨K15.out.cell0 at8, K15.out.cell1 at8⟩) | fail)
                  (first
                    | (go_at_call 33; (with_reducible refine (O0.out _).mono ?_); rintro e w13 ⟨A13, n13, c13, A13r, n13r, c13r, rfl, B13, D13, D13r, h13, h13r, l13, l13r⟩; have K13 := Lib.hid (((K12d.out.call B13).num D13).num D13r); have HB13 := Lib.hid B13; clear B13 D13 D13r)
                    | (go_at_call 23; have K13a := Lib.hid (K13.out.box [.slice none 0 0, .slice none 0 0] 28); (with_reducible refine (D7.out _ K13a.out.bel ⟨⟨K13a.out.get at1, h13, l13⟩, ⟨K13a.out.get at0, h13r, l13r⟩, by omega, by decide⟩).mono ?_); rintro e w14 ⟨A14, n14, c14, A14r, n14r, c14r, rfl, B14, D14, D14r, h14, h14r, l14, l14r⟩; have K14 := Lib.hid (((K13a.out.call B14).num D14).num D14r); have HB14 := Lib.hid B14; have HD14 := Lib.hid D14; have HD14r := Lib.hid D14r; have q0 := K14.out.cell0 at0; have q1 := K14.out.cell1 at0; have qf := K14.out.free at0; have NR : Hid (w.heap.size ≠ w13.heap.size) := Nat.ne_of_lt (lt_of_block (K13.out.b _ at8)); clear B14 D14 D14r)
                    | (go_at_call 23; (with_reducible refine (D7.out _ K13.out.bel ⟨⟨K13.out.get at1, h13, l13⟩, ⟨K13.out.get at0, h13r, l13r⟩, by omega, by decide⟩).mono ?_); rintro e w15 ⟨A15, n15, c15, A15r, n15r, c15r, rfl, B15, D15, D15r, h15, h15r, l15, l15r⟩; have K15 := Lib.hid (((K13.out.call B15).num D15).num D15r); have HB15 := Lib.hid B15; have HD15 := Lib.hid D15; have HD15r := Lib.hid D15r; clear B15 D15 D15r)
                    | (go_at_call 33; (with_reducible refine (O0.out _).mono ?_); rintro e w16 ⟨A16, n16, c16, A16r, n16r, c16r, rfl, B16, D16, D16r, h16, h16r, l16, l16r⟩; have k16 := ((((K12.out.box [.slice none 0 0, .slice none 0 0] 28).call (Below.refl _ _).drew).call B16).num D16).num D16r; simp only [size_alloc] at k16; have K16 := Lib.hid k16; have HB16 := Lib.hid B16; have NR : Hid (w.heap.size ≠ w12.heap.size + 1) := (by have h := lt_of_block (K12.out.b _ at8); simp only [size_alloc] at h; exact Nat.ne_of_lt h); clear k16 B16 D16 D16r)
                    | (go_at_call 23; (with_reducible refine (D7.out _ K16.out.bel ⟨⟨K16.out.get at1, h16, l16⟩, ⟨K16.out.get at0, h16r, l16r⟩, by omega, by decide⟩).mono ?_); rintro e w17 ⟨A17, n17, c17, A17r, n17r, c17r, rfl, B17, D17, D17r, h17, h17r, l17, l17r⟩; have K17 := Lib.hid (((K16.out.call B17).num D17).num D17r); have HB17 := Lib.hid B17; have HD17 := Lib.hid D17; have HD17r := Lib.hid D17r; have q0 := K17.out.cell0 at0; have q1 := K17.out.cell1 at0; have qf := K17.out.free at0; clear B17 D17 D17r)
                    | fail)
                all_goals (
                  go_wp2_with fail
                  go_meet
                  first
                    | exact ⟨w13.heap.size, A14, n14, c14, A14r, n14r, c14r, rfl, rfl, fun bs ns K => (((((((K.call (Below.refl _ _).drew).call HB13.out).box [.slice none 0 0, .slice none 0 0] 28).call HB14.out).num HD14.out).num HD14r.out).put2 at0 ((K.call (Below.refl _ _).drew).call HB13.out).bel.size (fun p hp => ⟨List.mem_cons_of_mem _ hp, Nat.ne_of_lt (lt_of_block (((K.call (Below.refl _ _).drew).call HB13.out).b p hp))⟩) _ _), h14, h14r, l14, l14r⟩
                    | exact ⟨_, A15, n15, c15, A15r, n15r, c15r, rfl, rfl, fun bs ns K => ((((((K.call (Below.refl _ _).drew).call HB13.out).call HB15.out).num HD15.out).num HD15r.out).box [.slice A15 n15 c15, .slice A15r n15r c15r] 28), h15, h15r, l15, l15r⟩
                    | exact ⟨w12.heap.size + 1, A17, n17, c17, A17r, n17r, c17r, rfl, rfl, fun bs ns K => (by have k := ((((((K.box [.slice none 0 0, .slice none 0 0] 28).call (Below.refl _ _).drew).call HB16.out).call HB17.out).num HD17.out).num HD17r.out).put2 at0 K.bel.size (fun p hp => ⟨List.mem_cons_of_mem _ hp, Nat.ne_of_lt (lt_of_block (K.b p hp))⟩) (.slice A17 n17 c17) (.slice A17r n17r c17r); simp only [size_alloc] at k; exact k), h17, h17r, l17, l17r⟩)
              case rest =>
                obtain ⟨R14, A14, n14, c14, A14r, n14r, c14r, rfl, rfl, hk14, h14, h14r, l14, l14r⟩ := hcut
                have K14 := Lib.hid (hk14 _ _ K12.out)
                clear hk14
                have x0_0 := K14.out.cell0 at9
                have x0_1 := K14.out.cell1 at9
                have x1_0 := K14.out.cell0 at8
                have x1_1 := K14.out.cell1 at8
                have x2_0 := K14.out.cell0 at7
                have x2_1 := K14.out.cell1 at7
                have x3_0 := K14.out.cell0 at6
                have x3_1 := K14.out.cell1 at6
                have x4_0 := K14.out.cell0 at5
                have x4_1 := K14.out.cell1 at5
                have x5_0 := K14.out.cell0 at4
                have x5_1 := K14.out.cell1 at4
                have x6_0 := K14.out.cell0 at3
                have x6_1 := K14.out.cell1 at3
                have x7_0 := K14.out.cell0 at2
                have x7_1 := K14.out.cell1 at2
                have x8_0 := K14.out.cell0 at1
                have x8_1 := K14.out.cell1 at1
                have x9_0 := K14.out.cell0 at0
                have x9_1 := K14.out.cell1 at0
                go_wp2_with fail
                refine (Fr.same_refl _ _ ▸ ref4_Same _ ⟨(K14.out.get at13), h7, l7⟩ ⟨(K14.out.get at12), h7r, l7r⟩ ⟨(K14.out.get at11), h8, l8⟩ ⟨(K14.out.get at10), h8r, l8r⟩).mono ?_
                rintro e w15 ⟨rfl, B15⟩
                have k15 := K14.out.call B15
                have K15 := Lib.hid k15
                clear k15 B15 
                clear x0_0 x0_1 x1_0 x1_1 x2_0 x2_1 x3_0 x3_1 x4_0 x4_1 x5_0 x5_1 x6_0 x6_1 x7_0 x7_1 x8_0 x8_1 x9_0 x9_1
                have x0_0 := K15.out.cell0 at9
                have x0_1 := K15.out.cell1 at9
                have x1_0 := K15.out.cell0 at8
                have x1_1 := K15.out.cell1 at8
                have x2_0 := K15.out.cell0 at7
                have x2_1 := K15.out.cell1 at7
                have x3_0 := K15.out.cell0 at6
                have x3_1 := K15.out.cell1 at6
                have x4_0 := K15.out.cell0 at5
                have x4_1 := K15.out.cell1 at5
                have x5_0 := K15.out.cell0 at4
                have x5_1 := K15.out.cell1 at4
                have x6_0 := K15.out.cell0 at3
                have x6_1 := K15.out.cell1 at3
                have x7_0 := K15.out.cell0 at2
                have x7_1 := K15.out.cell1 at2
                have x8_0 := K15.out.cell0 at1
                have x8_1 := K15.out.cell1 at1
                have x9_0 := K15.out.cell0 at0
                have x9_1 := K15.out.cell1 at0
                go_wp2_with fail
                refine (Fr.same_refl _ _ ▸ ref4_Same _ ⟨(K15.out.get at7), h10, l10⟩ ⟨(K15.out.get at6), h10r, l10r⟩ ⟨(K15.out.get at5), h11, l11⟩ ⟨(K15.out.get at4), h11r, l11r⟩).mono ?_
                rintro e w16 ⟨rfl, B16⟩
                have k16 := K15.out.call B16
                have K16 := Lib.hid k16
                clear k16 B16 
                clear x0_0 x0_1 x1_0 x1_1 x2_0 x2_1 x3_0 x3_1 x4_0 x4_1 x5_0 x5_1 x6_0 x6_1 x7_0 x7_1 x8_0 x8_1 x9_0 x9_1
                have x0_0 := K16.out.cell0 at9
                have x0_1 := K16.out.cell1 at9
                have x1_0 := K16.out.cell0 at8
                have x1_1 := K16.out.cell1 at8
                have x2_0 := K16.out.cell0 at7
                have x2_1 := K16.out.cell1 at7
                have x3_0 := K16.out.cell0 at6
                have x3_1 := K16.out.cell1 at6
                have x4_0 := K16.out.cell0 at5
                have x4_1 := K16.out.cell1 at5
                have x5_0 := K16.out.cell0 at4
                have x5_1 := K16.out.cell1 at4
                have x6_0 := K16.out.cell0 at3
                have x6_1 := K16.out.cell1 at3
                have x7_0 := K16.out.cell0 at2
                have x7_1 := K16.out.cell1 at2
                have x8_0 := K16.out.cell0 at1
                have x8_1 := K16.out.cell1 at1
                have x9_0 := K16.out.cell0 at0
                have x9_1 := K16.out.cell1 at0
                go_wp2_with fail
                refine (Fr.same_refl _ _ ▸ ref4_Same _ ⟨(K16.out.get at3), h12, l12⟩ ⟨(K16.out.get at2), h12r, l12r⟩ (IA.out.on K16.out.bel).n (IA.out.on K16.out.bel).d).mono ?_
                rintro e w17 ⟨rfl, B17⟩
                have k17 := K16.out.call B17
                have K17 := Lib.hid k17
                clear k17 B17 
                clear x0_0 x0_1 x1_0 x1_1 x2_0 x2_1 x3_0 x3_1 x4_0 x4_1 x5_0 x5_1 x6_0 x6_1 x7_0 x7_1 x8_0 x8_1 x9_0 x9_1
                have x0_0 := K17.out.cell0 at9
                have x0_1 := K17.out.cell1 at9
                have x1_0 := K17.out.cell0 at8
                have x1_1 := K17.out.cell1 at8
                have x2_0 := K17.out.cell0 at7
                have x2_1 := K17.out.cell1 at7
                have x3_0 := K17.out.cell0 at6
                have x3_1 := K17.out.cell1 at6
                have x4_0 := K17.out.cell0 at5
                have x4_1 := K17.out.cell1 at5
                have x5_0 := K17.out.cell0 at4
                have x5_1 := K17.out.cell1 at4
                have x6_0 := K17.out.cell0 at3
                have x6_1 := K17.out.cell1 at3
                have x7_0 := K17.out.cell0 at2
                have x7_1 := K17.out.cell1 at2
                have x8_0 := K17.out.cell0 at1
                have x8_1 := K17.out.cell1 at1
                have x9_0 := K17.out.cell0 at0
                have x9_1 := K17.out.cell1 at0
                go_wp2_with fail
                refine (Fr.same_refl _ _ ▸ ref4_Same _ ⟨(K17.out.get at1), h14, l14⟩ ⟨(K17.out.get at0), h14r, l14r⟩ (IA.out.on K17.out.bel).n (IA.out.on K17.out.bel).d).mono ?_
                rintro e w18 ⟨rfl, B18⟩
                have k18 := K17.out.call B18
                have K18 := Lib.hid k18
                clear k18 B18 
                clear x0_0 x0_1 x1_0 x1_1 x2_0 x2_1 x3_0 x3_1 x4_0 x4_1 x5_0 x5_1 x6_0 x6_1 x7_0 x7_1 x8_0 x8_1 x9_0 x9_1
                have x0_0 := K18.out.cell0 at9
                have x0_1 := K18.out.cell1 at9
                have x1_0 := K18.out.cell0 at8
                have x1_1 := K18.out.cell1 at8
                have x2_0 := K18.out.cell0 at7
                have x2_1 := K18.out.cell1 at7
                have x3_0 := K18.out.cell0 at6
                have x3_1 := K18.out.cell1 at6
                have x4_0 := K18.out.cell0 at5
                have x4_1 := K18.out.cell1 at5
                have x5_0 := K18.out.cell0 at4
                have x5_1 := K18.out.cell1 at4
                have x6_0 := K18.out.cell0 at3
                have x6_1 := K18.out.cell1 at3
                have x7_0 := K18.out.cell0 at2
                have x7_1 := K18.out.cell1 at2
                have x8_0 := K18.out.cell0 at1
                have x8_1 := K18.out.cell1 at1
                have x9_0 := K18.out.cell0 at0
                have x9_1 := K18.out.cell1 at0
                go_wp2_with fail
                refine (PR.out _ K18.out.bel ⟨⟨(K18.out.get at9), h9, l9⟩, ⟨(K18.out.get at8), h9r, l9r⟩, M3.out.b0, M3.out.cp⟩).mono ?_
                rintro e w19 ⟨rfl, B19⟩
                have k19 := K18.out.call B19
                have K19 := Lib.hid k19
                clear k19 B19 
                clear x0_0 x0_1 x1_0 x1_1 x2_0 x2_1 x3_0 x3_1 x4_0 x4_1 x5_0 x5_1 x6_0 x6_1 x7_0 x7_1 x8_0 x8_1 x9_0 x9_1
                have x0_0 := K19.out.cell0 at9
                have x0_1 := K19.out.cell1 at9
                have x1_0 := K19.out.cell0 at8
                have x1_1 := K19.out.cell1 at8
                have x2_0 := K19.out.cell0 at7
                have x2_1 := K19.out.cell1 at7
                have x3_0 := K19.out.cell0 at6
                have x3_1 := K19.out.cell1 at6
                have x4_0 := K19.out.cell0 at5
                have x4_1 := K19.out.cell1 at5
                have x5_0 := K19.out.cell0 at4
                have x5_1 := K19.out.cell1 at4
                have x6_0 := K19.out.cell0 at3
                have x6_1 := K19.out.cell1 at3
                have x7_0 := K19.out.cell0 at2
                have x7_1 := K19.out.cell1 at2
                have x8_0 := K19.out.cell0 at1
                have x8_1 := K19.out.cell1 at1
                have x9_0 := K19.out.cell0 at0
                have x9_1 := K19.out.cell1 at0
                go_wp2_with fail
                refine (AW.out _ K19.out.bel).mono ?_
                rintro e w20 ⟨rfl, B20⟩
                have k20 := K19.out.call B20
                have K20 := Lib.hid k20
                clear k20 B20 
                clear x0_0 x0_1 x1_0 x1_1 x2_0 x2_1 x3_0 x3_1 x4_0 x4_1 x5_0 x5_1 x6_0 x6_1 x7_0 x7_1 x8_0 x8_1 x9_0 x9_1
                have x0_0 := K20.out.cell0 at9
                have x0_1 := K20.out.cell1 at9
                have x1_0 := K20.out.cell0 at8
                have x1_1 := K20.out.cell1 at8
                have x2_0 := K20.out.cell0 at7
                have x2_1 := K20.out.cell1 at7
                have x3_0 := K20.out.cell0 at6
                have x3_1 := K20.out.cell1 at6
                have x4_0 := K20.out.cell0 at5
                have x4_1 := K20.out.cell1 at5
                have x5_0 := K20.out.cell0 at4
                have x5_1 := K20.out.cell1 at4
                have x6_0 := K20.out.cell0 at3
                have x6_1 := K20.out.cell1 at3
                have x7_0 := K20.out.cell0 at2
                have x7_1 := K20.out.cell1 at2
                have x8_0 := K20.out.cell0 at1
                have x8_1 := K20.out.cell1 at1
                have x9_0 := K20.out.cell0 at0
                have x9_1 := K20.out.cell1 at0
                go_wp2_with fail
                go_ret
                exact ⟨rfl, K20.out.bel⟩

/-! ### The row's step, the row, the card -/
set_option maxRecDepth 100000 in
theorem lifted (os : Os) (started : os.Started) (H : Type) (enc : TypeId × Value → H) :
    ReturnsInHanded {} Tryz.checked os 9 .any (fun w args => (Rows.fracFieldSpec.pre enc Tryz.prog Tryz.f9 Rows.fracFieldRow.domain false w args ∧ laidMetH Tryz.prog Rows.fracFieldRow.laid w) ∧ sizedMet enc Tryz.prog Tryz.f9 (OpenSpec.ofChange Rows.fracFieldSpec) false w args)
      (Rows.fracFieldSpec.post enc Tryz.prog Tryz.f9 false true false false) := by
  refine returnsInHanded_of_change_and (C := Tryz.checked) (X := fun w _ => laidMetH Tryz.prog Rows.fracFieldRow.laid w) (fun _ _ _ hh h => h.of_heap hh) own started (by kernel_rfl) Tryz.func9
    (ChangeSpec.witness_shaped (enc := enc) (C := Tryz.checked) (os := os) (X := fun w _ => laidMetH Tryz.prog Rows.fracFieldRow.laid w) false (World.doorLaid Tryz.prog 62 os) #[.agg #[.slice none 0 0, .slice none 0 0], .agg #[.slice none 0 0, .slice none 0 0], .agg #[.slice none 0 0, .slice none 0 0]] 8 rfl (World.shaped_of_RefB (by kernel_rfl) (by kernel_rfl)) (by kernel_rfl) (by kernel_rfl) (by kernel_rfl) (door_met os _)) ?_
  intro W base args ds gs before hval0 hW _ hsz0 hL _
  have hsz : (DataW.weightsEach Tryz.prog (Tryz.f9.params.toList ++ Rows.fracFieldSpec.plain.varTypes Tryz.prog) (ds ++ gs)).all (· ≤ reachBytes) = true := hsz0
  clear hsz0
  have hval : ∀ (j : Nat) t v, Tryz.f9.params[j]? = some t → args[j]? = some v → Value.okWide Tryz.prog W .any base t v := hval0
  have hW' := hW
  obtain ⟨p, q, hA0, hV, rfl, hfz, hnd⟩ := hW
  have hA : DataW.TrodAll enc Tryz.prog W 0 (fun _ => true) true Tryz.f9.params.toList args.toList ds p := hA0
  rw [Tryz.params9] at hA hval hsz

  obtain ⟨v0, vs0, d0, ds0, p0, q0, hargs, rfl, rfl, h0, r0⟩ := trodAll_cons hA
  obtain ⟨v1, vs1, d1, ds1, p1, q1, rfl, rfl, rfl, h1, r1⟩ := trodAll_cons r0
  obtain ⟨v2, vs2, d2, ds2, p2, q2, rfl, rfl, rfl, h2, r2⟩ := trodAll_cons r1
  obtain ⟨rfl, rfl, rfl⟩ := trodAll_nil r2
  obtain rfl : args = #[v0, v1, v2] := by cases args; simp_all
  obtain ⟨rfl, rfl⟩ := trodVars_none hV
  have k0 := h0
  have lt0 : ∀ x ∈ p0, x.block < W.heap.size := by
    obtain ⟨m, hm⟩ := k0
    exact DataW.trod_lt m _ _ _ hm
  obtain ⟨A0, n0, c0, f0, A0', n0', c0', f0', rfl, w0⟩ := frac_opened (hval 0 28 v0 rfl rfl) h0
  have k1 := h1
  have lt1 : ∀ x ∈ p1, x.block < W.heap.size := by
    obtain ⟨m, hm⟩ := k1
    exact DataW.trod_lt m _ _ _ hm
  obtain ⟨A1, n1, c1, f1, A1', n1', c1', f1', rfl, w1⟩ := frac_opened (hval 1 28 v1 rfl rfl) h1
  have k2 := h2
  have lt2 : ∀ x ∈ p2, x.block < W.heap.size := by
    obtain ⟨m, hm⟩ := k2
    exact DataW.trod_lt m _ _ _ hm
  obtain ⟨A2, n2, c2, f2, A2', n2', c2', f2', rfl, w2⟩ := frac_opened (hval 2 28 v2 rfl rfl) h2
  clear hA0 hval0
  simp only [List.append_nil] at hW'
  refine (walk A0 n0 c0 f0 A0' n0' c0' f0' A1 n1 c1 f1 A1' n1' c1' f1' A2 n2 c2 f2 A2' n2' c2' f2'    W (env_of_laid hL) w0 w1 w2).mono fun e W' ⟨he, bel⟩ => ?_
  subst he
  exact ⟨_, rfl, _, _, _, [], _, [], hW', trodAll_mk1 (shut_bool Tryz.underlying4 _), (trodAll_cons_mk (Below.trod laidOut (by kernel_rfl) (of_decide_eq_true (by kernel_rfl)) k0 bel lt0) (trodAll_cons_mk (Below.trod laidOut (by kernel_rfl) (of_decide_eq_true (by kernel_rfl)) k1 bel lt1) (trodAll_cons_mk (Below.trod laidOut (by kernel_rfl) (of_decide_eq_true (by kernel_rfl)) k2 bel lt2) trodAll_mk0))), rfl, bel.frame _, fun h => by cases h⟩

theorem over : Rows.FracFieldSaid :=
  OpenClaim.holds_of_wide 9 Tryz.f9 rfl rfl rfl rfl rfl rfl rfl ⟨rfl, rfl, rfl, rfl, rfl⟩ rfl rfl rfl rfl rfl (by kernel_rfl) Tryz.func9 (by kernel_rfl)
    (of_decide_eq_true (by kernel_rfl)) (by unfold Func.isWrapper; first | (rw [if_pos (by decide +kernel)]; kernel_rfl) | (rw [if_neg (by decide +kernel)]; exact ⟨rfl, rfl⟩))
    (fun os started H enc _ => lifted os started H enc)
theorem plain (f : FuncId) (fn : Func) (hf : Tryz.pinned.checked.prog.funcNamed "lottery/lotterylaw04.FracField" = some f) (hfn : Tryz.pinned.checked.prog.funcs[f]? = some fn) :
    true = Tryz.pinned.checked.prog.looks [] ∧ ∀ (j : Nat) t, fn.params[j]? = some t → Tryz.pinned.checked.prog.wantsStandIn t = false := by
  obtain rfl : f = 9 := Option.some.inj ((show Tryz.prog.funcNamed "lottery/lotterylaw04.FracField" = some 9 by kernel_rfl).symm.trans hf) |>.symm
  obtain rfl : fn = Tryz.f9 := (Option.some.inj (Tryz.func9.symm.trans hfn)).symm
  refine ⟨by kernel_rfl, fun j t ht => ?_⟩
  rw [Tryz.params9] at ht
  have ht := Array.mem_of_getElem? ht
  simp only [List.mem_toArray, List.mem_cons, List.not_mem_nil, or_false] at ht
  rcases ht with rfl | rfl | rfl

  · exact (show Tryz.prog.wantsStandIn 28 = false by kernel_rfl)
  · exact (show Tryz.prog.wantsStandIn 28 = false by kernel_rfl)
  · exact (show Tryz.prog.wantsStandIn 28 = false by kernel_rfl)
/-- The statement. -/
theorem card : Rows.FracFieldCardSaid :=
  Claim7.holds_tied_plain_at .later [] _ _ _ _ over (fun _ h => by cases h) (by kernel_rfl) (fun _ h => by cases h) fracField_row_tie rfl ⟨rfl, rfl⟩ (by kernel_rfl) rfl plain (by kernel_rfl)
end Go.Proofs.YtclejcijnfpgaaaGreatDoor.fracField
