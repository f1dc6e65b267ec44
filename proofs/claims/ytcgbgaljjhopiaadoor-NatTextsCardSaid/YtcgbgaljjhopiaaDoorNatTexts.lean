/- NatTexts (P3.6): of every text Parse answers the number or the error of the reference, of every list of limbs Format answers the text of the reference, and they invert each other: the law returns true. No condition beyond the row's own list of the library's tables and error variables. -/
import Derived.Test.YtcgbgaljjhopiaaDoorLaid
import Derived.Test.YtcgbgaljjhopiaaDoorNatRL
import Derived.Test.YtcgbgaljjhopiaaDoorFA
namespace Go.Proofs.YtcgbgaljjhopiaaDoor.natTexts
set_option maxRecDepth 20000
open Go.RowKit Go.ChangeShapes Go.WideShapes Go.ChangeAt Go.WideElems
open Go.ChangeMaps (open_string shut_string)
set_option linter.unusedVariables false

theorem kB3 {w W : World} {b0 b1 b2 : Nat} {a0 a1 a2 : Value} {T : TypeId} {ns : List (Option Addr × Nat × Nat)} (h : Hid (Ks w W [(b2, [a2], T), (b1, [a1], T), (b0, [a0], T)] ns)) :
    W.cell? ⟨b0, 0, none⟩ = some a0 ∧ W.cell? ⟨b1, 0, none⟩ = some a1 ∧ W.cell? ⟨b2, 0, none⟩ = some a2 := ⟨h.out.cell0 at2, h.out.cell0 at1, h.out.cell0 at0⟩
set_option maxHeartbeats 4000000 in
theorem walk (A : Option Addr) (n c : Nat) (f : Nat → Nat) (s : ByteArray) (hs : s.size ≤ 140737488351232) (w : World) (hE : Env w) (gA : Arg w A n c f) :
    Calls Tryd.prog 3 #[.agg #[.slice A n c], .string s] w fun e w' => e = .returned (.bool true) ∧ Below w.heap.size w w' := by
  have p1 := fun W => nat_Parse_any s (by omega) W
  have p2 := fun W => ref3_Parse_any s (by omega) W
  have hb := Nm.parN_back (s := s)
  have hf := Nm.parN_few s.data.toList
  obtain ⟨x, ex⟩ : ∃ x, x = (Nm.parN s.data.toList).1 := ⟨_, rfl⟩
  obtain ⟨E, eE⟩ : ∃ E, E = (Nm.parN s.data.toList).2 := ⟨_, rfl⟩
  rw [← ex, ← eE] at p1 p2 hb
  rw [← ex] at hf
  have P1 := Lib.hid p1
  have P2 := Lib.hid p2
  have HF := Lib.hid hf
  have HE := Lib.hid hE
  have f1 := fun W (hb : Below w.heap.size w W) => nat_Format_any W (gA.on hb) (hE.on hb)
  have f2 := fun W (hb : Below w.heap.size w W) => ref3_Format_any W (gA.on hb)
  have f0 := fun W {B : Option Addr} {m j : Nat} (hb : Below w.heap.size w W) (h : IsN W W.heap.size B m x) (h1 : m ≤ 64) (h2 : m ≤ j) => nat_Format (c := j) W h h1 h2 (hE.on hb)
  have vl := fun W (hb : Below w.heap.size w W) => nat_Valid (c := c) W (gA.on hb).d gA.big
  have on := fun W => law3_one 7 7 W rfl (by omega) (by omega)
  have f7 := fun W {B : Option Addr} {m j : Nat} (hb : Below w.heap.size w W) (h : IsN W W.heap.size B m 7) (h1 : m ≤ 64) (h2 : m ≤ j) => nat_Format (c := j) W h h1 h2 (hE.on hb)
  unfold Said at f7
  rw [Nm.txt_7] at f7
  have ON := Lib.hid on
  have F7 := Lib.hid fun W {B : Option Addr} {m j : Nat} (hb : Below w.heap.size w W) => f7 W (B := B) (m := m) (j := j) hb
  have F2 := Lib.hid f2
  have F1 := Lib.hid f1
  clear p1 p2 ex eE hf hE on f7 f1 f2
  by_cases hE0 : E = 0
  · subst hE0
    obtain ⟨hb1, -⟩ := hb rfl
    unfold Said at f0
    rw [hb1] at f0
    have FX := Lib.hid fun W {B : Option Addr} {m j : Nat} (hb : Below w.heap.size w W) => f0 W (B := B) (m := m) (j := j) hb
    clear f0 hb1 hb
    cases hv : Nt.vd f n
    · rw [hv] at vl
      have VL := Lib.hid vl
      clear vl hv gA
      have k0 := (Ks.start w).box [.slice A n c] 24
      have K0 := Lib.hid k0
      clear k0
      go_enter Tryd.func3, Tryd.ntmps3
      go_wp2_with fail
      refine (P1.out _).mono ?_
      rintro e w1 ⟨A1, n1, c1, rfl, B1, D1, h1, l1⟩
      have k1 := ((K0.out.call B1).num D1).box [.slice A1 n1 c1] 24
      have K1 := Lib.hid k1
      clear k1 B1 D1
      have x0_0 := K1.out.cell0 at1
      go_wp2_with fail
      refine (P2.out _).mono ?_
      rintro e w2 ⟨A2, n2, c2, rfl, B2, D2, h2, l2⟩
      have k2 := ((K1.out.call B2).num D2).box [.slice A2 n2 c2] 24
      have K2 := Lib.hid k2
      clear k2 B2 D2
      clear x0_0
      have x0_0 := K2.out.cell0 at2
      have x1_0 := K2.out.cell0 at1
      clear x0_0 x1_0
      go_wp2_with fail
      obtain ⟨Wc, eWc⟩ : ∃ Wc, Wc = w2.alloc (.cells #[.slice A2 n2 c2] 24) := ⟨_, rfl⟩
      rw [← eWc] at K2 ⊢
      clear eWc
      go_cut [36] from 21 to 36 (fun sx wx => sx = .bool false ∧ Below Wc.heap.size Wc wx)
      case first =>
        have K2d := Lib.hid (K2.out.call (Below.refl Wc.heap.size Wc).drew)
        have K0c := Lib.hid (Ks.start Wc)
        go_region_held3 (fun W => W.cell? ⟨w.heap.size, 0, none⟩ = some (.slice A n c) ∧ W.cell? ⟨w1.heap.size, 0, none⟩ = some (.slice A1 n1 c1) ∧ W.cell? ⟨w2.heap.size, 0, none⟩ = some (.slice A2 n2 c2))
        (first | (with_reducible exact kB3 K2d) | (with_reducible exact kB3 K3) | (with_reducible exact kB3 K4) | (with_reducible exact kB3 K5) | (with_reducible exact kB3 K6) | (with_reducible exact kB3 K7) | fail)
        (first
          | (go_at_call 6; (with_reducible refine (ref3_Same (n := n1) (n' := n2) _ (K2d.out.get at1) (K2d.out.get at0) (by omega)).mono ?_); rintro e w3 ⟨rfl, B3⟩; have K3 := Lib.hid (K2d.out.call B3); have HB3 := Lib.hid (bthen ((Below.refl Wc.heap.size Wc).drew) B3); clear B3)
          | (go_at_call 7; (with_reducible refine (F1.out _ K3.out.bel).mono ?_); rintro e w4 ⟨rfl, B4⟩; have K4 := Lib.hid (K3.out.call B4); have HB4 := Lib.hid (bthen HB3.out B4); clear B4)
          | (go_at_call 8; (with_reducible refine (F2.out _ K4.out.bel).mono ?_); rintro e w5 ⟨rfl, B5⟩; have K5 := Lib.hid (K4.out.call B5); have HB5 := Lib.hid (bthen HB4.out B5); clear B5)
          | (go_at_call 8; (with_reducible refine (F2.out _ K3.out.bel).mono ?_); rintro e w6 ⟨rfl, B6⟩; have K6 := Lib.hid (K3.out.call B6); have HB6 := Lib.hid (bthen HB3.out B6); clear B6)
          | (go_at_call 7; (with_reducible refine (F1.out _ K6.out.bel).mono ?_); rintro e w7 ⟨rfl, B7⟩; have K7 := Lib.hid (K6.out.call B7); have HB7 := Lib.hid (bthen HB6.out B7); clear B7)
          | fail)
        all_goals (
          go_wp2_with fail
          go_meet
          refine ⟨rfl, ?_⟩
          first
            | exact HB5.out
            | exact HB7.out)
      case rest =>
        obtain ⟨rfl, B3⟩ := hcut
        have k3 := K2.out.call B3
        have K3 := Lib.hid k3
        clear k3 B3
        have x0_0 := K3.out.cell0 at2
        have x1_0 := K3.out.cell0 at1
        have x2_0 := K3.out.cell0 at0
        go_wp2_with fail
        refine (FX.out _ K3.out.bel (K3.out.get at1) h1 l1).mono ?_
        rintro e w4 ⟨rfl, B4⟩
        have k4 := K3.out.call B4
        have K4 := Lib.hid k4
        clear k4 B4 
        clear x0_0 x1_0 x2_0
        have x0_0 := K4.out.cell0 at2
        have x1_0 := K4.out.cell0 at1
        have x2_0 := K4.out.cell0 at0
        go_wp2_with fail
        refine (VL.out _ K4.out.bel).mono ?_
        rintro e w5 ⟨rfl, B5⟩
        have k5 := K4.out.call B5
        have K5 := Lib.hid k5
        clear k5 B5 
        clear x0_0 x1_0 x2_0
        have x0_0 := K5.out.cell0 at2
        have x1_0 := K5.out.cell0 at1
        have x2_0 := K5.out.cell0 at0
        go_wp2_with fail
        refine (ON.out _).mono ?_
        rintro e w6 ⟨A6, n6, c6, rfl, B6, D6, h6, l6⟩
        have k6 := (K5.out.call B6).num D6
        have K6 := Lib.hid k6
        clear k6 B6 D6
        clear x0_0 x1_0 x2_0
        have x0_0 := K6.out.cell0 at2
        have x1_0 := K6.out.cell0 at1
        have x2_0 := K6.out.cell0 at0
        go_wp2_with fail
        refine (F7.out _ K6.out.bel (K6.out.get at0) h6 l6).mono ?_
        rintro e w7 ⟨rfl, B7⟩
        have k7 := K6.out.call B7
        have K7 := Lib.hid k7
        clear k7 B7 
        clear x0_0 x1_0 x2_0
        have x0_0 := K7.out.cell0 at2
        have x1_0 := K7.out.cell0 at1
        have x2_0 := K7.out.cell0 at0
        go_wp2_with fail
        go_ret
        exact ⟨rfl, K7.out.bel⟩
    · rw [hv] at vl
      have VL := Lib.hid vl
      obtain ⟨ga, gb, gc⟩ := gA.isN_of hv
      have pt := fun W => nat_Parse_any (Nm.txt (Nt.vl 4294967296 f n)) (by have := Nm.txt_620 (x := Nt.vl 4294967296 f n) (by rw [ga.l]; exact gb); rw [Nm.txt_size]; omega) W
      rw [Nm.parN_txt (by rw [ga.l]; exact gb)] at pt
      unfold Nt.fmt at F1 F2
      rw [hv, if_pos rfl] at F1 F2
      obtain ⟨v, ev⟩ : ∃ v, v = Nt.vl 4294967296 f n := ⟨_, rfl⟩
      rw [← ev] at ga pt F1 F2
      obtain ⟨V, eV⟩ : ∃ V, V = Nm.txt v := ⟨_, rfl⟩
      rw [← eV] at pt F1 F2
      have PT := Lib.hid pt
      have HA := Lib.hid ga
      clear vl hv gA pt ga ev eV
      have k0 := (Ks.start w).box [.slice A n c] 24
      have K0 := Lib.hid k0
      clear k0
      go_enter Tryd.func3, Tryd.ntmps3
      go_wp2_with fail
      refine (P1.out _).mono ?_
      rintro e w1 ⟨A1, n1, c1, rfl, B1, D1, h1, l1⟩
      have k1 := ((K0.out.call B1).num D1).box [.slice A1 n1 c1] 24
      have K1 := Lib.hid k1
      clear k1 B1 D1
      have x0_0 := K1.out.cell0 at1
      go_wp2_with fail
      refine (P2.out _).mono ?_
      rintro e w2 ⟨A2, n2, c2, rfl, B2, D2, h2, l2⟩
      have k2 := ((K1.out.call B2).num D2).box [.slice A2 n2 c2] 24
      have K2 := Lib.hid k2
      clear k2 B2 D2
      clear x0_0
      have x0_0 := K2.out.cell0 at2
      have x1_0 := K2.out.cell0 at1
      clear x0_0 x1_0
      go_wp2_with fail
      obtain ⟨Wc, eWc⟩ : ∃ Wc, Wc = w2.alloc (.cells #[.slice A2 n2 c2] 24) := ⟨_, rfl⟩
      rw [← eWc] at K2 ⊢
      clear eWc
      go_cut [36] from 21 to 36 (fun sx wx => sx = .bool false ∧ Below Wc.heap.size Wc wx)
      case first =>
        have K2d := Lib.hid (K2.out.call (Below.refl Wc.heap.size Wc).drew)
        have K0c := Lib.hid (Ks.start Wc)
        go_region_held3 (fun W => W.cell? ⟨w.heap.size, 0, none⟩ = some (.slice A n c) ∧ W.cell? ⟨w1.heap.size, 0, none⟩ = some (.slice A1 n1 c1) ∧ W.cell? ⟨w2.heap.size, 0, none⟩ = some (.slice A2 n2 c2))
        (first | (with_reducible exact kB3 K2d) | (with_reducible exact kB3 K3) | (with_reducible exact kB3 K4) | (with_reducible exact kB3 K5) | (with_reducible exact kB3 K6) | (with_reducible exact kB3 K7) | fail)
        (first
          | (go_at_call 6; (with_reducible refine (ref3_Same (n := n1) (n' := n2) _ (K2d.out.get at1) (K2d.out.get at0) (by omega)).mono ?_); rintro e w3 ⟨rfl, B3⟩; have K3 := Lib.hid (K2d.out.call B3); have HB3 := Lib.hid (bthen ((Below.refl Wc.heap.size Wc).drew) B3); clear B3)
          | (go_at_call 7; (with_reducible refine (F1.out _ K3.out.bel).mono ?_); rintro e w4 ⟨rfl, B4⟩; have K4 := Lib.hid (K3.out.call B4); have HB4 := Lib.hid (bthen HB3.out B4); clear B4)
          | (go_at_call 8; (with_reducible refine (F2.out _ K4.out.bel).mono ?_); rintro e w5 ⟨rfl, B5⟩; have K5 := Lib.hid (K4.out.call B5); have HB5 := Lib.hid (bthen HB4.out B5); clear B5)
          | (go_at_call 8; (with_reducible refine (F2.out _ K3.out.bel).mono ?_); rintro e w6 ⟨rfl, B6⟩; have K6 := Lib.hid (K3.out.call B6); have HB6 := Lib.hid (bthen HB3.out B6); clear B6)
          | (go_at_call 7; (with_reducible refine (F1.out _ K6.out.bel).mono ?_); rintro e w7 ⟨rfl, B7⟩; have K7 := Lib.hid (K6.out.call B7); have HB7 := Lib.hid (bthen HB6.out B7); clear B7)
          | fail)
        all_goals (
          go_wp2_with fail
          go_meet
          refine ⟨rfl, ?_⟩
          first
            | exact HB5.out
            | exact HB7.out)
      case rest =>
        obtain ⟨rfl, B3⟩ := hcut
        have k3 := K2.out.call B3
        have K3 := Lib.hid k3
        clear k3 B3
        have x0_0 := K3.out.cell0 at2
        have x1_0 := K3.out.cell0 at1
        have x2_0 := K3.out.cell0 at0
        go_wp2_with fail
        refine (FX.out _ K3.out.bel (K3.out.get at1) h1 l1).mono ?_
        rintro e w4 ⟨rfl, B4⟩
        have k4 := K3.out.call B4
        have K4 := Lib.hid k4
        clear k4 B4 
        clear x0_0 x1_0 x2_0
        have x0_0 := K4.out.cell0 at2
        have x1_0 := K4.out.cell0 at1
        have x2_0 := K4.out.cell0 at0
        go_wp2_with fail
        refine (VL.out _ K4.out.bel).mono ?_
        rintro e w5 ⟨rfl, B5⟩
        have k5 := K4.out.call B5
        have K5 := Lib.hid k5
        clear k5 B5 
        clear x0_0 x1_0 x2_0
        have x0_0 := K5.out.cell0 at2
        have x1_0 := K5.out.cell0 at1
        have x2_0 := K5.out.cell0 at0
        go_wp2_with fail
        refine (F1.out _ K5.out.bel).mono ?_
        rintro e w6 ⟨rfl, B6⟩
        have k6 := K5.out.call B6
        have K6 := Lib.hid k6
        clear k6 B6 
        clear x0_0 x1_0 x2_0
        have x0_0 := K6.out.cell0 at2
        have x1_0 := K6.out.cell0 at1
        have x2_0 := K6.out.cell0 at0
        go_wp2_with fail
        refine (PT.out _).mono ?_
        rintro e w7 ⟨A7, n7, c7, rfl, B7, D7, h7, l7⟩
        have k7 := ((K6.out.call B7).num D7).box [.slice A7 n7 c7] 24
        have K7 := Lib.hid k7
        clear k7 B7 D7
        clear x0_0 x1_0 x2_0
        have x0_0 := K7.out.cell0 at3
        have x1_0 := K7.out.cell0 at2
        have x2_0 := K7.out.cell0 at1
        go_wp2_with fail
        refine (ref3_Same (n := n7) (n' := n) _ (K7.out.get at0) (HA.out.on K7.out.bel) (by omega)).mono ?_
        rintro e w8 ⟨rfl, B8⟩
        have k8 := K7.out.call B8
        have K8 := Lib.hid k8
        clear k8 B8 
        clear x0_0 x1_0 x2_0
        have x0_0 := K8.out.cell0 at3
        have x1_0 := K8.out.cell0 at2
        have x2_0 := K8.out.cell0 at1
        have x3_0 := K8.out.cell0 at0
        go_wp2_with fail
        refine (ON.out _).mono ?_
        rintro e w9 ⟨A9, n9, c9, rfl, B9, D9, h9, l9⟩
        have k9 := (K8.out.call B9).num D9
        have K9 := Lib.hid k9
        clear k9 B9 D9
        clear x0_0 x1_0 x2_0 x3_0
        have x0_0 := K9.out.cell0 at3
        have x1_0 := K9.out.cell0 at2
        have x2_0 := K9.out.cell0 at1
        have x3_0 := K9.out.cell0 at0
        go_wp2_with fail
        refine (F7.out _ K9.out.bel (K9.out.get at0) h9 l9).mono ?_
        rintro e w10 ⟨rfl, B10⟩
        have k10 := K9.out.call B10
        have K10 := Lib.hid k10
        clear k10 B10 
        clear x0_0 x1_0 x2_0 x3_0
        have x0_0 := K10.out.cell0 at3
        have x1_0 := K10.out.cell0 at2
        have x2_0 := K10.out.cell0 at1
        have x3_0 := K10.out.cell0 at0
        go_wp2_with fail
        go_ret
        exact ⟨rfl, K10.out.bel⟩
  · have hE1 : (E == 0) = false := by simpa using hE0
    clear f0 hb hE0
    cases hv : Nt.vd f n
    · rw [hv] at vl
      have VL := Lib.hid vl
      clear vl hv gA
      have k0 := (Ks.start w).box [.slice A n c] 24
      have K0 := Lib.hid k0
      clear k0
      go_enter Tryd.func3, Tryd.ntmps3
      go_wp2_with fail
      refine (P1.out _).mono ?_
      rintro e w1 ⟨A1, n1, c1, rfl, B1, D1, h1, l1⟩
      have k1 := ((K0.out.call B1).num D1).box [.slice A1 n1 c1] 24
      have K1 := Lib.hid k1
      clear k1 B1 D1
      have x0_0 := K1.out.cell0 at1
      go_wp2_with fail
      refine (P2.out _).mono ?_
      rintro e w2 ⟨A2, n2, c2, rfl, B2, D2, h2, l2⟩
      have k2 := ((K1.out.call B2).num D2).box [.slice A2 n2 c2] 24
      have K2 := Lib.hid k2
      clear k2 B2 D2
      clear x0_0
      have x0_0 := K2.out.cell0 at2
      have x1_0 := K2.out.cell0 at1
      clear x0_0 x1_0
      go_wp2_with fail
      obtain ⟨Wc, eWc⟩ : ∃ Wc, Wc = w2.alloc (.cells #[.slice A2 n2 c2] 24) := ⟨_, rfl⟩
      rw [← eWc] at K2 ⊢
      clear eWc
      go_cut [36] from 21 to 36 (fun sx wx => sx = .bool false ∧ Below Wc.heap.size Wc wx)
      case first =>
        have K2d := Lib.hid (K2.out.call (Below.refl Wc.heap.size Wc).drew)
        have K0c := Lib.hid (Ks.start Wc)
        go_region_held3 (fun W => W.cell? ⟨w.heap.size, 0, none⟩ = some (.slice A n c) ∧ W.cell? ⟨w1.heap.size, 0, none⟩ = some (.slice A1 n1 c1) ∧ W.cell? ⟨w2.heap.size, 0, none⟩ = some (.slice A2 n2 c2))
        (first | (with_reducible exact kB3 K2d) | (with_reducible exact kB3 K3) | (with_reducible exact kB3 K4) | (with_reducible exact kB3 K5) | (with_reducible exact kB3 K6) | (with_reducible exact kB3 K7) | fail)
        (first
          | (go_at_call 6; (with_reducible refine (ref3_Same (n := n1) (n' := n2) _ (K2d.out.get at1) (K2d.out.get at0) (by omega)).mono ?_); rintro e w3 ⟨rfl, B3⟩; have K3 := Lib.hid (K2d.out.call B3); have HB3 := Lib.hid (bthen ((Below.refl Wc.heap.size Wc).drew) B3); clear B3)
          | (go_at_call 7; (with_reducible refine (F1.out _ K3.out.bel).mono ?_); rintro e w4 ⟨rfl, B4⟩; have K4 := Lib.hid (K3.out.call B4); have HB4 := Lib.hid (bthen HB3.out B4); clear B4)
          | (go_at_call 8; (with_reducible refine (F2.out _ K4.out.bel).mono ?_); rintro e w5 ⟨rfl, B5⟩; have K5 := Lib.hid (K4.out.call B5); have HB5 := Lib.hid (bthen HB4.out B5); clear B5)
          | (go_at_call 8; (with_reducible refine (F2.out _ K3.out.bel).mono ?_); rintro e w6 ⟨rfl, B6⟩; have K6 := Lib.hid (K3.out.call B6); have HB6 := Lib.hid (bthen HB3.out B6); clear B6)
          | (go_at_call 7; (with_reducible refine (F1.out _ K6.out.bel).mono ?_); rintro e w7 ⟨rfl, B7⟩; have K7 := Lib.hid (K6.out.call B7); have HB7 := Lib.hid (bthen HB6.out B7); clear B7)
          | fail)
        all_goals (
          go_wp2_with fail
          go_meet
          refine ⟨rfl, ?_⟩
          first
            | exact HB5.out
            | exact HB7.out)
      case rest =>
        obtain ⟨rfl, B3⟩ := hcut
        have k3 := K2.out.call B3
        have K3 := Lib.hid k3
        clear k3 B3
        have x0_0 := K3.out.cell0 at2
        have x1_0 := K3.out.cell0 at1
        have x2_0 := K3.out.cell0 at0
        go_wp2_with fail
        refine (VL.out _ K3.out.bel).mono ?_
        rintro e w4 ⟨rfl, B4⟩
        have k4 := K3.out.call B4
        have K4 := Lib.hid k4
        clear k4 B4 
        clear x0_0 x1_0 x2_0
        have x0_0 := K4.out.cell0 at2
        have x1_0 := K4.out.cell0 at1
        have x2_0 := K4.out.cell0 at0
        go_wp2_with fail
        refine (ON.out _).mono ?_
        rintro e w5 ⟨A5, n5, c5, rfl, B5, D5, h5, l5⟩
        have k5 := (K4.out.call B5).num D5
        have K5 := Lib.hid k5
        clear k5 B5 D5
        clear x0_0 x1_0 x2_0
        have x0_0 := K5.out.cell0 at2
        have x1_0 := K5.out.cell0 at1
        have x2_0 := K5.out.cell0 at0
        go_wp2_with fail
        refine (F7.out _ K5.out.bel (K5.out.get at0) h5 l5).mono ?_
        rintro e w6 ⟨rfl, B6⟩
        have k6 := K5.out.call B6
        have K6 := Lib.hid k6
        clear k6 B6 
        clear x0_0 x1_0 x2_0
        have x0_0 := K6.out.cell0 at2
        have x1_0 := K6.out.cell0 at1
        have x2_0 := K6.out.cell0 at0
        go_wp2_with fail
        go_ret
        exact ⟨rfl, K6.out.bel⟩
    · rw [hv] at vl
      have VL := Lib.hid vl
      obtain ⟨ga, gb, gc⟩ := gA.isN_of hv
      have pt := fun W => nat_Parse_any (Nm.txt (Nt.vl 4294967296 f n)) (by have := Nm.txt_620 (x := Nt.vl 4294967296 f n) (by rw [ga.l]; exact gb); rw [Nm.txt_size]; omega) W
      rw [Nm.parN_txt (by rw [ga.l]; exact gb)] at pt
      unfold Nt.fmt at F1 F2
      rw [hv, if_pos rfl] at F1 F2
      obtain ⟨v, ev⟩ : ∃ v, v = Nt.vl 4294967296 f n := ⟨_, rfl⟩
      rw [← ev] at ga pt F1 F2
      obtain ⟨V, eV⟩ : ∃ V, V = Nm.txt v := ⟨_, rfl⟩
      rw [← eV] at pt F1 F2
      have PT := Lib.hid pt
      have HA := Lib.hid ga
      clear vl hv gA pt ga ev eV
      have k0 := (Ks.start w).box [.slice A n c] 24
      have K0 := Lib.hid k0
      clear k0
      go_enter Tryd.func3, Tryd.ntmps3
      go_wp2_with fail
      refine (P1.out _).mono ?_
      rintro e w1 ⟨A1, n1, c1, rfl, B1, D1, h1, l1⟩
      have k1 := ((K0.out.call B1).num D1).box [.slice A1 n1 c1] 24
      have K1 := Lib.hid k1
      clear k1 B1 D1
      have x0_0 := K1.out.cell0 at1
      go_wp2_with fail
      refine (P2.out _).mono ?_
      rintro e w2 ⟨A2, n2, c2, rfl, B2, D2, h2, l2⟩
      have k2 := ((K1.out.call B2).num D2).box [.slice A2 n2 c2] 24
      have K2 := Lib.hid k2
      clear k2 B2 D2
      clear x0_0
      have x0_0 := K2.out.cell0 at2
      have x1_0 := K2.out.cell0 at1
      clear x0_0 x1_0
      go_wp2_with fail
      obtain ⟨Wc, eWc⟩ : ∃ Wc, Wc = w2.alloc (.cells #[.slice A2 n2 c2] 24) := ⟨_, rfl⟩
      rw [← eWc] at K2 ⊢
      clear eWc
      go_cut [36] from 21 to 36 (fun sx wx => sx = .bool false ∧ Below Wc.heap.size Wc wx)
      case first =>
        have K2d := Lib.hid (K2.out.call (Below.refl Wc.heap.size Wc).drew)
        have K0c := Lib.hid (Ks.start Wc)
        go_region_held3 (fun W => W.cell? ⟨w.heap.size, 0, none⟩ = some (.slice A n c) ∧ W.cell? ⟨w1.heap.size, 0, none⟩ = some (.slice A1 n1 c1) ∧ W.cell? ⟨w2.heap.size, 0, none⟩ = some (.slice A2 n2 c2))
        (first | (with_reducible exact kB3 K2d) | (with_reducible exact kB3 K3) | (with_reducible exact kB3 K4) | (with_reducible exact kB3 K5) | (with_reducible exact kB3 K6) | (with_reducible exact kB3 K7) | fail)
        (first
          | (go_at_call 6; (with_reducible refine (ref3_Same (n := n1) (n' := n2) _ (K2d.out.get at1) (K2d.out.get at0) (by omega)).mono ?_); rintro e w3 ⟨rfl, B3⟩; have K3 := Lib.hid (K2d.out.call B3); have HB3 := Lib.hid (bthen ((Below.refl Wc.heap.size Wc).drew) B3); clear B3)
          | (go_at_call 7; (with_reducible refine (F1.out _ K3.out.bel).mono ?_); rintro e w4 ⟨rfl, B4⟩; have K4 := Lib.hid (K3.out.call B4); have HB4 := Lib.hid (bthen HB3.out B4); clear B4)
          | (go_at_call 8; (with_reducible refine (F2.out _ K4.out.bel).mono ?_); rintro e w5 ⟨rfl, B5⟩; have K5 := Lib.hid (K4.out.call B5); have HB5 := Lib.hid (bthen HB4.out B5); clear B5)
          | (go_at_call 8; (with_reducible refine (F2.out _ K3.out.bel).mono ?_); rintro e w6 ⟨rfl, B6⟩; have K6 := Lib.hid (K3.out.call B6); have HB6 := Lib.hid (bthen HB3.out B6); clear B6)
          | (go_at_call 7; (with_reducible refine (F1.out _ K6.out.bel).mono ?_); rintro e w7 ⟨rfl, B7⟩; have K7 := Lib.hid (K6.out.call B7); have HB7 := Lib.hid (bthen HB6.out B7); clear B7)
          | fail)
        all_goals (
          go_wp2_with fail
          go_meet
          refine ⟨rfl, ?_⟩
          first
            | exact HB5.out
            | exact HB7.out)
      case rest =>
        obtain ⟨rfl, B3⟩ := hcut
        have k3 := K2.out.call B3
        have K3 := Lib.hid k3
        clear k3 B3
        have x0_0 := K3.out.cell0 at2
        have x1_0 := K3.out.cell0 at1
        have x2_0 := K3.out.cell0 at0
        go_wp2_with fail
        refine (VL.out _ K3.out.bel).mono ?_
        rintro e w4 ⟨rfl, B4⟩
        have k4 := K3.out.call B4
        have K4 := Lib.hid k4
        clear k4 B4 
        clear x0_0 x1_0 x2_0
        have x0_0 := K4.out.cell0 at2
        have x1_0 := K4.out.cell0 at1
        have x2_0 := K4.out.cell0 at0
        go_wp2_with fail
        refine (F1.out _ K4.out.bel).mono ?_
        rintro e w5 ⟨rfl, B5⟩
        have k5 := K4.out.call B5
        have K5 := Lib.hid k5
        clear k5 B5 
        clear x0_0 x1_0 x2_0
        have x0_0 := K5.out.cell0 at2
        have x1_0 := K5.out.cell0 at1
        have x2_0 := K5.out.cell0 at0
        go_wp2_with fail
        refine (PT.out _).mono ?_
        rintro e w6 ⟨A6, n6, c6, rfl, B6, D6, h6, l6⟩
        have k6 := ((K5.out.call B6).num D6).box [.slice A6 n6 c6] 24
        have K6 := Lib.hid k6
        clear k6 B6 D6
        clear x0_0 x1_0 x2_0
        have x0_0 := K6.out.cell0 at3
        have x1_0 := K6.out.cell0 at2
        have x2_0 := K6.out.cell0 at1
        go_wp2_with fail
        refine (ref3_Same (n := n6) (n' := n) _ (K6.out.get at0) (HA.out.on K6.out.bel) (by omega)).mono ?_
        rintro e w7 ⟨rfl, B7⟩
        have k7 := K6.out.call B7
        have K7 := Lib.hid k7
        clear k7 B7 
        clear x0_0 x1_0 x2_0
        have x0_0 := K7.out.cell0 at3
        have x1_0 := K7.out.cell0 at2
        have x2_0 := K7.out.cell0 at1
        have x3_0 := K7.out.cell0 at0
        go_wp2_with fail
        refine (ON.out _).mono ?_
        rintro e w8 ⟨A8, n8, c8, rfl, B8, D8, h8, l8⟩
        have k8 := (K7.out.call B8).num D8
        have K8 := Lib.hid k8
        clear k8 B8 D8
        clear x0_0 x1_0 x2_0 x3_0
        have x0_0 := K8.out.cell0 at3
        have x1_0 := K8.out.cell0 at2
        have x2_0 := K8.out.cell0 at1
        have x3_0 := K8.out.cell0 at0
        go_wp2_with fail
        refine (F7.out _ K8.out.bel (K8.out.get at0) h8 l8).mono ?_
        rintro e w9 ⟨rfl, B9⟩
        have k9 := K8.out.call B9
        have K9 := Lib.hid k9
        clear k9 B9 
        clear x0_0 x1_0 x2_0 x3_0
        have x0_0 := K9.out.cell0 at3
        have x1_0 := K9.out.cell0 at2
        have x2_0 := K9.out.cell0 at1
        have x3_0 := K9.out.cell0 at0
        go_wp2_with fail
        go_ret
        exact ⟨rfl, K9.out.bel⟩

/-! ### The row's step, the row, the card -/
set_option maxRecDepth 100000 in
theorem lifted (os : Os) (started : os.Started) (H : Type) (enc : TypeId × Value → H) :
    ReturnsInHanded {} Tryd.checked os 3 .any (fun w args => (Rows.natTextsSpec.pre enc Tryd.prog Tryd.f3 Rows.natTextsRow.domain false w args ∧ laidMetH Tryd.prog Rows.natTextsRow.laid w) ∧ sizedMet enc Tryd.prog Tryd.f3 (OpenSpec.ofChange Rows.natTextsSpec) false w args)
      (Rows.natTextsSpec.post enc Tryd.prog Tryd.f3 false true false false) := by
  refine returnsInHanded_of_change_and (C := Tryd.checked) (X := fun w _ => laidMetH Tryd.prog Rows.natTextsRow.laid w) (fun _ _ _ hh h => h.of_heap hh) own started (by kernel_rfl) Tryd.func3
    (ChangeSpec.witness_shaped (enc := enc) (C := Tryd.checked) (os := os) (X := fun w _ => laidMetH Tryd.prog Rows.natTextsRow.laid w) false (World.doorLaid Tryd.prog 62 os) #[.agg #[.slice none 0 0], .string ByteArray.empty] 8 rfl (World.shaped_of_RefB (by kernel_rfl) (by kernel_rfl)) (by kernel_rfl) (by kernel_rfl) (by kernel_rfl) (door_met os _)) ?_
  intro W base args ds gs before hval0 hW _ hsz0 hL _
  have hsz : (DataW.weightsEach Tryd.prog (Tryd.f3.params.toList ++ Rows.natTextsSpec.plain.varTypes Tryd.prog) (ds ++ gs)).all (· ≤ reachBytes) = true := hsz0
  clear hsz0
  have hval : ∀ (j : Nat) t v, Tryd.f3.params[j]? = some t → args[j]? = some v → Value.okWide Tryd.prog W .any base t v := hval0
  have hW' := hW
  obtain ⟨p, q, hA0, hV, rfl, hfz, hnd⟩ := hW
  have hA : DataW.TrodAll enc Tryd.prog W 0 (fun _ => true) true Tryd.f3.params.toList args.toList ds p := hA0
  rw [Tryd.params3] at hA hval hsz

  obtain ⟨v0, vs0, d0, ds0, p0, q0, hargs, rfl, rfl, h0, r0⟩ := trodAll_cons hA
  obtain ⟨v1, vs1, d1, ds1, p1, q1, rfl, rfl, rfl, h1, r1⟩ := trodAll_cons r0
  obtain ⟨rfl, rfl, rfl⟩ := trodAll_nil r1
  obtain rfl : args = #[v0, v1] := by cases args; simp_all
  obtain ⟨rfl, rfl⟩ := trodVars_none hV
  have k0 := h0
  have lt0 : ∀ x ∈ p0, x.block < W.heap.size := by
    obtain ⟨m, hm⟩ := k0
    exact DataW.trod_lt m _ _ _ hm
  obtain ⟨A0, n0, c0, f0, rfl, w0⟩ := nat_opened (hval 0 24 v0 rfl rfl) h0
  obtain ⟨a1, rfl, rfl, rfl, w1⟩ := open_string Tryd.underlying9 (hval 1 9 v1 rfl rfl) h1
  have b1 : a1.size ≤ 140737488351232 := by
    have h1 := sized_string hsz (j := 1) (t := 9) rfl rfl
    have h2 : reachBytes = 140737488351232 := by decide
    rw [Lib.size_eq]; omega
  clear hA0 hval0
  simp only [List.append_nil] at hW'
  refine (walk A0 n0 c0 f0 a1  b1 W (env_of_laid hL) w0).mono fun e W' ⟨he, bel⟩ => ?_
  subst he
  exact ⟨_, rfl, _, _, _, [], _, [], hW', trodAll_mk1 (shut_bool Tryd.underlying4 _), (trodAll_cons_mk (Below.trod laidOut (by kernel_rfl) (of_decide_eq_true (by kernel_rfl)) k0 bel lt0) (trodAll_cons_mk (shut_string Tryd.underlying9 w1) trodAll_mk0)), rfl, bel.frame _, fun h => by cases h⟩

theorem over : Rows.NatTextsSaid :=
  OpenClaim.holds_of_wide 3 Tryd.f3 rfl rfl rfl rfl rfl rfl rfl ⟨rfl, rfl, rfl, rfl, rfl⟩ rfl rfl rfl rfl rfl (by kernel_rfl) Tryd.func3 (by kernel_rfl)
    (of_decide_eq_true (by kernel_rfl)) (by unfold Func.isWrapper; first | (rw [if_pos (by decide +kernel)]; kernel_rfl) | (rw [if_neg (by decide +kernel)]; exact ⟨rfl, rfl⟩))
    (fun os started H enc _ => lifted os started H enc)
theorem plain (f : FuncId) (fn : Func) (hf : Tryd.pinned.checked.prog.funcNamed "lottery/lotterylaw03.NatTexts" = some f) (hfn : Tryd.pinned.checked.prog.funcs[f]? = some fn) :
    true = Tryd.pinned.checked.prog.looks [] ∧ ∀ (j : Nat) t, fn.params[j]? = some t → Tryd.pinned.checked.prog.wantsStandIn t = false := by
  obtain rfl : f = 3 := Option.some.inj ((show Tryd.prog.funcNamed "lottery/lotterylaw03.NatTexts" = some 3 by kernel_rfl).symm.trans hf) |>.symm
  obtain rfl : fn = Tryd.f3 := (Option.some.inj (Tryd.func3.symm.trans hfn)).symm
  refine ⟨by kernel_rfl, fun j t ht => ?_⟩
  rw [Tryd.params3] at ht
  have ht := Array.mem_of_getElem? ht
  simp only [List.mem_toArray, List.mem_cons, List.not_mem_nil, or_false] at ht
  rcases ht with rfl | rfl

  · exact (show Tryd.prog.wantsStandIn 24 = false by kernel_rfl)
  · exact (show Tryd.prog.wantsStandIn 9 = false by kernel_rfl)
/-- The statement. -/
theorem card : Rows.NatTextsCardSaid :=
  Claim7.holds_tied_plain_at .later [] _ _ _ _ over (fun _ h => by cases h) (by kernel_rfl) (fun _ h => by cases h) natTexts_row_tie rfl ⟨rfl, rfl⟩ (by kernel_rfl) rfl plain (by kernel_rfl)
end Go.Proofs.YtcgbgaljjhopiaaDoor.natTexts
