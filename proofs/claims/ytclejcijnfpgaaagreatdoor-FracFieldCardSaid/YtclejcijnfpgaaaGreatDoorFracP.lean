/- The statement's products: the laws of multiplication. (Written by tools/fraclaw.py.) -/
import Derived.Test.YtclejcijnfpgaaaGreatDoorFracQ
namespace Go.Proofs.YtclejcijnfpgaaaGreatDoor
set_option maxRecDepth 20000
open Go.RowKit
set_option linter.unusedVariables false
set_option linter.unusedSimpArgs false
set_option maxHeartbeats 4000000 in
theorem law4_products {A A' B B' C C' E E' : Option Addr} {n c n' c' m j m' j' p k p' k' r l r' l' a b x y s t : Nat} (w : World) (ia : FIs w A n c A' n' c' a b) (ib : FIs w B m j B' m' j' x y) (ic : FIs w C p k C' p' k' s t) (id : FIs w E r l E' r' l' (Fr.an x y s t) (Fr.ad x y s t))
    (la : Fr.Lim 8 8 a b) (lb : Fr.Lim 8 8 x y) (lc : Fr.Lim 8 8 s t) :
    Calls Tryz.prog 34 #[.agg #[.slice A n c, .slice A' n' c'], .agg #[.slice B m j, .slice B' m' j'], .agg #[.slice C p k, .slice C' p' k'], .agg #[.slice E r l, .slice E' r' l']] w fun e w' => e = .returned (.bool true) ∧ Below w.heap.size w w' := by
  have ld := lb.add lc (m := 16) (by omega) (by omega)
  have l1 := la.mul lb
  have l2 := la.mul lc
  have l3 := lb.mul lc
  have d1 := fun W (hb : Below w.heap.size w W) => frac_Mul_is W (ia.on hb) (ib.on hb)
  have d2 := fun W (hb : Below w.heap.size w W) => frac_Mul_is W (ib.on hb) (ia.on hb)
  have d3 := fun W (hb : Below w.heap.size w W) => frac_Mul_is W (ia.on hb) (ic.on hb)
  have d4 := fun W (hb : Below w.heap.size w W) => frac_Mul_is W (ia.on hb) (id.on hb)
  have d7 := fun W (hb : Below w.heap.size w W) => frac_Mul_is W (ib.on hb) (ic.on hb)
  rw [la.mulT lb (by omega) (by omega)] at d1
  rw [lb.mulT la (by omega) (by omega), Fr.mn_comm x y, Fr.md_comm x y] at d2
  rw [la.mulT lc (by omega) (by omega)] at d3
  have g4 := Fr.distrib (a := a) (b := b) (c := x) (d := y) (e := s) (f := t) ia.b0 ib.b0 ic.b0
  rw [la.mulT ld (by omega) (by omega), g4.1, g4.2] at d4
  have t5 := l1.addT l2 (m := 32) (by omega) (by omega) (by omega) (by omega)
  have t6 := l1.mulT lc (by omega) (by omega)
  rw [lb.mulT lc (by omega) (by omega)] at d7
  have g8 := Fr.mul_assoc (a := a) (b := b) (c := x) (d := y) (e := s) (f := t) ia.b0 ib.b0 ic.b0
  have t8 := la.mulT l3 (by omega) (by omega)
  rw [← g8.1, ← g8.2] at t8
  have g9 := Fr.mul_one ia.b0 ia.cp
  have t9 := la.mulT (⟨by omega, by omega, by omega, by decide⟩ : Fr.Lim 1 1 1 1) (by omega) (by omega)
  rw [g9.1, g9.2] at t9
  have t0 := fun h0 => l1.divT lb h0 (by omega) (by omega)
  have g0 := fun h0 => Fr.div_mul (a := a) (b := b) (c := x) (d := y) ia.b0 ib.b0 h0 ia.cp
  have d9 := fun W {A A' : Option Addr} {n c n' c' : Nat} (hb : Below w.heap.size w W) (h : FIs W A n c A' n' c' 1 1) => frac_Mul_is W (ia.on hb) h
  rw [t9] at d9
  obtain ⟨a1, ea1⟩ : ∃ u, u = Fr.mn a b x y := ⟨_, rfl⟩
  obtain ⟨b1, eb1⟩ : ∃ u, u = Fr.md a b x y := ⟨_, rfl⟩
  obtain ⟨a2, ea2⟩ : ∃ u, u = Fr.mn a b s t := ⟨_, rfl⟩
  obtain ⟨b2, eb2⟩ : ∃ u, u = Fr.md a b s t := ⟨_, rfl⟩
  obtain ⟨a3, ea3⟩ : ∃ u, u = Fr.mn x y s t := ⟨_, rfl⟩
  obtain ⟨b3, eb3⟩ : ∃ u, u = Fr.md x y s t := ⟨_, rfl⟩
  rw [← ea1, ← eb1] at d1 d2 t5 t6 l1 t0 g0 g8 t8 d4 g4
  rw [← ea2, ← eb2] at d3 t5 l2 d4 g4
  rw [← ea3, ← eb3] at d7 l3 t8 g8
  obtain ⟨a4, ea4⟩ : ∃ u, u = Fr.an a1 b1 a2 b2 := ⟨_, rfl⟩
  obtain ⟨b4, eb4⟩ : ∃ u, u = Fr.ad a1 b1 a2 b2 := ⟨_, rfl⟩
  obtain ⟨a5, ea5⟩ : ∃ u, u = Fr.mn a1 b1 s t := ⟨_, rfl⟩
  obtain ⟨b5, eb5⟩ : ∃ u, u = Fr.md a1 b1 s t := ⟨_, rfl⟩
  rw [← ea4, ← eb4] at d4 t5
  rw [← ea5, ← eb5] at t6 t8
  have IA := Lib.hid ia
  have IB := Lib.hid ib
  have IC := Lib.hid ic
  have D1 := Lib.hid d1
  have D2 := Lib.hid d2
  have D3 := Lib.hid d3
  have D4 := Lib.hid d4
  have D7 := Lib.hid d7
  have D9 := Lib.hid d9
  have L1 := Lib.hid l1
  have L2 := Lib.hid l2
  have L3 := Lib.hid l3
  have T5 := Lib.hid t5
  have T6 := Lib.hid t6
  have T8 := Lib.hid t8
  have O1 := Lib.hid fun W => law4_of1 1 1 1 1 W rfl (by omega) (by omega) rfl (by omega) (by omega)
  by_cases hx : x = 0
  · have hm := ib.n.d.zero_of hx
    have hl : ((m : Int) == 0) = true := by rw [hm]; rfl
    have T0 : Hid (Fr.divT a1 b1 x y = (0, 0, 10)) := by show _ = _; rw [Fr.divT, if_pos hx]
    clear t0
    clear hx hm g0 ia ib ic id la lb lc ld l1 l2 l3 d1 d2 d3 d4 d7 d9 t5 t6 t8 t9 g4 g8 g9 ea1 eb1 ea2 eb2 ea3 eb3 ea4 eb4 ea5 eb5
    have k0 := ((((Ks.start w).box [.slice A n c, .slice A' n' c'] 28).box [.slice B m j, .slice B' m' j'] 28).box [.slice C p k, .slice C' p' k'] 28).box [.slice E r l, .slice E' r' l'] 28
    simp only [size_alloc] at k0
    have K0 := Lib.hid k0
    clear k0
    go_enter Tryz.func34, Tryz.ntmps34
    go_wp2_with fail
    refine (D1.out _ K0.out.bel).mono ?_
    rintro e w1 ⟨A1, n1, c1, A1r, n1r, c1r, rfl, B1, D1, D1r, h1, h1r, l1, l1r⟩
    have k1 := (((K0.out.call B1).num D1).num D1r).box [.slice A1 n1 c1, .slice A1r n1r c1r] 28
    have K1 := Lib.hid k1
    clear k1 B1 D1 D1r
    have x0_0 := K1.out.cell0 at4
    have x0_1 := K1.out.cell1 at4
    have x1_0 := K1.out.cell0 at3
    have x1_1 := K1.out.cell1 at3
    have x2_0 := K1.out.cell0 at2
    have x2_1 := K1.out.cell1 at2
    have x3_0 := K1.out.cell0 at1
    have x3_1 := K1.out.cell1 at1
    go_wp2_with fail
    refine (D2.out _ K1.out.bel).mono ?_
    rintro e w2 ⟨A2, n2, c2, A2r, n2r, c2r, rfl, B2, D2, D2r, h2, h2r, l2, l2r⟩
    have k2 := (((K1.out.call B2).num D2).num D2r).box [.slice A2 n2 c2, .slice A2r n2r c2r] 28
    have K2 := Lib.hid k2
    clear k2 B2 D2 D2r
    clear x0_0 x0_1 x1_0 x1_1 x2_0 x2_1 x3_0 x3_1
    have x0_0 := K2.out.cell0 at5
    have x0_1 := K2.out.cell1 at5
    have x1_0 := K2.out.cell0 at4
    have x1_1 := K2.out.cell1 at4
    have x2_0 := K2.out.cell0 at3
    have x2_1 := K2.out.cell1 at3
    have x3_0 := K2.out.cell0 at2
    have x3_1 := K2.out.cell1 at2
    have x4_0 := K2.out.cell0 at1
    have x4_1 := K2.out.cell1 at1
    go_wp2_with fail
    refine (D3.out _ K2.out.bel).mono ?_
    rintro e w3 ⟨A3, n3, c3, A3r, n3r, c3r, rfl, B3, D3, D3r, h3, h3r, l3, l3r⟩
    have k3 := (((K2.out.call B3).num D3).num D3r).box [.slice A3 n3 c3, .slice A3r n3r c3r] 28
    have K3 := Lib.hid k3
    clear k3 B3 D3 D3r
    clear x0_0 x0_1 x1_0 x1_1 x2_0 x2_1 x3_0 x3_1 x4_0 x4_1
    have x0_0 := K3.out.cell0 at6
    have x0_1 := K3.out.cell1 at6
    have x1_0 := K3.out.cell0 at5
    have x1_1 := K3.out.cell1 at5
    have x2_0 := K3.out.cell0 at4
    have x2_1 := K3.out.cell1 at4
    have x3_0 := K3.out.cell0 at3
    have x3_1 := K3.out.cell1 at3
    have x4_0 := K3.out.cell0 at2
    have x4_1 := K3.out.cell1 at2
    have x5_0 := K3.out.cell0 at1
    have x5_1 := K3.out.cell1 at1
    go_wp2_with fail
    refine (D4.out _ K3.out.bel).mono ?_
    rintro e w4 ⟨A4, n4, c4, A4r, n4r, c4r, rfl, B4, D4, D4r, h4, h4r, l4, l4r⟩
    have k4 := (((K3.out.call B4).num D4).num D4r).box [.slice A4 n4 c4, .slice A4r n4r c4r] 28
    have K4 := Lib.hid k4
    clear k4 B4 D4 D4r
    clear x0_0 x0_1 x1_0 x1_1 x2_0 x2_1 x3_0 x3_1 x4_0 x4_1 x5_0 x5_1
    have x0_0 := K4.out.cell0 at7
    have x0_1 := K4.out.cell1 at7
    have x1_0 := K4.out.cell0 at6
    have x1_1 := K4.out.cell1 at6
    have x2_0 := K4.out.cell0 at5
    have x2_1 := K4.out.cell1 at5
    have x3_0 := K4.out.cell0 at4
    have x3_1 := K4.out.cell1 at4
    have x4_0 := K4.out.cell0 at3
    have x4_1 := K4.out.cell1 at3
    have x5_0 := K4.out.cell0 at2
    have x5_1 := K4.out.cell1 at2
    have x6_0 := K4.out.cell0 at1
    have x6_1 := K4.out.cell1 at1
    go_wp2_with fail
    refine (T5.out ▸ frac_Add_is _ ⟨⟨(K4.out.get at7), h1, l1⟩, ⟨(K4.out.get at6), h1r, l1r⟩, L1.out.b0, L1.out.cp⟩ ⟨⟨(K4.out.get at3), h3, l3⟩, ⟨(K4.out.get at2), h3r, l3r⟩, L2.out.b0, L2.out.cp⟩).mono ?_
    rintro e w5 ⟨A5, n5, c5, A5r, n5r, c5r, rfl, B5, D5, D5r, h5, h5r, l5, l5r⟩
    have k5 := (((K4.out.call B5).num D5).num D5r).box [.slice A5 n5 c5, .slice A5r n5r c5r] 28
    have K5 := Lib.hid k5
    clear k5 B5 D5 D5r
    clear x0_0 x0_1 x1_0 x1_1 x2_0 x2_1 x3_0 x3_1 x4_0 x4_1 x5_0 x5_1 x6_0 x6_1
    have x0_0 := K5.out.cell0 at8
    have x0_1 := K5.out.cell1 at8
    have x1_0 := K5.out.cell0 at7
    have x1_1 := K5.out.cell1 at7
    have x2_0 := K5.out.cell0 at6
    have x2_1 := K5.out.cell1 at6
    have x3_0 := K5.out.cell0 at5
    have x3_1 := K5.out.cell1 at5
    have x4_0 := K5.out.cell0 at4
    have x4_1 := K5.out.cell1 at4
    have x5_0 := K5.out.cell0 at3
    have x5_1 := K5.out.cell1 at3
    have x6_0 := K5.out.cell0 at2
    have x6_1 := K5.out.cell1 at2
    have x7_0 := K5.out.cell0 at1
    have x7_1 := K5.out.cell1 at1
    go_wp2_with fail
    refine (T6.out ▸ frac_Mul_is _ ⟨⟨(K5.out.get at9), h1, l1⟩, ⟨(K5.out.get at8), h1r, l1r⟩, L1.out.b0, L1.out.cp⟩ (IC.out.on K5.out.bel)).mono ?_
    rintro e w6 ⟨A6, n6, c6, A6r, n6r, c6r, rfl, B6, D6, D6r, h6, h6r, l6, l6r⟩
    have k6 := (((K5.out.call B6).num D6).num D6r).box [.slice A6 n6 c6, .slice A6r n6r c6r] 28
    have K6 := Lib.hid k6
    clear k6 B6 D6 D6r
    clear x0_0 x0_1 x1_0 x1_1 x2_0 x2_1 x3_0 x3_1 x4_0 x4_1 x5_0 x5_1 x6_0 x6_1 x7_0 x7_1
    have x0_0 := K6.out.cell0 at9
    have x0_1 := K6.out.cell1 at9
    have x1_0 := K6.out.cell0 at8
    have x1_1 := K6.out.cell1 at8
    have x2_0 := K6.out.cell0 at7
    have x2_1 := K6.out.cell1 at7
    have x3_0 := K6.out.cell0 at6
    have x3_1 := K6.out.cell1 at6
    have x4_0 := K6.out.cell0 at5
    have x4_1 := K6.out.cell1 at5
    have x5_0 := K6.out.cell0 at4
    have x5_1 := K6.out.cell1 at4
    have x6_0 := K6.out.cell0 at3
    have x6_1 := K6.out.cell1 at3
    have x7_0 := K6.out.cell0 at2
    have x7_1 := K6.out.cell1 at2
    have x8_0 := K6.out.cell0 at1
    have x8_1 := K6.out.cell1 at1
    go_wp2_with fail
    refine (D7.out _ K6.out.bel).mono ?_
    rintro e w7 ⟨A7, n7, c7, A7r, n7r, c7r, rfl, B7, D7, D7r, h7, h7r, l7, l7r⟩
    have k7 := (((K6.out.call B7).num D7).num D7r).box [.slice A7 n7 c7, .slice A7r n7r c7r] 28
    have K7 := Lib.hid k7
    clear k7 B7 D7 D7r
    clear x0_0 x0_1 x1_0 x1_1 x2_0 x2_1 x3_0 x3_1 x4_0 x4_1 x5_0 x5_1 x6_0 x6_1 x7_0 x7_1 x8_0 x8_1
    have x0_0 := K7.out.cell0 at10
    have x0_1 := K7.out.cell1 at10
    have x1_0 := K7.out.cell0 at9
    have x1_1 := K7.out.cell1 at9
    have x2_0 := K7.out.cell0 at8
    have x2_1 := K7.out.cell1 at8
    have x3_0 := K7.out.cell0 at7
    have x3_1 := K7.out.cell1 at7
    have x4_0 := K7.out.cell0 at6
    have x4_1 := K7.out.cell1 at6
    have x5_0 := K7.out.cell0 at5
    have x5_1 := K7.out.cell1 at5
    have x6_0 := K7.out.cell0 at4
    have x6_1 := K7.out.cell1 at4
    have x7_0 := K7.out.cell0 at3
    have x7_1 := K7.out.cell1 at3
    have x8_0 := K7.out.cell0 at2
    have x8_1 := K7.out.cell1 at2
    have x9_0 := K7.out.cell0 at1
    have x9_1 := K7.out.cell1 at1
    go_wp2_with fail
    refine (T8.out ▸ frac_Mul_is _ (IA.out.on K7.out.bel) ⟨⟨(K7.out.get at1), h7, l7⟩, ⟨(K7.out.get at0), h7r, l7r⟩, L3.out.b0, L3.out.cp⟩).mono ?_
    rintro e w8 ⟨A8, n8, c8, A8r, n8r, c8r, rfl, B8, D8, D8r, h8, h8r, l8, l8r⟩
    have k8 := (((K7.out.call B8).num D8).num D8r).box [.slice A8 n8 c8, .slice A8r n8r c8r] 28
    have K8 := Lib.hid k8
    clear k8 B8 D8 D8r
    clear x0_0 x0_1 x1_0 x1_1 x2_0 x2_1 x3_0 x3_1 x4_0 x4_1 x5_0 x5_1 x6_0 x6_1 x7_0 x7_1 x8_0 x8_1 x9_0 x9_1
    have x0_0 := K8.out.cell0 at11
    have x0_1 := K8.out.cell1 at11
    have x1_0 := K8.out.cell0 at10
    have x1_1 := K8.out.cell1 at10
    have x2_0 := K8.out.cell0 at9
    have x2_1 := K8.out.cell1 at9
    have x3_0 := K8.out.cell0 at8
    have x3_1 := K8.out.cell1 at8
    have x4_0 := K8.out.cell0 at7
    have x4_1 := K8.out.cell1 at7
    have x5_0 := K8.out.cell0 at6
    have x5_1 := K8.out.cell1 at6
    have x6_0 := K8.out.cell0 at5
    have x6_1 := K8.out.cell1 at5
    have x7_0 := K8.out.cell0 at4
    have x7_1 := K8.out.cell1 at4
    have x8_0 := K8.out.cell0 at3
    have x8_1 := K8.out.cell1 at3
    have x9_0 := K8.out.cell0 at2
    have x9_1 := K8.out.cell1 at2
    have x10_0 := K8.out.cell0 at1
    have x10_1 := K8.out.cell1 at1
    clear x0_0 x0_1 x1_0 x1_1 x2_0 x2_1 x3_0 x3_1 x4_0 x4_1 x5_0 x5_1 x6_0 x6_1 x7_0 x7_1 x8_0 x8_1 x9_0 x9_1 x10_0 x10_1
    go_wp2_with fail
    go_cut [25, 26] from 103 to 108 (fun sx tx wx => OutF w (w8.alloc (.cells #[.slice A8 n8 c8, .slice A8r n8r c8r] 28)) a b sx tx wx)
    case first =>
      have K8d := Lib.hid (K8.out.call (Below.refl _ (w8.alloc (.cells #[.slice A8 n8 c8, .slice A8r n8r c8r] 28))).drew)
      go_region_held3 (fun W => W.cell? ⟨w.heap.size, 0, none⟩ = some (.slice A n c) ∧ W.cell? ⟨w.heap.size, 1, none⟩ = some (.slice A' n' c'))
        (first | (with_reducible exact ⟨K8d.out.cell0 at11, K8d.out.cell1 at11⟩) | (with_reducible exact ⟨K9.out.cell0 at11, K9.out.cell1 at11⟩) | (with_reducible exact ⟨K10.out.cell0 at12, K10.out.cell1 at12⟩) | (with_reducible exact ⟨K11.out.cell0 at11, K11.out.cell1 at11⟩) | (with_reducible exact ⟨K12.out.cell0 at12, K12.out.cell1 at12⟩) | (with_reducible exact ⟨K13.out.cell0 at12, K13.out.cell1 at12⟩) | (with_reducible exact kAl (by assumption)) | (with_reducible exact kAd (by assumption)) | (with_reducible exact kSt NR (by assumption)) | (with_reducible exact kAl ⟨K11.out.cell0 at11, K11.out.cell1 at11⟩) | fail)
        (first
          | (go_at_call 33; (with_reducible refine (O1.out _).mono ?_); rintro e w9 ⟨A9, n9, c9, A9r, n9r, c9r, rfl, B9, D9, D9r, h9, h9r, l9, l9r⟩; have K9 := Lib.hid (((K8d.out.call B9).num D9).num D9r); have HB9 := Lib.hid B9; clear B9 D9 D9r)
          | (go_at_call 27; have K9a := Lib.hid (K9.out.box [.slice none 0 0, .slice none 0 0] 28); (with_reducible refine (D9.out _ K9a.out.bel ⟨⟨K9a.out.get at1, h9, l9⟩, ⟨K9a.out.get at0, h9r, l9r⟩, by omega, by decide⟩).mono ?_); rintro e w10 ⟨A10, n10, c10, A10r, n10r, c10r, rfl, B10, D10, D10r, h10, h10r, l10, l10r⟩; have K10 := Lib.hid (((K9a.out.call B10).num D10).num D10r); have HB10 := Lib.hid B10; have HD10 := Lib.hid D10; have HD10r := Lib.hid D10r; have q0 := K10.out.cell0 at0; have q1 := K10.out.cell1 at0; have qf := K10.out.free at0; have NR : Hid (w.heap.size ≠ w9.heap.size) := Nat.ne_of_lt (lt_of_block (K9.out.b _ at11)); clear B10 D10 D10r)
          | (go_at_call 27; (with_reducible refine (D9.out _ K9.out.bel ⟨⟨K9.out.get at1, h9, l9⟩, ⟨K9.out.get at0, h9r, l9r⟩, by omega, by decide⟩).mono ?_); rintro e w11 ⟨A11, n11, c11, A11r, n11r, c11r, rfl, B11, D11, D11r, h11, h11r, l11, l11r⟩; have K11 := Lib.hid (((K9.out.call B11).num D11).num D11r); have HB11 := Lib.hid B11; have HD11 := Lib.hid D11; have HD11r := Lib.hid D11r; clear B11 D11 D11r)
          | (go_at_call 33; (with_reducible refine (O1.out _).mono ?_); rintro e w12 ⟨A12, n12, c12, A12r, n12r, c12r, rfl, B12, D12, D12r, h12, h12r, l12, l12r⟩; have k12 := ((((K8.out.box [.slice none 0 0, .slice none 0 0] 28).call (Below.refl _ _).drew).call B12).num D12).num D12r; simp only [size_alloc] at k12; have K12 := Lib.hid k12; have HB12 := Lib.hid B12; have NR : Hid (w.heap.size ≠ w8.heap.size + 1) := (by have h := lt_of_block (K8.out.b _ at11); simp only [size_alloc] at h; exact Nat.ne_of_lt h); clear k12 B12 D12 D12r)
          | (go_at_call 27; (with_reducible refine (D9.out _ K12.out.bel ⟨⟨K12.out.get at1, h12, l12⟩, ⟨K12.out.get at0, h12r, l12r⟩, by omega, by decide⟩).mono ?_); rintro e w13 ⟨A13, n13, c13, A13r, n13r, c13r, rfl, B13, D13, D13r, h13, h13r, l13, l13r⟩; have K13 := Lib.hid (((K12.out.call B13).num D13).num D13r); have HB13 := Lib.hid B13; have HD13 := Lib.hid D13; have HD13r := Lib.hid D13r; have q0 := K13.out.cell0 at0; have q1 := K13.out.cell1 at0; have qf := K13.out.free at0; clear B13 D13 D13r)
          | fail)
      all_goals (
        go_wp2_with fail
        go_meet
        first
          | exact ⟨w9.heap.size, A10, n10, c10, A10r, n10r, c10r, rfl, rfl, fun bs ns K => (((((((K.call (Below.refl _ _).drew).call HB9.out).box [.slice none 0 0, .slice none 0 0] 28).call HB10.out).num HD10.out).num HD10r.out).put2 at0 ((K.call (Below.refl _ _).drew).call HB9.out).bel.size (fun p hp => ⟨List.mem_cons_of_mem _ hp, Nat.ne_of_lt (lt_of_block (((K.call (Below.refl _ _).drew).call HB9.out).b p hp))⟩) _ _), h10, h10r, l10, l10r⟩
          | exact ⟨_, A11, n11, c11, A11r, n11r, c11r, rfl, rfl, fun bs ns K => ((((((K.call (Below.refl _ _).drew).call HB9.out).call HB11.out).num HD11.out).num HD11r.out).box [.slice A11 n11 c11, .slice A11r n11r c11r] 28), h11, h11r, l11, l11r⟩
          | exact ⟨w8.heap.size + 1, A13, n13, c13, A13r, n13r, c13r, rfl, rfl, fun bs ns K => (by have k := ((((((K.box [.slice none 0 0, .slice none 0 0] 28).call (Below.refl _ _).drew).call HB12.out).call HB13.out).num HD13.out).num HD13r.out).put2 at0 K.bel.size (fun p hp => ⟨List.mem_cons_of_mem _ hp, Nat.ne_of_lt (lt_of_block (K.b p hp))⟩) (.slice A13 n13 c13) (.slice A13r n13r c13r); simp only [size_alloc] at k; exact k), h13, h13r, l13, l13r⟩)
    case rest =>
      obtain ⟨R10, A10, n10, c10, A10r, n10r, c10r, rfl, rfl, hk10, h10, h10r, l10, l10r⟩ := hcut
      have K10 := Lib.hid (hk10 _ _ K8.out)
      clear hk10
      have x0_0 := K10.out.cell0 at12
      have x0_1 := K10.out.cell1 at12
      have x1_0 := K10.out.cell0 at11
      have x1_1 := K10.out.cell1 at11
      have x2_0 := K10.out.cell0 at10
      have x2_1 := K10.out.cell1 at10
      have x3_0 := K10.out.cell0 at9
      have x3_1 := K10.out.cell1 at9
      have x4_0 := K10.out.cell0 at8
      have x4_1 := K10.out.cell1 at8
      have x5_0 := K10.out.cell0 at7
      have x5_1 := K10.out.cell1 at7
      have x6_0 := K10.out.cell0 at6
      have x6_1 := K10.out.cell1 at6
      have x7_0 := K10.out.cell0 at5
      have x7_1 := K10.out.cell1 at5
      have x8_0 := K10.out.cell0 at4
      have x8_1 := K10.out.cell1 at4
      have x9_0 := K10.out.cell0 at3
      have x9_1 := K10.out.cell1 at3
      have x10_0 := K10.out.cell0 at2
      have x10_1 := K10.out.cell1 at2
      have x11_0 := K10.out.cell0 at1
      have x11_1 := K10.out.cell1 at1
      have x12_0 := K10.out.cell0 at0
      have x12_1 := K10.out.cell1 at0
      go_wp2_with fail
      refine (Fr.same_refl _ _ ▸ ref4_Same _ ⟨(K10.out.get at17), h1, l1⟩ ⟨(K10.out.get at16), h1r, l1r⟩ ⟨(K10.out.get at15), h2, l2⟩ ⟨(K10.out.get at14), h2r, l2r⟩).mono ?_
      rintro e w11 ⟨rfl, B11⟩
      have k11 := K10.out.call B11
      have K11 := Lib.hid k11
      clear k11 B11 
      clear x0_0 x0_1 x1_0 x1_1 x2_0 x2_1 x3_0 x3_1 x4_0 x4_1 x5_0 x5_1 x6_0 x6_1 x7_0 x7_1 x8_0 x8_1 x9_0 x9_1 x10_0 x10_1 x11_0 x11_1 x12_0 x12_1
      have x0_0 := K11.out.cell0 at12
      have x0_1 := K11.out.cell1 at12
      have x1_0 := K11.out.cell0 at11
      have x1_1 := K11.out.cell1 at11
      have x2_0 := K11.out.cell0 at10
      have x2_1 := K11.out.cell1 at10
      have x3_0 := K11.out.cell0 at9
      have x3_1 := K11.out.cell1 at9
      have x4_0 := K11.out.cell0 at8
      have x4_1 := K11.out.cell1 at8
      have x5_0 := K11.out.cell0 at7
      have x5_1 := K11.out.cell1 at7
      have x6_0 := K11.out.cell0 at6
      have x6_1 := K11.out.cell1 at6
      have x7_0 := K11.out.cell0 at5
      have x7_1 := K11.out.cell1 at5
      have x8_0 := K11.out.cell0 at4
      have x8_1 := K11.out.cell1 at4
      have x9_0 := K11.out.cell0 at3
      have x9_1 := K11.out.cell1 at3
      have x10_0 := K11.out.cell0 at2
      have x10_1 := K11.out.cell1 at2
      have x11_0 := K11.out.cell0 at1
      have x11_1 := K11.out.cell1 at1
      have x12_0 := K11.out.cell0 at0
      have x12_1 := K11.out.cell1 at0
      go_wp2_with fail
      refine (Fr.same_refl _ _ ▸ ref4_Same _ ⟨(K11.out.get at11), h4, l4⟩ ⟨(K11.out.get at10), h4r, l4r⟩ ⟨(K11.out.get at9), h5, l5⟩ ⟨(K11.out.get at8), h5r, l5r⟩).mono ?_
      rintro e w12 ⟨rfl, B12⟩
      have k12 := K11.out.call B12
      have K12 := Lib.hid k12
      clear k12 B12 
      clear x0_0 x0_1 x1_0 x1_1 x2_0 x2_1 x3_0 x3_1 x4_0 x4_1 x5_0 x5_1 x6_0 x6_1 x7_0 x7_1 x8_0 x8_1 x9_0 x9_1 x10_0 x10_1 x11_0 x11_1 x12_0 x12_1
      have x0_0 := K12.out.cell0 at12
      have x0_1 := K12.out.cell1 at12
      have x1_0 := K12.out.cell0 at11
      have x1_1 := K12.out.cell1 at11
      have x2_0 := K12.out.cell0 at10
      have x2_1 := K12.out.cell1 at10
      have x3_0 := K12.out.cell0 at9
      have x3_1 := K12.out.cell1 at9
      have x4_0 := K12.out.cell0 at8
      have x4_1 := K12.out.cell1 at8
      have x5_0 := K12.out.cell0 at7
      have x5_1 := K12.out.cell1 at7
      have x6_0 := K12.out.cell0 at6
      have x6_1 := K12.out.cell1 at6
      have x7_0 := K12.out.cell0 at5
      have x7_1 := K12.out.cell1 at5
      have x8_0 := K12.out.cell0 at4
      have x8_1 := K12.out.cell1 at4
      have x9_0 := K12.out.cell0 at3
      have x9_1 := K12.out.cell1 at3
      have x10_0 := K12.out.cell0 at2
      have x10_1 := K12.out.cell1 at2
      have x11_0 := K12.out.cell0 at1
      have x11_1 := K12.out.cell1 at1
      have x12_0 := K12.out.cell0 at0
      have x12_1 := K12.out.cell1 at0
      go_wp2_with fail
      refine (Fr.same_refl _ _ ▸ ref4_Same _ ⟨(K12.out.get at7), h6, l6⟩ ⟨(K12.out.get at6), h6r, l6r⟩ ⟨(K12.out.get at3), h8, l8⟩ ⟨(K12.out.get at2), h8r, l8r⟩).mono ?_
      rintro e w13 ⟨rfl, B13⟩
      have k13 := K12.out.call B13
      have K13 := Lib.hid k13
      clear k13 B13 
      clear x0_0 x0_1 x1_0 x1_1 x2_0 x2_1 x3_0 x3_1 x4_0 x4_1 x5_0 x5_1 x6_0 x6_1 x7_0 x7_1 x8_0 x8_1 x9_0 x9_1 x10_0 x10_1 x11_0 x11_1 x12_0 x12_1
      have x0_0 := K13.out.cell0 at12
      have x0_1 := K13.out.cell1 at12
      have x1_0 := K13.out.cell0 at11
      have x1_1 := K13.out.cell1 at11
      have x2_0 := K13.out.cell0 at10
      have x2_1 := K13.out.cell1 at10
      have x3_0 := K13.out.cell0 at9
      have x3_1 := K13.out.cell1 at9
      have x4_0 := K13.out.cell0 at8
      have x4_1 := K13.out.cell1 at8
      have x5_0 := K13.out.cell0 at7
      have x5_1 := K13.out.cell1 at7
      have x6_0 := K13.out.cell0 at6
      have x6_1 := K13.out.cell1 at6
      have x7_0 := K13.out.cell0 at5
      have x7_1 := K13.out.cell1 at5
      have x8_0 := K13.out.cell0 at4
      have x8_1 := K13.out.cell1 at4
      have x9_0 := K13.out.cell0 at3
      have x9_1 := K13.out.cell1 at3
      have x10_0 := K13.out.cell0 at2
      have x10_1 := K13.out.cell1 at2
      have x11_0 := K13.out.cell0 at1
      have x11_1 := K13.out.cell1 at1
      have x12_0 := K13.out.cell0 at0
      have x12_1 := K13.out.cell1 at0
      go_wp2_with fail
      refine (Fr.same_refl _ _ ▸ ref4_Same _ ⟨(K13.out.get at1), h10, l10⟩ ⟨(K13.out.get at0), h10r, l10r⟩ (IA.out.on K13.out.bel).n (IA.out.on K13.out.bel).d).mono ?_
      rintro e w14 ⟨rfl, B14⟩
      have k14 := K13.out.call B14
      have K14 := Lib.hid k14
      clear k14 B14 
      clear x0_0 x0_1 x1_0 x1_1 x2_0 x2_1 x3_0 x3_1 x4_0 x4_1 x5_0 x5_1 x6_0 x6_1 x7_0 x7_1 x8_0 x8_1 x9_0 x9_1 x10_0 x10_1 x11_0 x11_1 x12_0 x12_1
      have x0_0 := K14.out.cell0 at12
      have x0_1 := K14.out.cell1 at12
      have x1_0 := K14.out.cell0 at11
      have x1_1 := K14.out.cell1 at11
      have x2_0 := K14.out.cell0 at10
      have x2_1 := K14.out.cell1 at10
      have x3_0 := K14.out.cell0 at9
      have x3_1 := K14.out.cell1 at9
      have x4_0 := K14.out.cell0 at8
      have x4_1 := K14.out.cell1 at8
      have x5_0 := K14.out.cell0 at7
      have x5_1 := K14.out.cell1 at7
      have x6_0 := K14.out.cell0 at6
      have x6_1 := K14.out.cell1 at6
      have x7_0 := K14.out.cell0 at5
      have x7_1 := K14.out.cell1 at5
      have x8_0 := K14.out.cell0 at4
      have x8_1 := K14.out.cell1 at4
      have x9_0 := K14.out.cell0 at3
      have x9_1 := K14.out.cell1 at3
      have x10_0 := K14.out.cell0 at2
      have x10_1 := K14.out.cell1 at2
      have x11_0 := K14.out.cell0 at1
      have x11_1 := K14.out.cell1 at1
      have x12_0 := K14.out.cell0 at0
      have x12_1 := K14.out.cell1 at0
      go_wp2_with fail
      refine (T0.out ▸ frac_Div_is _ ⟨⟨(K14.out.get at17), h1, l1⟩, ⟨(K14.out.get at16), h1r, l1r⟩, L1.out.b0, L1.out.cp⟩ (IB.out.on K14.out.bel)).mono ?_
      rintro e w15 ⟨A15, n15, c15, A15r, n15r, c15r, rfl, B15, D15, D15r, h15, h15r, l15, l15r⟩
      have k15 := (((K14.out.call B15).num D15).num D15r).box [.slice A15 n15 c15, .slice A15r n15r c15r] 28
      have K15 := Lib.hid k15
      clear k15 B15 D15 D15r
      clear x0_0 x0_1 x1_0 x1_1 x2_0 x2_1 x3_0 x3_1 x4_0 x4_1 x5_0 x5_1 x6_0 x6_1 x7_0 x7_1 x8_0 x8_1 x9_0 x9_1 x10_0 x10_1 x11_0 x11_1 x12_0 x12_1
      have x0_0 := K15.out.cell0 at13
      have x0_1 := K15.out.cell1 at13
      have x1_0 := K15.out.cell0 at12
      have x1_1 := K15.out.cell1 at12
      have x2_0 := K15.out.cell0 at11
      have x2_1 := K15.out.cell1 at11
      have x3_0 := K15.out.cell0 at10
      have x3_1 := K15.out.cell1 at10
      have x4_0 := K15.out.cell0 at9
      have x4_1 := K15.out.cell1 at9
      have x5_0 := K15.out.cell0 at8
      have x5_1 := K15.out.cell1 at8
      have x6_0 := K15.out.cell0 at7
      have x6_1 := K15.out.cell1 at7
      have x7_0 := K15.out.cell0 at6
      have x7_1 := K15.out.cell1 at6
      have x8_0 := K15.out.cell0 at5
      have x8_1 := K15.out.cell1 at5
      have x9_0 := K15.out.cell0 at4
      have x9_1 := K15.out.cell1 at4
      have x10_0 := K15.out.cell0 at3
      have x10_1 := K15.out.cell1 at3
      have x11_0 := K15.out.cell0 at2
      have x11_1 := K15.out.cell1 at2
      have x12_0 := K15.out.cell0 at1
      have x12_1 := K15.out.cell1 at1
      go_wp2_with fail
      go_ret
      exact ⟨rfl, K15.out.bel⟩
  · have hm := ib.n.d.len_pos (by omega)
    have hl : ((m : Int) == 0) = false := by simp; omega
    have T0 : Hid (Fr.divT a1 b1 x y = (a, b, 0)) := by
      show _ = _
      rw [t0 (by omega), (g0 (by omega)).1, (g0 (by omega)).2]
    clear t0
    clear hx hm g0 ia ib ic id la lb lc ld l1 l2 l3 d1 d2 d3 d4 d7 d9 t5 t6 t8 t9 g4 g8 g9 ea1 eb1 ea2 eb2 ea3 eb3 ea4 eb4 ea5 eb5
    have k0 := ((((Ks.start w).box [.slice A n c, .slice A' n' c'] 28).box [.slice B m j, .slice B' m' j'] 28).box [.slice C p k, .slice C' p' k'] 28).box [.slice E r l, .slice E' r' l'] 28
    simp only [size_alloc] at k0
    have K0 := Lib.hid k0
    clear k0
    go_enter Tryz.func34, Tryz.ntmps34
    go_wp2_with fail
    refine (D1.out _ K0.out.bel).mono ?_
    rintro e w1 ⟨A1, n1, c1, A1r, n1r, c1r, rfl, B1, D1, D1r, h1, h1r, l1, l1r⟩
    have k1 := (((K0.out.call B1).num D1).num D1r).box [.slice A1 n1 c1, .slice A1r n1r c1r] 28
    have K1 := Lib.hid k1
    clear k1 B1 D1 D1r
    have x0_0 := K1.out.cell0 at4
    have x0_1 := K1.out.cell1 at4
    have x1_0 := K1.out.cell0 at3
    have x1_1 := K1.out.cell1 at3
    have x2_0 := K1.out.cell0 at2
    have x2_1 := K1.out.cell1 at2
    have x3_0 := K1.out.cell0 at1
    have x3_1 := K1.out.cell1 at1
    go_wp2_with fail
    refine (D2.out _ K1.out.bel).mono ?_
    rintro e w2 ⟨A2, n2, c2, A2r, n2r, c2r, rfl, B2, D2, D2r, h2, h2r, l2, l2r⟩
    have k2 := (((K1.out.call B2).num D2).num D2r).box [.slice A2 n2 c2, .slice A2r n2r c2r] 28
    have K2 := Lib.hid k2
    clear k2 B2 D2 D2r
    clear x0_0 x0_1 x1_0 x1_1 x2_0 x2_1 x3_0 x3_1
    have x0_0 := K2.out.cell0 at5
    have x0_1 := K2.out.cell1 at5
    have x1_0 := K2.out.cell0 at4
    have x1_1 := K2.out.cell1 at4
    have x2_0 := K2.out.cell0 at3
    have x2_1 := K2.out.cell1 at3
    have x3_0 := K2.out.cell0 at2
    have x3_1 := K2.out.cell1 at2
    have x4_0 := K2.out.cell0 at1
    have x4_1 := K2.out.cell1 at1
    go_wp2_with fail
    refine (D3.out _ K2.out.bel).mono ?_
    rintro e w3 ⟨A3, n3, c3, A3r, n3r, c3r, rfl, B3, D3, D3r, h3, h3r, l3, l3r⟩
    have k3 := (((K2.out.call B3).num D3).num D3r).box [.slice A3 n3 c3, .slice A3r n3r c3r] 28
    have K3 := Lib.hid k3
    clear k3 B3 D3 D3r
    clear x0_0 x0_1 x1_0 x1_1 x2_0 x2_1 x3_0 x3_1 x4_0 x4_1
    have x0_0 := K3.out.cell0 at6
    have x0_1 := K3.out.cell1 at6
    have x1_0 := K3.out.cell0 at5
    have x1_1 := K3.out.cell1 at5
    have x2_0 := K3.out.cell0 at4
    have x2_1 := K3.out.cell1 at4
    have x3_0 := K3.out.cell0 at3
    have x3_1 := K3.out.cell1 at3
    have x4_0 := K3.out.cell0 at2
    have x4_1 := K3.out.cell1 at2
    have x5_0 := K3.out.cell0 at1
    have x5_1 := K3.out.cell1 at1
    go_wp2_with fail
    refine (D4.out _ K3.out.bel).mono ?_
    rintro e w4 ⟨A4, n4, c4, A4r, n4r, c4r, rfl, B4, D4, D4r, h4, h4r, l4, l4r⟩
    have k4 := (((K3.out.call B4).num D4).num D4r).box [.slice A4 n4 c4, .slice A4r n4r c4r] 28
    have K4 := Lib.hid k4
    clear k4 B4 D4 D4r
    clear x0_0 x0_1 x1_0 x1_1 x2_0 x2_1 x3_0 x3_1 x4_0 x4_1 x5_0 x5_1
    have x0_0 := K4.out.cell0 at7
    have x0_1 := K4.out.cell1 at7
    have x1_0 := K4.out.cell0 at6
    have x1_1 := K4.out.cell1 at6
    have x2_0 := K4.out.cell0 at5
    have x2_1 := K4.out.cell1 at5
    have x3_0 := K4.out.cell0 at4
    have x3_1 := K4.out.cell1 at4
    have x4_0 := K4.out.cell0 at3
    have x4_1 := K4.out.cell1 at3
    have x5_0 := K4.out.cell0 at2
    have x5_1 := K4.out.cell1 at2
    have x6_0 := K4.out.cell0 at1
    have x6_1 := K4.out.cell1 at1
    go_wp2_with fail
    refine (T5.out ▸ frac_Add_is _ ⟨⟨(K4.out.get at7), h1, l1⟩, ⟨(K4.out.get at6), h1r, l1r⟩, L1.out.b0, L1.out.cp⟩ ⟨⟨(K4.out.get at3), h3, l3⟩, ⟨(K4.out.get at2), h3r, l3r⟩, L2.out.b0, L2.out.cp⟩).mono ?_
    rintro e w5 ⟨A5, n5, c5, A5r, n5r, c5r, rfl, B5, D5, D5r, h5, h5r, l5, l5r⟩
    have k5 := (((K4.out.call B5).num D5).num D5r).box [.slice A5 n5 c5, .slice A5r n5r c5r] 28
    have K5 := Lib.hid k5
    clear k5 B5 D5 D5r
    clear x0_0 x0_1 x1_0 x1_1 x2_0 x2_1 x3_0 x3_1 x4_0 x4_1 x5_0 x5_1 x6_0 x6_1
    have x0_0 := K5.out.cell0 at8
    have x0_1 := K5.out.cell1 at8
    have x1_0 := K5.out.cell0 at7
    have x1_1 := K5.out.cell1 at7
    have x2_0 := K5.out.cell0 at6
    have x2_1 := K5.out.cell1 at6
    have x3_0 := K5.out.cell0 at5
    have x3_1 := K5.out.cell1 at5
    have x4_0 := K5.out.cell0 at4
    have x4_1 := K5.out.cell1 at4
    have x5_0 := K5.out.cell0 at3
    have x5_1 := K5.out.cell1 at3
    have x6_0 := K5.out.cell0 at2
    have x6_1 := K5.out.cell1 at2
    have x7_0 := K5.out.cell0 at1
    have x7_1 := K5.out.cell1 at1
    go_wp2_with fail
    refine (T6.out ▸ frac_Mul_is _ ⟨⟨(K5.out.get at9), h1, l1⟩, ⟨(K5.out.get at8), h1r, l1r⟩, L1.out.b0, L1.out.cp⟩ (IC.out.on K5.out.bel)).mono ?_
    rintro e w6 ⟨A6, n6, c6, A6r, n6r, c6r, rfl, B6, D6, D6r, h6, h6r, l6, l6r⟩
    have k6 := (((K5.out.call B6).num D6).num D6r).box [.slice A6 n6 c6, .slice A6r n6r c6r] 28
    have K6 := Lib.hid k6
    clear k6 B6 D6 D6r
    clear x0_0 x0_1 x1_0 x1_1 x2_0 x2_1 x3_0 x3_1 x4_0 x4_1 x5_0 x5_1 x6_0 x6_1 x7_0 x7_1
    have x0_0 := K6.out.cell0 at9
    have x0_1 := K6.out.cell1 at9
    have x1_0 := K6.out.cell0 at8
    have x1_1 := K6.out.cell1 at8
    have x2_0 := K6.out.cell0 at7
    have x2_1 := K6.out.cell1 at7
    have x3_0 := K6.out.cell0 at6
    have x3_1 := K6.out.cell1 at6
    have x4_0 := K6.out.cell0 at5
    have x4_1 := K6.out.cell1 at5
    have x5_0 := K6.out.cell0 at4
    have x5_1 := K6.out.cell1 at4
    have x6_0 := K6.out.cell0 at3
    have x6_1 := K6.out.cell1 at3
    have x7_0 := K6.out.cell0 at2
    have x7_1 := K6.out.cell1 at2
    have x8_0 := K6.out.cell0 at1
    have x8_1 := K6.out.cell1 at1
    go_wp2_with fail
    refine (D7.out _ K6.out.bel).mono ?_
    rintro e w7 ⟨A7, n7, c7, A7r, n7r, c7r, rfl, B7, D7, D7r, h7, h7r, l7, l7r⟩
    have k7 := (((K6.out.call B7).num D7).num D7r).box [.slice A7 n7 c7, .slice A7r n7r c7r] 28
    have K7 := Lib.hid k7
    clear k7 B7 D7 D7r
    clear x0_0 x0_1 x1_0 x1_1 x2_0 x2_1 x3_0 x3_1 x4_0 x4_1 x5_0 x5_1 x6_0 x6_1 x7_0 x7_1 x8_0 x8_1
    have x0_0 := K7.out.cell0 at10
    have x0_1 := K7.out.cell1 at10
    have x1_0 := K7.out.cell0 at9
    have x1_1 := K7.out.cell1 at9
    have x2_0 := K7.out.cell0 at8
    have x2_1 := K7.out.cell1 at8
    have x3_0 := K7.out.cell0 at7
    have x3_1 := K7.out.cell1 at7
    have x4_0 := K7.out.cell0 at6
    have x4_1 := K7.out.cell1 at6
    have x5_0 := K7.out.cell0 at5
    have x5_1 := K7.out.cell1 at5
    have x6_0 := K7.out.cell0 at4
    have x6_1 := K7.out.cell1 at4
    have x7_0 := K7.out.cell0 at3
    have x7_1 := K7.out.cell1 at3
    have x8_0 := K7.out.cell0 at2
    have x8_1 := K7.out.cell1 at2
    have x9_0 := K7.out.cell0 at1
    have x9_1 := K7.out.cell1 at1
    go_wp2_with fail
    refine (T8.out ▸ frac_Mul_is _ (IA.out.on K7.out.bel) ⟨⟨(K7.out.get at1), h7, l7⟩, ⟨(K7.out.get at0), h7r, l7r⟩, L3.out.b0, L3.out.cp⟩).mono ?_
    rintro e w8 ⟨A8, n8, c8, A8r, n8r, c8r, rfl, B8, D8, D8r, h8, h8r, l8, l8r⟩
    have k8 := (((K7.out.call B8).num D8).num D8r).box [.slice A8 n8 c8, .slice A8r n8r c8r] 28
    have K8 := Lib.hid k8
    clear k8 B8 D8 D8r
    clear x0_0 x0_1 x1_0 x1_1 x2_0 x2_1 x3_0 x3_1 x4_0 x4_1 x5_0 x5_1 x6_0 x6_1 x7_0 x7_1 x8_0 x8_1 x9_0 x9_1
    have x0_0 := K8.out.cell0 at11
    have x0_1 := K8.out.cell1 at11
    have x1_0 := K8.out.cell0 at10
    have x1_1 := K8.out.cell1 at10
    have x2_0 := K8.out.cell0 at9
    have x2_1 := K8.out.cell1 at9
    have x3_0 := K8.out.cell0 at8
    have x3_1 := K8.out.cell1 at8
    have x4_0 := K8.out.cell0 at7
    have x4_1 := K8.out.cell1 at7
    have x5_0 := K8.out.cell0 at6
    have x5_1 := K8.out.cell1 at6
    have x6_0 := K8.out.cell0 at5
    have x6_1 := K8.out.cell1 at5
    have x7_0 := K8.out.cell0 at4
    have x7_1 := K8.out.cell1 at4
    have x8_0 := K8.out.cell0 at3
    have x8_1 := K8.out.cell1 at3
    have x9_0 := K8.out.cell0 at2
    have x9_1 := K8.out.cell1 at2
    have x10_0 := K8.out.cell0 at1
    have x10_1 := K8.out.cell1 at1
    clear x0_0 x0_1 x1_0 x1_1 x2_0 x2_1 x3_0 x3_1 x4_0 x4_1 x5_0 x5_1 x6_0 x6_1 x7_0 x7_1 x8_0 x8_1 x9_0 x9_1 x10_0 x10_1
    go_wp2_with fail
    go_cut [25, 26] from 103 to 108 (fun sx tx wx => OutF w (w8.alloc (.cells #[.slice A8 n8 c8, .slice A8r n8r c8r] 28)) a b sx tx wx)
    case first =>
      have K8d := Lib.hid (K8.out.call (Below.refl _ (w8.alloc (.cells #[.slice A8 n8 c8, .slice A8r n8r c8r] 28))).drew)
      go_region_held3 (fun W => W.cell? ⟨w.heap.size, 0, none⟩ = some (.slice A n c) ∧ W.cell? ⟨w.heap.size, 1, none⟩ = some (.slice A' n' c'))
        (first | (with_reducible exact ⟨K8d.out.cell0 at11, K8d.out.cell1 at11⟩) | (with_reducible exact ⟨K9.out.cell0 at11, K9.out.cell1 at11⟩) | (with_reducible exact ⟨K10.out.cell0 at12, K10.out.cell1 at12⟩) | (with_reducible exact ⟨K11.out.cell0 at11, K11.out.cell1 at11⟩) | (with_reducible exact ⟨K12.out.cell0 at12, K12.out.cell1 at12⟩) | (with_reducible exact ⟨K13.out.cell0 at12, K13.out.cell1 at12⟩) | (with_reducible exact kAl (by assumption)) | (with_reducible exact kAd (by assumption)) | (with_reducible exact kSt NR (by assumption)) | (with_reducible exact kAl ⟨K11.out.cell0 at11, K11.out.cell1 at11⟩) | fail)
        (first
          | (go_at_call 33; (with_reducible refine (O1.out _).mono ?_); rintro e w9 ⟨A9, n9, c9, A9r, n9r, c9r, rfl, B9, D9, D9r, h9, h9r, l9, l9r⟩; have K9 := Lib.hid (((K8d.out.call B9).num D9).num D9r); have HB9 := Lib.hid B9; clear B9 D9 D9r)
          | (go_at_call 27; have K9a := Lib.hid (K9.out.box [.slice none 0 0, .slice none 0 0] 28); (with_reducible refine (D9.out _ K9a.out.bel ⟨⟨K9a.out.get at1, h9, l9⟩, ⟨K9a.out.get at0, h9r, l9r⟩, by omega, by decide⟩).mono ?_); rintro e w10 ⟨A10, n10, c10, A10r, n10r, c10r, rfl, B10, D10, D10r, h10, h10r, l10, l10r⟩; have K10 := Lib.hid (((K9a.out.call B10).num D10).num D10r); have HB10 := Lib.hid B10; have HD10 := Lib.hid D10; have HD10r := Lib.hid D10r; have q0 := K10.out.cell0 at0; have q1 := K10.out.cell1 at0; have qf := K10.out.free at0; have NR : Hid (w.heap.size ≠ w9.heap.size) := Nat.ne_of_lt (lt_of_block (K9.out.b _ at11)); clear B10 D10 D10r)
          | (go_at_call 27; (with_reducible refine (D9.out _ K9.out.bel ⟨⟨K9.out.get at1, h9, l9⟩, ⟨K9.out.get at0, h9r, l9r⟩, by omega, by decide⟩).mono ?_); rintro e w11 ⟨A11, n11, c11, A11r, n11r, c11r, rfl, B11, D11, D11r, h11, h11r, l11, l11r⟩; have K11 := Lib.hid (((K9.out.call B11).num D11).num D11r); have HB11 := Lib.hid B11; have HD11 := Lib.hid D11; have HD11r := Lib.hid D11r; clear B11 D11 D11r)
          | (go_at_call 33; (with_reducible refine (O1.out _).mono ?_); rintro e w12 ⟨A12, n12, c12, A12r, n12r, c12r, rfl, B12, D12, D12r, h12, h12r, l12, l12r⟩; have k12 := ((((K8.out.box [.slice none 0 0, .slice none 0 0] 28).call (Below.refl _ _).drew).call B12).num D12).num D12r; simp only [size_alloc] at k12; have K12 := Lib.hid k12; have HB12 := Lib.hid B12; have NR : Hid (w.heap.size ≠ w8.heap.size + 1) := (by have h := lt_of_block (K8.out.b _ at11); simp only [size_alloc] at h; exact Nat.ne_of_lt h); clear k12 B12 D12 D12r)
          | (go_at_call 27; (with_reducible refine (D9.out _ K12.out.bel ⟨⟨K12.out.get at1, h12, l12⟩, ⟨K12.out.get at0, h12r, l12r⟩, by omega, by decide⟩).mono ?_); rintro e w13 ⟨A13, n13, c13, A13r, n13r, c13r, rfl, B13, D13, D13r, h13, h13r, l13, l13r⟩; have K13 := Lib.hid (((K12.out.call B13).num D13).num D13r); have HB13 := Lib.hid B13; have HD13 := Lib.hid D13; have HD13r := Lib.hid D13r; have q0 := K13.out.cell0 at0; have q1 := K13.out.cell1 at0; have qf := K13.out.free at0; clear B13 D13 D13r)
          | fail)
      all_goals (
        go_wp2_with fail
        go_meet
        first
          | exact ⟨w9.heap.size, A10, n10, c10, A10r, n10r, c10r, rfl, rfl, fun bs ns K => (((((((K.call (Below.refl _ _).drew).call HB9.out).box [.slice none 0 0, .slice none 0 0] 28).call HB10.out).num HD10.out).num HD10r.out).put2 at0 ((K.call (Below.refl _ _).drew).call HB9.out).bel.size (fun p hp => ⟨List.mem_cons_of_mem _ hp, Nat.ne_of_lt (lt_of_block (((K.call (Below.refl _ _).drew).call HB9.out).b p hp))⟩) _ _), h10, h10r, l10, l10r⟩
          | exact ⟨_, A11, n11, c11, A11r, n11r, c11r, rfl, rfl, fun bs ns K => ((((((K.call (Below.refl _ _).drew).call HB9.out).call HB11.out).num HD11.out).num HD11r.out).box [.slice A11 n11 c11, .slice A11r n11r c11r] 28), h11, h11r, l11, l11r⟩
          | exact ⟨w8.heap.size + 1, A13, n13, c13, A13r, n13r, c13r, rfl, rfl, fun bs ns K => (by have k := ((((((K.box [.slice none 0 0, .slice none 0 0] 28).call (Below.refl _ _).drew).call HB12.out).call HB13.out).num HD13.out).num HD13r.out).put2 at0 K.bel.size (fun p hp => ⟨List.mem_cons_of_mem _ hp, Nat.ne_of_lt (lt_of_block (K.b p hp))⟩) (.slice A13 n13 c13) (.slice A13r n13r c13r); simp only [size_alloc] at k; exact k), h13, h13r, l13, l13r⟩)
    case rest =>
      obtain ⟨R10, A10, n10, c10, A10r, n10r, c10r, rfl, rfl, hk10, h10, h10r, l10, l10r⟩ := hcut
      have K10 := Lib.hid (hk10 _ _ K8.out)
      clear hk10
      have x0_0 := K10.out.cell0 at12
      have x0_1 := K10.out.cell1 at12
      have x1_0 := K10.out.cell0 at11
      have x1_1 := K10.out.cell1 at11
      have x2_0 := K10.out.cell0 at10
      have x2_1 := K10.out.cell1 at10
      have x3_0 := K10.out.cell0 at9
      have x3_1 := K10.out.cell1 at9
      have x4_0 := K10.out.cell0 at8
      have x4_1 := K10.out.cell1 at8
      have x5_0 := K10.out.cell0 at7
      have x5_1 := K10.out.cell1 at7
      have x6_0 := K10.out.cell0 at6
      have x6_1 := K10.out.cell1 at6
      have x7_0 := K10.out.cell0 at5
      have x7_1 := K10.out.cell1 at5
      have x8_0 := K10.out.cell0 at4
      have x8_1 := K10.out.cell1 at4
      have x9_0 := K10.out.cell0 at3
      have x9_1 := K10.out.cell1 at3
      have x10_0 := K10.out.cell0 at2
      have x10_1 := K10.out.cell1 at2
      have x11_0 := K10.out.cell0 at1
      have x11_1 := K10.out.cell1 at1
      have x12_0 := K10.out.cell0 at0
      have x12_1 := K10.out.cell1 at0
      go_wp2_with fail
      refine (Fr.same_refl _ _ ▸ ref4_Same _ ⟨(K10.out.get at17), h1, l1⟩ ⟨(K10.out.get at16), h1r, l1r⟩ ⟨(K10.out.get at15), h2, l2⟩ ⟨(K10.out.get at14), h2r, l2r⟩).mono ?_
      rintro e w11 ⟨rfl, B11⟩
      have k11 := K10.out.call B11
      have K11 := Lib.hid k11
      clear k11 B11 
      clear x0_0 x0_1 x1_0 x1_1 x2_0 x2_1 x3_0 x3_1 x4_0 x4_1 x5_0 x5_1 x6_0 x6_1 x7_0 x7_1 x8_0 x8_1 x9_0 x9_1 x10_0 x10_1 x11_0 x11_1 x12_0 x12_1
      have x0_0 := K11.out.cell0 at12
      have x0_1 := K11.out.cell1 at12
      have x1_0 := K11.out.cell0 at11
      have x1_1 := K11.out.cell1 at11
      have x2_0 := K11.out.cell0 at10
      have x2_1 := K11.out.cell1 at10
      have x3_0 := K11.out.cell0 at9
      have x3_1 := K11.out.cell1 at9
      have x4_0 := K11.out.cell0 at8
      have x4_1 := K11.out.cell1 at8
      have x5_0 := K11.out.cell0 at7
      have x5_1 := K11.out.cell1 at7
      have x6_0 := K11.out.cell0 at6
      have x6_1 := K11.out.cell1 at6
      have x7_0 := K11.out.cell0 at5
      have x7_1 := K11.out.cell1 at5
      have x8_0 := K11.out.cell0 at4
      have x8_1 := K11.out.cell1 at4
      have x9_0 := K11.out.cell0 at3
      have x9_1 := K11.out.cell1 at3
      have x10_0 := K11.out.cell0 at2
      have x10_1 := K11.out.cell1 at2
      have x11_0 := K11.out.cell0 at1
      have x11_1 := K11.out.cell1 at1
      have x12_0 := K11.out.cell0 at0
      have x12_1 := K11.out.cell1 at0
      go_wp2_with fail
      refine (Fr.same_refl _ _ ▸ ref4_Same _ ⟨(K11.out.get at11), h4, l4⟩ ⟨(K11.out.get at10), h4r, l4r⟩ ⟨(K11.out.get at9), h5, l5⟩ ⟨(K11.out.get at8), h5r, l5r⟩).mono ?_
      rintro e w12 ⟨rfl, B12⟩
      have k12 := K11.out.call B12
      have K12 := Lib.hid k12
      clear k12 B12 
      clear x0_0 x0_1 x1_0 x1_1 x2_0 x2_1 x3_0 x3_1 x4_0 x4_1 x5_0 x5_1 x6_0 x6_1 x7_0 x7_1 x8_0 x8_1 x9_0 x9_1 x10_0 x10_1 x11_0 x11_1 x12_0 x12_1
      have x0_0 := K12.out.cell0 at12
      have x0_1 := K12.out.cell1 at12
      have x1_0 := K12.out.cell0 at11
      have x1_1 := K12.out.cell1 at11
      have x2_0 := K12.out.cell0 at10
      have x2_1 := K12.out.cell1 at10
      have x3_0 := K12.out.cell0 at9
      have x3_1 := K12.out.cell1 at9
      have x4_0 := K12.out.cell0 at8
      have x4_1 := K12.out.cell1 at8
      have x5_0 := K12.out.cell0 at7
      have x5_1 := K12.out.cell1 at7
      have x6_0 := K12.out.cell0 at6
      have x6_1 := K12.out.cell1 at6
      have x7_0 := K12.out.cell0 at5
      have x7_1 := K12.out.cell1 at5
      have x8_0 := K12.out.cell0 at4
      have x8_1 := K12.out.cell1 at4
      have x9_0 := K12.out.cell0 at3
      have x9_1 := K12.out.cell1 at3
      have x10_0 := K12.out.cell0 at2
      have x10_1 := K12.out.cell1 at2
      have x11_0 := K12.out.cell0 at1
      have x11_1 := K12.out.cell1 at1
      have x12_0 := K12.out.cell0 at0
      have x12_1 := K12.out.cell1 at0
      go_wp2_with fail
      refine (Fr.same_refl _ _ ▸ ref4_Same _ ⟨(K12.out.get at7), h6, l6⟩ ⟨(K12.out.get at6), h6r, l6r⟩ ⟨(K12.out.get at3), h8, l8⟩ ⟨(K12.out.get at2), h8r, l8r⟩).mono ?_
      rintro e w13 ⟨rfl, B13⟩
      have k13 := K12.out.call B13
      have K13 := Lib.hid k13
      clear k13 B13 
      clear x0_0 x0_1 x1_0 x1_1 x2_0 x2_1 x3_0 x3_1 x4_0 x4_1 x5_0 x5_1 x6_0 x6_1 x7_0 x7_1 x8_0 x8_1 x9_0 x9_1 x10_0 x10_1 x11_0 x11_1 x12_0 x12_1
      have x0_0 := K13.out.cell0 at12
      have x0_1 := K13.out.cell1 at12
      have x1_0 := K13.out.cell0 at11
      have x1_1 := K13.out.cell1 at11
      have x2_0 := K13.out.cell0 at10
      have x2_1 := K13.out.cell1 at10
      have x3_0 := K13.out.cell0 at9
      have x3_1 := K13.out.cell1 at9
      have x4_0 := K13.out.cell0 at8
      have x4_1 := K13.out.cell1 at8
      have x5_0 := K13.out.cell0 at7
      have x5_1 := K13.out.cell1 at7
      have x6_0 := K13.out.cell0 at6
      have x6_1 := K13.out.cell1 at6
      have x7_0 := K13.out.cell0 at5
      have x7_1 := K13.out.cell1 at5
      have x8_0 := K13.out.cell0 at4
      have x8_1 := K13.out.cell1 at4
      have x9_0 := K13.out.cell0 at3
      have x9_1 := K13.out.cell1 at3
      have x10_0 := K13.out.cell0 at2
      have x10_1 := K13.out.cell1 at2
      have x11_0 := K13.out.cell0 at1
      have x11_1 := K13.out.cell1 at1
      have x12_0 := K13.out.cell0 at0
      have x12_1 := K13.out.cell1 at0
      go_wp2_with fail
      refine (Fr.same_refl _ _ ▸ ref4_Same _ ⟨(K13.out.get at1), h10, l10⟩ ⟨(K13.out.get at0), h10r, l10r⟩ (IA.out.on K13.out.bel).n (IA.out.on K13.out.bel).d).mono ?_
      rintro e w14 ⟨rfl, B14⟩
      have k14 := K13.out.call B14
      have K14 := Lib.hid k14
      clear k14 B14 
      clear x0_0 x0_1 x1_0 x1_1 x2_0 x2_1 x3_0 x3_1 x4_0 x4_1 x5_0 x5_1 x6_0 x6_1 x7_0 x7_1 x8_0 x8_1 x9_0 x9_1 x10_0 x10_1 x11_0 x11_1 x12_0 x12_1
      have x0_0 := K14.out.cell0 at12
      have x0_1 := K14.out.cell1 at12
      have x1_0 := K14.out.cell0 at11
      have x1_1 := K14.out.cell1 at11
      have x2_0 := K14.out.cell0 at10
      have x2_1 := K14.out.cell1 at10
      have x3_0 := K14.out.cell0 at9
      have x3_1 := K14.out.cell1 at9
      have x4_0 := K14.out.cell0 at8
      have x4_1 := K14.out.cell1 at8
      have x5_0 := K14.out.cell0 at7
      have x5_1 := K14.out.cell1 at7
      have x6_0 := K14.out.cell0 at6
      have x6_1 := K14.out.cell1 at6
      have x7_0 := K14.out.cell0 at5
      have x7_1 := K14.out.cell1 at5
      have x8_0 := K14.out.cell0 at4
      have x8_1 := K14.out.cell1 at4
      have x9_0 := K14.out.cell0 at3
      have x9_1 := K14.out.cell1 at3
      have x10_0 := K14.out.cell0 at2
      have x10_1 := K14.out.cell1 at2
      have x11_0 := K14.out.cell0 at1
      have x11_1 := K14.out.cell1 at1
      have x12_0 := K14.out.cell0 at0
      have x12_1 := K14.out.cell1 at0
      go_wp2_with fail
      refine (T0.out ▸ frac_Div_is _ ⟨⟨(K14.out.get at17), h1, l1⟩, ⟨(K14.out.get at16), h1r, l1r⟩, L1.out.b0, L1.out.cp⟩ (IB.out.on K14.out.bel)).mono ?_
      rintro e w15 ⟨A15, n15, c15, A15r, n15r, c15r, rfl, B15, D15, D15r, h15, h15r, l15, l15r⟩
      have k15 := (((K14.out.call B15).num D15).num D15r).box [.slice A15 n15 c15, .slice A15r n15r c15r] 28
      have K15 := Lib.hid k15
      clear k15 B15 D15 D15r
      clear x0_0 x0_1 x1_0 x1_1 x2_0 x2_1 x3_0 x3_1 x4_0 x4_1 x5_0 x5_1 x6_0 x6_1 x7_0 x7_1 x8_0 x8_1 x9_0 x9_1 x10_0 x10_1 x11_0 x11_1 x12_0 x12_1
      have x0_0 := K15.out.cell0 at13
      have x0_1 := K15.out.cell1 at13
      have x1_0 := K15.out.cell0 at12
      have x1_1 := K15.out.cell1 at12
      have x2_0 := K15.out.cell0 at11
      have x2_1 := K15.out.cell1 at11
      have x3_0 := K15.out.cell0 at10
      have x3_1 := K15.out.cell1 at10
      have x4_0 := K15.out.cell0 at9
      have x4_1 := K15.out.cell1 at9
      have x5_0 := K15.out.cell0 at8
      have x5_1 := K15.out.cell1 at8
      have x6_0 := K15.out.cell0 at7
      have x6_1 := K15.out.cell1 at7
      have x7_0 := K15.out.cell0 at6
      have x7_1 := K15.out.cell1 at6
      have x8_0 := K15.out.cell0 at5
      have x8_1 := K15.out.cell1 at5
      have x9_0 := K15.out.cell0 at4
      have x9_1 := K15.out.cell1 at4
      have x10_0 := K15.out.cell0 at3
      have x10_1 := K15.out.cell1 at3
      have x11_0 := K15.out.cell0 at2
      have x11_1 := K15.out.cell1 at2
      have x12_0 := K15.out.cell0 at1
      have x12_1 := K15.out.cell1 at1
      go_wp2_with fail
      refine (Fr.same_refl _ _ ▸ ref4_Same _ ⟨(K15.out.get at1), h15, l15⟩ ⟨(K15.out.get at0), h15r, l15r⟩ (IA.out.on K15.out.bel).n (IA.out.on K15.out.bel).d).mono ?_
      rintro e w16 ⟨rfl, B16⟩
      have k16 := K15.out.call B16
      have K16 := Lib.hid k16
      clear k16 B16 
      clear x0_0 x0_1 x1_0 x1_1 x2_0 x2_1 x3_0 x3_1 x4_0 x4_1 x5_0 x5_1 x6_0 x6_1 x7_0 x7_1 x8_0 x8_1 x9_0 x9_1 x10_0 x10_1 x11_0 x11_1 x12_0 x12_1
      have x0_0 := K16.out.cell0 at13
      have x0_1 := K16.out.cell1 at13
      have x1_0 := K16.out.cell0 at12
      have x1_1 := K16.out.cell1 at12
      have x2_0 := K16.out.cell0 at11
      have x2_1 := K16.out.cell1 at11
      have x3_0 := K16.out.cell0 at10
      have x3_1 := K16.out.cell1 at10
      have x4_0 := K16.out.cell0 at9
      have x4_1 := K16.out.cell1 at9
      have x5_0 := K16.out.cell0 at8
      have x5_1 := K16.out.cell1 at8
      have x6_0 := K16.out.cell0 at7
      have x6_1 := K16.out.cell1 at7
      have x7_0 := K16.out.cell0 at6
      have x7_1 := K16.out.cell1 at6
      have x8_0 := K16.out.cell0 at5
      have x8_1 := K16.out.cell1 at5
      have x9_0 := K16.out.cell0 at4
      have x9_1 := K16.out.cell1 at4
      have x10_0 := K16.out.cell0 at3
      have x10_1 := K16.out.cell1 at3
      have x11_0 := K16.out.cell0 at2
      have x11_1 := K16.out.cell1 at2
      have x12_0 := K16.out.cell0 at1
      have x12_1 := K16.out.cell1 at1
      have x13_0 := K16.out.cell0 at0
      have x13_1 := K16.out.cell1 at0
      go_wp2_with fail
      go_ret
      exact ⟨rfl, K16.out.bel⟩
end Go.Proofs.YtclejcijnfpgaaaGreatDoor
