/- WireFrames (P8.5): for any at most 20000 bytes and any offset Frame and Next answer what the reference answers; for others, and besides, the chapter's examples hold: the law returns true. No condition. -/
import Derived.Test.YtdleleanaihcoaaOwn
import Derived.Test.YtdleleanaihcoaaWireO
import Derived.Test.YtdleleanaihcoaaHeldMore
namespace Go.Proofs.Ytdleleanaihcoaa.wireFrames
set_option maxRecDepth 20000
open Go.RowKit Go.ChangeShapes Go.WideShapes Go.ChangeAt Go.WideElems
open Go.ChangeMaps (open_string shut_string)
set_option linter.unusedVariables false
set_option linter.unusedSimpArgs false

set_option maxHeartbeats 4000000 in
theorem walk (A : Option Addr) (n c : Nat) (L : List UInt8) (p : Int) (hc : n ≤ c) (hc1 : c ≤ 9223372036854775807) (p0 : -9223372036854775808 ≤ p) (p1 : p ≤ 9223372036854775807) (w : World) (h : Byts w w.heap.size A n L) :
    Calls Try.prog 7 #[.slice A n c, .int .i64 p] w fun e w' => e = .returned (.bool true) ∧ Below w.heap.size w w' := by
  have AW := Lib.hid law8_awake
  have n1 : (n : Int) ≤ 9223372036854775807 := by omega
  by_cases hn : n ≤ 20000
  · have hn1 : ¬ (20000 : Int) < (n : Int) := by omega
    have N1 := Lib.hid (wire_Next w h (by omega) hc hc1 p p0 p1)
    have N2 : Hid (∀ W, Below w.heap.size w W → Calls Try.prog 39 #[.slice A n c, .int .i64 p] W (NRes (Wr.nxL L p) (Wr.nxA L p) (Wr.nxE L p) W)) := fun W hb => ref8_Next W (h.on hb) (by omega) hc p p0 p1
    have D1 : Hid (∀ W, Below w.heap.size w W → Calls Try.prog 40 #[.slice A n c] W (BRes (Wr.frame L) W)) := fun W hb => wire_Frame W (h.on hb) (by omega) hc hc1
    have D2 : Hid (∀ W, Below w.heap.size w W → Calls Try.prog 41 #[.slice A n c] W (BRes (Wr.frame L) W)) := fun W hb => ref8_Frame W (h.on hb) (by omega)
    obtain ⟨Z, eZ⟩ : ∃ Z, Z = Wr.nxL L p := ⟨_, rfl⟩
    obtain ⟨a, ea⟩ : ∃ a, a = Wr.nxA L p := ⟨_, rfl⟩
    obtain ⟨er, ee⟩ : ∃ a, a = Wr.nxE L p := ⟨_, rfl⟩
    obtain ⟨F, eF⟩ : ∃ F, F = Wr.frame L := ⟨_, rfl⟩
    rw [← eZ, ← ea, ← ee] at N1 N2
    rw [← eF] at D1 D2
    clear h eZ ea ee eF
    go_enter Try.func7, Try.ntmps7
    go_wp2_with fail
    refine N1.out.mono ?_
    rintro e w1 ⟨AX, cX, rfl, b1, yx, -, -, -⟩
    have B1 := Lib.hid b1
    have YX := Lib.hid yx
    clear b1 yx N1
    go_wp2_with fail
    refine (N2.out _ B1.out).mono ?_
    rintro e w2 ⟨AY, cY, rfl, b2, yy, -, -, -⟩
    have B2 := Lib.hid (bel8 B1.out b2)
    have YX2 := Lib.hid (YX.out.on b2)
    have YY := Lib.hid yy
    clear b2 yy N2
    go_wp2_with fail
    refine wp_region_held_drew (S := (fun W => (convert 38 9 (.slice AX Z.length cX)).run Try.prog W = .ok (.string ⟨(Z).toArray⟩) W ∧ (convert 38 9 (.slice AY Z.length cY)).run Try.prog W = .ok (.string ⟨(Z).toArray⟩) W)) (by kernel_rfl) ⟨conv_bytes (YX2.out.drewN 1), conv_bytes (YY.out.drewN 1)⟩ (fun hHeld => ?_)
    try simp only [Act.put, List.setIfInBounds_toArray, List.set_cons_zero, List.set_cons_succ]
    refine wpAnyH_take (i := 0) (oi := ?o1) (v := ?v1) ?h1 ?a1 ?b1 ?c1 ?d1 ?y1 hHeld ?r1
    case h1 => (simp only [List.getElem?_toArray, List.getElem?_cons_succ, List.getElem?_cons_zero]; rfl)
    case a1 => kernel_rfl
    case b1 => kernel_rfl
    case c1 => kernel_rfl
    case y1 => exact Or.inl ⟨by rfl, (by intro w hSw; (try dsimp only at hSw); go_simp <;> (try with_reducible rfl))⟩
    case d1 => exact fun _ _ _ h => h
    try simp only [Act.put, List.setIfInBounds_toArray, List.set_cons_zero, List.set_cons_succ]
    refine wpAnyH_take (i := 3) (oi := ?o2) (v := ?v2) ?h2 ?a2 ?b2 ?c2 ?d2 ?y2 hHeld ?r2
    case h2 => (simp only [List.getElem?_toArray, List.getElem?_cons_succ, List.getElem?_cons_zero]; rfl)
    case a2 => kernel_rfl
    case b2 => kernel_rfl
    case c2 => kernel_rfl
    case y2 => exact Or.inl ⟨by rfl, (by intro w hSw; (try dsimp only at hSw); go_simp <;> (try with_reducible rfl))⟩
    case d2 => exact fun _ _ _ h => h
    try simp only [Act.put, List.setIfInBounds_toArray, List.set_cons_zero, List.set_cons_succ]
    refine wpAnyH_ready (rs := [1]) (by kernel_rfl) (by simp) (AllReadyH.cons (o := ?o3) ?h3 (fun K hK => ?r3) AllReadyH.nil)
    case h3 => (simp only [List.getElem?_toArray, List.getElem?_cons_succ, List.getElem?_cons_zero]; rfl)
    go_simp
    refine (D1.out _ (bel8 B2.out (below_dr1 (Below.refl _ _)))).mono ?_
    rintro e wa ⟨A1, c1, rfl, z1, y1, -, -, -⟩
    have K1 : Hid (Below w2.heap.size w2 wa) := bel8 (below_dr1 (Below.refl _ _)) z1
    have Y1 := Lib.hid y1
    clear z1 y1
    refine hK.out _ _ ⟨conv_bytes (YX2.out.on K1.out), conv_bytes (YY.out.on K1.out)⟩ (fun hHeld => ?_)
    clear hK K
    try simp only [Act.put, List.setIfInBounds_toArray, List.set_cons_zero, List.set_cons_succ]
    refine wpAnyH_more (S' := (fun W => ((convert 38 9 (.slice AX Z.length cX)).run Try.prog W = .ok (.string ⟨(Z).toArray⟩) W ∧ (convert 38 9 (.slice AY Z.length cY)).run Try.prog W = .ok (.string ⟨(Z).toArray⟩) W) ∧ (convert 38 9 (.slice A1 F.length c1)).run Try.prog W = .ok (.string ⟨(F).toArray⟩) W)) (fun _ h => h.1) ?_
    have hHeld := (⟨hHeld, conv_bytes (c := c1) Y1.out⟩ : _ ∧ _)
    refine wpAnyH_take (i := 2) (oi := ?o4) (v := ?v4) ?h4 ?a4 ?b4 ?c4 ?d4 ?y4 hHeld ?r4
    case h4 => (simp only [List.getElem?_toArray, List.getElem?_cons_succ, List.getElem?_cons_zero]; rfl)
    case a4 => kernel_rfl
    case b4 => kernel_rfl
    case c4 => kernel_rfl
    case y4 => exact Or.inl ⟨by rfl, (by intro w hSw; (try dsimp only at hSw); go_simp <;> (try with_reducible rfl))⟩
    case d4 => exact fun _ _ _ h => h
    try simp only [Act.put, List.setIfInBounds_toArray, List.set_cons_zero, List.set_cons_succ]
    refine wpAnyH_ready (rs := [4]) (by kernel_rfl) (by simp) (AllReadyH.cons (o := ?o5) ?h5 (fun K hK => ?r5) AllReadyH.nil)
    case h5 => (simp only [List.getElem?_toArray, List.getElem?_cons_succ, List.getElem?_cons_zero]; rfl)
    go_simp
    refine (D2.out _ (bel8 B2.out K1.out)).mono ?_
    rintro e wb ⟨A2, c2, rfl, z2, y2, -, -, -⟩
    have K2 : Hid (Below w2.heap.size w2 wb) := bel8 K1.out z2
    have Y1b := Lib.hid (Y1.out.on z2)
    have Y2 := Lib.hid y2
    clear z2 y2
    refine hK.out _ _ ⟨⟨conv_bytes (YX2.out.on K2.out), conv_bytes (YY.out.on K2.out)⟩, conv_bytes Y1b.out⟩ (fun hHeld => ?_)
    clear hK K
    try simp only [Act.put, List.setIfInBounds_toArray, List.set_cons_zero, List.set_cons_succ]
    refine wpAnyH_more (S' := (fun W => (((convert 38 9 (.slice AX Z.length cX)).run Try.prog W = .ok (.string ⟨(Z).toArray⟩) W ∧ (convert 38 9 (.slice AY Z.length cY)).run Try.prog W = .ok (.string ⟨(Z).toArray⟩) W) ∧ (convert 38 9 (.slice A1 F.length c1)).run Try.prog W = .ok (.string ⟨(F).toArray⟩) W) ∧ (convert 38 9 (.slice A2 F.length c2)).run Try.prog W = .ok (.string ⟨(F).toArray⟩) W)) (fun _ h => h.1) ?_
    have hHeld := (⟨hHeld, conv_bytes (c := c2) Y2.out⟩ : _ ∧ _)
    refine wpAnyH_take (i := 5) (oi := ?o6) (v := ?v6) ?h6 ?a6 ?b6 ?c6 ?d6 ?y6 hHeld ?r6
    case h6 => (simp only [List.getElem?_toArray, List.getElem?_cons_succ, List.getElem?_cons_zero]; rfl)
    case a6 => kernel_rfl
    case b6 => kernel_rfl
    case c6 => kernel_rfl
    case y6 => exact Or.inl ⟨by rfl, (by intro w hSw; (try dsimp only at hSw); go_simp <;> (try with_reducible rfl))⟩
    case d6 => exact fun _ _ _ h => h
    try simp only [Act.put, List.setIfInBounds_toArray, List.set_cons_zero, List.set_cons_succ]
    refine wpAnyH_take (i := 6) (oi := ?o7) (v := ?v7) ?h7 ?a7 ?b7 ?c7 ?d7 ?y7 hHeld ?r7
    case h7 => (simp only [List.getElem?_toArray, List.getElem?_cons_succ, List.getElem?_cons_zero]; rfl)
    case a7 => kernel_rfl
    case b7 => kernel_rfl
    case c7 => kernel_rfl
    case y7 => exact Or.inl ⟨by rfl, (by intro w hSw; (try dsimp only at hSw); go_simp <;> (try with_reducible rfl))⟩
    case d7 => exact fun _ _ _ h => h
    try simp only [Act.put, List.setIfInBounds_toArray, List.set_cons_zero, List.set_cons_succ]
    refine wpAnyH_take (i := 7) (oi := ?o8) (v := ?v8) ?h8 ?a8 ?b8 ?c8 ?d8 ?y8 hHeld ?r8
    case h8 => (simp only [List.getElem?_toArray, List.getElem?_cons_succ, List.getElem?_cons_zero]; rfl)
    case a8 => kernel_rfl
    case b8 => kernel_rfl
    case c8 => kernel_rfl
    case y8 => exact Or.inl ⟨by rfl, (by intro w hSw; (try dsimp only at hSw); go_simp <;> (try with_reducible rfl))⟩
    case d8 => exact fun _ _ _ h => h
    try simp only [Act.put, List.setIfInBounds_toArray, List.set_cons_zero, List.set_cons_succ]
    refine wpAnyH_take (i := 8) (oi := ?o9) (v := ?v9) ?h9 ?a9 ?b9 ?c9 ?d9 ?y9 hHeld ?r9
    case h9 => (simp only [List.getElem?_toArray, List.getElem?_cons_succ, List.getElem?_cons_zero]; rfl)
    case a9 => kernel_rfl
    case b9 => kernel_rfl
    case c9 => kernel_rfl
    case y9 => exact Or.inl ⟨by rfl, (by intro w hSw; (try dsimp only at hSw); go_simp <;> (try with_reducible rfl))⟩
    case d9 => exact fun _ _ _ h => h
    try simp only [Act.put, List.setIfInBounds_toArray, List.set_cons_zero, List.set_cons_succ]
    refine wpAnyH_take (i := 9) (oi := ?o10) (v := ?v10) ?h10 ?a10 ?b10 ?c10 ?d10 ?y10 hHeld ?r10
    case h10 => (simp only [List.getElem?_toArray, List.getElem?_cons_succ, List.getElem?_cons_zero]; rfl)
    case a10 => kernel_rfl
    case b10 => kernel_rfl
    case c10 => kernel_rfl
    case y10 => exact Or.inl ⟨by rfl, (by intro w hSw; (try dsimp only at hSw); go_simp <;> (try with_reducible rfl))⟩
    case d10 => exact fun _ _ _ h => h
    try simp only [Act.put, List.setIfInBounds_toArray, List.set_cons_zero, List.set_cons_succ]
    refine wpAnyH_take (i := 10) (oi := ?o11) (v := ?v11) ?h11 ?a11 ?b11 ?c11 ?d11 ?y11 hHeld ?r11
    case h11 => (simp only [List.getElem?_toArray, List.getElem?_cons_succ, List.getElem?_cons_zero]; rfl)
    case a11 => kernel_rfl
    case b11 => kernel_rfl
    case c11 => kernel_rfl
    case y11 => exact Or.inl ⟨by rfl, (by intro w hSw; (try dsimp only at hSw); go_simp <;> (try with_reducible rfl))⟩
    case d11 => exact fun _ _ _ h => h
    try simp only [Act.put, List.setIfInBounds_toArray, List.set_cons_zero, List.set_cons_succ]
    refine wpAnyH_take (i := 11) (oi := ?o12) (v := ?v12) ?h12 ?a12 ?b12 ?c12 ?d12 ?y12 hHeld ?r12
    case h12 => (simp only [List.getElem?_toArray, List.getElem?_cons_succ, List.getElem?_cons_zero]; rfl)
    case a12 => kernel_rfl
    case b12 => kernel_rfl
    case c12 => kernel_rfl
    case y12 => exact Or.inl ⟨by rfl, (by intro w hSw; (try dsimp only at hSw); go_simp <;> (try with_reducible rfl))⟩
    case d12 => exact fun _ _ _ h => h
    try simp only [Act.put, List.setIfInBounds_toArray, List.set_cons_zero, List.set_cons_succ]
    refine wpAnyH_take (i := 12) (oi := ?o13) (v := ?v13) ?h13 ?a13 ?b13 ?c13 ?d13 ?y13 hHeld ?r13
    case h13 => (simp only [List.getElem?_toArray, List.getElem?_cons_succ, List.getElem?_cons_zero]; rfl)
    case a13 => kernel_rfl
    case b13 => kernel_rfl
    case c13 => kernel_rfl
    case y13 => exact Or.inl ⟨by rfl, (by intro w hSw; (try dsimp only at hSw); go_simp <;> (try with_reducible rfl))⟩
    case d13 => exact fun _ _ _ h => h
    try simp only [Act.put, List.setIfInBounds_toArray, List.set_cons_zero, List.set_cons_succ]
    refine wpAnyH_take (i := 13) (oi := ?o14) (v := ?v14) ?h14 ?a14 ?b14 ?c14 ?d14 ?y14 hHeld ?r14
    case h14 => (simp only [List.getElem?_toArray, List.getElem?_cons_succ, List.getElem?_cons_zero]; rfl)
    case a14 => kernel_rfl
    case b14 => kernel_rfl
    case c14 => kernel_rfl
    case y14 => exact Or.inl ⟨by rfl, (by intro w hSw; (try dsimp only at hSw); go_simp <;> (try with_reducible rfl))⟩
    case d14 => exact fun _ _ _ h => h
    try simp only [Act.put, List.setIfInBounds_toArray, List.set_cons_zero, List.set_cons_succ]
    refine wpAnyH_take (i := 14) (oi := ?o15) (v := ?v15) ?h15 ?a15 ?b15 ?c15 ?d15 ?y15 hHeld ?r15
    case h15 => (simp only [List.getElem?_toArray, List.getElem?_cons_succ, List.getElem?_cons_zero]; rfl)
    case a15 => kernel_rfl
    case b15 => kernel_rfl
    case c15 => kernel_rfl
    case y15 => exact Or.inl ⟨by rfl, (by intro w hSw; (try dsimp only at hSw); go_simp <;> (try with_reducible rfl))⟩
    case d15 => exact fun _ _ _ h => h
    try simp only [Act.put, List.setIfInBounds_toArray, List.set_cons_zero, List.set_cons_succ]
    refine wpAnyH_take (i := 15) (oi := ?o16) (v := ?v16) ?h16 ?a16 ?b16 ?c16 ?d16 ?y16 hHeld ?r16
    case h16 => (simp only [List.getElem?_toArray, List.getElem?_cons_succ, List.getElem?_cons_zero]; rfl)
    case a16 => kernel_rfl
    case b16 => kernel_rfl
    case c16 => kernel_rfl
    case y16 => exact Or.inl ⟨by rfl, (by intro w hSw; (try dsimp only at hSw); go_simp <;> (try with_reducible rfl))⟩
    case d16 => exact fun _ _ _ h => h
    try simp only [Act.put, List.setIfInBounds_toArray, List.set_cons_zero, List.set_cons_succ]
    refine wpAnyH_take (i := 16) (oi := ?o17) (v := ?v17) ?h17 ?a17 ?b17 ?c17 ?d17 ?y17 hHeld ?r17
    case h17 => (simp only [List.getElem?_toArray, List.getElem?_cons_succ, List.getElem?_cons_zero]; rfl)
    case a17 => kernel_rfl
    case b17 => kernel_rfl
    case c17 => kernel_rfl
    case y17 => exact Or.inl ⟨by rfl, (by intro w hSw; (try dsimp only at hSw); go_simp <;> (try with_reducible rfl))⟩
    case d17 => exact fun _ _ _ h => h
    try simp only [Act.put, List.setIfInBounds_toArray, List.set_cons_zero, List.set_cons_succ]
    refine wpAnyH_take (i := 17) (oi := ?o18) (v := ?v18) ?h18 ?a18 ?b18 ?c18 ?d18 ?y18 hHeld ?r18
    case h18 => (simp only [List.getElem?_toArray, List.getElem?_cons_succ, List.getElem?_cons_zero]; rfl)
    case a18 => kernel_rfl
    case b18 => kernel_rfl
    case c18 => kernel_rfl
    case y18 => exact Or.inl ⟨by rfl, (by intro w hSw; (try dsimp only at hSw); go_simp <;> (try with_reducible rfl))⟩
    case d18 => exact fun _ _ _ h => h
    try simp only [Act.put, List.setIfInBounds_toArray, List.set_cons_zero, List.set_cons_succ]
    refine wpAnyH_take (i := 18) (oi := ?o19) (v := ?v19) ?h19 ?a19 ?b19 ?c19 ?d19 ?y19 hHeld ?r19
    case h19 => (simp only [List.getElem?_toArray, List.getElem?_cons_succ, List.getElem?_cons_zero]; rfl)
    case a19 => kernel_rfl
    case b19 => kernel_rfl
    case c19 => kernel_rfl
    case y19 => exact Or.inl ⟨by rfl, (by intro w hSw; (try dsimp only at hSw); go_simp <;> (try with_reducible rfl))⟩
    case d19 => exact fun _ _ _ h => h
    try simp only [Act.put, List.setIfInBounds_toArray, List.set_cons_zero, List.set_cons_succ]
    refine wpAnyH_take (i := 19) (oi := ?o20) (v := ?v20) ?h20 ?a20 ?b20 ?c20 ?d20 ?y20 hHeld ?r20
    case h20 => (simp only [List.getElem?_toArray, List.getElem?_cons_succ, List.getElem?_cons_zero]; rfl)
    case a20 => kernel_rfl
    case b20 => kernel_rfl
    case c20 => kernel_rfl
    case y20 => exact Or.inl ⟨by rfl, (by intro w hSw; (try dsimp only at hSw); go_simp <;> (try with_reducible rfl))⟩
    case d20 => exact fun _ _ _ h => h
    try simp only [Act.put, List.setIfInBounds_toArray, List.set_cons_zero, List.set_cons_succ]
    refine wpAnyH_take (i := 20) (oi := ?o21) (v := ?v21) ?h21 ?a21 ?b21 ?c21 ?d21 ?y21 hHeld ?r21
    case h21 => (simp only [List.getElem?_toArray, List.getElem?_cons_succ, List.getElem?_cons_zero]; rfl)
    case a21 => kernel_rfl
    case b21 => kernel_rfl
    case c21 => kernel_rfl
    case y21 => exact Or.inl ⟨by rfl, (by intro w hSw; (try dsimp only at hSw); go_simp <;> (try with_reducible rfl))⟩
    case d21 => exact fun _ _ _ h => h
    try simp only [Act.put, List.setIfInBounds_toArray, List.set_cons_zero, List.set_cons_succ]
    refine wpAnyH_take (i := 21) (oi := ?o22) (v := ?v22) ?h22 ?a22 ?b22 ?c22 ?d22 ?y22 hHeld ?r22
    case h22 => (simp only [List.getElem?_toArray, List.getElem?_cons_succ, List.getElem?_cons_zero]; rfl)
    case a22 => kernel_rfl
    case b22 => kernel_rfl
    case c22 => kernel_rfl
    case y22 => exact Or.inl ⟨by rfl, (by intro w hSw; (try dsimp only at hSw); go_simp <;> (try with_reducible rfl))⟩
    case d22 => exact fun _ _ _ h => h
    try simp only [Act.put, List.setIfInBounds_toArray, List.set_cons_zero, List.set_cons_succ]
    refine wpAnyH_take (i := 22) (oi := ?o23) (v := ?v23) ?h23 ?a23 ?b23 ?c23 ?d23 ?y23 hHeld ?r23
    case h23 => (simp only [List.getElem?_toArray, List.getElem?_cons_succ, List.getElem?_cons_zero]; rfl)
    case a23 => kernel_rfl
    case b23 => kernel_rfl
    case c23 => kernel_rfl
    case y23 => exact Or.inl ⟨by rfl, (by intro w hSw; (try dsimp only at hSw); go_simp <;> (try with_reducible rfl))⟩
    case d23 => exact fun _ _ _ h => h
    try simp only [Act.put, List.setIfInBounds_toArray, List.set_cons_zero, List.set_cons_succ]
    refine wpAnyH_take (i := 23) (oi := ?o24) (v := ?v24) ?h24 ?a24 ?b24 ?c24 ?d24 ?y24 hHeld ?r24
    case h24 => (simp only [List.getElem?_toArray, List.getElem?_cons_succ, List.getElem?_cons_zero]; rfl)
    case a24 => kernel_rfl
    case b24 => kernel_rfl
    case c24 => kernel_rfl
    case y24 => exact Or.inl ⟨by rfl, (by intro w hSw; (try dsimp only at hSw); go_simp <;> (try with_reducible rfl))⟩
    case d24 => exact fun _ _ _ h => h
    try simp only [Act.put, List.setIfInBounds_toArray, List.set_cons_zero, List.set_cons_succ]
    refine wpAnyH_take (i := 24) (oi := ?o25) (v := ?v25) ?h25 ?a25 ?b25 ?c25 ?d25 ?y25 hHeld ?r25
    case h25 => (simp only [List.getElem?_toArray, List.getElem?_cons_succ, List.getElem?_cons_zero]; rfl)
    case a25 => kernel_rfl
    case b25 => kernel_rfl
    case c25 => kernel_rfl
    case y25 => exact Or.inl ⟨by rfl, (by intro w hSw; (try dsimp only at hSw); go_simp <;> (try with_reducible rfl))⟩
    case d25 => exact fun _ _ _ h => h
    try simp only [Act.put, List.setIfInBounds_toArray, List.set_cons_zero, List.set_cons_succ]
    refine wpAnyH_ready (rs := [25]) (by kernel_rfl) (by simp) (AllReadyH.cons (o := ?o26) ?h26 (fun K hK => ?r26) AllReadyH.nil)
    case h26 => (simp only [List.getElem?_toArray, List.getElem?_cons_succ, List.getElem?_cons_zero]; rfl)
    go_simp
    refine (AW.out _).mono ?_
    rintro e wc ⟨rfl, z3⟩
    have K3 : Hid (Below w2.heap.size w2 wc) := bel8 K2.out z3
    have X3 : Hid (Below wb.heap.size wb wc) := z3
    clear z3
    refine hK.out _ _ ⟨⟨⟨conv_bytes (YX2.out.on K3.out), conv_bytes (YY.out.on K3.out)⟩, conv_bytes (Y1b.out.on X3.out)⟩, conv_bytes (Y2.out.on X3.out)⟩ (fun hHeld => ?_)
    clear hK K
    try simp only [Act.put, List.setIfInBounds_toArray, List.set_cons_zero, List.set_cons_succ]
    refine wpAnyH_take (i := 26) (oi := ?o27) (v := ?v27) ?h27 ?a27 ?b27 ?c27 ?d27 ?y27 hHeld ?r27
    case h27 => (simp only [List.getElem?_toArray, List.getElem?_cons_succ, List.getElem?_cons_zero]; rfl)
    case a27 => kernel_rfl
    case b27 => kernel_rfl
    case c27 => kernel_rfl
    case y27 => exact Or.inl ⟨by rfl, (by intro w hSw; (try dsimp only at hSw); go_simp <;> (try with_reducible rfl))⟩
    case d27 => exact fun _ _ _ h => h
    try simp only [Act.put, List.setIfInBounds_toArray, List.set_cons_zero, List.set_cons_succ]
    refine wpAnyH_take (i := 27) (oi := ?o28) (v := ?v28) ?h28 ?a28 ?b28 ?c28 ?d28 ?y28 hHeld ?r28
    case h28 => (simp only [List.getElem?_toArray, List.getElem?_cons_succ, List.getElem?_cons_zero]; rfl)
    case a28 => kernel_rfl
    case b28 => kernel_rfl
    case c28 => kernel_rfl
    case y28 => exact Or.inl ⟨by rfl, (by intro w hSw; (try dsimp only at hSw); go_simp <;> (try with_reducible rfl))⟩
    case d28 => exact fun _ _ _ h => h
    try simp only [Act.put, List.setIfInBounds_toArray, List.set_cons_zero, List.set_cons_succ]
    refine wpAnyH_done (by kernel_rfl) ?_ _
    go_wp2_with fail
    go_ret
    exact ⟨rfl, bel8 B2.out K3.out⟩
  · have hn1 : (20000 : Int) < (n : Int) := by omega
    go_enter Try.func7, Try.ntmps7
    go_wp2_with fail
    refine (AW.out _).mono ?_
    rintro e w1 ⟨rfl, b1⟩
    have B1 := Lib.hid b1
    clear b1
    go_wp2_with fail
    go_ret
    exact ⟨rfl, B1.out⟩

/-! ### The row's step, the row -/
set_option maxRecDepth 100000 in
theorem lifted (os : Os) (started : os.Started) (H : Type) (enc : TypeId × Value → H) :
    ReturnsInHanded {} Try.checked os 7 .any (Rows.wireFramesSpec.pre6 enc Try.prog Try.f7 Rows.wireFramesRow.domain false) (Rows.wireFramesSpec.post enc Try.prog Try.f7 false true false false) := by
  refine returnsInHanded_of_change (C := Try.checked) own started (by kernel_rfl) Try.func7
    (ChangeSpec.witness6 (enc := enc) (C := Try.checked) false ⟨#[], #[.slice none 0 0, .int .i64 0], []⟩ 8 (by kernel_rfl) (by kernel_rfl) (by kernel_rfl) (by kernel_rfl)) ?_
  intro W base args ds gs before hval0 hW hcnd _
  skip
  have hval : ∀ (j : Nat) t v, Try.f7.params[j]? = some t → args[j]? = some v → Value.okWide Try.prog W .any base t v := hval0
  have hW' := hW
  obtain ⟨p, q, hA0, hV, rfl, hfz, hnd⟩ := hW
  have hA : DataW.TrodAll enc Try.prog W 0 (fun _ => true) true Try.f7.params.toList args.toList ds p := hA0
  rw [Try.params7] at hA hval

  obtain ⟨v0, vs0, d0, ds0, p0, q0, hargs, rfl, rfl, h0, r0⟩ := trodAll_cons hA
  obtain ⟨v1, vs1, d1, ds1, p1, q1, rfl, rfl, rfl, h1, r1⟩ := trodAll_cons r0
  obtain ⟨rfl, rfl, rfl⟩ := trodAll_nil r1
  obtain rfl : args = #[v0, v1] := by cases args; simp_all
  obtain ⟨rfl, rfl⟩ := trodVars_none hV
  obtain ⟨B0, l0, q0', rfl⟩ := okWide_slice Try.underlying38 (hval 0 38 v0 rfl rfl)
  have k0 := h0
  have lt0 : ∀ x ∈ p0, x.block < W.heap.size := by
    obtain ⟨m, hm⟩ := k0
    exact DataW.trod_lt m _ _ _ hm
  obtain ⟨D0, hD0⟩ := sl_opened (e := (.int .u8)) (t := 38) (by kernel_rfl) h0
  obtain ⟨A0, n0, c0, L0, e0, x0, y0, w0⟩ := byts_of_rd hD0
  obtain ⟨rfl, rfl, rfl⟩ : B0 = A0 ∧ l0 = n0 ∧ q0' = c0 := by simpa using e0
  obtain ⟨a1, rfl, rfl, rfl, w1⟩ := open_int Try.underlying3 (hval 1 3 v1 rfl rfl) h1
  have b1 := bounds_i64 w1
  clear hA0 hval0
  refine (walk _ _ _ L0 a1 x0 y0 b1.1 b1.2 W w0).mono fun e W' ⟨he, bel⟩ => ?_
  subst he
  exact ⟨_, rfl, _, _, _, [], _, [], hW', trodAll_mk1 (shut_bool Try.underlying4 _), (trodAll_cons_mk (Below.trod laidOut (by kernel_rfl) (of_decide_eq_true (by kernel_rfl)) k0 bel lt0) (trodAll_cons_mk (shut_int Try.underlying3 w1) trodAll_mk0)), rfl, bel.frame _, fun h => by cases h⟩

theorem over : Rows.WireFramesSaid :=
  OpenClaim.holds_of_wide 7 Try.f7 rfl rfl rfl rfl rfl rfl rfl ⟨rfl, rfl, rfl, rfl, rfl⟩ rfl rfl rfl rfl rfl (by kernel_rfl) Try.func7 (by kernel_rfl)
    (of_decide_eq_true (by kernel_rfl)) (by unfold Func.isWrapper; first | (rw [if_pos (by decide +kernel)]; kernel_rfl) | (rw [if_neg (by decide +kernel)]; exact ⟨rfl, rfl⟩))
    (fun os started H enc _ => lifted os started H enc)
/-- The statement. -/
theorem proved : Rows.WireFramesSaid := over
end Go.Proofs.Ytdleleanaihcoaa.wireFrames
