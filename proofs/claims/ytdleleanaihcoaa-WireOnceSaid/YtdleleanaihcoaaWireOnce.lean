/- WireOnce (P8.7): what was read without an error, written again, is the bytes that were read, for any at most 20000 bytes and any at most 200 calls, up to the first one with an error; for others, and besides, the chapter's examples hold: the law returns true. No condition. -/
import Derived.Test.YtdleleanaihcoaaOwn
import Derived.Test.YtdleleanaihcoaaWireR
import Derived.Test.YtdleleanaihcoaaHeldMore
namespace Go.Proofs.Ytdleleanaihcoaa.wireOnce
set_option maxRecDepth 20000
open Go.RowKit Go.ChangeShapes Go.WideShapes Go.ChangeAt Go.WideElems
open Go.ChangeMaps (open_string shut_string)
set_option linter.unusedVariables false
set_option linter.unusedSimpArgs false

set_option maxHeartbeats 4000000 in
theorem walk (A : Option Addr) (n c : Nat) (L : List UInt8) (B : Option Addr) (m' c' : Nat) (K : List (Int × Int)) (hc : n ≤ c) (hc1 : c ≤ 9223372036854775807) (hd : m' ≤ c') (hd1 : c' ≤ 9223372036854775807) (w : World) (h : Byts w w.heap.size A n L) (hK : Aks w (· < w.heap.size) B m' K) :
    Calls Try.prog 6 #[.slice A n c, .slice B m' c'] w fun e w' => e = .returned (.bool true) ∧ Below w.heap.size w w' := by
  have AW := Lib.hid law8_awake
  have n1 : (n : Int) ≤ 9223372036854775807 := by omega
  have n2 : (m' : Int) ≤ 9223372036854775807 := by omega
  by_cases hn : n ≤ 20000 ∧ m' ≤ 200
  · obtain ⟨hn, hm⟩ := hn
    have g1 : decide ((20000 : Int) < (n : Int)) = false := by simp; omega
    have g2 : decide ((200 : Int) < (m' : Int)) = false := by simp; omega
    have H := Lib.hid h
    have HK := Lib.hid hK
    clear h hK
    go_enter Try.func6, Try.ntmps6
    go_wp2_with fail
    refine (wire_NewReader w H.out (by omega) hc hc1).mono ?_
    rintro e w1 ⟨p, fp, rfl, h1, b1, f1⟩
    have H1 := Lib.hid h1
    have B1 := Lib.hid b1
    have F1 := Lib.hid f1
    clear h1 b1 f1
    go_wp2_with fail
    refine (wire_NewWriter w1).mono ?_
    rintro e w2 ⟨q, fq, rfl, h2, b2, f2⟩
    have J0 : Hid (KK w p q w2.heap.size w2 ⟨L, 0⟩ []) := ⟨bel8 B1.out b2, Nat.le_refl _, fp, fq, H1.out.on b2, h2, fun b hb e => by have := H1.out.lt b hb; have := f2 b e; omega, F1.out, fun b hb => Nat.le_trans B1.out.size (f2 b hb), h2.lt⟩
    clear h2 b2 f2
    go_wp2_with fail
    have L0 : Hid ([] ++ L = L) := rfl
    go_loopw [31] (fun i W => ∃ (k N : Nat) (R M : List UInt8), k ≤ m' ∧ i = .int .i64 (k : Int) ∧ Hid (KK w p q N W ⟨R, 0⟩ M) ∧ Hid (M ++ R = L)) (fun i _ => m' - (intOf i).toNat)
    case atStart => exact ⟨0, w2.heap.size, L, [], by omega, rfl, J0, L0⟩
    case round =>
      obtain ⟨k, N, R, M, hk, rfl, HJ, HM⟩ := hrel
      by_cases hlt : k < m'
      · obtain ⟨ad, kd, m, rfl, hP, hx, y0, y1, ⟨k0, k1⟩, m0, m1⟩ := HK.out.at_ hlt
        have HC : Hid (∀ W, Below w.heap.size w W → W.cell? (ad.add (k * 2)) = some (.int .i64 kd) ∧ W.cell? ⟨(ad.add (k * 2)).block, (ad.add (k * 2)).off + 1, none⟩ = some (.int .i64 m)) := fun W hb => ⟨(hb.cell (p := ad.add (k * 2)) (by rw [block_of_add]; exact hP)).trans y0, (hb.cell (p := ⟨(ad.add (k * 2)).block, (ad.add (k * 2)).off + 1, none⟩) (by show (ad.add (k * 2)).block < _; rw [block_of_add]; exact hP)).trans y1⟩
        clear y0 y1 hx
        go_wp2_with fail
        refine (HJ.out.one fun fp h => wire_Left _ h).mono ?_
        rw [show Wr.left ⟨R, 0⟩ = (R.length : Nat) from rfl]
        rintro e w3 ⟨rfl, b3⟩
        have J3 := Lib.hid (HJ.out.on b3)
        clear b3
        obtain ⟨d0, d1⟩ := HC.out w3 J3.out.1
        by_cases e1 : kd = 1
        · have b1 : (kd == 1) = true := by rw [beq_iff_eq]; exact e1
          obtain ⟨s2, es⟩ : ∃ s2, s2 = (Wr.rdI ⟨R, 0⟩).2 := ⟨_, rfl⟩
          obtain ⟨vv, ev⟩ : ∃ vv : Int, vv = (Wr.rdI ⟨R, 0⟩).1 := ⟨_, rfl⟩
          obtain ⟨X, eX⟩ : ∃ X : It, X = ⟨kd, vv, 0, ⟨#[]⟩, [], none, 0⟩ := ⟨_, rfl⟩
          have XK : Hid (X.k = kd) := by rw [eX]; rfl
          have XB : Hid (s2.err = 0 → True ∧ True) := fun _ => ⟨trivial, trivial⟩
          have hbd := Wr.rdI_bd ⟨R, 0⟩
          rw [← ev] at hbd
          have v0 := hbd.1
          have v1 := hbd.2
          have XR : Hid (s2.err = 0 → R = Wr.itB X ++ s2.rest ∧ Wr.little 20000 X = true) := fun h => by
            rw [es] at h ⊢
            refine ⟨?_, by rw [eX]; rfl⟩
            have := Wr.rdI_once (s := ⟨R, 0⟩) rfl h
            rw [eX]
            show R = (if kd = 1 then Wr.encI vv else _) ++ _
            rw [if_pos e1, ev]; exact this
          have XPA : Hid (∀ W : World, s2.err = 0 → ItOk W (fun b => N ≤ b) X) := fun W h => by rw [eX]; exact ItOk.plain k0 k1 v0 v1 (by omega) (by decide)
          have BX : Hid (Below w3.heap.size w3 (w3.alloc (.cells #[.int .i64 kd, .int .i64 0, .int .u64 0, .string ⟨#[]⟩, .slice none 0 0] 33))) := (Below.refl _ _).alloc (Nat.le_refl _) _
          have U := Lib.hid (J3.out.read BX.out fun fp h => wire_RInt _ h)
          rw [← es, ← ev] at U
          have EX := Lib.hid eX
          clear es ev eX e1
          go_wp2_with fail
          refine U.out.mono ?_
          rintro e w4 ⟨rfl, md⟩
          have hbx : w4.heap[w3.heap.size]? = some (.cells #[.int .i64 kd, .int .i64 0, .int .u64 0, .string ⟨#[]⟩, .slice none 0 0] 33 (0, 0)) := (md.2.1 _ (Nat.le_refl _) (by rw [size_alloc]; exact Nat.lt_succ_self _)).trans (heap_alloc_new w3 _)
          have cx := cell5 (i := 1) hbx rfl
          have fx := free5 (i := 1) hbx
          have JT := Lib.hid (md.2.2 w3.heap.size 1 (.int .i64 vv) (Nat.le_refl _) (by rw [size_alloc]; exact Nat.lt_succ_self _))
          have HB5 : Hid ((w4.setCell ⟨w3.heap.size, 1, none⟩ (.int .i64 vv)).heap[w3.heap.size]? = some (.cells #[.int .i64 kd, .int .i64 X.n, .int .u64 (X.u : Nat), .string X.s, .slice X.A X.l.length X.c] 33 (0, 0))) := by
            have := set5 (i := 1) (u := .int .i64 vv) hbx
            rw [EX.out]
            exact this
          have XP := Lib.hid (XPA.out (w4.setCell ⟨w3.heap.size, 1, none⟩ (.int .i64 vv)))
          clear md hbx
          go_wp2_with fail
          refine (JT.out.one fun fp h => wire_Err _ h).mono ?_
          rintro e w6 ⟨rfl, b6⟩
          have J6 := Lib.hid (JT.out.on b6)
          have hb6 : w6.heap[w3.heap.size]? = some (.cells #[.int .i64 kd, .int .i64 X.n, .int .u64 (X.u : Nat), .string X.s, .slice X.A X.l.length X.c] 33 (0, 0)) := (b6.block _ (lt_of_block HB5.out)).trans HB5.out
          have c60 := cell5 (i := 0) hb6 rfl
          have c61 := cell5 (i := 1) hb6 rfl
          have c62 := cell5 (i := 2) hb6 rfl
          have c63 := cell5 (i := 3) hb6 rfl
          have c64 := cell5 (i := 4) hb6 rfl
          have XP6 : Hid (s2.err = 0 → ItOk w6 (fun b => N ≤ b) X) := fun h => (XP.out h).turn (fq := noB) (Turns.of_below b6) fun _ _ e => e.elim
          clear b6 hb6 HB5 XP
          by_cases he : s2.err = 0
          · have he1 : (s2.err == 0) = true := by rw [beq_iff_eq]; exact he
            have he2 : (s2.err != 0) = false := by rw [bne, he1]; rfl
            obtain ⟨xb1, xb2⟩ := XB.out he
            obtain ⟨xr, xl1⟩ := XR.out he
            have ok6 := XP6.out he
            have XO := Lib.hid ok6
            have hML : M.length ≤ 20000 ∧ (M ++ Wr.itB X).length ≤ 20000 := by
              have e := congrArg List.length HM.out
              rw [List.length_append, xr, List.length_append] at e
              have e2 := H.out.len
              rw [List.length_append]; omega
            obtain ⟨hm1, hm2⟩ := hML
            have EX : Hid (X.k = kd) := XK.out
            have XV : Hid (s2 = ⟨s2.rest, 0⟩) := by show _ = _; cases s2; cases he; rfl
            have HM2 : Hid ((M ++ Wr.itB X) ++ s2.rest = L) := by show _ = _; rw [List.append_assoc, ← xr]; exact HM.out
            have I7 := Lib.hid (its_new (t := 33) w6 XO.out J6.out.2.1)
            rw [XK.out] at I7
            have B7 : Hid (Below w6.heap.size w6 (w6.alloc (.cells #[.int .i64 kd, .int .i64 X.n, .int .u64 (X.u : Nat), .string X.s, .slice X.A X.l.length X.c] 33))) := (Below.refl _ _).alloc (Nat.le_refl _) _
            have J7 := Lib.hid (J6.out.on B7.out)
            have xn0 := ok6.n0
            have xn1 := ok6.n1
            have xu1 : X.u ≤ 18446744073709551615 := by have := ok6.u1; omega
            clear xr ok6 he XP6
            go_wp2_with fail
            refine (J7.out.write fun fq h hN => law8_write _ h (I7.out.bound fun b hb e => by have := hN b e; omega) (by omega) (by omega : 1 ≤ 9223372036854775807) (by omega) (by omega) (by rw [List.all_cons, List.all_nil, Bool.and_true]; exact xl1)).mono ?_
            rw [show Wr.itsB [X] = Wr.itB X from List.append_nil _]
            rintro e w8 ⟨rfl, j8⟩
            obtain ⟨G, eG⟩ : ∃ G, G = M ++ Wr.itB X := ⟨_, rfl⟩
            rw [← eG] at j8 hm2
            have J8 := Lib.hid j8
            have HG : Hid (G ++ s2.rest = L) := by rw [eG]; exact HM2.out
            have hgl : (n : Int) - ((s2.rest.length : Nat) : Int) = (G.length : Int) := by
              have e := congrArg List.length HG.out
              rw [List.length_append, H.out.len] at e; omega
            have hgn : (G.length : Int) ≤ (n : Int) := by omega
            clear j8 eG c60 c61 c62 c63 c64 d0 d1
            go_wp2_with fail
            refine (J8.out.one fun fp h => wire_Left _ h).mono ?_
            rw [XV.out, show Wr.left ⟨s2.rest, 0⟩ = (s2.rest.length : Nat) from rfl]
            rintro e w9 ⟨rfl, b9⟩
            rw [XV.out] at J8
            have JR := Lib.hid (J8.out.on b9)
            clear b9
            have hg0 : (0 : Int) ≤ (G.length : Int) := by omega
            have yg := (H.out.on JR.out.1).head (X := G) (Z := s2.rest) HG.out.symm
            have YG := Lib.hid yg
            have hgc : (G.length : Int) ≤ (c : Int) := by omega
            have hgc2 : G.length ≤ c := by omega
            have gd1 : decide ((G.length : Int) < 0) = false := by simp
            have gd3 : ¬ n < G.length := by omega
            have gd4 : G.length ≤ n := by omega
            clear yg
            go_wp2_with fail
            refine wp_region_held_drew (S := (fun W => (convert 38 9 (.slice A G.length c)).run Try.prog W = .ok (.string ⟨(G).toArray⟩) W)) (by kernel_rfl) (conv_bytes (YG.out.drewN 1)) (fun hHeld => ?_)
            try simp only [Act.put, List.setIfInBounds_toArray, List.set_cons_zero, List.set_cons_succ]
            refine wpAnyH_take (i := 0) (oi := ?o19) (v := ?v19) ?h19 ?a19 ?b19 ?c19 ?d19 ?y19 hHeld ?r19
            case h19 => (simp only [List.getElem?_toArray, List.getElem?_cons_succ, List.getElem?_cons_zero]; rfl)
            case a19 => kernel_rfl
            case b19 => kernel_rfl
            case c19 => kernel_rfl
            case y19 => exact Or.inl ⟨by rfl, (by intro w hSw; (try dsimp only at hSw); go_simp <;> (try with_reducible rfl))⟩
            case d19 => exact fun _ _ _ h => h
            try simp only [Act.put, List.setIfInBounds_toArray, List.set_cons_zero, List.set_cons_succ]
            refine wpAnyH_take (i := 1) (oi := ?o20) (v := ?v20) ?h20 ?a20 ?b20 ?c20 ?d20 ?y20 hHeld ?r20
            case h20 => (simp only [List.getElem?_toArray, List.getElem?_cons_succ, List.getElem?_cons_zero]; rfl)
            case a20 => kernel_rfl
            case b20 => kernel_rfl
            case c20 => kernel_rfl
            case y20 => exact Or.inl ⟨by rfl, (by intro w hSw; (try dsimp only at hSw); go_simp <;> (try with_reducible rfl))⟩
            case d20 => exact fun _ _ _ h => h
            try simp only [Act.put, List.setIfInBounds_toArray, List.set_cons_zero, List.set_cons_succ]
            refine wpAnyH_take (i := 2) (oi := ?o21) (v := ?v21) ?h21 ?a21 ?b21 ?c21 ?d21 ?y21 hHeld ?r21
            case h21 => (simp only [List.getElem?_toArray, List.getElem?_cons_succ, List.getElem?_cons_zero]; rfl)
            case a21 => kernel_rfl
            case b21 => kernel_rfl
            case c21 => kernel_rfl
            case y21 => exact Or.inl ⟨by rfl, (by intro w hSw; (try dsimp only at hSw); go_simp <;> (try with_reducible rfl))⟩
            case d21 => exact fun _ _ _ h => h
            try simp only [Act.put, List.setIfInBounds_toArray, List.set_cons_zero, List.set_cons_succ]
            refine wpAnyH_take (i := 3) (oi := ?o22) (v := ?v22) ?h22 ?a22 ?b22 ?c22 ?d22 ?y22 hHeld ?r22
            case h22 => (simp only [List.getElem?_toArray, List.getElem?_cons_succ, List.getElem?_cons_zero]; rfl)
            case a22 => kernel_rfl
            case b22 => kernel_rfl
            case c22 => kernel_rfl
            case y22 => exact Or.inl ⟨by rfl, (by intro w hSw; (try dsimp only at hSw); go_simp <;> (try with_reducible rfl))⟩
            case d22 => exact fun _ _ _ h => h
            try simp only [Act.put, List.setIfInBounds_toArray, List.set_cons_zero, List.set_cons_succ]
            refine wpAnyH_take (i := 4) (oi := ?o23) (v := ?v23) ?h23 ?a23 ?b23 ?c23 ?d23 ?y23 hHeld ?r23
            case h23 => (simp only [List.getElem?_toArray, List.getElem?_cons_succ, List.getElem?_cons_zero]; rfl)
            case a23 => kernel_rfl
            case b23 => kernel_rfl
            case c23 => kernel_rfl
            case y23 => exact Or.inl ⟨by rfl, (by intro w hSw; (try dsimp only at hSw); go_simp <;> (try with_reducible rfl))⟩
            case d23 => exact fun _ _ _ h => h
            try simp only [Act.put, List.setIfInBounds_toArray, List.set_cons_zero, List.set_cons_succ]
            refine wpAnyH_take (i := 5) (oi := ?o24) (v := ?v24) ?h24 ?a24 ?b24 ?c24 ?d24 ?y24 hHeld ?r24
            case h24 => (simp only [List.getElem?_toArray, List.getElem?_cons_succ, List.getElem?_cons_zero]; rfl)
            case a24 => kernel_rfl
            case b24 => kernel_rfl
            case c24 => kernel_rfl
            case y24 => exact Or.inl ⟨by rfl, (by intro w hSw; (try dsimp only at hSw); go_simp <;> (try with_reducible rfl))⟩
            case d24 => exact fun _ _ _ h => h
            try simp only [Act.put, List.setIfInBounds_toArray, List.set_cons_zero, List.set_cons_succ]
            refine wpAnyH_take (i := 6) (oi := ?o25) (v := ?v25) ?h25 ?a25 ?b25 ?c25 ?d25 ?y25 hHeld ?r25
            case h25 => (simp only [List.getElem?_toArray, List.getElem?_cons_succ, List.getElem?_cons_zero]; rfl)
            case a25 => kernel_rfl
            case b25 => kernel_rfl
            case c25 => kernel_rfl
            case y25 => exact Or.inl ⟨by rfl, (by intro w hSw; (try dsimp only at hSw); go_simp <;> (try with_reducible rfl))⟩
            case d25 => exact fun _ _ _ h => h
            try simp only [Act.put, List.setIfInBounds_toArray, List.set_cons_zero, List.set_cons_succ]
            refine wpAnyH_take (i := 7) (oi := ?o26) (v := ?v26) ?h26 ?a26 ?b26 ?c26 ?d26 ?y26 hHeld ?r26
            case h26 => (simp only [List.getElem?_toArray, List.getElem?_cons_succ, List.getElem?_cons_zero]; rfl)
            case a26 => kernel_rfl
            case b26 => kernel_rfl
            case c26 => kernel_rfl
            case y26 => exact Or.inl ⟨by rfl, (by intro w hSw; (try dsimp only at hSw); go_simp <;> (try with_reducible rfl))⟩
            case d26 => exact fun _ _ _ h => h
            try simp only [Act.put, List.setIfInBounds_toArray, List.set_cons_zero, List.set_cons_succ]
            refine wpAnyH_take (i := 8) (oi := ?o27) (v := ?v27) ?h27 ?a27 ?b27 ?c27 ?d27 ?y27 hHeld ?r27
            case h27 => (simp only [List.getElem?_toArray, List.getElem?_cons_succ, List.getElem?_cons_zero]; rfl)
            case a27 => kernel_rfl
            case b27 => kernel_rfl
            case c27 => kernel_rfl
            case y27 => exact Or.inl ⟨by rfl, (by intro w hSw; (try dsimp only at hSw); go_simp <;> (try with_reducible rfl))⟩
            case d27 => exact fun _ _ _ h => h
            try simp only [Act.put, List.setIfInBounds_toArray, List.set_cons_zero, List.set_cons_succ]
            refine wpAnyH_take (i := 9) (oi := ?o28) (v := ?v28) ?h28 ?a28 ?b28 ?c28 ?d28 ?y28 hHeld ?r28
            case h28 => (simp only [List.getElem?_toArray, List.getElem?_cons_succ, List.getElem?_cons_zero]; rfl)
            case a28 => kernel_rfl
            case b28 => kernel_rfl
            case c28 => kernel_rfl
            case y28 => exact Or.inl ⟨by rfl, (by intro w hSw; (try dsimp only at hSw); go_simp <;> (try with_reducible rfl))⟩
            case d28 => exact fun _ _ _ h => h
            try simp only [Act.put, List.setIfInBounds_toArray, List.set_cons_zero, List.set_cons_succ]
            refine wpAnyH_take (i := 12) (oi := ?o29) (v := ?v29) ?h29 ?a29 ?b29 ?c29 ?d29 ?y29 hHeld ?r29
            case h29 => (simp only [List.getElem?_toArray, List.getElem?_cons_succ, List.getElem?_cons_zero]; rfl)
            case a29 => kernel_rfl
            case b29 => kernel_rfl
            case c29 => kernel_rfl
            case y29 => exact Or.inl ⟨by rfl, (by intro w hSw; (try dsimp only at hSw); go_simp <;> (try with_reducible rfl))⟩
            case d29 => exact fun _ _ _ h => h
            try simp only [Act.put, List.setIfInBounds_toArray, List.set_cons_zero, List.set_cons_succ]
            refine wpAnyH_take (i := 13) (oi := ?o30) (v := ?v30) ?h30 ?a30 ?b30 ?c30 ?d30 ?y30 hHeld ?r30
            case h30 => (simp only [List.getElem?_toArray, List.getElem?_cons_succ, List.getElem?_cons_zero]; rfl)
            case a30 => kernel_rfl
            case b30 => kernel_rfl
            case c30 => kernel_rfl
            case y30 => exact Or.inl ⟨by rfl, (by intro w hSw; (try dsimp only at hSw); go_simp <;> (try with_reducible rfl))⟩
            case d30 => exact fun _ _ _ h => h
            try simp only [Act.put, List.setIfInBounds_toArray, List.set_cons_zero, List.set_cons_succ]
            refine wpAnyH_take (i := 14) (oi := ?o31) (v := ?v31) ?h31 ?a31 ?b31 ?c31 ?d31 ?y31 hHeld ?r31
            case h31 => (simp only [List.getElem?_toArray, List.getElem?_cons_succ, List.getElem?_cons_zero]; rfl)
            case a31 => kernel_rfl
            case b31 => kernel_rfl
            case c31 => kernel_rfl
            case y31 => exact Or.inl ⟨by rfl, (by intro w hSw; (try dsimp only at hSw); go_simp <;> (try with_reducible rfl))⟩
            case d31 => exact fun _ _ _ h => h
            try simp only [Act.put, List.setIfInBounds_toArray, List.set_cons_zero, List.set_cons_succ]
            refine wpAnyH_take (i := 15) (oi := ?o32) (v := ?v32) ?h32 ?a32 ?b32 ?c32 ?d32 ?y32 hHeld ?r32
            case h32 => (simp only [List.getElem?_toArray, List.getElem?_cons_succ, List.getElem?_cons_zero]; rfl)
            case a32 => kernel_rfl
            case b32 => kernel_rfl
            case c32 => kernel_rfl
            case y32 => exact Or.inl ⟨by rfl, (by intro w hSw; (try dsimp only at hSw); go_simp <;> (try with_reducible rfl))⟩
            case d32 => exact fun _ _ _ h => h
            try simp only [Act.put, List.setIfInBounds_toArray, List.set_cons_zero, List.set_cons_succ]
            refine wpAnyH_ready (rs := [10]) (by kernel_rfl) (by simp) (AllReadyH.cons (o := ?o33) ?h33 (fun K hK => ?r33) AllReadyH.nil)
            case h33 => (simp only [List.getElem?_toArray, List.getElem?_cons_succ, List.getElem?_cons_zero]; rfl)
            go_simp
            refine (JR.out.dr.two fun fq h => wire_WBytes _ h (by omega)).mono ?_
            rintro e wa ⟨A1, c1, rfl, z1, y1, -, -, -⟩
            have JS := Lib.hid (JR.out.dr.on z1)
            have YA := Lib.hid ((YG.out.drewN 1).on z1)
            have Y1 := Lib.hid y1
            clear z1 y1
            refine hK.out _ _ (conv_bytes YA.out) (fun hHeld => ?_)
            clear hK K
            try simp only [Act.put, List.setIfInBounds_toArray, List.set_cons_zero, List.set_cons_succ]
            refine wpAnyH_more (S' := (fun W => (convert 38 9 (.slice A G.length c)).run Try.prog W = .ok (.string ⟨(G).toArray⟩) W ∧ (convert 38 9 (.slice A1 G.length c1)).run Try.prog W = .ok (.string ⟨(G).toArray⟩) W)) (fun _ h => h.1) ?_
            have hHeld := (⟨hHeld, conv_bytes (c := c1) Y1.out⟩ : _ ∧ _)
            refine wpAnyH_take (i := 11) (oi := ?o34) (v := ?v34) ?h34 ?a34 ?b34 ?c34 ?d34 ?y34 hHeld ?r34
            case h34 => (simp only [List.getElem?_toArray, List.getElem?_cons_succ, List.getElem?_cons_zero]; rfl)
            case a34 => kernel_rfl
            case b34 => kernel_rfl
            case c34 => kernel_rfl
            case y34 => exact Or.inl ⟨by rfl, (by intro w hSw; (try dsimp only at hSw); go_simp <;> (try with_reducible rfl))⟩
            case d34 => exact fun _ _ _ h => h
            try simp only [Act.put, List.setIfInBounds_toArray, List.set_cons_zero, List.set_cons_succ]
            refine wpAnyH_take (i := 16) (oi := ?o35) (v := ?v35) ?h35 ?a35 ?b35 ?c35 ?d35 ?y35 hHeld ?r35
            case h35 => (simp only [List.getElem?_toArray, List.getElem?_cons_succ, List.getElem?_cons_zero]; rfl)
            case a35 => kernel_rfl
            case b35 => kernel_rfl
            case c35 => kernel_rfl
            case y35 => exact Or.inl ⟨by rfl, (by intro w hSw; (try dsimp only at hSw); go_simp <;> (try with_reducible rfl))⟩
            case d35 => exact fun _ _ _ h => h
            try simp only [Act.put, List.setIfInBounds_toArray, List.set_cons_zero, List.set_cons_succ]
            refine wpAnyH_take (i := 17) (oi := ?o36) (v := ?v36) ?h36 ?a36 ?b36 ?c36 ?d36 ?y36 hHeld ?r36
            case h36 => (simp only [List.getElem?_toArray, List.getElem?_cons_succ, List.getElem?_cons_zero]; rfl)
            case a36 => kernel_rfl
            case b36 => kernel_rfl
            case c36 => kernel_rfl
            case y36 => exact Or.inl ⟨by rfl, (by intro w hSw; (try dsimp only at hSw); go_simp <;> (try with_reducible rfl))⟩
            case d36 => exact fun _ _ _ h => h
            try simp only [Act.put, List.setIfInBounds_toArray, List.set_cons_zero, List.set_cons_succ]
            refine wpAnyH_done (by kernel_rfl) ?_ _
            go_wp2_with fail
            go_roundw
            case rel => exact ⟨k + 1, w8.heap.size, s2.rest, G, by omega, by go_num, JS, HG⟩
            case measure => simp [intOf]; omega
          · have he1 : (s2.err == 0) = false := by rw [beq_eq_false_iff_ne]; exact he
            have he2 : (s2.err != 0) = true := by rw [bne, he1]; rfl
            have r0 : (0 : Int) ≤ (R.length : Int) := by omega
            clear he XP6
            go_wp2_with fail
            refine (AW.out _).mono ?_
            rintro e w7 ⟨rfl, b7⟩
            have B7 := Lib.hid (bel8 J6.out.1 b7)
            clear b7
            go_wp2_with fail
            go_ret
            exact ⟨rfl, B7.out⟩
        · have b1 : (kd == 1) = false := by rw [beq_eq_false_iff_ne]; exact e1
          by_cases e2 : kd = 2
          · have b2 : (kd == 2) = true := by rw [beq_iff_eq]; exact e2
            obtain ⟨s2, es⟩ : ∃ s2, s2 = (Wr.rdU ⟨R, 0⟩).2 := ⟨_, rfl⟩
            obtain ⟨vv, ev⟩ : ∃ vv : Nat, vv = (Wr.rdU ⟨R, 0⟩).1 := ⟨_, rfl⟩
            obtain ⟨X, eX⟩ : ∃ X : It, X = ⟨kd, 0, vv, ⟨#[]⟩, [], none, 0⟩ := ⟨_, rfl⟩
            have XK : Hid (X.k = kd) := by rw [eX]; rfl
            have XB : Hid (s2.err = 0 → True ∧ True) := fun _ => ⟨trivial, trivial⟩
            have hbd := Wr.rdU_bd ⟨R, 0⟩
            rw [← ev] at hbd
            have v1 : (vv : Int) ≤ 18446744073709551615 := by omega
            have XR : Hid (s2.err = 0 → R = Wr.itB X ++ s2.rest ∧ Wr.little 20000 X = true) := fun h => by
              rw [es] at h ⊢
              refine ⟨?_, by rw [eX]; rfl⟩
              have := (Wr.rdU_once (s := ⟨R, 0⟩) rfl h).2
              rw [eX]
              show R = (if kd = 1 then _ else if kd = 2 then Wr.enc vv else _) ++ _
              rw [if_neg e1, if_pos e2, ev]; exact this
            have XPA : Hid (∀ W : World, s2.err = 0 → ItOk W (fun b => N ≤ b) X) := fun W h => by rw [eX]; exact ItOk.plain k0 k1 (by omega) (by omega) hbd (by decide)
            have BX : Hid (Below w3.heap.size w3 (w3.alloc (.cells #[.int .i64 kd, .int .i64 0, .int .u64 0, .string ⟨#[]⟩, .slice none 0 0] 33))) := (Below.refl _ _).alloc (Nat.le_refl _) _
            have U := Lib.hid (J3.out.read BX.out fun fp h => wire_RUint _ h)
            rw [← es, ← ev] at U
            have EX := Lib.hid eX
            clear es ev eX e1 e2
            go_wp2_with fail
            refine U.out.mono ?_
            rintro e w4 ⟨rfl, md⟩
            have hbx : w4.heap[w3.heap.size]? = some (.cells #[.int .i64 kd, .int .i64 0, .int .u64 0, .string ⟨#[]⟩, .slice none 0 0] 33 (0, 0)) := (md.2.1 _ (Nat.le_refl _) (by rw [size_alloc]; exact Nat.lt_succ_self _)).trans (heap_alloc_new w3 _)
            have cx := cell5 (i := 2) hbx rfl
            have fx := free5 (i := 2) hbx
            have JT := Lib.hid (md.2.2 w3.heap.size 2 (.int .u64 (vv : Nat)) (Nat.le_refl _) (by rw [size_alloc]; exact Nat.lt_succ_self _))
            have HB5 : Hid ((w4.setCell ⟨w3.heap.size, 2, none⟩ (.int .u64 (vv : Nat))).heap[w3.heap.size]? = some (.cells #[.int .i64 kd, .int .i64 X.n, .int .u64 (X.u : Nat), .string X.s, .slice X.A X.l.length X.c] 33 (0, 0))) := by
              have := set5 (i := 2) (u := .int .u64 (vv : Nat)) hbx
              rw [EX.out]
              exact this
            have XP := Lib.hid (XPA.out (w4.setCell ⟨w3.heap.size, 2, none⟩ (.int .u64 (vv : Nat))))
            clear md hbx
            go_wp2_with fail
            refine (JT.out.one fun fp h => wire_Err _ h).mono ?_
            rintro e w6 ⟨rfl, b6⟩
            have J6 := Lib.hid (JT.out.on b6)
            have hb6 : w6.heap[w3.heap.size]? = some (.cells #[.int .i64 kd, .int .i64 X.n, .int .u64 (X.u : Nat), .string X.s, .slice X.A X.l.length X.c] 33 (0, 0)) := (b6.block _ (lt_of_block HB5.out)).trans HB5.out
            have c60 := cell5 (i := 0) hb6 rfl
            have c61 := cell5 (i := 1) hb6 rfl
            have c62 := cell5 (i := 2) hb6 rfl
            have c63 := cell5 (i := 3) hb6 rfl
            have c64 := cell5 (i := 4) hb6 rfl
            have XP6 : Hid (s2.err = 0 → ItOk w6 (fun b => N ≤ b) X) := fun h => (XP.out h).turn (fq := noB) (Turns.of_below b6) fun _ _ e => e.elim
            clear b6 hb6 HB5 XP
            by_cases he : s2.err = 0
            · have he1 : (s2.err == 0) = true := by rw [beq_iff_eq]; exact he
              have he2 : (s2.err != 0) = false := by rw [bne, he1]; rfl
              obtain ⟨xb1, xb2⟩ := XB.out he
              obtain ⟨xr, xl1⟩ := XR.out he
              have ok6 := XP6.out he
              have XO := Lib.hid ok6
              have hML : M.length ≤ 20000 ∧ (M ++ Wr.itB X).length ≤ 20000 := by
                have e := congrArg List.length HM.out
                rw [List.length_append, xr, List.length_append] at e
                have e2 := H.out.len
                rw [List.length_append]; omega
              obtain ⟨hm1, hm2⟩ := hML
              have EX : Hid (X.k = kd) := XK.out
              have XV : Hid (s2 = ⟨s2.rest, 0⟩) := by show _ = _; cases s2; cases he; rfl
              have HM2 : Hid ((M ++ Wr.itB X) ++ s2.rest = L) := by show _ = _; rw [List.append_assoc, ← xr]; exact HM.out
              have I7 := Lib.hid (its_new (t := 33) w6 XO.out J6.out.2.1)
              rw [XK.out] at I7
              have B7 : Hid (Below w6.heap.size w6 (w6.alloc (.cells #[.int .i64 kd, .int .i64 X.n, .int .u64 (X.u : Nat), .string X.s, .slice X.A X.l.length X.c] 33))) := (Below.refl _ _).alloc (Nat.le_refl _) _
              have J7 := Lib.hid (J6.out.on B7.out)
              have xn0 := ok6.n0
              have xn1 := ok6.n1
              have xu1 : X.u ≤ 18446744073709551615 := by have := ok6.u1; omega
              clear xr ok6 he XP6
              go_wp2_with fail
              refine (J7.out.write fun fq h hN => law8_write _ h (I7.out.bound fun b hb e => by have := hN b e; omega) (by omega) (by omega : 1 ≤ 9223372036854775807) (by omega) (by omega) (by rw [List.all_cons, List.all_nil, Bool.and_true]; exact xl1)).mono ?_
              rw [show Wr.itsB [X] = Wr.itB X from List.append_nil _]
              rintro e w8 ⟨rfl, j8⟩
              obtain ⟨G, eG⟩ : ∃ G, G = M ++ Wr.itB X := ⟨_, rfl⟩
              rw [← eG] at j8 hm2
              have J8 := Lib.hid j8
              have HG : Hid (G ++ s2.rest = L) := by rw [eG]; exact HM2.out
              have hgl : (n : Int) - ((s2.rest.length : Nat) : Int) = (G.length : Int) := by
                have e := congrArg List.length HG.out
                rw [List.length_append, H.out.len] at e; omega
              have hgn : (G.length : Int) ≤ (n : Int) := by omega
              clear j8 eG c60 c61 c62 c63 c64 d0 d1
              go_wp2_with fail
              refine (J8.out.one fun fp h => wire_Left _ h).mono ?_
              rw [XV.out, show Wr.left ⟨s2.rest, 0⟩ = (s2.rest.length : Nat) from rfl]
              rintro e w9 ⟨rfl, b9⟩
              rw [XV.out] at J8
              have JR := Lib.hid (J8.out.on b9)
              clear b9
              have hg0 : (0 : Int) ≤ (G.length : Int) := by omega
              have yg := (H.out.on JR.out.1).head (X := G) (Z := s2.rest) HG.out.symm
              have YG := Lib.hid yg
              have hgc : (G.length : Int) ≤ (c : Int) := by omega
              have hgc2 : G.length ≤ c := by omega
              have gd1 : decide ((G.length : Int) < 0) = false := by simp
              have gd3 : ¬ n < G.length := by omega
              have gd4 : G.length ≤ n := by omega
              clear yg
              go_wp2_with fail
              refine wp_region_held_drew (S := (fun W => (convert 38 9 (.slice A G.length c)).run Try.prog W = .ok (.string ⟨(G).toArray⟩) W)) (by kernel_rfl) (conv_bytes (YG.out.drewN 1)) (fun hHeld => ?_)
              try simp only [Act.put, List.setIfInBounds_toArray, List.set_cons_zero, List.set_cons_succ]
              refine wpAnyH_take (i := 0) (oi := ?o37) (v := ?v37) ?h37 ?a37 ?b37 ?c37 ?d37 ?y37 hHeld ?r37
              case h37 => (simp only [List.getElem?_toArray, List.getElem?_cons_succ, List.getElem?_cons_zero]; rfl)
              case a37 => kernel_rfl
              case b37 => kernel_rfl
              case c37 => kernel_rfl
              case y37 => exact Or.inl ⟨by rfl, (by intro w hSw; (try dsimp only at hSw); go_simp <;> (try with_reducible rfl))⟩
              case d37 => exact fun _ _ _ h => h
              try simp only [Act.put, List.setIfInBounds_toArray, List.set_cons_zero, List.set_cons_succ]
              refine wpAnyH_take (i := 1) (oi := ?o38) (v := ?v38) ?h38 ?a38 ?b38 ?c38 ?d38 ?y38 hHeld ?r38
              case h38 => (simp only [List.getElem?_toArray, List.getElem?_cons_succ, List.getElem?_cons_zero]; rfl)
              case a38 => kernel_rfl
              case b38 => kernel_rfl
              case c38 => kernel_rfl
              case y38 => exact Or.inl ⟨by rfl, (by intro w hSw; (try dsimp only at hSw); go_simp <;> (try with_reducible rfl))⟩
              case d38 => exact fun _ _ _ h => h
              try simp only [Act.put, List.setIfInBounds_toArray, List.set_cons_zero, List.set_cons_succ]
              refine wpAnyH_take (i := 2) (oi := ?o39) (v := ?v39) ?h39 ?a39 ?b39 ?c39 ?d39 ?y39 hHeld ?r39
              case h39 => (simp only [List.getElem?_toArray, List.getElem?_cons_succ, List.getElem?_cons_zero]; rfl)
              case a39 => kernel_rfl
              case b39 => kernel_rfl
              case c39 => kernel_rfl
              case y39 => exact Or.inl ⟨by rfl, (by intro w hSw; (try dsimp only at hSw); go_simp <;> (try with_reducible rfl))⟩
              case d39 => exact fun _ _ _ h => h
              try simp only [Act.put, List.setIfInBounds_toArray, List.set_cons_zero, List.set_cons_succ]
              refine wpAnyH_take (i := 3) (oi := ?o40) (v := ?v40) ?h40 ?a40 ?b40 ?c40 ?d40 ?y40 hHeld ?r40
              case h40 => (simp only [List.getElem?_toArray, List.getElem?_cons_succ, List.getElem?_cons_zero]; rfl)
              case a40 => kernel_rfl
              case b40 => kernel_rfl
              case c40 => kernel_rfl
              case y40 => exact Or.inl ⟨by rfl, (by intro w hSw; (try dsimp only at hSw); go_simp <;> (try with_reducible rfl))⟩
              case d40 => exact fun _ _ _ h => h
              try simp only [Act.put, List.setIfInBounds_toArray, List.set_cons_zero, List.set_cons_succ]
              refine wpAnyH_take (i := 4) (oi := ?o41) (v := ?v41) ?h41 ?a41 ?b41 ?c41 ?d41 ?y41 hHeld ?r41
              case h41 => (simp only [List.getElem?_toArray, List.getElem?_cons_succ, List.getElem?_cons_zero]; rfl)
              case a41 => kernel_rfl
              case b41 => kernel_rfl
              case c41 => kernel_rfl
              case y41 => exact Or.inl ⟨by rfl, (by intro w hSw; (try dsimp only at hSw); go_simp <;> (try with_reducible rfl))⟩
              case d41 => exact fun _ _ _ h => h
              try simp only [Act.put, List.setIfInBounds_toArray, List.set_cons_zero, List.set_cons_succ]
              refine wpAnyH_take (i := 5) (oi := ?o42) (v := ?v42) ?h42 ?a42 ?b42 ?c42 ?d42 ?y42 hHeld ?r42
              case h42 => (simp only [List.getElem?_toArray, List.getElem?_cons_succ, List.getElem?_cons_zero]; rfl)
              case a42 => kernel_rfl
              case b42 => kernel_rfl
              case c42 => kernel_rfl
              case y42 => exact Or.inl ⟨by rfl, (by intro w hSw; (try dsimp only at hSw); go_simp <;> (try with_reducible rfl))⟩
              case d42 => exact fun _ _ _ h => h
              try simp only [Act.put, List.setIfInBounds_toArray, List.set_cons_zero, List.set_cons_succ]
              refine wpAnyH_take (i := 6) (oi := ?o43) (v := ?v43) ?h43 ?a43 ?b43 ?c43 ?d43 ?y43 hHeld ?r43
              case h43 => (simp only [List.getElem?_toArray, List.getElem?_cons_succ, List.getElem?_cons_zero]; rfl)
              case a43 => kernel_rfl
              case b43 => kernel_rfl
              case c43 => kernel_rfl
              case y43 => exact Or.inl ⟨by rfl, (by intro w hSw; (try dsimp only at hSw); go_simp <;> (try with_reducible rfl))⟩
              case d43 => exact fun _ _ _ h => h
              try simp only [Act.put, List.setIfInBounds_toArray, List.set_cons_zero, List.set_cons_succ]
              refine wpAnyH_take (i := 7) (oi := ?o44) (v := ?v44) ?h44 ?a44 ?b44 ?c44 ?d44 ?y44 hHeld ?r44
              case h44 => (simp only [List.getElem?_toArray, List.getElem?_cons_succ, List.getElem?_cons_zero]; rfl)
              case a44 => kernel_rfl
              case b44 => kernel_rfl
              case c44 => kernel_rfl
              case y44 => exact Or.inl ⟨by rfl, (by intro w hSw; (try dsimp only at hSw); go_simp <;> (try with_reducible rfl))⟩
              case d44 => exact fun _ _ _ h => h
              try simp only [Act.put, List.setIfInBounds_toArray, List.set_cons_zero, List.set_cons_succ]
              refine wpAnyH_take (i := 8) (oi := ?o45) (v := ?v45) ?h45 ?a45 ?b45 ?c45 ?d45 ?y45 hHeld ?r45
              case h45 => (simp only [List.getElem?_toArray, List.getElem?_cons_succ, List.getElem?_cons_zero]; rfl)
              case a45 => kernel_rfl
              case b45 => kernel_rfl
              case c45 => kernel_rfl
              case y45 => exact Or.inl ⟨by rfl, (by intro w hSw; (try dsimp only at hSw); go_simp <;> (try with_reducible rfl))⟩
              case d45 => exact fun _ _ _ h => h
              try simp only [Act.put, List.setIfInBounds_toArray, List.set_cons_zero, List.set_cons_succ]
              refine wpAnyH_take (i := 9) (oi := ?o46) (v := ?v46) ?h46 ?a46 ?b46 ?c46 ?d46 ?y46 hHeld ?r46
              case h46 => (simp only [List.getElem?_toArray, List.getElem?_cons_succ, List.getElem?_cons_zero]; rfl)
              case a46 => kernel_rfl
              case b46 => kernel_rfl
              case c46 => kernel_rfl
              case y46 => exact Or.inl ⟨by rfl, (by intro w hSw; (try dsimp only at hSw); go_simp <;> (try with_reducible rfl))⟩
              case d46 => exact fun _ _ _ h => h
              try simp only [Act.put, List.setIfInBounds_toArray, List.set_cons_zero, List.set_cons_succ]
              refine wpAnyH_take (i := 12) (oi := ?o47) (v := ?v47) ?h47 ?a47 ?b47 ?c47 ?d47 ?y47 hHeld ?r47
              case h47 => (simp only [List.getElem?_toArray, List.getElem?_cons_succ, List.getElem?_cons_zero]; rfl)
              case a47 => kernel_rfl
              case b47 => kernel_rfl
              case c47 => kernel_rfl
              case y47 => exact Or.inl ⟨by rfl, (by intro w hSw; (try dsimp only at hSw); go_simp <;> (try with_reducible rfl))⟩
              case d47 => exact fun _ _ _ h => h
              try simp only [Act.put, List.setIfInBounds_toArray, List.set_cons_zero, List.set_cons_succ]
              refine wpAnyH_take (i := 13) (oi := ?o48) (v := ?v48) ?h48 ?a48 ?b48 ?c48 ?d48 ?y48 hHeld ?r48
              case h48 => (simp only [List.getElem?_toArray, List.getElem?_cons_succ, List.getElem?_cons_zero]; rfl)
              case a48 => kernel_rfl
              case b48 => kernel_rfl
              case c48 => kernel_rfl
              case y48 => exact Or.inl ⟨by rfl, (by intro w hSw; (try dsimp only at hSw); go_simp <;> (try with_reducible rfl))⟩
              case d48 => exact fun _ _ _ h => h
              try simp only [Act.put, List.setIfInBounds_toArray, List.set_cons_zero, List.set_cons_succ]
              refine wpAnyH_take (i := 14) (oi := ?o49) (v := ?v49) ?h49 ?a49 ?b49 ?c49 ?d49 ?y49 hHeld ?r49
              case h49 => (simp only [List.getElem?_toArray, List.getElem?_cons_succ, List.getElem?_cons_zero]; rfl)
              case a49 => kernel_rfl
              case b49 => kernel_rfl
              case c49 => kernel_rfl
              case y49 => exact Or.inl ⟨by rfl, (by intro w hSw; (try dsimp only at hSw); go_simp <;> (try with_reducible rfl))⟩
              case d49 => exact fun _ _ _ h => h
              try simp only [Act.put, List.setIfInBounds_toArray, List.set_cons_zero, List.set_cons_succ]
              refine wpAnyH_take (i := 15) (oi := ?o50) (v := ?v50) ?h50 ?a50 ?b50 ?c50 ?d50 ?y50 hHeld ?r50
              case h50 => (simp only [List.getElem?_toArray, List.getElem?_cons_succ, List.getElem?_cons_zero]; rfl)
              case a50 => kernel_rfl
              case b50 => kernel_rfl
              case c50 => kernel_rfl
              case y50 => exact Or.inl ⟨by rfl, (by intro w hSw; (try dsimp only at hSw); go_simp <;> (try with_reducible rfl))⟩
              case d50 => exact fun _ _ _ h => h
              try simp only [Act.put, List.setIfInBounds_toArray, List.set_cons_zero, List.set_cons_succ]
              refine wpAnyH_ready (rs := [10]) (by kernel_rfl) (by simp) (AllReadyH.cons (o := ?o51) ?h51 (fun K hK => ?r51) AllReadyH.nil)
              case h51 => (simp only [List.getElem?_toArray, List.getElem?_cons_succ, List.getElem?_cons_zero]; rfl)
              go_simp
              refine (JR.out.dr.two fun fq h => wire_WBytes _ h (by omega)).mono ?_
              rintro e wa ⟨A1, c1, rfl, z1, y1, -, -, -⟩
              have JS := Lib.hid (JR.out.dr.on z1)
              have YA := Lib.hid ((YG.out.drewN 1).on z1)
              have Y1 := Lib.hid y1
              clear z1 y1
              refine hK.out _ _ (conv_bytes YA.out) (fun hHeld => ?_)
              clear hK K
              try simp only [Act.put, List.setIfInBounds_toArray, List.set_cons_zero, List.set_cons_succ]
              refine wpAnyH_more (S' := (fun W => (convert 38 9 (.slice A G.length c)).run Try.prog W = .ok (.string ⟨(G).toArray⟩) W ∧ (convert 38 9 (.slice A1 G.length c1)).run Try.prog W = .ok (.string ⟨(G).toArray⟩) W)) (fun _ h => h.1) ?_
              have hHeld := (⟨hHeld, conv_bytes (c := c1) Y1.out⟩ : _ ∧ _)
              refine wpAnyH_take (i := 11) (oi := ?o52) (v := ?v52) ?h52 ?a52 ?b52 ?c52 ?d52 ?y52 hHeld ?r52
              case h52 => (simp only [List.getElem?_toArray, List.getElem?_cons_succ, List.getElem?_cons_zero]; rfl)
              case a52 => kernel_rfl
              case b52 => kernel_rfl
              case c52 => kernel_rfl
              case y52 => exact Or.inl ⟨by rfl, (by intro w hSw; (try dsimp only at hSw); go_simp <;> (try with_reducible rfl))⟩
              case d52 => exact fun _ _ _ h => h
              try simp only [Act.put, List.setIfInBounds_toArray, List.set_cons_zero, List.set_cons_succ]
              refine wpAnyH_take (i := 16) (oi := ?o53) (v := ?v53) ?h53 ?a53 ?b53 ?c53 ?d53 ?y53 hHeld ?r53
              case h53 => (simp only [List.getElem?_toArray, List.getElem?_cons_succ, List.getElem?_cons_zero]; rfl)
              case a53 => kernel_rfl
              case b53 => kernel_rfl
              case c53 => kernel_rfl
              case y53 => exact Or.inl ⟨by rfl, (by intro w hSw; (try dsimp only at hSw); go_simp <;> (try with_reducible rfl))⟩
              case d53 => exact fun _ _ _ h => h
              try simp only [Act.put, List.setIfInBounds_toArray, List.set_cons_zero, List.set_cons_succ]
              refine wpAnyH_take (i := 17) (oi := ?o54) (v := ?v54) ?h54 ?a54 ?b54 ?c54 ?d54 ?y54 hHeld ?r54
              case h54 => (simp only [List.getElem?_toArray, List.getElem?_cons_succ, List.getElem?_cons_zero]; rfl)
              case a54 => kernel_rfl
              case b54 => kernel_rfl
              case c54 => kernel_rfl
              case y54 => exact Or.inl ⟨by rfl, (by intro w hSw; (try dsimp only at hSw); go_simp <;> (try with_reducible rfl))⟩
              case d54 => exact fun _ _ _ h => h
              try simp only [Act.put, List.setIfInBounds_toArray, List.set_cons_zero, List.set_cons_succ]
              refine wpAnyH_done (by kernel_rfl) ?_ _
              go_wp2_with fail
              go_roundw
              case rel => exact ⟨k + 1, w8.heap.size, s2.rest, G, by omega, by go_num, JS, HG⟩
              case measure => simp [intOf]; omega
            · have he1 : (s2.err == 0) = false := by rw [beq_eq_false_iff_ne]; exact he
              have he2 : (s2.err != 0) = true := by rw [bne, he1]; rfl
              have r0 : (0 : Int) ≤ (R.length : Int) := by omega
              clear he XP6
              go_wp2_with fail
              refine (AW.out _).mono ?_
              rintro e w7 ⟨rfl, b7⟩
              have B7 := Lib.hid (bel8 J6.out.1 b7)
              clear b7
              go_wp2_with fail
              go_ret
              exact ⟨rfl, B7.out⟩
          · have b2 : (kd == 2) = false := by rw [beq_eq_false_iff_ne]; exact e2
            by_cases e3 : kd = 3
            · have b3 : (kd == 3) = true := by rw [beq_iff_eq]; exact e3
              obtain ⟨s2, es⟩ : ∃ s2, s2 = (Wr.rdT m ⟨R, 0⟩).2 := ⟨_, rfl⟩
              obtain ⟨vv, ev⟩ : ∃ vv : ByteArray, vv = (⟨(Wr.rdT m ⟨R, 0⟩).1.toArray⟩ : ByteArray) := ⟨_, rfl⟩
              obtain ⟨X, eX⟩ : ∃ X : It, X = ⟨kd, 0, 0, vv, [], none, 0⟩ := ⟨_, rfl⟩
              have XK : Hid (X.k = kd) := by rw [eX]; rfl
              have XB : Hid (s2.err = 0 → True ∧ True) := fun _ => ⟨trivial, trivial⟩
              have XR : Hid (s2.err = 0 → R = Wr.itB X ++ s2.rest ∧ Wr.little 20000 X = true) := fun h => by
                rw [es] at h ⊢
                have h1 := Wr.rdT_once (s := ⟨R, 0⟩) rfl h
                have h2 : vv.data.toList = (Wr.rdT m ⟨R, 0⟩).1 := by rw [ev]
                have h3 : R = Wr.itB X ++ (Wr.rdT m ⟨R, 0⟩).2.rest := by
                  rw [eX]
                  show R = (if kd = 1 then _ else if kd = 2 then _ else if kd = 3 then Wr.encT vv.data.toList else _) ++ _
                  rw [if_neg e1, if_neg e2, if_pos e3, h2]; exact h1
                refine ⟨h3, ?_⟩
                have h4 : vv.size ≤ R.length := by
                  have e := congrArg List.length h1
                  unfold Wr.encT at e
                  rw [List.length_append, List.length_append, ← h2] at e
                  have : vv.data.toList.length = vv.size := Array.length_toList
                  have e0 : (⟨R, 0⟩ : Wr.St).rest.length = R.length := rfl
                  omega
                have h5 : R.length ≤ 20000 := by
                  have e := congrArg List.length HM.out
                  rw [List.length_append, H.out.len] at e; omega
                rw [eX, Wr.little, decide_eq_true (show vv.size ≤ 20000 by omega)]
                first | done | rfl
              have hvs : s2.err = 0 → vv.size ≤ 9223372036854775807 := fun h => by
                have := (XR.out h).2
                rw [eX, Wr.little, Bool.and_eq_true, decide_eq_true_iff] at this
                have := this.1
                show vv.size ≤ _
                have h2 : vv.size ≤ 20000 := this
                omega
              have XPA : Hid (∀ W : World, s2.err = 0 → ItOk W (fun b => N ≤ b) X) := fun W h => by rw [eX]; exact ItOk.plain k0 k1 (by omega) (by omega) (by omega) (hvs h)
              have BX : Hid (Below w3.heap.size w3 (w3.alloc (.cells #[.int .i64 kd, .int .i64 0, .int .u64 0, .string ⟨#[]⟩, .slice none 0 0] 33))) := (Below.refl _ _).alloc (Nat.le_refl _) _
              have U := Lib.hid (J3.out.read BX.out fun fp h => wire_RText _ h m m0 m1)
              rw [← es, ← ev] at U
              have EX := Lib.hid eX
              clear es ev eX e1 e2 e3
              have d1b := (HC.out _ (bel8 J3.out.1 BX.out)).2
              go_wp2_with fail
              refine U.out.mono ?_
              rintro e w4 ⟨rfl, md⟩
              have hbx : w4.heap[w3.heap.size]? = some (.cells #[.int .i64 kd, .int .i64 0, .int .u64 0, .string ⟨#[]⟩, .slice none 0 0] 33 (0, 0)) := (md.2.1 _ (Nat.le_refl _) (by rw [size_alloc]; exact Nat.lt_succ_self _)).trans (heap_alloc_new w3 _)
              have cx := cell5 (i := 3) hbx rfl
              have fx := free5 (i := 3) hbx
              have JT := Lib.hid (md.2.2 w3.heap.size 3 (.string vv) (Nat.le_refl _) (by rw [size_alloc]; exact Nat.lt_succ_self _))
              have HB5 : Hid ((w4.setCell ⟨w3.heap.size, 3, none⟩ (.string vv)).heap[w3.heap.size]? = some (.cells #[.int .i64 kd, .int .i64 X.n, .int .u64 (X.u : Nat), .string X.s, .slice X.A X.l.length X.c] 33 (0, 0))) := by
                have := set5 (i := 3) (u := .string vv) hbx
                rw [EX.out]
                exact this
              have XP := Lib.hid (XPA.out (w4.setCell ⟨w3.heap.size, 3, none⟩ (.string vv)))
              clear md hbx
              go_wp2_with fail
              refine (JT.out.one fun fp h => wire_Err _ h).mono ?_
              rintro e w6 ⟨rfl, b6⟩
              have J6 := Lib.hid (JT.out.on b6)
              have hb6 : w6.heap[w3.heap.size]? = some (.cells #[.int .i64 kd, .int .i64 X.n, .int .u64 (X.u : Nat), .string X.s, .slice X.A X.l.length X.c] 33 (0, 0)) := (b6.block _ (lt_of_block HB5.out)).trans HB5.out
              have c60 := cell5 (i := 0) hb6 rfl
              have c61 := cell5 (i := 1) hb6 rfl
              have c62 := cell5 (i := 2) hb6 rfl
              have c63 := cell5 (i := 3) hb6 rfl
              have c64 := cell5 (i := 4) hb6 rfl
              have XP6 : Hid (s2.err = 0 → ItOk w6 (fun b => N ≤ b) X) := fun h => (XP.out h).turn (fq := noB) (Turns.of_below b6) fun _ _ e => e.elim
              clear b6 hb6 HB5 XP
              by_cases he : s2.err = 0
              · have he1 : (s2.err == 0) = true := by rw [beq_iff_eq]; exact he
                have he2 : (s2.err != 0) = false := by rw [bne, he1]; rfl
                obtain ⟨xb1, xb2⟩ := XB.out he
                obtain ⟨xr, xl1⟩ := XR.out he
                have ok6 := XP6.out he
                have XO := Lib.hid ok6
                have hML : M.length ≤ 20000 ∧ (M ++ Wr.itB X).length ≤ 20000 := by
                  have e := congrArg List.length HM.out
                  rw [List.length_append, xr, List.length_append] at e
                  have e2 := H.out.len
                  rw [List.length_append]; omega
                obtain ⟨hm1, hm2⟩ := hML
                have EX : Hid (X.k = kd) := XK.out
                have XV : Hid (s2 = ⟨s2.rest, 0⟩) := by show _ = _; cases s2; cases he; rfl
                have HM2 : Hid ((M ++ Wr.itB X) ++ s2.rest = L) := by show _ = _; rw [List.append_assoc, ← xr]; exact HM.out
                have I7 := Lib.hid (its_new (t := 33) w6 XO.out J6.out.2.1)
                rw [XK.out] at I7
                have B7 : Hid (Below w6.heap.size w6 (w6.alloc (.cells #[.int .i64 kd, .int .i64 X.n, .int .u64 (X.u : Nat), .string X.s, .slice X.A X.l.length X.c] 33))) := (Below.refl _ _).alloc (Nat.le_refl _) _
                have J7 := Lib.hid (J6.out.on B7.out)
                have xn0 := ok6.n0
                have xn1 := ok6.n1
                have xu1 : X.u ≤ 18446744073709551615 := by have := ok6.u1; omega
                clear xr ok6 he XP6
                go_wp2_with fail
                refine (J7.out.write fun fq h hN => law8_write _ h (I7.out.bound fun b hb e => by have := hN b e; omega) (by omega) (by omega : 1 ≤ 9223372036854775807) (by omega) (by omega) (by rw [List.all_cons, List.all_nil, Bool.and_true]; exact xl1)).mono ?_
                rw [show Wr.itsB [X] = Wr.itB X from List.append_nil _]
                rintro e w8 ⟨rfl, j8⟩
                obtain ⟨G, eG⟩ : ∃ G, G = M ++ Wr.itB X := ⟨_, rfl⟩
                rw [← eG] at j8 hm2
                have J8 := Lib.hid j8
                have HG : Hid (G ++ s2.rest = L) := by rw [eG]; exact HM2.out
                have hgl : (n : Int) - ((s2.rest.length : Nat) : Int) = (G.length : Int) := by
                  have e := congrArg List.length HG.out
                  rw [List.length_append, H.out.len] at e; omega
                have hgn : (G.length : Int) ≤ (n : Int) := by omega
                clear j8 eG c60 c61 c62 c63 c64 d0 d1
                go_wp2_with fail
                refine (J8.out.one fun fp h => wire_Left _ h).mono ?_
                rw [XV.out, show Wr.left ⟨s2.rest, 0⟩ = (s2.rest.length : Nat) from rfl]
                rintro e w9 ⟨rfl, b9⟩
                rw [XV.out] at J8
                have JR := Lib.hid (J8.out.on b9)
                clear b9
                have hg0 : (0 : Int) ≤ (G.length : Int) := by omega
                have yg := (H.out.on JR.out.1).head (X := G) (Z := s2.rest) HG.out.symm
                have YG := Lib.hid yg
                have hgc : (G.length : Int) ≤ (c : Int) := by omega
                have hgc2 : G.length ≤ c := by omega
                have gd1 : decide ((G.length : Int) < 0) = false := by simp
                have gd3 : ¬ n < G.length := by omega
                have gd4 : G.length ≤ n := by omega
                clear yg
                go_wp2_with fail
                refine wp_region_held_drew (S := (fun W => (convert 38 9 (.slice A G.length c)).run Try.prog W = .ok (.string ⟨(G).toArray⟩) W)) (by kernel_rfl) (conv_bytes (YG.out.drewN 1)) (fun hHeld => ?_)
                try simp only [Act.put, List.setIfInBounds_toArray, List.set_cons_zero, List.set_cons_succ]
                refine wpAnyH_take (i := 0) (oi := ?o55) (v := ?v55) ?h55 ?a55 ?b55 ?c55 ?d55 ?y55 hHeld ?r55
                case h55 => (simp only [List.getElem?_toArray, List.getElem?_cons_succ, List.getElem?_cons_zero]; rfl)
                case a55 => kernel_rfl
                case b55 => kernel_rfl
                case c55 => kernel_rfl
                case y55 => exact Or.inl ⟨by rfl, (by intro w hSw; (try dsimp only at hSw); go_simp <;> (try with_reducible rfl))⟩
                case d55 => exact fun _ _ _ h => h
                try simp only [Act.put, List.setIfInBounds_toArray, List.set_cons_zero, List.set_cons_succ]
                refine wpAnyH_take (i := 1) (oi := ?o56) (v := ?v56) ?h56 ?a56 ?b56 ?c56 ?d56 ?y56 hHeld ?r56
                case h56 => (simp only [List.getElem?_toArray, List.getElem?_cons_succ, List.getElem?_cons_zero]; rfl)
                case a56 => kernel_rfl
                case b56 => kernel_rfl
                case c56 => kernel_rfl
                case y56 => exact Or.inl ⟨by rfl, (by intro w hSw; (try dsimp only at hSw); go_simp <;> (try with_reducible rfl))⟩
                case d56 => exact fun _ _ _ h => h
                try simp only [Act.put, List.setIfInBounds_toArray, List.set_cons_zero, List.set_cons_succ]
                refine wpAnyH_take (i := 2) (oi := ?o57) (v := ?v57) ?h57 ?a57 ?b57 ?c57 ?d57 ?y57 hHeld ?r57
                case h57 => (simp only [List.getElem?_toArray, List.getElem?_cons_succ, List.getElem?_cons_zero]; rfl)
                case a57 => kernel_rfl
                case b57 => kernel_rfl
                case c57 => kernel_rfl
                case y57 => exact Or.inl ⟨by rfl, (by intro w hSw; (try dsimp only at hSw); go_simp <;> (try with_reducible rfl))⟩
                case d57 => exact fun _ _ _ h => h
                try simp only [Act.put, List.setIfInBounds_toArray, List.set_cons_zero, List.set_cons_succ]
                refine wpAnyH_take (i := 3) (oi := ?o58) (v := ?v58) ?h58 ?a58 ?b58 ?c58 ?d58 ?y58 hHeld ?r58
                case h58 => (simp only [List.getElem?_toArray, List.getElem?_cons_succ, List.getElem?_cons_zero]; rfl)
                case a58 => kernel_rfl
                case b58 => kernel_rfl
                case c58 => kernel_rfl
                case y58 => exact Or.inl ⟨by rfl, (by intro w hSw; (try dsimp only at hSw); go_simp <;> (try with_reducible rfl))⟩
                case d58 => exact fun _ _ _ h => h
                try simp only [Act.put, List.setIfInBounds_toArray, List.set_cons_zero, List.set_cons_succ]
                refine wpAnyH_take (i := 4) (oi := ?o59) (v := ?v59) ?h59 ?a59 ?b59 ?c59 ?d59 ?y59 hHeld ?r59
                case h59 => (simp only [List.getElem?_toArray, List.getElem?_cons_succ, List.getElem?_cons_zero]; rfl)
                case a59 => kernel_rfl
                case b59 => kernel_rfl
                case c59 => kernel_rfl
                case y59 => exact Or.inl ⟨by rfl, (by intro w hSw; (try dsimp only at hSw); go_simp <;> (try with_reducible rfl))⟩
                case d59 => exact fun _ _ _ h => h
                try simp only [Act.put, List.setIfInBounds_toArray, List.set_cons_zero, List.set_cons_succ]
                refine wpAnyH_take (i := 5) (oi := ?o60) (v := ?v60) ?h60 ?a60 ?b60 ?c60 ?d60 ?y60 hHeld ?r60
                case h60 => (simp only [List.getElem?_toArray, List.getElem?_cons_succ, List.getElem?_cons_zero]; rfl)
                case a60 => kernel_rfl
                case b60 => kernel_rfl
                case c60 => kernel_rfl
                case y60 => exact Or.inl ⟨by rfl, (by intro w hSw; (try dsimp only at hSw); go_simp <;> (try with_reducible rfl))⟩
                case d60 => exact fun _ _ _ h => h
                try simp only [Act.put, List.setIfInBounds_toArray, List.set_cons_zero, List.set_cons_succ]
                refine wpAnyH_take (i := 6) (oi := ?o61) (v := ?v61) ?h61 ?a61 ?b61 ?c61 ?d61 ?y61 hHeld ?r61
                case h61 => (simp only [List.getElem?_toArray, List.getElem?_cons_succ, List.getElem?_cons_zero]; rfl)
                case a61 => kernel_rfl
                case b61 => kernel_rfl
                case c61 => kernel_rfl
                case y61 => exact Or.inl ⟨by rfl, (by intro w hSw; (try dsimp only at hSw); go_simp <;> (try with_reducible rfl))⟩
                case d61 => exact fun _ _ _ h => h
                try simp only [Act.put, List.setIfInBounds_toArray, List.set_cons_zero, List.set_cons_succ]
                refine wpAnyH_take (i := 7) (oi := ?o62) (v := ?v62) ?h62 ?a62 ?b62 ?c62 ?d62 ?y62 hHeld ?r62
                case h62 => (simp only [List.getElem?_toArray, List.getElem?_cons_succ, List.getElem?_cons_zero]; rfl)
                case a62 => kernel_rfl
                case b62 => kernel_rfl
                case c62 => kernel_rfl
                case y62 => exact Or.inl ⟨by rfl, (by intro w hSw; (try dsimp only at hSw); go_simp <;> (try with_reducible rfl))⟩
                case d62 => exact fun _ _ _ h => h
                try simp only [Act.put, List.setIfInBounds_toArray, List.set_cons_zero, List.set_cons_succ]
                refine wpAnyH_take (i := 8) (oi := ?o63) (v := ?v63) ?h63 ?a63 ?b63 ?c63 ?d63 ?y63 hHeld ?r63
                case h63 => (simp only [List.getElem?_toArray, List.getElem?_cons_succ, List.getElem?_cons_zero]; rfl)
                case a63 => kernel_rfl
                case b63 => kernel_rfl
                case c63 => kernel_rfl
                case y63 => exact Or.inl ⟨by rfl, (by intro w hSw; (try dsimp only at hSw); go_simp <;> (try with_reducible rfl))⟩
                case d63 => exact fun _ _ _ h => h
                try simp only [Act.put, List.setIfInBounds_toArray, List.set_cons_zero, List.set_cons_succ]
                refine wpAnyH_take (i := 9) (oi := ?o64) (v := ?v64) ?h64 ?a64 ?b64 ?c64 ?d64 ?y64 hHeld ?r64
                case h64 => (simp only [List.getElem?_toArray, List.getElem?_cons_succ, List.getElem?_cons_zero]; rfl)
                case a64 => kernel_rfl
                case b64 => kernel_rfl
                case c64 => kernel_rfl
                case y64 => exact Or.inl ⟨by rfl, (by intro w hSw; (try dsimp only at hSw); go_simp <;> (try with_reducible rfl))⟩
                case d64 => exact fun _ _ _ h => h
                try simp only [Act.put, List.setIfInBounds_toArray, List.set_cons_zero, List.set_cons_succ]
                refine wpAnyH_take (i := 12) (oi := ?o65) (v := ?v65) ?h65 ?a65 ?b65 ?c65 ?d65 ?y65 hHeld ?r65
                case h65 => (simp only [List.getElem?_toArray, List.getElem?_cons_succ, List.getElem?_cons_zero]; rfl)
                case a65 => kernel_rfl
                case b65 => kernel_rfl
                case c65 => kernel_rfl
                case y65 => exact Or.inl ⟨by rfl, (by intro w hSw; (try dsimp only at hSw); go_simp <;> (try with_reducible rfl))⟩
                case d65 => exact fun _ _ _ h => h
                try simp only [Act.put, List.setIfInBounds_toArray, List.set_cons_zero, List.set_cons_succ]
                refine wpAnyH_take (i := 13) (oi := ?o66) (v := ?v66) ?h66 ?a66 ?b66 ?c66 ?d66 ?y66 hHeld ?r66
                case h66 => (simp only [List.getElem?_toArray, List.getElem?_cons_succ, List.getElem?_cons_zero]; rfl)
                case a66 => kernel_rfl
                case b66 => kernel_rfl
                case c66 => kernel_rfl
                case y66 => exact Or.inl ⟨by rfl, (by intro w hSw; (try dsimp only at hSw); go_simp <;> (try with_reducible rfl))⟩
                case d66 => exact fun _ _ _ h => h
                try simp only [Act.put, List.setIfInBounds_toArray, List.set_cons_zero, List.set_cons_succ]
                refine wpAnyH_take (i := 14) (oi := ?o67) (v := ?v67) ?h67 ?a67 ?b67 ?c67 ?d67 ?y67 hHeld ?r67
                case h67 => (simp only [List.getElem?_toArray, List.getElem?_cons_succ, List.getElem?_cons_zero]; rfl)
                case a67 => kernel_rfl
                case b67 => kernel_rfl
                case c67 => kernel_rfl
                case y67 => exact Or.inl ⟨by rfl, (by intro w hSw; (try dsimp only at hSw); go_simp <;> (try with_reducible rfl))⟩
                case d67 => exact fun _ _ _ h => h
                try simp only [Act.put, List.setIfInBounds_toArray, List.set_cons_zero, List.set_cons_succ]
                refine wpAnyH_take (i := 15) (oi := ?o68) (v := ?v68) ?h68 ?a68 ?b68 ?c68 ?d68 ?y68 hHeld ?r68
                case h68 => (simp only [List.getElem?_toArray, List.getElem?_cons_succ, List.getElem?_cons_zero]; rfl)
                case a68 => kernel_rfl
                case b68 => kernel_rfl
                case c68 => kernel_rfl
                case y68 => exact Or.inl ⟨by rfl, (by intro w hSw; (try dsimp only at hSw); go_simp <;> (try with_reducible rfl))⟩
                case d68 => exact fun _ _ _ h => h
                try simp only [Act.put, List.setIfInBounds_toArray, List.set_cons_zero, List.set_cons_succ]
                refine wpAnyH_ready (rs := [10]) (by kernel_rfl) (by simp) (AllReadyH.cons (o := ?o69) ?h69 (fun K hK => ?r69) AllReadyH.nil)
                case h69 => (simp only [List.getElem?_toArray, List.getElem?_cons_succ, List.getElem?_cons_zero]; rfl)
                go_simp
                refine (JR.out.dr.two fun fq h => wire_WBytes _ h (by omega)).mono ?_
                rintro e wa ⟨A1, c1, rfl, z1, y1, -, -, -⟩
                have JS := Lib.hid (JR.out.dr.on z1)
                have YA := Lib.hid ((YG.out.drewN 1).on z1)
                have Y1 := Lib.hid y1
                clear z1 y1
                refine hK.out _ _ (conv_bytes YA.out) (fun hHeld => ?_)
                clear hK K
                try simp only [Act.put, List.setIfInBounds_toArray, List.set_cons_zero, List.set_cons_succ]
                refine wpAnyH_more (S' := (fun W => (convert 38 9 (.slice A G.length c)).run Try.prog W = .ok (.string ⟨(G).toArray⟩) W ∧ (convert 38 9 (.slice A1 G.length c1)).run Try.prog W = .ok (.string ⟨(G).toArray⟩) W)) (fun _ h => h.1) ?_
                have hHeld := (⟨hHeld, conv_bytes (c := c1) Y1.out⟩ : _ ∧ _)
                refine wpAnyH_take (i := 11) (oi := ?o70) (v := ?v70) ?h70 ?a70 ?b70 ?c70 ?d70 ?y70 hHeld ?r70
                case h70 => (simp only [List.getElem?_toArray, List.getElem?_cons_succ, List.getElem?_cons_zero]; rfl)
                case a70 => kernel_rfl
                case b70 => kernel_rfl
                case c70 => kernel_rfl
                case y70 => exact Or.inl ⟨by rfl, (by intro w hSw; (try dsimp only at hSw); go_simp <;> (try with_reducible rfl))⟩
                case d70 => exact fun _ _ _ h => h
                try simp only [Act.put, List.setIfInBounds_toArray, List.set_cons_zero, List.set_cons_succ]
                refine wpAnyH_take (i := 16) (oi := ?o71) (v := ?v71) ?h71 ?a71 ?b71 ?c71 ?d71 ?y71 hHeld ?r71
                case h71 => (simp only [List.getElem?_toArray, List.getElem?_cons_succ, List.getElem?_cons_zero]; rfl)
                case a71 => kernel_rfl
                case b71 => kernel_rfl
                case c71 => kernel_rfl
                case y71 => exact Or.inl ⟨by rfl, (by intro w hSw; (try dsimp only at hSw); go_simp <;> (try with_reducible rfl))⟩
                case d71 => exact fun _ _ _ h => h
                try simp only [Act.put, List.setIfInBounds_toArray, List.set_cons_zero, List.set_cons_succ]
                refine wpAnyH_take (i := 17) (oi := ?o72) (v := ?v72) ?h72 ?a72 ?b72 ?c72 ?d72 ?y72 hHeld ?r72
                case h72 => (simp only [List.getElem?_toArray, List.getElem?_cons_succ, List.getElem?_cons_zero]; rfl)
                case a72 => kernel_rfl
                case b72 => kernel_rfl
                case c72 => kernel_rfl
                case y72 => exact Or.inl ⟨by rfl, (by intro w hSw; (try dsimp only at hSw); go_simp <;> (try with_reducible rfl))⟩
                case d72 => exact fun _ _ _ h => h
                try simp only [Act.put, List.setIfInBounds_toArray, List.set_cons_zero, List.set_cons_succ]
                refine wpAnyH_done (by kernel_rfl) ?_ _
                go_wp2_with fail
                go_roundw
                case rel => exact ⟨k + 1, w8.heap.size, s2.rest, G, by omega, by go_num, JS, HG⟩
                case measure => simp [intOf]; omega
              · have he1 : (s2.err == 0) = false := by rw [beq_eq_false_iff_ne]; exact he
                have he2 : (s2.err != 0) = true := by rw [bne, he1]; rfl
                have r0 : (0 : Int) ≤ (R.length : Int) := by omega
                clear he XP6
                go_wp2_with fail
                refine (AW.out _).mono ?_
                rintro e w7 ⟨rfl, b7⟩
                have B7 := Lib.hid (bel8 J6.out.1 b7)
                clear b7
                go_wp2_with fail
                go_ret
                exact ⟨rfl, B7.out⟩
            · have b3 : (kd == 3) = false := by rw [beq_eq_false_iff_ne]; exact e3
              obtain ⟨s2, es⟩ : ∃ s2, s2 = (Wr.rdL m ⟨R, 0⟩).2 := ⟨_, rfl⟩
              obtain ⟨l, el⟩ : ∃ l : List Int, l = (Wr.rdL m ⟨R, 0⟩).1 := ⟨_, rfl⟩
              have XB : Hid (s2.err = 0 → True ∧ True) := fun _ => ⟨trivial, trivial⟩
              have ZB : Hid (∀ y, y ∈ l → -9223372036854775808 ≤ y ∧ y ≤ 9223372036854775807) := by show ∀ y, _; rw [el]; exact rdL_bd m _
              have XL : Hid (s2.err = 0 → R = Wr.encL l ++ s2.rest ∧ l.length ≤ 20000) := fun h => by
                rw [es] at h
                have h1 := Wr.rdL_once (s := ⟨R, 0⟩) rfl h
                rw [← el, ← es] at h1
                refine ⟨h1, ?_⟩
                have e := congrArg List.length h1
                unfold Wr.encL at e
                rw [List.length_append, List.length_append] at e
                have e0 : (⟨R, 0⟩ : Wr.St).rest.length = R.length := rfl
                have e1 := encAll_ge l
                have e2 := congrArg List.length HM.out
                rw [List.length_append, H.out.len] at e2
                omega
              have BX : Hid (Below w3.heap.size w3 (w3.alloc (.cells #[.int .i64 kd, .int .i64 0, .int .u64 0, .string ⟨#[]⟩, .slice none 0 0] 33))) := (Below.refl _ _).alloc (Nat.le_refl _) _
              have U := Lib.hid (J3.out.readL BX.out fun fp h => wire_RInts _ h m m0 m1)
              rw [← es, ← el] at U
              have E1 := Lib.hid e1
              have E2 := Lib.hid e2
              have E3 := Lib.hid e3
              clear es el e1 e2 e3
              have d1b := (HC.out _ (bel8 J3.out.1 BX.out)).2
              go_wp2_with fail
              refine U.out.mono ?_
              rintro e w4 ⟨AL, cL, rfl, q1, q2, i4, a4, md⟩
              have hbx : w4.heap[w3.heap.size]? = some (.cells #[.int .i64 kd, .int .i64 0, .int .u64 0, .string ⟨#[]⟩, .slice none 0 0] 33 (0, 0)) := (md.2.1 _ (Nat.le_refl _) (by rw [size_alloc]; exact Nat.lt_succ_self _)).trans (heap_alloc_new w3 _)
              have cx := cell5 (i := 4) hbx rfl
              have fx := free5 (i := 4) hbx
              have JT := Lib.hid (md.2.2 w3.heap.size 4 (.slice AL l.length cL) (Nat.le_refl _) (by rw [size_alloc]; exact Nat.lt_succ_self _))
              obtain ⟨X, eX⟩ : ∃ X : It, X = ⟨kd, 0, 0, ⟨#[]⟩, l, AL, cL⟩ := ⟨_, rfl⟩
              have XK : Hid (X.k = kd) := by rw [eX]; rfl
              have HB5 : Hid ((w4.setCell ⟨w3.heap.size, 4, none⟩ (.slice AL l.length cL)).heap[w3.heap.size]? = some (.cells #[.int .i64 kd, .int .i64 X.n, .int .u64 (X.u : Nat), .string X.s, .slice X.A X.l.length X.c] 33 (0, 0))) := by
                have := set5 (i := 4) (u := .slice AL l.length cL) hbx
                rw [eX]
                exact this
              have XR : Hid (s2.err = 0 → R = Wr.itB X ++ s2.rest ∧ Wr.little 20000 X = true) := fun h => by
                obtain ⟨h1, h2⟩ := XL.out h
                rw [eX]
                refine ⟨?_, by rw [Wr.little, decide_eq_true (show l.length ≤ 20000 from h2)]; rfl⟩
                show R = (if kd = 1 then _ else if kd = 2 then _ else if kd = 3 then _ else Wr.encL l) ++ _
                rw [if_neg E1.out, if_neg E2.out, if_neg E3.out]; exact h1
              have XP : Hid (s2.err = 0 → ItOk (w4.setCell ⟨w3.heap.size, 4, none⟩ (.slice AL l.length cL)) (fun b => N ≤ b) X) := fun _ => by
                have hN := J3.out.2.1
                have hs1 : w3.heap.size < (w3.alloc (.cells #[.int .i64 kd, .int .i64 0, .int .u64 0, .string ⟨#[]⟩, .slice none 0 0] 33)).heap.size := by rw [size_alloc]; exact Nat.lt_succ_self _
                rw [eX]
                exact ⟨k0, k1, (by show (-9223372036854775808 : Int) ≤ 0; omega), (by show (0 : Int) ≤ _; omega), (by show (0 : Nat) < _; omega), ZB.out, (by show (0 : Nat) ≤ _; omega), q1, q2, ints_turn (fq := fun x => x = w3.heap.size) i4 (Turns.set (fp := fun x => x = w3.heap.size) (a := ⟨w3.heap.size, 4, none⟩) (Turns.refl w4) (.inl rfl) _) (fun ad e h0 e2 => by have := a4 ad e h0; omega), (fun ad e h0 => by have := a4 ad e h0; show N ≤ _; omega)⟩
              clear md hbx i4 a4 eX
              go_wp2_with fail
              refine (JT.out.one fun fp h => wire_Err _ h).mono ?_
              rintro e w6 ⟨rfl, b6⟩
              have J6 := Lib.hid (JT.out.on b6)
              have hb6 : w6.heap[w3.heap.size]? = some (.cells #[.int .i64 kd, .int .i64 X.n, .int .u64 (X.u : Nat), .string X.s, .slice X.A X.l.length X.c] 33 (0, 0)) := (b6.block _ (lt_of_block HB5.out)).trans HB5.out
              have c60 := cell5 (i := 0) hb6 rfl
              have c61 := cell5 (i := 1) hb6 rfl
              have c62 := cell5 (i := 2) hb6 rfl
              have c63 := cell5 (i := 3) hb6 rfl
              have c64 := cell5 (i := 4) hb6 rfl
              have XP6 : Hid (s2.err = 0 → ItOk w6 (fun b => N ≤ b) X) := fun h => (XP.out h).turn (fq := noB) (Turns.of_below b6) fun _ _ e => e.elim
              clear b6 hb6 HB5 XP
              by_cases he : s2.err = 0
              · have he1 : (s2.err == 0) = true := by rw [beq_iff_eq]; exact he
                have he2 : (s2.err != 0) = false := by rw [bne, he1]; rfl
                obtain ⟨xb1, xb2⟩ := XB.out he
                obtain ⟨xr, xl1⟩ := XR.out he
                have ok6 := XP6.out he
                have XO := Lib.hid ok6
                have hML : M.length ≤ 20000 ∧ (M ++ Wr.itB X).length ≤ 20000 := by
                  have e := congrArg List.length HM.out
                  rw [List.length_append, xr, List.length_append] at e
                  have e2 := H.out.len
                  rw [List.length_append]; omega
                obtain ⟨hm1, hm2⟩ := hML
                have EX : Hid (X.k = kd) := XK.out
                have XV : Hid (s2 = ⟨s2.rest, 0⟩) := by show _ = _; cases s2; cases he; rfl
                have HM2 : Hid ((M ++ Wr.itB X) ++ s2.rest = L) := by show _ = _; rw [List.append_assoc, ← xr]; exact HM.out
                have I7 := Lib.hid (its_new (t := 33) w6 XO.out J6.out.2.1)
                rw [XK.out] at I7
                have B7 : Hid (Below w6.heap.size w6 (w6.alloc (.cells #[.int .i64 kd, .int .i64 X.n, .int .u64 (X.u : Nat), .string X.s, .slice X.A X.l.length X.c] 33))) := (Below.refl _ _).alloc (Nat.le_refl _) _
                have J7 := Lib.hid (J6.out.on B7.out)
                have xn0 := ok6.n0
                have xn1 := ok6.n1
                have xu1 : X.u ≤ 18446744073709551615 := by have := ok6.u1; omega
                clear xr ok6 he XP6
                go_wp2_with fail
                refine (J7.out.write fun fq h hN => law8_write _ h (I7.out.bound fun b hb e => by have := hN b e; omega) (by omega) (by omega : 1 ≤ 9223372036854775807) (by omega) (by omega) (by rw [List.all_cons, List.all_nil, Bool.and_true]; exact xl1)).mono ?_
                rw [show Wr.itsB [X] = Wr.itB X from List.append_nil _]
                rintro e w8 ⟨rfl, j8⟩
                obtain ⟨G, eG⟩ : ∃ G, G = M ++ Wr.itB X := ⟨_, rfl⟩
                rw [← eG] at j8 hm2
                have J8 := Lib.hid j8
                have HG : Hid (G ++ s2.rest = L) := by rw [eG]; exact HM2.out
                have hgl : (n : Int) - ((s2.rest.length : Nat) : Int) = (G.length : Int) := by
                  have e := congrArg List.length HG.out
                  rw [List.length_append, H.out.len] at e; omega
                have hgn : (G.length : Int) ≤ (n : Int) := by omega
                clear j8 eG c60 c61 c62 c63 c64 d0 d1
                go_wp2_with fail
                refine (J8.out.one fun fp h => wire_Left _ h).mono ?_
                rw [XV.out, show Wr.left ⟨s2.rest, 0⟩ = (s2.rest.length : Nat) from rfl]
                rintro e w9 ⟨rfl, b9⟩
                rw [XV.out] at J8
                have JR := Lib.hid (J8.out.on b9)
                clear b9
                have hg0 : (0 : Int) ≤ (G.length : Int) := by omega
                have yg := (H.out.on JR.out.1).head (X := G) (Z := s2.rest) HG.out.symm
                have YG := Lib.hid yg
                have hgc : (G.length : Int) ≤ (c : Int) := by omega
                have hgc2 : G.length ≤ c := by omega
                have gd1 : decide ((G.length : Int) < 0) = false := by simp
                have gd3 : ¬ n < G.length := by omega
                have gd4 : G.length ≤ n := by omega
                clear yg
                go_wp2_with fail
                refine wp_region_held_drew (S := (fun W => (convert 38 9 (.slice A G.length c)).run Try.prog W = .ok (.string ⟨(G).toArray⟩) W)) (by kernel_rfl) (conv_bytes (YG.out.drewN 1)) (fun hHeld => ?_)
                try simp only [Act.put, List.setIfInBounds_toArray, List.set_cons_zero, List.set_cons_succ]
                refine wpAnyH_take (i := 0) (oi := ?o1) (v := ?v1) ?h1 ?a1 ?b1 ?c1 ?d1 ?y1 hHeld ?r1
                case h1 => (simp only [List.getElem?_toArray, List.getElem?_cons_succ, List.getElem?_cons_zero]; rfl)
                case a1 => kernel_rfl
                case b1 => kernel_rfl
                case c1 => kernel_rfl
                case y1 => exact Or.inl ⟨by rfl, (by intro w hSw; (try dsimp only at hSw); go_simp <;> (try with_reducible rfl))⟩
                case d1 => exact fun _ _ _ h => h
                try simp only [Act.put, List.setIfInBounds_toArray, List.set_cons_zero, List.set_cons_succ]
                refine wpAnyH_take (i := 1) (oi := ?o2) (v := ?v2) ?h2 ?a2 ?b2 ?c2 ?d2 ?y2 hHeld ?r2
                case h2 => (simp only [List.getElem?_toArray, List.getElem?_cons_succ, List.getElem?_cons_zero]; rfl)
                case a2 => kernel_rfl
                case b2 => kernel_rfl
                case c2 => kernel_rfl
                case y2 => exact Or.inl ⟨by rfl, (by intro w hSw; (try dsimp only at hSw); go_simp <;> (try with_reducible rfl))⟩
                case d2 => exact fun _ _ _ h => h
                try simp only [Act.put, List.setIfInBounds_toArray, List.set_cons_zero, List.set_cons_succ]
                refine wpAnyH_take (i := 2) (oi := ?o3) (v := ?v3) ?h3 ?a3 ?b3 ?c3 ?d3 ?y3 hHeld ?r3
                case h3 => (simp only [List.getElem?_toArray, List.getElem?_cons_succ, List.getElem?_cons_zero]; rfl)
                case a3 => kernel_rfl
                case b3 => kernel_rfl
                case c3 => kernel_rfl
                case y3 => exact Or.inl ⟨by rfl, (by intro w hSw; (try dsimp only at hSw); go_simp <;> (try with_reducible rfl))⟩
                case d3 => exact fun _ _ _ h => h
                try simp only [Act.put, List.setIfInBounds_toArray, List.set_cons_zero, List.set_cons_succ]
                refine wpAnyH_take (i := 3) (oi := ?o4) (v := ?v4) ?h4 ?a4 ?b4 ?c4 ?d4 ?y4 hHeld ?r4
                case h4 => (simp only [List.getElem?_toArray, List.getElem?_cons_succ, List.getElem?_cons_zero]; rfl)
                case a4 => kernel_rfl
                case b4 => kernel_rfl
                case c4 => kernel_rfl
                case y4 => exact Or.inl ⟨by rfl, (by intro w hSw; (try dsimp only at hSw); go_simp <;> (try with_reducible rfl))⟩
                case d4 => exact fun _ _ _ h => h
                try simp only [Act.put, List.setIfInBounds_toArray, List.set_cons_zero, List.set_cons_succ]
                refine wpAnyH_take (i := 4) (oi := ?o5) (v := ?v5) ?h5 ?a5 ?b5 ?c5 ?d5 ?y5 hHeld ?r5
                case h5 => (simp only [List.getElem?_toArray, List.getElem?_cons_succ, List.getElem?_cons_zero]; rfl)
                case a5 => kernel_rfl
                case b5 => kernel_rfl
                case c5 => kernel_rfl
                case y5 => exact Or.inl ⟨by rfl, (by intro w hSw; (try dsimp only at hSw); go_simp <;> (try with_reducible rfl))⟩
                case d5 => exact fun _ _ _ h => h
                try simp only [Act.put, List.setIfInBounds_toArray, List.set_cons_zero, List.set_cons_succ]
                refine wpAnyH_take (i := 5) (oi := ?o6) (v := ?v6) ?h6 ?a6 ?b6 ?c6 ?d6 ?y6 hHeld ?r6
                case h6 => (simp only [List.getElem?_toArray, List.getElem?_cons_succ, List.getElem?_cons_zero]; rfl)
                case a6 => kernel_rfl
                case b6 => kernel_rfl
                case c6 => kernel_rfl
                case y6 => exact Or.inl ⟨by rfl, (by intro w hSw; (try dsimp only at hSw); go_simp <;> (try with_reducible rfl))⟩
                case d6 => exact fun _ _ _ h => h
                try simp only [Act.put, List.setIfInBounds_toArray, List.set_cons_zero, List.set_cons_succ]
                refine wpAnyH_take (i := 6) (oi := ?o7) (v := ?v7) ?h7 ?a7 ?b7 ?c7 ?d7 ?y7 hHeld ?r7
                case h7 => (simp only [List.getElem?_toArray, List.getElem?_cons_succ, List.getElem?_cons_zero]; rfl)
                case a7 => kernel_rfl
                case b7 => kernel_rfl
                case c7 => kernel_rfl
                case y7 => exact Or.inl ⟨by rfl, (by intro w hSw; (try dsimp only at hSw); go_simp <;> (try with_reducible rfl))⟩
                case d7 => exact fun _ _ _ h => h
                try simp only [Act.put, List.setIfInBounds_toArray, List.set_cons_zero, List.set_cons_succ]
                refine wpAnyH_take (i := 7) (oi := ?o8) (v := ?v8) ?h8 ?a8 ?b8 ?c8 ?d8 ?y8 hHeld ?r8
                case h8 => (simp only [List.getElem?_toArray, List.getElem?_cons_succ, List.getElem?_cons_zero]; rfl)
                case a8 => kernel_rfl
                case b8 => kernel_rfl
                case c8 => kernel_rfl
                case y8 => exact Or.inl ⟨by rfl, (by intro w hSw; (try dsimp only at hSw); go_simp <;> (try with_reducible rfl))⟩
                case d8 => exact fun _ _ _ h => h
                try simp only [Act.put, List.setIfInBounds_toArray, List.set_cons_zero, List.set_cons_succ]
                refine wpAnyH_take (i := 8) (oi := ?o9) (v := ?v9) ?h9 ?a9 ?b9 ?c9 ?d9 ?y9 hHeld ?r9
                case h9 => (simp only [List.getElem?_toArray, List.getElem?_cons_succ, List.getElem?_cons_zero]; rfl)
                case a9 => kernel_rfl
                case b9 => kernel_rfl
                case c9 => kernel_rfl
                case y9 => exact Or.inl ⟨by rfl, (by intro w hSw; (try dsimp only at hSw); go_simp <;> (try with_reducible rfl))⟩
                case d9 => exact fun _ _ _ h => h
                try simp only [Act.put, List.setIfInBounds_toArray, List.set_cons_zero, List.set_cons_succ]
                refine wpAnyH_take (i := 9) (oi := ?o10) (v := ?v10) ?h10 ?a10 ?b10 ?c10 ?d10 ?y10 hHeld ?r10
                case h10 => (simp only [List.getElem?_toArray, List.getElem?_cons_succ, List.getElem?_cons_zero]; rfl)
                case a10 => kernel_rfl
                case b10 => kernel_rfl
                case c10 => kernel_rfl
                case y10 => exact Or.inl ⟨by rfl, (by intro w hSw; (try dsimp only at hSw); go_simp <;> (try with_reducible rfl))⟩
                case d10 => exact fun _ _ _ h => h
                try simp only [Act.put, List.setIfInBounds_toArray, List.set_cons_zero, List.set_cons_succ]
                refine wpAnyH_take (i := 12) (oi := ?o11) (v := ?v11) ?h11 ?a11 ?b11 ?c11 ?d11 ?y11 hHeld ?r11
                case h11 => (simp only [List.getElem?_toArray, List.getElem?_cons_succ, List.getElem?_cons_zero]; rfl)
                case a11 => kernel_rfl
                case b11 => kernel_rfl
                case c11 => kernel_rfl
                case y11 => exact Or.inl ⟨by rfl, (by intro w hSw; (try dsimp only at hSw); go_simp <;> (try with_reducible rfl))⟩
                case d11 => exact fun _ _ _ h => h
                try simp only [Act.put, List.setIfInBounds_toArray, List.set_cons_zero, List.set_cons_succ]
                refine wpAnyH_take (i := 13) (oi := ?o12) (v := ?v12) ?h12 ?a12 ?b12 ?c12 ?d12 ?y12 hHeld ?r12
                case h12 => (simp only [List.getElem?_toArray, List.getElem?_cons_succ, List.getElem?_cons_zero]; rfl)
                case a12 => kernel_rfl
                case b12 => kernel_rfl
                case c12 => kernel_rfl
                case y12 => exact Or.inl ⟨by rfl, (by intro w hSw; (try dsimp only at hSw); go_simp <;> (try with_reducible rfl))⟩
                case d12 => exact fun _ _ _ h => h
                try simp only [Act.put, List.setIfInBounds_toArray, List.set_cons_zero, List.set_cons_succ]
                refine wpAnyH_take (i := 14) (oi := ?o13) (v := ?v13) ?h13 ?a13 ?b13 ?c13 ?d13 ?y13 hHeld ?r13
                case h13 => (simp only [List.getElem?_toArray, List.getElem?_cons_succ, List.getElem?_cons_zero]; rfl)
                case a13 => kernel_rfl
                case b13 => kernel_rfl
                case c13 => kernel_rfl
                case y13 => exact Or.inl ⟨by rfl, (by intro w hSw; (try dsimp only at hSw); go_simp <;> (try with_reducible rfl))⟩
                case d13 => exact fun _ _ _ h => h
                try simp only [Act.put, List.setIfInBounds_toArray, List.set_cons_zero, List.set_cons_succ]
                refine wpAnyH_take (i := 15) (oi := ?o14) (v := ?v14) ?h14 ?a14 ?b14 ?c14 ?d14 ?y14 hHeld ?r14
                case h14 => (simp only [List.getElem?_toArray, List.getElem?_cons_succ, List.getElem?_cons_zero]; rfl)
                case a14 => kernel_rfl
                case b14 => kernel_rfl
                case c14 => kernel_rfl
                case y14 => exact Or.inl ⟨by rfl, (by intro w hSw; (try dsimp only at hSw); go_simp <;> (try with_reducible rfl))⟩
                case d14 => exact fun _ _ _ h => h
                try simp only [Act.put, List.setIfInBounds_toArray, List.set_cons_zero, List.set_cons_succ]
                refine wpAnyH_ready (rs := [10]) (by kernel_rfl) (by simp) (AllReadyH.cons (o := ?o15) ?h15 (fun K hK => ?r15) AllReadyH.nil)
                case h15 => (simp only [List.getElem?_toArray, List.getElem?_cons_succ, List.getElem?_cons_zero]; rfl)
                go_simp
                refine (JR.out.dr.two fun fq h => wire_WBytes _ h (by omega)).mono ?_
                rintro e wa ⟨A1, c1, rfl, z1, y1, -, -, -⟩
                have JS := Lib.hid (JR.out.dr.on z1)
                have YA := Lib.hid ((YG.out.drewN 1).on z1)
                have Y1 := Lib.hid y1
                clear z1 y1
                refine hK.out _ _ (conv_bytes YA.out) (fun hHeld => ?_)
                clear hK K
                try simp only [Act.put, List.setIfInBounds_toArray, List.set_cons_zero, List.set_cons_succ]
                refine wpAnyH_more (S' := (fun W => (convert 38 9 (.slice A G.length c)).run Try.prog W = .ok (.string ⟨(G).toArray⟩) W ∧ (convert 38 9 (.slice A1 G.length c1)).run Try.prog W = .ok (.string ⟨(G).toArray⟩) W)) (fun _ h => h.1) ?_
                have hHeld := (⟨hHeld, conv_bytes (c := c1) Y1.out⟩ : _ ∧ _)
                refine wpAnyH_take (i := 11) (oi := ?o16) (v := ?v16) ?h16 ?a16 ?b16 ?c16 ?d16 ?y16 hHeld ?r16
                case h16 => (simp only [List.getElem?_toArray, List.getElem?_cons_succ, List.getElem?_cons_zero]; rfl)
                case a16 => kernel_rfl
                case b16 => kernel_rfl
                case c16 => kernel_rfl
                case y16 => exact Or.inl ⟨by rfl, (by intro w hSw; (try dsimp only at hSw); go_simp <;> (try with_reducible rfl))⟩
                case d16 => exact fun _ _ _ h => h
                try simp only [Act.put, List.setIfInBounds_toArray, List.set_cons_zero, List.set_cons_succ]
                refine wpAnyH_take (i := 16) (oi := ?o17) (v := ?v17) ?h17 ?a17 ?b17 ?c17 ?d17 ?y17 hHeld ?r17
                case h17 => (simp only [List.getElem?_toArray, List.getElem?_cons_succ, List.getElem?_cons_zero]; rfl)
                case a17 => kernel_rfl
                case b17 => kernel_rfl
                case c17 => kernel_rfl
                case y17 => exact Or.inl ⟨by rfl, (by intro w hSw; (try dsimp only at hSw); go_simp <;> (try with_reducible rfl))⟩
                case d17 => exact fun _ _ _ h => h
                try simp only [Act.put, List.setIfInBounds_toArray, List.set_cons_zero, List.set_cons_succ]
                refine wpAnyH_take (i := 17) (oi := ?o18) (v := ?v18) ?h18 ?a18 ?b18 ?c18 ?d18 ?y18 hHeld ?r18
                case h18 => (simp only [List.getElem?_toArray, List.getElem?_cons_succ, List.getElem?_cons_zero]; rfl)
                case a18 => kernel_rfl
                case b18 => kernel_rfl
                case c18 => kernel_rfl
                case y18 => exact Or.inl ⟨by rfl, (by intro w hSw; (try dsimp only at hSw); go_simp <;> (try with_reducible rfl))⟩
                case d18 => exact fun _ _ _ h => h
                try simp only [Act.put, List.setIfInBounds_toArray, List.set_cons_zero, List.set_cons_succ]
                refine wpAnyH_done (by kernel_rfl) ?_ _
                go_wp2_with fail
                go_roundw
                case rel => exact ⟨k + 1, w8.heap.size, s2.rest, G, by omega, by go_num, JS, HG⟩
                case measure => simp [intOf]; omega
              · have he1 : (s2.err == 0) = false := by rw [beq_eq_false_iff_ne]; exact he
                have he2 : (s2.err != 0) = true := by rw [bne, he1]; rfl
                have r0 : (0 : Int) ≤ (R.length : Int) := by omega
                clear he XP6
                go_wp2_with fail
                refine (AW.out _).mono ?_
                rintro e w7 ⟨rfl, b7⟩
                have B7 := Lib.hid (bel8 J6.out.1 b7)
                clear b7
                go_wp2_with fail
                go_ret
                exact ⟨rfl, B7.out⟩
      · have hge : ¬ (k : Int) < (m' : Int) := by omega
        go_wp2_with fail
        refine (AW.out _).mono ?_
        rintro e w3 ⟨rfl, b3⟩
        have B3 := Lib.hid (bel8 HJ.out.1 b3)
        clear b3
        go_wp2_with fail
        go_ret
        exact ⟨rfl, B3.out⟩
  · by_cases hn1 : n ≤ 20000
    · have g1 : decide ((20000 : Int) < (n : Int)) = false := by simp; omega
      have g2 : decide ((200 : Int) < (m' : Int)) = true := by simp; omega
      clear h hK
      go_enter Try.func6, Try.ntmps6
      go_wp2_with fail
      refine (AW.out _).mono ?_
      rintro e w1 ⟨rfl, b1⟩
      have B1 := Lib.hid b1
      clear b1
      go_wp2_with fail
      go_ret
      exact ⟨rfl, B1.out⟩
    · have g1 : decide ((20000 : Int) < (n : Int)) = true := by simp; omega
      clear h hK
      go_enter Try.func6, Try.ntmps6
      go_wp2_with fail
      refine (AW.out _).mono ?_
      rintro e w1 ⟨rfl, b1⟩
      have B1 := Lib.hid b1
      clear b1
      go_wp2_with fail
      go_ret
      exact ⟨rfl, B1.out⟩

/-! ### The row's step, the row -/
set_option maxRecDepth 100000 in
theorem lifted (os : Os) (started : os.Started) (H : Type) (enc : TypeId × Value → H) :
    ReturnsInHanded {} Try.checked os 6 .any (Rows.wireOnceSpec.pre6 enc Try.prog Try.f6 Rows.wireOnceRow.domain false) (Rows.wireOnceSpec.post enc Try.prog Try.f6 false true false false) := by
  refine returnsInHanded_of_change (C := Try.checked) own started (by kernel_rfl) Try.func6
    (ChangeSpec.witness6 (enc := enc) (C := Try.checked) false ⟨#[], #[.slice none 0 0, .slice none 0 0], []⟩ 8 (by kernel_rfl) (by kernel_rfl) (by kernel_rfl) (by kernel_rfl)) ?_
  intro W base args ds gs before hval0 hW hcnd _
  skip
  have hval : ∀ (j : Nat) t v, Try.f6.params[j]? = some t → args[j]? = some v → Value.okWide Try.prog W .any base t v := hval0
  have hW' := hW
  obtain ⟨p, q, hA0, hV, rfl, hfz, hnd⟩ := hW
  have hA : DataW.TrodAll enc Try.prog W 0 (fun _ => true) true Try.f6.params.toList args.toList ds p := hA0
  rw [Try.params6] at hA hval

  obtain ⟨v0, vs0, d0, ds0, p0, q0, hargs, rfl, rfl, h0, r0⟩ := trodAll_cons hA
  obtain ⟨v1, vs1, d1, ds1, p1, q1, rfl, rfl, rfl, h1, r1⟩ := trodAll_cons r0
  obtain ⟨rfl, rfl, rfl⟩ := trodAll_nil r1
  obtain rfl : args = #[v0, v1] := by cases args; simp_all
  obtain ⟨rfl, rfl⟩ := trodVars_none hV
  obtain ⟨B0, l0, q0', rfl⟩ := okWide_slice Try.underlying38 (hval 0 38 v0 rfl rfl)
  have k0 := h0
  have lt0 : ∀ x ∈ p0, x.block < W.heap.size := by
    obtain ⟨m, hm⟩ := k0
    exact DataW.trod_lt m _ _ _ hm
  obtain ⟨D0, hD0⟩ := sl_opened (e := (.int .u8)) (t := 38) (by kernel_rfl) h0
  obtain ⟨A0, n0, c0, L0, e0, x0, y0, w0⟩ := byts_of_rd hD0
  obtain ⟨rfl, rfl, rfl⟩ : B0 = A0 ∧ l0 = n0 ∧ q0' = c0 := by simpa using e0
  obtain ⟨B1, l1, q1', rfl⟩ := okWide_slice Try.underlying40 (hval 1 40 v1 rfl rfl)
  have k1 := h1
  have lt1 : ∀ x ∈ p1, x.block < W.heap.size := by
    obtain ⟨m, hm⟩ := k1
    exact DataW.trod_lt m _ _ _ hm
  obtain ⟨D1, hD1⟩ := sl_opened (e := AkTy) (t := 40) (by kernel_rfl) h1
  obtain ⟨A1, n1, c1, L1, e1, x1, y1, w1⟩ := aks_of_rd hD1
  obtain ⟨rfl, rfl, rfl⟩ : B1 = A1 ∧ l1 = n1 ∧ q1' = c1 := by simpa using e1
  clear hA0 hval0
  refine (walk _ _ _ L0 _ _ _ L1 x0 y0 x1 y1 W w0 w1).mono fun e W' ⟨he, bel⟩ => ?_
  subst he
  exact ⟨_, rfl, _, _, _, [], _, [], hW', trodAll_mk1 (shut_bool Try.underlying4 _), (trodAll_cons_mk (Below.trod laidOut (by kernel_rfl) (of_decide_eq_true (by kernel_rfl)) k0 bel lt0) (trodAll_cons_mk (Below.trod laidOut (by kernel_rfl) (of_decide_eq_true (by kernel_rfl)) k1 bel lt1) trodAll_mk0)), rfl, bel.frame _, fun h => by cases h⟩

theorem over : Rows.WireOnceSaid :=
  OpenClaim.holds_of_wide 6 Try.f6 rfl rfl rfl rfl rfl rfl rfl ⟨rfl, rfl, rfl, rfl, rfl⟩ rfl rfl rfl rfl rfl (by kernel_rfl) Try.func6 (by kernel_rfl)
    (of_decide_eq_true (by kernel_rfl)) (by unfold Func.isWrapper; first | (rw [if_pos (by decide +kernel)]; kernel_rfl) | (rw [if_neg (by decide +kernel)]; exact ⟨rfl, rfl⟩))
    (fun os started H enc _ => lifted os started H enc)
/-- The statement. -/
theorem proved : Rows.WireOnceSaid := over
end Go.Proofs.Ytdleleanaihcoaa.wireOnce
