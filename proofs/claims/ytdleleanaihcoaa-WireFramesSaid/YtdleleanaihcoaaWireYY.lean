/- Layer 8, the project's package wire: Frame, Next. -/
import Derived.Test.YtdleleanaihcoaaWireY
namespace Go.Proofs.Ytdleleanaihcoaa
set_option maxRecDepth 20000
open Go.RowKit
set_option linter.unusedVariables false
set_option linter.unusedSimpArgs false
theorem fpv_far {w0 W W' : World} {p : Nat} {v v' : Value} (b0 : Below w0.heap.size w0 W) (hf : ∀ b, fpv p v b → w0.heap.size ≤ b) (t : Turns (fpv p v) W W') (g : Grows W (fpv p v) (fpv p v')) :
    Below w0.heap.size w0 W' ∧ ∀ b, fpv p v' b → w0.heap.size ≤ b :=
  ⟨t.on_below b0 b0.size fun b _ hb => hf b hb, fun b hb => (g b hb).elim (hf b) fun h => Nat.le_trans b0.size h⟩
set_option maxHeartbeats 1000000 in
theorem wireF_Frame {A : Option Addr} {n c : Nat} {L : List UInt8} (w : World) (h : Byts w w.heap.size A n L) (hn : n ≤ 900000000) :
    Calls Try.prog 40 #[.slice A n c] w (BRes (Wr.frame L) w) := by
  have hb : n ≤ 18446744073709551615 := by omega
  have HT := Lib.hid (Wr.enc_ten (x := n) (by omega))
  have HL := Lib.hid h.len
  have HH := Lib.hid h
  clear h
  go_enter Try.func40, Try.ntmps40
  go_wp2_with fail
  refine (wireV_NewWriter w).mono ?_
  rintro e w1 ⟨p, T, rfl, r1, b1, hp⟩
  have R1 := Lib.hid r1
  have B1 := Lib.hid b1
  have F1 : Hid (∀ b, fpv p (.slice none 0 0) b → w.heap.size ≤ b) := fun b hb => by
    rcases hb with rfl | hb
    · exact hp
    · cases hb
  clear r1 b1 hp
  go_wp2_with fail
  refine (wireV_Uint n (by omega) w1 R1.out (by simp)).mono ?_
  rintro e w2 ⟨rfl, v2, r2, t2, g2⟩
  have R2 := Lib.hid r2
  have B2 := Lib.hid (fpv_far B1.out F1.out t2 g2).1
  have F2 := Lib.hid (fpv_far B1.out F1.out t2 g2).2
  have Y2 := Lib.hid (HH.out.on B2.out)
  clear r2 t2 g2 R1 B1 F1
  go_wp2_with fail
  refine (wireV_add w2 R2.out Y2.out (by rw [List.nil_append]; have := HT.out; omega)).mono ?_
  rintro e w3 ⟨rfl, v3, r3, t3, g3⟩
  have R3 := Lib.hid r3
  have B3 := Lib.hid (fpv_far B2.out F2.out t3 g3).1
  have F3 := Lib.hid (fpv_far B2.out F2.out t3 g3).2
  have Y3 := Lib.hid (HH.out.on B3.out)
  clear r3 t3 g3 R2 B2 F2 Y2
  go_wp2_with fail
  refine (wire_checksum w3 Y3.out (by omega)).mono ?_
  rintro e w4 ⟨A4, c4, rfl, b4, y4, -, -, -⟩
  have R4 := Lib.hid (R3.out.on b4)
  have B4 := Lib.hid (bthn6 B3.out b4)
  have Y4 := Lib.hid y4
  clear b4 y4 R3 B3 Y3
  go_wp2_with fail
  refine (wireV_add w4 R4.out Y4.out (by rw [List.nil_append, List.length_append, HL.out, Wr.bg_len]; have := HT.out; omega)).mono ?_
  rintro e w5 ⟨rfl, v5, r5, t5, g5⟩
  have B5 := (fpv_far B4.out F3.out t5 g5).1
  have F5 := (fpv_far B4.out F3.out t5 g5).2
  have hc5 := r5.cell
  have hE : [] ++ Wr.enc n ++ L ++ Wr.bg 8 (Wr.dg L) = Wr.frame L := by unfold Wr.frame; rw [HL.out, List.nil_append]
  rw [hE] at r5
  obtain ⟨A5, c5, rfl, z1, z2, z3, -⟩ := r5.own.form
  have FIN : Hid (BRes (Wr.frame L) w (.returned (.slice A5 (Wr.frame L).length c5)) w5) := ⟨A5, c5, rfl, B5, z3, r5.own.base fun k hk => F5 k (.inr hk), z1, z2⟩
  obtain ⟨m, em⟩ : ∃ m, m = (Wr.frame L).length := ⟨_, rfl⟩
  rw [← em] at hc5 FIN
  clear r5 t5 g5 B5 F5 hE z1 z2 z3 em R4 B4 F3 Y4
  go_wp2_with fail
  go_ret
  exact FIN.out
set_option maxHeartbeats 4000000 in
theorem wireF_Next {A : Option Addr} {n c : Nat} {L : List UInt8} (w : World) (h : Byts w w.heap.size A n L) (hn : n ≤ 900000000000) (hnc : n ≤ c) (p : Int) (p0 : -9223372036854775808 ≤ p) (p1 : p ≤ 9223372036854775807) :
    Calls Try.prog 38 #[.slice A n c, .int .i64 p] w (NRes (Wr.nxL L p) (Wr.nxA L p) (Wr.nxE L p) w) := by
  by_cases ho : p < 0 ∨ (L.length : Int) < p
  · obtain ⟨e1, e2, e3⟩ := Wr.nx_out ho
    rw [e1, e2, e3]
    rw [h.len] at ho
    by_cases hp : p < 0
    · clear ho e1 e2 e3 h
      go_enter Try.func38, Try.ntmps38
      go_wp2_with fail
      go_ret3
      exact NRes.none_ w 0 2 0
    · have hp2 : (n : Int) < p := by omega
      clear ho e1 e2 e3 h
      go_enter Try.func38, Try.ntmps38
      go_wp2_with fail
      go_ret3
      exact NRes.none_ w 0 2 0
  · obtain ⟨k, rfl⟩ : ∃ k : Nat, p = (k : Int) := ⟨p.toNat, by omega⟩
    clear p0 p1
    have hk : k ≤ n := by have := h.len; omega
    have hkL : k ≤ L.length := by have := h.len; omega
    have hk2 : ¬ (n : Int) < (k : Int) := by omega
    have hk3 : (k : Int) ≤ (n : Int) := by omega
    obtain ⟨x, m, er, hT⟩ : ∃ x m er, Wr.tk 0 (L.drop k) = (x, m, er) := ⟨_, _, _, rfl⟩
    have Y0 := byts_from h hk hnc
    have V0 := wire_varint (c := c - k) w Y0 (by omega)
    rw [hT] at V0
    rcases A with _ | ad
    · have hn0 : n = 0 := by
        rcases Nat.eq_zero_or_pos n with e | e
        · exact e
        · obtain ⟨ad, e, -⟩ := h.2 e; cases e
      subst hn0
      obtain rfl : k = 0 := by omega
      have hL0 : L = [] := List.length_eq_zero_iff.1 h.len
      subst hL0
      have hT2 : Wr.tk 0 (([] : List UInt8).drop 0) = (0, 0, 28) := rfl
      obtain ⟨e1, e2, e3⟩ := Wr.nx_in (L := []) (k := 0) (Nat.le_refl _) (Wr.nx0_err hT2 (by decide))
      rw [if_neg (by decide)] at e2
      rw [e1, e2, e3]
      rw [hT2] at hT
      injection hT with t1 hT
      injection hT with t2 t3
      subst t1 t2 t3
      rw [if_none] at V0
      have V := Lib.hid V0
      clear V0 Y0 h ho e1 e2 e3 hT2 hkL
      go_enter Try.func38, Try.ntmps38
      go_wp2_with (go_at_call 51; refine V.out.mono ?_; rintro e w' ⟨rfl, rfl⟩)
      go_ret3
      exact NRes.none_ w 0 28 0
    · obtain ⟨D0, eD0⟩ : ∃ D, (if c = k then some ad else some (ad.add k)) = D := ⟨_, rfl⟩
      rw [show (if c = k then some ad else Option.map (·.add k) (some ad)) = D0 from eD0] at V0
      have V := Lib.hid V0
      clear V0 Y0
      by_cases he : er = 0
      · subst he
        obtain ⟨hx, -, hm, hm0, -⟩ := Wr.tk_once 0 _ x m (by omega) hT
        rw [Wr.lim_zero] at hx
        rw [List.length_drop, h.len] at hm
        have hx1 : (x : Int) ≤ 18446744073709551615 := by omega
        obtain rfl : D0 = some (ad.add k) := by rw [← eD0, if_neg (by omega)]
        clear eD0
        obtain ⟨f, ef⟩ : ∃ f, f = k + m := ⟨_, rfl⟩
        obtain ⟨l, el⟩ : ∃ l, l = n - f := ⟨_, rfl⟩
        have hkm : (k : Int) + (m : Int) = (f : Int) := by omega
        have hf1 : f ≤ 900000000000 := by omega
        have hfl : (n : Int) - (f : Int) = (l : Int) := by omega
        have hR : (L.drop k).drop m = L.drop f := by rw [List.drop_drop, ef]
        have hRl : ((L.drop k).drop m).length = l := by rw [hR, List.length_drop, h.len, el]
        by_cases hs : l < x + 8
        · obtain ⟨e1, e2, e3⟩ := Wr.nx_in hkL (Wr.nx0_short hT (by rw [hRl]; exact hs))
          rw [if_neg (by decide)] at e2
          rw [e1, e2, e3]
          clear hT e1 e2 e3 ho hkL hR hRl h hx
          by_cases hl8 : l < 8
          · have hl9 : (l : Int) - 8 < 0 := by omega
            clear ef el hs
            go_enter Try.func38, Try.ntmps38
            go_wp2_with (go_at_call 51; refine V.out.mono ?_; rintro e w' ⟨rfl, rfl⟩)
            go_ret3
            exact NRes.none_ w 0 28 0
          · obtain ⟨l8, el8⟩ : ∃ l8, l8 = l - 8 := ⟨_, rfl⟩
            have hl10 : (l : Int) - 8 = (l8 : Int) := by omega
            have hl11 : (l8 : Int) < (x : Int) := by omega
            have hl12 : l8 ≤ 900000000000 := by omega
            clear ef el hs el8
            go_enter Try.func38, Try.ntmps38
            go_wp2_with (go_at_call 51; refine V.out.mono ?_; rintro e w' ⟨rfl, rfl⟩)
            go_ret3
            exact NRes.none_ w 0 28 0
        · obtain ⟨l8, el8⟩ : ∃ l8, l8 = l - 8 := ⟨_, rfl⟩
          have hl10 : (l : Int) - 8 = (l8 : Int) := by omega
          have hl11 : ¬ (l8 : Int) < (x : Int) := by omega
          have hl12 : l8 ≤ 900000000000 := by omega
          have hx2 : x ≤ 900000000000 := by omega
          obtain ⟨t, et⟩ : ∃ t, t = f + x := ⟨_, rfl⟩
          obtain ⟨u, eu⟩ : ∃ u, u = t + 8 := ⟨_, rfl⟩
          have g1 : (f : Int) + (x : Int) = (t : Int) := by omega
          have ht1 : t ≤ 900000000000 := by omega
          have g2 : IntKind.i64.wrap (u : Int) = (u : Int) := by rw [IntWalk.i64_in _ (by omega)]
          have g3 : (t : Int) + 8 = (u : Int) := by omega
          have b1 : t ≤ u := by omega
          have b2 : (u : Int) ≤ (c : Int) := by omega
          have b3 : u - t = 8 := by omega
          have b4 : f ≤ t := by omega
          have b5 : (t : Int) ≤ (c : Int) := by omega
          have b6 : t - f = x := by omega
          have hZ1 : (((L.drop k).drop m).drop x).take 8 = (L.drop t).take 8 := by rw [hR, List.drop_drop, et]
          have hZ2 : ((L.drop k).drop m).take x = (L.drop f).take x := by rw [hR]
          obtain ⟨D1, eD1⟩ : ∃ A', (if c = t then some ad else some (ad.add t)) = A' := ⟨_, rfl⟩
          obtain ⟨D2, eD2⟩ : ∃ A', (if c = f then some ad else some (ad.add f)) = A' := ⟨_, rfl⟩
          have y1 := byts_cut (a := t) (X := 8) h (by omega) hnc
          have y2 := byts_cut (a := f) (X := x) h (by omega) hnc
          rw [eD1] at y1
          rw [eD2] at y2
          obtain rfl : D1 = some (ad.add t) := by rw [← eD1, if_neg (by omega)]
          obtain rfl : D2 = some (ad.add f) := by rw [← eD2, if_neg (by omega)]
          clear eD1 eD2
          obtain ⟨Z, eZ⟩ : ∃ Z, Z = (L.drop f).take x := ⟨_, rfl⟩
          rw [← eZ] at y2 hZ2
          obtain ⟨S, eS⟩ : ∃ S, S = (L.drop t).take 8 := ⟨_, rfl⟩
          rw [← eS] at y1 hZ1
          have Y1 := Lib.hid y1
          have Y2 := Lib.hid y2
          have hZl : Z.length = x := y2.len
          have HZ := Lib.hid hZl
          have CH : Hid (∀ j, Calls Try.prog 57 #[.slice (some (ad.add f)) x (c - f)] (w.drewN j) (BRes (Wr.bg 8 (Wr.dg Z)) (w.drewN j))) := fun j => wire_checksum (w.drewN j) (Y2.out.drewN j) (by omega)
          have hns : ¬ ((L.drop k).drop m).length < x + 8 := by rw [hRl]; omega
          have hnum : k + (m + x + 8) = u := by omega
          by_cases hS : S = Wr.bg 8 (Wr.dg Z)
          · obtain ⟨e1, e2, e3⟩ := Wr.nx_in hkL (Wr.nx0_ok hT hns (by rw [hZ1, hZ2]; exact hS))
            rw [if_pos rfl] at e2
            rw [e1, e2, e3, hZ2]
            rw [show (k : Int) + ((m + x + 8 : Nat) : Int) = (u : Int) by omega]
            have HS := Lib.hid hS
            clear hT e1 e2 e3 ho hkL hR hRl h hm hm0 hx ef el hs el8 et eu hZ1 hZ2 y1 y2 hZl hns hnum hS eZ eS
            go_enter Try.func38, Try.ntmps38
            go_wp2_with (go_at_call 51; refine V.out.mono ?_; rintro e w' ⟨rfl, rfl⟩)
            go_quiet (fail)
            go_wp2_with fail
            with_reducible refine (CH.out _).mono ?_
            rintro e w3 ⟨A3, c3, rfl, q3, y3, -, -, -⟩
            have B3 : Hid (Below w.heap.size w w3) := ⟨q3.os, q3.tape, q3.output, q3.size, q3.block⟩
            have EQ0 := bytes_Equal (c := c - t) (c' := c3) w3 (Y1.out.on B3.out) y3
            rw [decide_eq_true HS.out] at EQ0
            have EQ := Lib.hid EQ0
            clear q3 y3 EQ0
            go_wp2_with (go_at_call 56; refine EQ.out.mono ?_; rintro e w4 ⟨rfl, rfl⟩)
            refine (bytes_Clone w3 (Y2.out.on B3.out) (by omega)).mono ?_
            rintro e w5 ⟨A5, c5, rfl, q5, y5, o5, k1, k2⟩
            have FIN : Hid (NRes Z (u : Int) 0 w (.returned (.tuple #[.slice A5 Z.length c5, .int .i64 (u : Int), .int .i64 0])) w5) := ⟨A5, c5, rfl, bthn6 B3.out q5, y5, o5.base fun k hk => Nat.le_trans B3.out.size (o5.lt k hk).1, k1, k2⟩
            obtain ⟨zl, ezl⟩ : ∃ z, z = Z.length := ⟨_, rfl⟩
            rw [← ezl] at FIN ⊢
            clear q5 y5 o5 k1 k2 ezl
            go_wp2_with fail
            go_ret3
            exact FIN.out
          · obtain ⟨e1, e2, e3⟩ := Wr.nx_in hkL (Wr.nx0_bad hT hns (by rw [hZ1, hZ2]; exact hS))
            rw [if_neg (by decide)] at e2
            rw [e1, e2, e3]
            have HS := Lib.hid hS
            clear hT e1 e2 e3 ho hkL hR hRl h hm hm0 hx ef el hs el8 et eu hZ1 hZ2 y1 y2 hZl hns hnum hS eZ eS
            go_enter Try.func38, Try.ntmps38
            go_wp2_with (go_at_call 51; refine V.out.mono ?_; rintro e w' ⟨rfl, rfl⟩)
            go_quiet (fail)
            go_wp2_with fail
            with_reducible refine (CH.out _).mono ?_
            rintro e w3 ⟨A3, c3, rfl, q3, y3, -, -, -⟩
            have B3 : Hid (Below w.heap.size w w3) := ⟨q3.os, q3.tape, q3.output, q3.size, q3.block⟩
            have EQ0 := bytes_Equal (c := c - t) (c' := c3) w3 (Y1.out.on B3.out) y3
            rw [decide_eq_false HS.out] at EQ0
            have EQ := Lib.hid EQ0
            clear q3 y3 EQ0
            go_wp2_with (go_at_call 56; refine EQ.out.mono ?_; rintro e w4 ⟨rfl, rfl⟩)
            go_ret3
            exact ⟨none, 0, rfl, B3.out, Byts.none_, OwnB.nil _ _, Nat.le_refl _, by omega⟩
      · have hT0 := (Wr.tk_err 0 (L.drop k)).resolve_left (by rw [hT]; exact he)
        rw [hT] at hT0
        obtain ⟨hT1, -⟩ := hT0
        injection hT1 with hX hT1
        injection hT1 with hN hQ
        clear hQ
        subst hX hN
        obtain ⟨e1, e2, e3⟩ := Wr.nx_in hkL (Wr.nx0_err hT he)
        rw [if_neg he] at e2
        rw [e1, e2, e3]
        have hb : (er == 0) = false := by rw [beq_eq_false_iff_ne]; exact he
        clear h hT he e1 e2 e3 ho hkL
        go_enter Try.func38, Try.ntmps38
        go_wp2_with (go_at_call 51; refine V.out.mono ?_; rintro e w' ⟨rfl, rfl⟩)
        go_ret3
        exact NRes.none_ w 0 er 0
end Go.Proofs.Ytdleleanaihcoaa
