/- The reference of layer 3: GCD, by halves and differences. -/
import Derived.Test.YtcgbgaljjhopiaaGreatDoorNatRG
namespace Go.Proofs.YtcgbgaljjhopiaaGreatDoor
set_option maxRecDepth 20000
open Go.RowKit
set_option linter.unusedVariables false
set_option linter.unusedSimpArgs false
namespace Nt
theorem cop2 {Y : Nat} (h : Y % 2 = 1) : Nat.Coprime 2 Y := by
  unfold Nat.Coprime
  rw [Nat.gcd_rec, h]; rfl
theorem gcd_even {X Y : Nat} (hx : X % 2 = 0) (hy : Y % 2 = 0) : Nat.gcd X Y = 2 * Nat.gcd (X / 2) (Y / 2) := by
  conv => lhs; rw [show X = 2 * (X / 2) by omega, show Y = 2 * (Y / 2) by omega]
  exact Nat.gcd_mul_left _ _ _
theorem gcd_left {X Y : Nat} (hx : X % 2 = 0) (hy : Y % 2 = 1) : Nat.gcd (X / 2) Y = Nat.gcd X Y := by
  conv => rhs; rw [show X = 2 * (X / 2) by omega]
  exact (Nat.Coprime.gcd_mul_left_cancel _ (cop2 hy)).symm
theorem gcd_right {X Y : Nat} (hx : X % 2 = 1) (hy : Y % 2 = 0) : Nat.gcd X (Y / 2) = Nat.gcd X Y := by
  rw [Nat.gcd_comm, gcd_left hy hx, Nat.gcd_comm]
theorem gcd_subl {X Y : Nat} (h : Y ≤ X) : Nat.gcd (X - Y) Y = Nat.gcd X Y := Nat.gcd_sub_self_left h
theorem gcd_subr {X Y : Nat} (h : X ≤ Y) : Nat.gcd X (Y - X) = Nat.gcd X Y := Nat.gcd_sub_self_right h
theorem gcd_bd {x y M : Nat} (hx : x < M) (hy : y < M) : Nat.gcd x y < M := by
  rcases Nat.eq_zero_or_pos x with e | e
  · subst e; rw [Nat.gcd_zero_left]; exact hy
  · exact Nat.lt_of_le_of_lt (Nat.gcd_le_left _ e) hx
theorem twos_bd {G t M k : Nat} (hG : 0 < G) (h : G * 2 ^ t < M) (hM : M = 2 ^ k) : t < k := by
  have h1 : 1 * 2 ^ t ≤ G * 2 ^ t := Nat.mul_le_mul_right _ hG
  rw [hM] at h
  exact (Nat.pow_lt_pow_iff_right (by omega)).1 (Nat.lt_of_le_of_lt (by omega) h)
theorem p16 (k : Nat) : (65536 : Nat) ^ k = 2 ^ (16 * k) := by rw [Nat.pow_mul]
end Nt
theorem ref3_GCD_bad {n c n' c' : Nat} {A A' : Option Addr} {f f' : Nat → Nat} (w : World) (h : Digs w w.heap.size .u32 A n f) (h' : Digs w w.heap.size .u32 A' n' f') (hn : n ≤ 9223372036854775807) (hn' : n' ≤ 9223372036854775807)
    (hv : (Nt.vd f n && Nt.vd f' n') = false) :
    Calls Tryz.prog 56 #[.agg #[.slice A n c], .agg #[.slice A' n' c']] w (NRes 0 2 w) := by
  have f0 := Fr3.start w (.slice A n c) (.slice A' n' c') (.slice none 0 0)
  have d1 := (h.below f0.bel).more f0.bel.size
  have d2 := (h'.below f0.bel).more f0.bel.size
  have F0 := Lib.hid f0
  have D1 := Lib.hid d1
  have D2 := Lib.hid d2
  clear f0 d1 d2 h h'
  cases hv1 : Nt.vd f n
  · have c1 := fun W (h : Digs W W.heap.size .u32 A n f) => ref3_Valid (c := c) W h hn
    rw [hv1] at c1
    have C1 := Lib.hid c1
    clear c1 hv hv1
    go_enter Tryz.func56, Tryz.ntmps56
    go_wp2_with fail
    refine (C1.out _ D1.out).mono ?_
    rintro e w1 ⟨rfl, hb1⟩
    have F1 := Lib.hid (F0.out.next hb1)
    have x3 := F1.out.n3.cell
    have z3 := F1.out.n3.free
    go_wp2_with fail
    refine bodyPost_ret (v := .tuple #[.agg #[.slice none 0 0], .int .i64 2]) (by simp [results, Tryz.results56, go_sem, x3]) rfl ?_
    exact ⟨none, 0, 0, rfl, F1.out.bel.setCell (by simp; omega) _, IsN.zero, by omega, by omega⟩
  · have hv2 : Nt.vd f' n' = false := by rw [hv1] at hv; simpa using hv
    have c1 := fun W (h : Digs W W.heap.size .u32 A n f) => ref3_Valid (c := c) W h hn
    rw [hv1] at c1
    have C1 := Lib.hid c1
    have c2 := fun W (h : Digs W W.heap.size .u32 A' n' f') => ref3_Valid (c := c') W h hn'
    rw [hv2] at c2
    have C2 := Lib.hid c2
    clear c1 c2 hv hv1 hv2
    go_enter Tryz.func56, Tryz.ntmps56
    go_wp2_with fail
    refine (C1.out _ D1.out).mono ?_
    rintro e w1 ⟨rfl, hb1⟩
    have F1 := Lib.hid (F0.out.next hb1)
    have E2 := Lib.hid ((D2.out.below hb1).more hb1.size)
    have x2 := F1.out.n2.cell
    clear hb1
    go_wp2_with fail
    refine (C2.out _ E2.out).mono ?_
    rintro e w2 ⟨rfl, hb2⟩
    have F2 := Lib.hid (F1.out.next hb2)
    have x3 := F2.out.n3.cell
    have z3 := F2.out.n3.free
    go_wp2_with fail
    refine bodyPost_ret (v := .tuple #[.agg #[.slice none 0 0], .int .i64 2]) (by simp [results, Tryz.results56, go_sem, x3]) rfl ?_
    exact ⟨none, 0, 0, rfl, F2.out.bel.setCell (by simp; omega) _, IsN.zero, by omega, by omega⟩


/-- What stands in GCD's variables. -/
structure GcdH (N x y X Y t : Nat) (w W : World) (v1 v2 : Value) (A1 A2 : Option Addr) (n1 n2 : Nat) : Prop where
  fr : Fr3 N w W v1 v2 (.slice none 0 0)
  a : IsH W W.heap.size A1 n1 X
  b : IsH W W.heap.size A2 n2 Y
  n1b : n1 ≤ 128
  n2b : n2 ≤ 128
  g : Nat.gcd X Y * 2 ^ t = Nat.gcd x y
theorem ln_half {x n : Nat} (h : Nt.ln 65536 x = n) {m y : Nat} (hle : y ≤ x) (hy : Nt.ln 65536 y = m) : m ≤ n := by
  rw [← h, ← hy]; exact Nt.ln_mono (by omega) hle
theorem dg0 (X : Nat) : Nt.dg 65536 X 0 % 2 = X % 2 := by
  unfold Nt.dg
  rw [Nat.pow_zero, Nat.div_one]
  omega
set_option maxHeartbeats 2000000 in
theorem ref3_GCD_ok {n c n' c' x y : Nat} {A A' : Option Addr} (w : World) (h : IsN w w.heap.size A n x) (h' : IsN w w.heap.size A' n' y) (hn : n ≤ 64) (hn' : n' ≤ 64) :
    Calls Tryz.prog 56 #[.agg #[.slice A n c], .agg #[.slice A' n' c']] w (NRes (Nat.gcd x y) 0 w) := by
  have f0 := Fr3.start w (.slice A n c) (.slice A' n' c') (.slice none 0 0)
  have F0 := Lib.hid f0
  have D1 := Lib.hid ((h.below f0.bel).more f0.bel.size)
  have D2 := Lib.hid ((h'.below f0.bel).more f0.bel.size)
  have c1 := fun W (h : IsN W W.heap.size A n x) => ref3_Valid (c := c) W h.d (by omega)
  rw [h.vd, decide_eq_true hn] at c1
  have c2 := fun W (h : IsN W W.heap.size A' n' y) => ref3_Valid (c := c') W h.d (by omega)
  rw [h'.vd, decide_eq_true hn'] at c2
  have C1 := Lib.hid c1
  have C2 := Lib.hid c2
  have hl1 : Nt.ln 65536 x ≤ 128 := Nat.le_trans (Nt.ln_two h.l) (by omega)
  have hl2 : Nt.ln 65536 y ≤ 128 := Nat.le_trans (Nt.ln_two h'.l) (by omega)
  have hx128 : x < 65536 ^ 128 := (Nt.ln_le_iff (by omega)).1 hl1
  have hy128 : y < 65536 ^ 128 := (Nt.ln_le_iff (by omega)).1 hl2
  have hgb : Nat.gcd x y < 65536 ^ 128 := Nt.gcd_bd hx128 hy128
  have hfit : Nt.fits (Nat.gcd x y) = true := Nt.fits_iff.2 (Nt.ln_128.1 ((Nt.ln_le_iff (by omega)).2 hgb))
  have hwg := fun W {A : Option Addr} {n c : Nat} (h : IsH W W.heap.size A n (Nat.gcd x y)) (hc : n ≤ c ∧ c ≤ 9223372036854775807) => ref3_Whole_H W h hc
  rw [hfit, show Nt.bv (Nat.gcd x y) = Nat.gcd x y by rw [Nt.bv, hfit]; rfl] at hwg
  have HWG := Lib.hid hwg
  have HGB := Lib.hid hgb
  have L1 := Lib.hid hl1
  have L2 := Lib.hid hl2
  clear f0 h h' c1 c2 hl1 hl2 hx128 hy128 hgb hfit hwg
  go_enter Tryz.func56, Tryz.ntmps56
  go_wp2_with fail
  refine (C1.out _ D1.out).mono ?_
  rintro e w1 ⟨rfl, hb1⟩
  have F1 := Lib.hid (F0.out.next hb1)
  have E1 := Lib.hid ((D1.out.below hb1).more hb1.size)
  have E2 := Lib.hid ((D2.out.below hb1).more hb1.size)
  have x2 := F1.out.n2.cell
  clear hb1
  go_wp2_with fail
  refine (C2.out _ E2.out).mono ?_
  rintro e w2 ⟨rfl, hb2⟩
  have F2 := Lib.hid (F1.out.next hb2)
  have G1 := Lib.hid ((E1.out.below hb2).more hb2.size)
  have G2 := Lib.hid ((E2.out.below hb2).more hb2.size)
  clear x2 hb2
  have x1 := F2.out.n1.cell
  go_wp2_with fail
  refine (ref3_Halves _ G1.out (by omega)).mono ?_
  rintro e w3 ⟨A3, n3, c3, rfl, hb3, hH3, hc3, -⟩
  have F3 := Lib.hid (F2.out.next hb3)
  have K2 := Lib.hid (G2.out.next hb3)
  have HH3 := Lib.hid hH3
  clear x1 hb3 hH3 hc3
  have x2 := F3.out.n2.cell
  go_wp2_with fail
  refine (ref3_Halves _ K2.out (by omega)).mono ?_
  rintro e w4 ⟨A4, n4, c4, rfl, hb4, hH4, hc4, -⟩
  have F4 := Lib.hid (F3.out.next hb4)
  have HH3' := Lib.hid (HH3.out.next hb4)
  have HH4 := Lib.hid hH4
  clear x2 hb4 hH4 hc4
  go_wp2_with fail
  go_loopg [6, 7, 8] (x + y) (fun g s6 s7 s8 W => ∃ (X Y t : Nat) (A1 : Option Addr) (n1 c1 : Nat) (A2 : Option Addr) (n2 c2 : Nat), s6 = .slice A1 n1 c1 ∧ s7 = .slice A2 n2 c2 ∧ s8 = .int .i64 t ∧ g = X + Y ∧ t ≤ 2048 ∧ Hid (GcdH w.heap.size x y X Y t w W (.slice A n c) (.slice A' n' c') A1 A2 n1 n2))
  case atStart => exact ⟨x, y, 0, A3, n3, c3, A4, n4, c4, rfl, rfl, rfl, rfl, by omega, F4.out, HH3'.out, HH4.out, by rw [← HH3'.out.l]; exact L1.out, by rw [← HH4.out.l]; exact L2.out, by simp⟩
  case round =>
    obtain ⟨X, Y, t, A1, n1, c1, A2, n2, c2, rfl, rfl, rfl, rfl, ht, HI⟩ := hrel
    rcases Nat.eq_zero_or_pos X with hX0 | hX0
    · have hgx : X + Y = Nat.gcd X Y := by rw [hX0, Nat.gcd_zero_left, Nat.zero_add]
      have hn1 : n1 = 0 := by rw [← HI.out.a.l, hX0]; exact Nt.ln_zero
      have hdec : decide (0 < (n1 : Int)) = false := by rw [hn1]; rfl
      have hng : ¬ 0 < (n1 : Int) := by omega
      clear hX0 hn1 hdec
      have HGE := Lib.hid hgx
      have HF := Lib.hid HI.out.fr
      have ca := ref3_add (c := c1) (c' := c2) wr HI.out.a HI.out.b (by have := HI.out.n1b; omega) (by have := HI.out.n2b; omega)
      have CA := Lib.hid ca
      clear hgx ca
      go_wp2_with fail
      refine CA.out.mono ?_
      rintro e w5 ⟨A5, n5, c5, rfl, hb5, hH5, hc5, -⟩
      have F5 := Lib.hid (HF.out.next hb5)
      have H5 := Lib.hid hH5
      clear hb5 hH5
      go_wp2_with fail
      go_loopw [9, 10] (fun s i W => ∃ (k : Nat) (L : Nat) (A6 : Option Addr) (n6 c6 : Nat), k ≤ t ∧ i = .int .i64 k ∧ s = .slice A6 n6 c6 ∧ (n6 ≤ c6 ∧ c6 ≤ 9223372036854775807) ∧ Hid (L = Nat.gcd X Y * 2 ^ k) ∧ Hid (IsH W W.heap.size A6 n6 L) ∧ Hid (Fr3 w.heap.size w W (.slice A n c) (.slice A' n' c') (.slice none 0 0))) (fun _ i _ => t - (intOf i).toNat)
      case atStart => exact ⟨0, X + Y, A5, n5, c5, by omega, rfl, rfl, hc5, by show _ = _; rw [HGE.out, Nat.pow_zero, Nat.mul_one], H5, F5⟩
      case round =>
        obtain ⟨k, L, A6, n6, c6, hk, rfl, rfl, hc6, HL, H6, F6⟩ := hrel
        by_cases hlt : k < t
        · have hL2 : L + L = Nat.gcd X Y * 2 ^ (k + 1) := by rw [HL.out, Nat.pow_succ, ← Nat.mul_assoc]; omega
          have hLb : Nt.ln 65536 L ≤ 128 := by
            have h1 := HI.out.g
            have h2 : Nat.gcd X Y * 2 ^ k ≤ Nat.gcd X Y * 2 ^ t := Nat.mul_le_mul_left _ (Nat.pow_le_pow_right (by omega) hk)
            rw [h1, ← HL.out] at h2
            exact (Nt.ln_le_iff (by omega)).2 (Nat.lt_of_le_of_lt h2 HGB.out)
          have h6b : n6 ≤ 128 := by rw [← H6.out.l]; exact hLb
          have ca := ref3_add (c := c6) (c' := c6) wr H6.out H6.out (by omega) (by omega)
          have CA := Lib.hid ca
          have HL2 := Lib.hid hL2
          clear ca hL2 hLb
          go_wp2_with fail
          refine CA.out.mono ?_
          rintro e w7 ⟨A7, n7, c7, rfl, hb7, hH7, hc7, -⟩
          have F7 := Lib.hid (F6.out.next hb7)
          have H7 := Lib.hid hH7
          clear hb7 hH7
          go_wp2_with fail
          refine ⟨⟨k + 1, L + L, A7, n7, c7, by omega, by go_num, rfl, hc7, HL2, H7, F7⟩, ?_⟩
          simp [intOf]; omega
        · obtain rfl : k = t := by omega
          have hLg : L = Nat.gcd x y := by rw [HL.out]; exact HI.out.g
          have h6 := H6.out
          rw [hLg] at h6
          have cw := HWG.out wr h6 hc6
          have CW := Lib.hid cw
          clear hLg h6 cw
          go_wp2_with fail
          refine CW.out.mono ?_
          rintro e w8 ⟨A8, n8, c8, rfl, hb8, hN8, h64, hc8⟩
          have F8 := Lib.hid ((F6.out.next hb8).alloc (.cells #[.slice A8 n8 c8] 24))
          have N8 := Lib.hid (hN8.alloc (.cells #[.slice A8 n8 c8] 24))
          clear hb8 hN8
          have x3 := F8.out.n3.cell
          have z3 := F8.out.n3.free
          go_wp2_with fail
          refine bodyPost_ret (v := .tuple #[.agg #[.slice A8 n8 c8], .int .i64 0]) (by simp [results, Tryz.results56, go_sem, x3]) rfl ?_
          exact ⟨A8, n8, c8, rfl, F8.out.bel.setCell (by simp; omega) _, (N8.out.setBox x3 _).more (Nat.le_of_eq (by simp only [size_setCell])), h64, hc8⟩
    · rcases Nat.eq_zero_or_pos Y with hY0 | hY0
      · have hgx : X + Y = Nat.gcd X Y := by rw [hY0, Nat.gcd_zero_right, Nat.add_zero]
        have hn1 : 0 < n1 := by rw [← HI.out.a.l]; exact Nt.ln_pos (by omega) (by omega)
        have hn2 : n2 = 0 := by rw [← HI.out.b.l, hY0]; exact Nt.ln_zero
        have hng : ¬ 0 < (n2 : Int) := by omega
        clear hY0 hn2
        have HGE := Lib.hid hgx
        have HF := Lib.hid HI.out.fr
        have ca := ref3_add (c := c1) (c' := c2) wr HI.out.a HI.out.b (by have := HI.out.n1b; omega) (by have := HI.out.n2b; omega)
        have CA := Lib.hid ca
        clear hgx ca
        go_wp2_with fail
        refine CA.out.mono ?_
        rintro e w5 ⟨A5, n5, c5, rfl, hb5, hH5, hc5, -⟩
        have F5 := Lib.hid (HF.out.next hb5)
        have H5 := Lib.hid hH5
        clear hb5 hH5
        go_wp2_with fail
        go_loopw [9, 10] (fun s i W => ∃ (k : Nat) (L : Nat) (A6 : Option Addr) (n6 c6 : Nat), k ≤ t ∧ i = .int .i64 k ∧ s = .slice A6 n6 c6 ∧ (n6 ≤ c6 ∧ c6 ≤ 9223372036854775807) ∧ Hid (L = Nat.gcd X Y * 2 ^ k) ∧ Hid (IsH W W.heap.size A6 n6 L) ∧ Hid (Fr3 w.heap.size w W (.slice A n c) (.slice A' n' c') (.slice none 0 0))) (fun _ i _ => t - (intOf i).toNat)
        case atStart => exact ⟨0, X + Y, A5, n5, c5, by omega, rfl, rfl, hc5, by show _ = _; rw [HGE.out, Nat.pow_zero, Nat.mul_one], H5, F5⟩
        case round =>
          obtain ⟨k, L, A6, n6, c6, hk, rfl, rfl, hc6, HL, H6, F6⟩ := hrel
          by_cases hlt : k < t
          · have hL2 : L + L = Nat.gcd X Y * 2 ^ (k + 1) := by rw [HL.out, Nat.pow_succ, ← Nat.mul_assoc]; omega
            have hLb : Nt.ln 65536 L ≤ 128 := by
              have h1 := HI.out.g
              have h2 : Nat.gcd X Y * 2 ^ k ≤ Nat.gcd X Y * 2 ^ t := Nat.mul_le_mul_left _ (Nat.pow_le_pow_right (by omega) hk)
              rw [h1, ← HL.out] at h2
              exact (Nt.ln_le_iff (by omega)).2 (Nat.lt_of_le_of_lt h2 HGB.out)
            have h6b : n6 ≤ 128 := by rw [← H6.out.l]; exact hLb
            have ca := ref3_add (c := c6) (c' := c6) wr H6.out H6.out (by omega) (by omega)
            have CA := Lib.hid ca
            have HL2 := Lib.hid hL2
            clear ca hL2 hLb
            go_wp2_with fail
            refine CA.out.mono ?_
            rintro e w7 ⟨A7, n7, c7, rfl, hb7, hH7, hc7, -⟩
            have F7 := Lib.hid (F6.out.next hb7)
            have H7 := Lib.hid hH7
            clear hb7 hH7
            go_wp2_with fail
            refine ⟨⟨k + 1, L + L, A7, n7, c7, by omega, by go_num, rfl, hc7, HL2, H7, F7⟩, ?_⟩
            simp [intOf]; omega
          · obtain rfl : k = t := by omega
            have hLg : L = Nat.gcd x y := by rw [HL.out]; exact HI.out.g
            have h6 := H6.out
            rw [hLg] at h6
            have cw := HWG.out wr h6 hc6
            have CW := Lib.hid cw
            clear hLg h6 cw
            go_wp2_with fail
            refine CW.out.mono ?_
            rintro e w8 ⟨A8, n8, c8, rfl, hb8, hN8, h64, hc8⟩
            have F8 := Lib.hid ((F6.out.next hb8).alloc (.cells #[.slice A8 n8 c8] 24))
            have N8 := Lib.hid (hN8.alloc (.cells #[.slice A8 n8 c8] 24))
            clear hb8 hN8
            have x3 := F8.out.n3.cell
            have z3 := F8.out.n3.free
            go_wp2_with fail
            refine bodyPost_ret (v := .tuple #[.agg #[.slice A8 n8 c8], .int .i64 0]) (by simp [results, Tryz.results56, go_sem, x3]) rfl ?_
            exact ⟨A8, n8, c8, rfl, F8.out.bel.setCell (by simp; omega) _, (N8.out.setBox x3 _).more (Nat.le_of_eq (by simp only [size_setCell])), h64, hc8⟩
      · have hn1 : 0 < n1 := by rw [← HI.out.a.l]; exact Nt.ln_pos (by omega) (by omega)
        have hn2 : 0 < n2 := by rw [← HI.out.b.l]; exact Nt.ln_pos (by omega) (by omega)
        have hg0 : 0 < Nat.gcd X Y := Nat.gcd_pos_of_pos_left _ hX0
        obtain ⟨ad, u, rfl, hb, hcell, HX, u0, u1⟩ := HI.out.a.d.at_ hn1 (Nt.dg_lt (B := 65536) (by omega) X 0)
        obtain ⟨ad', v, rfl, hb', hcell', HY, v0, v1⟩ := HI.out.b.d.at_ hn2 (Nt.dg_lt (B := 65536) (by omega) Y 0)
        rw [Addr.add_zero'] at hcell hcell'
        have pu : u % 2 = ((X % 2 : Nat) : Int) := by have := dg0 X; have := HX.out; omega
        have pv : v % 2 = ((Y % 2 : Nat) : Int) := by have := dg0 Y; have := HY.out; omega
        have u1' : u < 65536 := by omega
        have v1' : v < 65536 := by omega
        have b1 := HI.out.n1b
        have b2 := HI.out.n2b
        have ch1 := ref3_half (c := c1) wr HI.out.a (by omega)
        have CH1 := Lib.hid ch1
        have ch2 := ref3_half (c := c2) wr HI.out.b (by omega)
        have CH2 := Lib.hid ch2
        have HG0 := Lib.hid hg0
        clear u1 v1 ch1 ch2 hg0
        rcases Nat.mod_two_eq_zero_or_one X with hX2 | hX2
        · rcases Nat.mod_two_eq_zero_or_one Y with hY2 | hY2
          · have tu : (u % 2 == 0) = true := by simp; omega
            have tv : (v % 2 == 0) = true := by simp; omega
            have tl : t + 1 < 16 * 128 := by
              have h1 := HI.out.g
              rw [Nt.gcd_even hX2 hY2, show 2 * Nat.gcd (X / 2) (Y / 2) * 2 ^ t = Nat.gcd (X / 2) (Y / 2) * 2 ^ (t + 1) by rw [Nat.pow_succ]; grind] at h1
              have h2 : 0 < Nat.gcd (X / 2) (Y / 2) := Nat.gcd_pos_of_pos_left _ (by omega)
              exact Nt.twos_bd h2 (by rw [h1]; exact HGB.out) (Nt.p16 128)
            have HX2 := Lib.hid hX2
            have HY2 := Lib.hid hY2
            clear pu pv hX2 hY2
            go_wp2_with fail
            refine CH1.out.mono ?_
            rintro e w5 ⟨A5, n5, c5, rfl, hb5, hH5, hc5, -⟩
            have ch2 := ref3_half (c := c2) w5 (HI.out.b.next hb5) (by omega)
            have CH3 := Lib.hid ch2
            have H5 := Lib.hid hH5
            have B5 := Lib.hid hb5
            clear ch2 hH5 hb5
            go_wp2_with fail
            refine CH3.out.mono ?_
            rintro e w6 ⟨A6, n6, c6, rfl, hb6, hH6, hc6, -⟩
            have hN : GcdH w.heap.size x y (X / 2) (Y / 2) (t + 1) w w6 (.slice A n c) (.slice A' n' c') A5 A6 n5 n6 :=
              ⟨(HI.out.fr.next B5.out).next hb6, H5.out.next hb6, hH6, Nat.le_trans (ln_half HI.out.a.l (Nat.div_le_self _ _) H5.out.l) b1, Nat.le_trans (ln_half HI.out.b.l (Nat.div_le_self _ _) hH6.l) b2, by
                rw [← HI.out.g, Nt.gcd_even HX2.out HY2.out, Nat.pow_succ]; grind⟩
            have HN := Lib.hid hN
            clear hb6 hH6 hN
            go_wp2_with fail
            go_roundg (X / 2 + Y / 2)
            case measure => omega
            case rel => exact ⟨X / 2, Y / 2, t + 1, A5, n5, c5, A6, n6, c6, rfl, rfl, by go_num, rfl, by omega, HN⟩
          · have tu : (u % 2 == 0) = true := by simp; omega
            have tv : (v % 2 == 0) = false := by simp; omega
            have HX2 := Lib.hid hX2
            have HY2 := Lib.hid hY2
            clear pu pv hX2 hY2
            go_wp2_with fail
            refine CH1.out.mono ?_
            rintro e w5 ⟨A5, n5, c5, rfl, hb5, hH5, hc5, -⟩
            have hN : GcdH w.heap.size x y (X / 2) Y t w w5 (.slice A n c) (.slice A' n' c') A5 (some ad') n5 n2 :=
              ⟨HI.out.fr.next hb5, hH5, HI.out.b.next hb5, Nat.le_trans (ln_half HI.out.a.l (Nat.div_le_self _ _) hH5.l) b1, b2, by rw [Nt.gcd_left HX2.out HY2.out]; exact HI.out.g⟩
            have HN := Lib.hid hN
            clear hb5 hH5 hN
            go_wp2_with fail
            go_roundg (X / 2 + Y)
            case measure => omega
            case rel => exact ⟨X / 2, Y, t, A5, n5, c5, some ad', n2, c2, rfl, rfl, rfl, rfl, by omega, HN⟩
        · have tu : (u % 2 == 0) = false := by simp; omega
          rcases Nat.mod_two_eq_zero_or_one Y with hY2 | hY2
          · have tv : (v % 2 == 0) = true := by simp; omega
            have HX2 := Lib.hid hX2
            have HY2 := Lib.hid hY2
            clear pu pv hX2 hY2
            go_wp2_with fail
            refine CH2.out.mono ?_
            rintro e w5 ⟨A5, n5, c5, rfl, hb5, hH5, hc5, -⟩
            have hN : GcdH w.heap.size x y X (Y / 2) t w w5 (.slice A n c) (.slice A' n' c') (some ad) A5 n1 n5 :=
              ⟨HI.out.fr.next hb5, HI.out.a.next hb5, hH5, b1, Nat.le_trans (ln_half HI.out.b.l (Nat.div_le_self _ _) hH5.l) b2, by rw [Nt.gcd_right HX2.out HY2.out]; exact HI.out.g⟩
            have HN := Lib.hid hN
            clear hb5 hH5 hN
            go_wp2_with fail
            go_roundg (X + Y / 2)
            case measure => omega
            case rel => exact ⟨X, Y / 2, t, some ad, n1, c1, A5, n5, c5, rfl, rfl, rfl, rfl, by omega, HN⟩
          · have tv : (v % 2 == 0) = false := by simp; omega
            clear pu pv hX2 hY2
            obtain ⟨o, eo⟩ : ∃ o, o = Nt.cmpI ((X : Nat) : Int) ((Y : Nat) : Int) := ⟨_, rfl⟩
            have cc := ref3_cmp (c := c1) (c' := c2) wr HI.out.a HI.out.b (by omega) (by omega)
            rw [← eo] at cc
            have CC := Lib.hid cc
            by_cases hge : Y ≤ X
            · have o0 : 0 ≤ o := by
                rw [eo, Nt.cmpI, if_neg (by omega)]; split <;> omega
              have HGE := Lib.hid hge
              clear eo cc hge
              go_wp2_with fail
              refine CC.out.mono ?_
              rintro e w' ⟨rfl, dk, rfl⟩
              have cs := ref3_sub (c := c1) (c' := c2) (wr.drewN dk) (HI.out.a.drewN dk) (HI.out.b.drewN dk) (by omega) (by omega) HGE.out
              have CS := Lib.hid cs
              clear cs
              go_wp2_with fail
              refine CS.out.mono ?_
              rintro e w5 ⟨A5, n5, c5, rfl, hb5, hH5, hc5, -⟩
              have hN : GcdH w.heap.size x y (X - Y) Y t w w5 (.slice A n c) (.slice A' n' c') A5 (some ad') n5 n2 :=
                ⟨(HI.out.fr.drewN dk).next hb5, hH5, (show IsH (wr.drewN dk) (wr.drewN dk).heap.size _ _ _ from HI.out.b.drewN dk).next hb5, Nat.le_trans (ln_half HI.out.a.l (Nat.sub_le _ _) hH5.l) b1, b2, by rw [Nt.gcd_subl HGE.out]; exact HI.out.g⟩
              have HN := Lib.hid hN
              have hm : X - Y + Y < X + Y := by have := HGE.out; omega
              clear hb5 hH5 hN
              go_wp2_with fail
              go_roundg (X - Y + Y)
              case measure => exact hm
              case rel => exact ⟨X - Y, Y, t, A5, n5, c5, some ad', n2, c2, rfl, rfl, rfl, rfl, by omega, HN⟩
            · have o0 : ¬ 0 ≤ o := by
                rw [eo, Nt.cmpI_lt (by omega)]; omega
              have hlt : X ≤ Y := by omega
              have HLT := Lib.hid hlt
              clear eo cc hge hlt
              go_wp2_with fail
              refine CC.out.mono ?_
              rintro e w' ⟨rfl, dk, rfl⟩
              have cs := ref3_sub (c := c2) (c' := c1) (wr.drewN dk) (HI.out.b.drewN dk) (HI.out.a.drewN dk) (by omega) (by omega) HLT.out
              have CS := Lib.hid cs
              clear cs
              go_wp2_with fail
              refine CS.out.mono ?_
              rintro e w5 ⟨A5, n5, c5, rfl, hb5, hH5, hc5, -⟩
              have hN : GcdH w.heap.size x y X (Y - X) t w w5 (.slice A n c) (.slice A' n' c') (some ad) A5 n1 n5 :=
                ⟨(HI.out.fr.drewN dk).next hb5, (show IsH (wr.drewN dk) (wr.drewN dk).heap.size _ _ _ from HI.out.a.drewN dk).next hb5, hH5, b1, Nat.le_trans (ln_half HI.out.b.l (Nat.sub_le _ _) hH5.l) b2, by rw [Nt.gcd_subr HLT.out]; exact HI.out.g⟩
              have HN := Lib.hid hN
              have hm : X + (Y - X) < X + Y := by have := HLT.out; omega
              clear hb5 hH5 hN
              go_wp2_with fail
              go_roundg (X + (Y - X))
              case measure => exact hm
              case rel => exact ⟨X, Y - X, t, some ad, n1, c1, A5, n5, c5, rfl, rfl, rfl, rfl, by omega, HN⟩
end Go.Proofs.YtcgbgaljjhopiaaGreatDoor
