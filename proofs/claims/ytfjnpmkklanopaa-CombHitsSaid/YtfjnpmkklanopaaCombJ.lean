/- Layer 5: the program's Next, toInt, Hits. -/
import Derived.Test.YtfjnpmkklanopaaCombH
import Derived.Test.YtfjnpmkklanopaaCombI
import Derived.Test.YtfjnpmkklanopaaNatU
import Derived.Test.YtfjnpmkklanopaaNatRC
namespace Go.Proofs.Ytfjnpmkklanopaa
set_option maxRecDepth 20000
open Go.RowKit
set_option linter.unusedVariables false
set_option linter.unusedSimpArgs false
namespace Cb
theorem run_getD : ∀ (a k i : Nat), i < k → (run a k).getD i 0 = a + i
  | a, k + 1, 0, _ => rfl
  | a, k + 1, i + 1, h => by
    show (run (a + 1) k).getD i 0 = _
    rw [run_getD (a + 1) k i (by omega)]; omega
theorem app_getD {xs : List Nat} {q a k i : Nat} (hq : q ≤ xs.length) (hi : i < q + k) : (xs.take q ++ run a k).getD i 0 = if i < q then xs.getD i 0 else a + (i - q) := by
  have hl : (xs.take q).length = q := by rw [List.length_take]; omega
  by_cases h : i < q
  · rw [if_pos h]
    simp [List.getD, List.getElem?_append_left (show i < (xs.take q).length by omega), List.getElem?_take, h]
  · rw [if_neg h]
    have h2 : (xs.take q ++ run a k).getD i 0 = (run a k).getD (i - q) 0 := by
      simp [List.getD, List.getElem?_append_right (show (xs.take q).length ≤ i by omega), hl]
    rw [h2, run_getD a k _ (by omega)]
/-- What the product of two coefficients comes to as an int. -/
def tiV (x : Nat) : Int := if x ≤ 9223372036854775807 then (x : Nat) else 0
def tiE (x : Nat) : Int := if x ≤ 9223372036854775807 then 0 else 9
theorem ti_in {x : Nat} (h : x ≤ 9223372036854775807) : tiV x = (x : Nat) ∧ tiE x = 0 := by simp [tiV, tiE, h]
theorem ti_out {x : Nat} (h : 9223372036854775807 < x) : tiV x = 0 ∧ tiE x = 9 := by
  have : ¬ x ≤ 9223372036854775807 := by omega
  simp [tiV, tiE, this]
theorem hit_ti {n k d h : Int} (hn : inn n 80 = true) (hd : inn d n = true) (hk : inn k n = true) (hh : inn h d = true) :
    hitV n k d h = tiV (chV d h * chV (n - d) (k - h)) ∧ hitE n k d h = tiE (chV d h * chV (n - d) (k - h)) ∧ chE d h = 0 ∧ chE (n - d) (k - h) = 0 := by
  have hn' := inn_iff.1 hn
  have hd' := inn_iff.1 hd
  have d80 : inn d 80 = true := inn_iff.2 ⟨by omega, by omega⟩
  have q80 : inn (n - d) 80 = true := inn_iff.2 ⟨by omega, by omega⟩
  have hv : (inn n 80 && inn d n) = true := by rw [hn, hd]; rfl
  obtain ⟨c1, c2⟩ := ch_ok d80 hh
  cases hr : inn (k - h) (n - d)
  · obtain ⟨e1, e2⟩ := hit_k (n := n) (k := k) (d := d) (h := h) hv (by rw [hitO, hk, hh, hr]; rfl)
    obtain ⟨c3, c4⟩ := ch_k q80 hr
    rw [e1, e2, c1, c2, c3, c4, Nat.mul_zero]
    exact ⟨rfl, rfl, rfl, rfl⟩
  · have ho : hitO n k d h = true := by rw [hitO, hk, hh, hr]; rfl
    obtain ⟨c3, c4⟩ := ch_ok q80 hr
    have hP : chV d h * chV (n - d) (k - h) = hitP n k d h := by rw [c1, c3, hitP]
    rw [hP, c2, c4]
    by_cases hb : hitP n k d h ≤ 9223372036854775807
    · obtain ⟨e1, e2⟩ := hit_ok hv ho hb
      rw [e1, e2, (ti_in hb).1, (ti_in hb).2]
      exact ⟨rfl, rfl, rfl, rfl⟩
    · obtain ⟨e1, e2⟩ := hit_big hv ho (by omega)
      rw [e1, e2, (ti_out (by omega)).1, (ti_out (by omega)).2]
      exact ⟨rfl, rfl, rfl, rfl⟩
theorem ch_80 (n k : Int) : chV n k ≤ 1208925819614629174706176 := by
  unfold chV
  split
  · rename_i h
    rw [Bool.and_eq_true] at h
    have := inn_iff.1 h.1
    exact bin_80 (by omega)
  · omega
theorem prod_fits {a b : Nat} (ha : a ≤ 1208925819614629174706176) (hb : b ≤ 1208925819614629174706176) : Nt.fits (a * b) = true := by
  have h1 : a * b ≤ 1208925819614629174706176 * 1208925819614629174706176 := Nat.mul_le_mul ha hb
  rw [Nt.fits_iff, Nt.ln_le_iff (by omega)]
  obtain ⟨m, hm⟩ : ∃ m, m = 58 := ⟨_, rfl⟩
  have e : (64 : Nat) = 6 + m := by omega
  rw [e, Nat.pow_add]
  have h2 : 0 < 4294967296 ^ m := Nat.pow_pos (by omega)
  have h3 : (1208925819614629174706176 * 1208925819614629174706176 : Nat) < 4294967296 ^ 6 := by decide
  have h4 : 4294967296 ^ 6 * 1 ≤ 4294967296 ^ 6 * 4294967296 ^ m := Nat.mul_le_mul_left _ h2
  exact Nat.lt_of_le_of_lt h1 (Nat.lt_of_lt_of_le h3 (by rw [Nat.mul_one] at h4; exact h4))
end Cb
theorem ints_digs {w : World} {B : Nat} {A : Option Addr} {xs : List Nat} {n : Nat} (h : Ints w B A n (Cb.zl xs)) (hn : xs.length = n) : Digs w B .i64 A n (fun i => xs.getD i 0) := fun h0 => by
  obtain ⟨ad, e, hb, hc⟩ := h.2 h0
  exact ⟨ad, e, hb, fun j hj => by rw [hc j hj, Cb.zl_getD (by omega)]⟩
/-- What stands in Next's row when the elements from q up to p are laid. -/
structure NxtRow (W : World) (g len q p x : Nat) (xs : List Nat) (F : Nat → Nat) : Prop where
  row : Rw W g 3 .i64 len F
  lo : ∀ i, i < q → F i = xs.getD i 0
  hi : ∀ i, q ≤ i → i < p → F i = x + 1 + (i - q)
theorem NxtRow.set {W : World} {g len q p x : Nat} {xs : List Nat} {F : Nat → Nat} (h : NxtRow W g len q p x xs F) (hq : q ≤ p) {y : Nat} (hy : y = x + 1 + (p - q)) {Y : Int} (hY : Y = (y : Nat)) : NxtRow (W.setCell ⟨g, p, none⟩ (.int .i64 Y)) g len q (p + 1) x xs (upd F p y) :=
  ⟨h.row.set hY, fun i hi => by rw [upd_ne _ _ (by omega)]; exact h.lo i hi, fun i h1 h2 => by
    by_cases e : i = p
    · rw [e, upd_same, hy]
    · rw [upd_ne _ _ e]; exact h.hi i h1 (by omega)⟩
theorem NxtRow.ints {W : World} {g len q x : Nat} {xs : List Nat} {F : Nat → Nat} (h : NxtRow W g len q len x xs F) (hq : q ≤ len) (hl : xs.length = len) : Ints W W.heap.size (some ⟨g, 0, none⟩) (xs.take q ++ Cb.run (x + 1) (len - q)).length (Cb.zl (xs.take q ++ Cb.run (x + 1) (len - q))) := by
  have e : (xs.take q ++ Cb.run (x + 1) (len - q)).length = len := by rw [List.length_append, List.length_take, Cb.run_len]; omega
  refine digs_ints ?_
  rw [e]
  refine (h.row.digs (off := 0) (n := len) h.row.lt (by omega)).congr fun i hi => ?_
  rw [Cb.app_getD (by omega) (by omega), Nat.zero_add]
  by_cases hiq : i < q
  · rw [if_pos hiq, h.lo i hiq]
  · rw [if_neg hiq, h.hi i (by omega) hi]
set_option maxHeartbeats 2000000 in
theorem comb_Next {len c : Nat} {A : Option Addr} {zs : List Int} (n : Int) (hn0 : -9223372036854775808 ≤ n) (hn1 : n ≤ 9223372036854775807) (w : World) (h : Ints w w.heap.size A len zs) (hl : len ≤ 9223372036854775807) (hz : ∀ i, i < len → -9223372036854775808 ≤ zs.getD i 0 ∧ zs.getD i 0 ≤ 9223372036854775807) :
    Calls Try.prog 20 #[.slice A len c, .int .i64 n] w (LRes ((Cb.nxO n zs).getD []) (.bool (Cb.nxO n zs).isSome) w) := by
  have ck := fun W (h : Ints W w.heap.size A len zs) => comb_check (c := c) n W h hl
  have H := Lib.hid h
  clear h hz
  by_cases hc : Cb.chkE n zs = 0
  · obtain ⟨N, xs, rfl, rfl, hx, hN, hlen⟩ := Cb.chkE_ok hc
    have hL : xs.length = len := by rw [← Cb.zl_len]; exact H.out.len
    have e : Cb.nxO (N : Int) (Cb.zl xs) = Cb.nxt N xs := by rw [Cb.nxO, if_pos hc, Int.toNat_natCast, Cb.nl_zl]
    rw [e]
    rw [hc] at ck
    have CK := Lib.hid ck
    have HX := Lib.hid hx
    have HL := Lib.hid hL
    have N80 : N ≤ 80 := hN
    have L80 : len ≤ N := by omega
    have J0 : Hid (Cb.nxt N (xs.drop len) = none) := by show _ = _; rw [List.drop_of_length_le (by omega)]; rfl
    clear ck hc e hx hL hN hlen
    go_enter Try.func20, Try.ntmps20
    go_wp2_with fail
    refine (CK.out _ H.out).mono ?_
    rintro e w' ⟨rfl, rfl⟩
    go_wp2_with fail
    go_loopw [6] (fun i W => ∃ (p : Nat) (v : Int), i = .int .i64 v ∧ v < p ∧ (p : Int) ≤ v + 1 ∧ p ≤ len ∧ Hid (Cb.nxt N (xs.drop p) = none) ∧ w = W) (fun i _ => (intOf i + 1).toNat)
    case atStart => exact ⟨len, (len : Int) - 1, rfl, by omega, by omega, by omega, J0, rfl⟩
    case round =>
      obtain ⟨p, v, rfl, v1, v2, hp, HN, rfl⟩ := hrel
      rcases p with _ | q
      · obtain rfl : v = -1 := by omega
        have hn : Cb.nxt N xs = none := by have := HN.out; rwa [List.drop_zero] at this
        have HN2 := Lib.hid hn
        clear hn
        go_wp2_with fail
        go_ret2
        rw [HN2.out]
        exact ⟨none, 0, rfl, Below.refl _ _, Ints.none_, by decide, by omega⟩
      · obtain rfl : v = (q : Int) := by omega
        have hq : q < len := by omega
        obtain ⟨ad, X, rfl, hb, hcell, HXX⟩ := H.out.at_ hq
        obtain ⟨x, t, hd, hgx, ht, htl⟩ := Cb.zl_at (xs := xs) (i := q) (by rw [HL.out]; exact hq)
        have hXx : X = (x : Int) := HXX.out.trans hgx
        obtain ⟨a1, a2⟩ := Cb.asc_drop HX.out (i := q) (by rw [HL.out]; exact hq)
        have hxg : xs.getD q 0 = x := by
          have := Cb.zl_getD (xs := xs) (i := q) (by rw [HL.out]; exact hq)
          rw [this] at hgx
          exact Int.ofNat_inj.1 hgx
        rw [hxg] at a1 a2
        have htl' : t.length = len - 1 - q := by have := HL.out; omega
        obtain ⟨tl, etl⟩ : ∃ tl : Nat, tl = len - 1 - q := ⟨_, rfl⟩
        obtain ⟨mx, emx⟩ : ∃ mx : Nat, mx = N - tl := ⟨_, rfl⟩
        have e1 : (len : Int) - 1 - (q : Int) = (tl : Int) := by omega
        have e2 : (N : Int) - (tl : Int) = (mx : Int) := by omega
        have q0 : (0 : Int) ≤ (q : Int) := by omega
        have q1 : (q : Int) < (len : Int) := by omega
        have q2 : ¬ (q : Int) < 0 := by omega
        have X0 : 1 ≤ X := by omega
        have X1 : X ≤ 80 := by omega
        have hnt : Cb.nxt N t = none := by rw [ht]; exact HN.out
        by_cases hmx : x + t.length < N
        · have hne : (X == (mx : Int)) = false := by rw [beq_eq_false_iff_ne]; have := HL.out; omega
          have hnx : Cb.nxt N xs = some (xs.take q ++ Cb.run (x + 1) (len - q)) := by
            have := Cb.nxt_here hnt hmx
            rw [← hd] at this
            rw [Cb.nxt_take this, show t.length + 1 = len - q by omega]
          have HNX := Lib.hid hnx
          have hmk := make_ints len (by omega)
          have R0 := Lib.hid (row_made w len 3 .i64)
          have D0 := Lib.hid ((ints_digs H.out HL.out).below ((Below.refl w.heap.size w).alloc (Nat.le_refl _) (.cells (madeCells #[.int .i64 0] len) 3)))
          have B0 := Lib.hid ((Below.refl w.heap.size w).alloc (Nat.le_refl _) (.cells (madeCells #[.int .i64 0] len) 3))
          have hx1 : X = (x : Int) := hXx
          have HXX2 := Lib.hid hx1
          clear hd hgx ht htl hXx a1 a2 hxg htl' etl emx hnt hmx hnx hx1
          go_wp2_with (with_reducible refine copy_stop ?_)
          refine Lib.hid (wpList_copy_row rfl (.tmp 39) (.tmp 40) 37 rfl 3 .i64 Try.underlying37 size_i64 w.heap.size len w.heap.size (some ad) len c len (fun _ => 0) (fun i => xs.getD i 0) rfl rfl R0.out D0.out (Nat.le_refl _) ?_)
          intro w3 hR3 hb3
          have nr : NxtRow w3 w.heap.size len q q x xs (over (fun i => xs.getD i 0) len (fun _ => 0)) := ⟨hR3, fun i hi => by unfold over; rw [if_pos (by omega)], fun i h1 h2 => absurd h2 (by omega)⟩
          have NR := Lib.hid nr
          have B3 := Lib.hid (B0.out.trans hb3)
          clear hR3 hb3 nr hmk R0 D0 B0
          go_wp2_with fail
          go_loopw [8] (fun j W => ∃ (p : Nat) (F : Nat → Nat), q ≤ p ∧ p ≤ len ∧ j = .int .i64 (p : Int) ∧ Hid (NxtRow W w.heap.size len q p x xs F) ∧ Hid (Below w.heap.size w W)) (fun j _ => len - (intOf j).toNat)
          case atStart => exact ⟨q, _, by omega, by omega, rfl, NR, B3⟩
          case round =>
            clear NR B3
            obtain ⟨p, F, hqp, hpl, rfl, NR, HB⟩ := hrel
            by_cases hlt : p < len
            · obtain ⟨ad2, Y, he, hb2, hcell2, HY⟩ := (H.out.below HB.out).at_ hq
              obtain rfl : ad = ad2 := by injection he
              obtain rfl : X = Y := HXX.out.trans HY.out.symm
              obtain ⟨y, ey⟩ : ∃ y : Nat, y = x + 1 + (p - q) := ⟨_, rfl⟩
              have hyy : X + 1 + (p : Int) - (q : Int) = (y : Int) := by have := HXX2.out; omega
              have cF := NR.out.row.cell hlt
              have zF := NR.out.row.free p
              have NR2 := Lib.hid (NR.out.set hqp ey (Y := (y : Int)) rfl)
              have HB2 := Lib.hid (HB.out.setCell (p := ⟨w.heap.size, p, none⟩) (Nat.le_refl _) (.int .i64 (y : Int)))
              clear he ey
              go_wp2_with fail
              go_roundw
              case rel => exact ⟨p + 1, _, by omega, by omega, by go_num, NR2, HB2⟩
              case measure => simp [intOf]; omega
            · obtain rfl : p = len := by omega
              have hI := NR.out.ints (by omega) HL.out
              have hln : (xs.take q ++ Cb.run (x + 1) (p - q)).length = p := by rw [List.length_append, List.length_take, Cb.run_len, HL.out]; omega
              have fin : LRes ((Cb.nxt N xs).getD []) (.bool (Cb.nxt N xs).isSome) w (.returned (.tuple #[.slice (some ⟨w.heap.size, 0, none⟩) p p, .bool true])) wr := by
                rw [HNX.out]
                show LRes (xs.take q ++ Cb.run (x + 1) (p - q)) _ _ _ _
                exact ⟨_, p, by rw [hln]; rfl, HB.out, hI, by rw [hln]; omega, by omega⟩
              have FIN := Lib.hid fin
              clear fin hI hln
              go_wp2_with fail
              go_ret2
              exact FIN.out
        · have hne : (X == (mx : Int)) = true := by rw [beq_iff_eq]; have := HL.out; omega
          have hnx : Cb.nxt N (xs.drop q) = none := by rw [hd]; exact Cb.nxt_none hnt hmx
          have HNX := Lib.hid hnx
          clear hd hgx ht htl hXx a1 a2 hxg htl' etl emx hnt hmx hnx
          go_wp2_with fail
          go_roundw
          case rel => exact ⟨q, (q : Int) - 1, rfl, by omega, by omega, by omega, HNX, trivial⟩
          case measure => simp [intOf]
  · have e : Cb.nxO n zs = none := if_neg hc
    rw [e]
    obtain ⟨E, eE⟩ : ∃ E, E = Cb.chkE n zs := ⟨_, rfl⟩
    rw [← eE] at ck hc
    have CK := Lib.hid ck
    have hE : (E == 0) = false := by simpa using hc
    clear ck hc e eE
    go_enter Try.func20, Try.ntmps20
    go_wp2_with fail
    refine (CK.out _ H.out).mono ?_
    rintro e w' ⟨rfl, rfl⟩
    go_wp2_with fail
    go_ret2
    exact ⟨none, 0, rfl, Below.refl _ _, Ints.none_, by decide, by omega⟩
set_option maxHeartbeats 1000000 in
theorem comb_toInt {n c x : Nat} {A : Option Addr} (w : World) (h : IsN w w.heap.size A n x) (hn : n ≤ 64) (hc : n ≤ c) :
    Calls Try.prog 37 #[.agg #[.slice A n c]] w fun e w' => e = .returned (.tuple #[.int .i64 (Cb.tiV x), .int .i64 (Cb.tiE x)]) ∧ Below w.heap.size w w' := by
  have K0 := Lib.hid (((Ks.start w).num h).box [.slice A n c] 24)
  have x0 := K0.out.cell0 at0
  rcases Nat.lt_or_ge 2 n with h2 | h2
  · have hbig : 9223372036854775807 < x := by
      rcases Nat.lt_or_ge 9223372036854775807 x with h3 | h3
      · exact h3
      · have h4 : Nt.ln 4294967296 x ≤ 2 := (Nt.ln_le_iff (by omega)).2 (by omega)
        rw [h.l] at h4; omega
    obtain ⟨e1, e2⟩ := Cb.ti_out hbig
    rw [e1, e2]
    have U := Lib.hid fun W (h : IsN W W.heap.size A n x) => nat_Uint_no (c := c) W (h.arg hn hc) (by rw [show decide (n ≤ 2) = false by simp; omega, Bool.and_false])
    clear e1 e2 hbig h
    go_enter Try.func37, Try.ntmps37
    go_wp2_with fail
    refine (U.out _ (K0.out.get at0)).mono ?_
    rintro e w1 ⟨rfl, B1⟩
    have K1 := Lib.hid (K0.out.call B1)
    clear B1
    go_wp2_with fail
    go_ret2
    exact ⟨rfl, K1.out.bel⟩
  · have U := Lib.hid fun W (h : IsN W W.heap.size A n x) => nat_Uint_yes (c := c) W h h2
    have hx := word_two (by rw [h.l]; exact h2)
    have hi : Hid (x ≤ 9223372036854775807 → Cb.tiV x = (x : Nat) ∧ Cb.tiE x = 0) := Cb.ti_in
    have ho : Hid (9223372036854775807 < x → Cb.tiV x = 0 ∧ Cb.tiE x = 9) := Cb.ti_out
    obtain ⟨X, eX⟩ : ∃ X : Int, X = (x : Nat) := ⟨_, rfl⟩
    rw [← eX] at U
    have X0 : 0 ≤ X := by omega
    have X1 : X ≤ 18446744073709551615 := by omega
    by_cases hb : X ≤ 9223372036854775807
    · obtain ⟨e1, e2⟩ := hi.out (by omega)
      rw [← eX] at e1
      rw [e1, e2]
      have hb2 : decide (9223372036854775807 < X) = false := by simp; omega
      clear e1 e2 eX h hx hi ho
      go_enter Try.func37, Try.ntmps37
      go_wp2_with fail
      refine (U.out _ (K0.out.get at0)).mono ?_
      rintro e w1 ⟨rfl, B1⟩
      have K1 := Lib.hid (K0.out.call B1)
      clear B1
      go_wp2_with fail
      go_ret2
      exact ⟨rfl, K1.out.bel⟩
    · obtain ⟨e1, e2⟩ := ho.out (by omega)
      rw [e1, e2]
      have hb2 : decide (9223372036854775807 < X) = true := by simp; omega
      clear e1 e2 eX h hx hi ho
      go_enter Try.func37, Try.ntmps37
      go_wp2_with fail
      refine (U.out _ (K0.out.get at0)).mono ?_
      rintro e w1 ⟨rfl, B1⟩
      have K1 := Lib.hid (K0.out.call B1)
      clear B1
      go_wp2_with fail
      go_ret2
      exact ⟨rfl, K1.out.bel⟩
set_option maxHeartbeats 1000000 in
theorem comb_Hits (n k d h : Int) (hn0 : -9223372036854775808 ≤ n) (hn1 : n ≤ 9223372036854775807) (hk0 : -9223372036854775808 ≤ k) (hk1 : k ≤ 9223372036854775807) (hd0 : -9223372036854775808 ≤ d) (hd1 : d ≤ 9223372036854775807) (hh0 : -9223372036854775808 ≤ h) (hh1 : h ≤ 9223372036854775807) (w : World) :
    Calls Try.prog 16 #[.int .i64 n, .int .i64 k, .int .i64 d, .int .i64 h] w fun e w' => e = .returned (.tuple #[.int .i64 (Cb.hitV n k d h), .int .i64 (Cb.hitE n k d h)]) ∧ Below w.heap.size w w' := by
  by_cases hv : (Cb.inn n 80 && Cb.inn d n) = true
  · obtain ⟨hn, hd⟩ := (Bool.and_eq_true _ _).mp hv
    obtain ⟨n0, n1⟩ := Cb.inn_iff.1 hn
    obtain ⟨d0, d1⟩ := Cb.inn_iff.1 hd
    by_cases hv2 : (Cb.inn k n && Cb.inn h d) = true
    · obtain ⟨hk, hh⟩ := (Bool.and_eq_true _ _).mp hv2
      obtain ⟨k0, k1⟩ := Cb.inn_iff.1 hk
      obtain ⟨h0, h1⟩ := Cb.inn_iff.1 hh
      obtain ⟨e1, e2, e3, e4⟩ := Cb.hit_ti hn hd hk hh
      obtain ⟨q, eq⟩ : ∃ q, q = n - d := ⟨_, rfl⟩
      obtain ⟨p, ep⟩ : ∃ p, p = k - h := ⟨_, rfl⟩
      have hq : n - d = q := eq.symm
      have hp : k - h = p := ep.symm
      rw [hq, hp] at e1 e2 e4
      have q0 : 0 ≤ q := by omega
      have q1 : q ≤ 80 := by omega
      have p0 : -80 ≤ p := by omega
      have p1 : p ≤ 80 := by omega
      have c1 := fun W => comb_Choose d h hd0 hd1 hh0 hh1 W
      have c2 := fun W => comb_Choose q p (by omega) (by omega) (by omega) (by omega) W
      rw [e3] at c1
      rw [e4] at c2
      have b1 := Cb.ch_80 d h
      have b2 := Cb.ch_80 q p
      obtain ⟨x, ex⟩ : ∃ x, x = Cb.chV d h := ⟨_, rfl⟩
      obtain ⟨y, ey⟩ : ∃ y, y = Cb.chV q p := ⟨_, rfl⟩
      rw [← ex] at c1 b1 e1 e2
      rw [← ey] at c2 b2 e1 e2
      have hf := Cb.prod_fits b1 b2
      rw [e1, e2]
      have C1 := Lib.hid c1
      have C2 := Lib.hid c2
      have ML := Lib.hid fun W {A A' : Option Addr} {n c n' c' : Nat} (h : IsN W W.heap.size A n x) (h' : IsN W W.heap.size A' n' y) (hn : n ≤ 64) (hn' : n' ≤ 64) => nat_Mul_fit (c := c) (c' := c') W h hn h' hn' hf
      obtain ⟨z, ez⟩ : ∃ z, z = x * y := ⟨_, rfl⟩
      rw [← ez] at ML ⊢
      have TI := Lib.hid fun W {A : Option Addr} {n c : Nat} (h : IsN W W.heap.size A n z) (hn : n ≤ 64) (hc : n ≤ c) => comb_toInt W h hn hc
      obtain ⟨tv, etv⟩ : ∃ t, t = Cb.tiV z := ⟨_, rfl⟩
      obtain ⟨te, ete⟩ : ∃ t, t = Cb.tiE z := ⟨_, rfl⟩
      rw [← etv, ← ete] at TI ⊢
      have K0 := Lib.hid (Ks.start w)
      clear c1 c2 e1 e2 e3 e4 hn hd hk hh hv hv2 eq ep ex ey hf b1 b2 ez etv ete
      go_enter Try.func16, Try.ntmps16
      go_wp2_with fail
      refine (C1.out _).mono ?_
      rintro e w1 ⟨A1, n1, c1, rfl, B1, D1, h1, l1⟩
      have K1 := Lib.hid (((K0.out.call B1).num D1).box [.slice A1 n1 c1] 24)
      clear B1 D1
      go_wp2_with fail
      refine (C2.out _).mono ?_
      rintro e w2 ⟨A2, n2, c2, rfl, B2, D2, h2, l2⟩
      have K2 := Lib.hid (((K1.out.call B2).num D2).box [.slice A2 n2 c2] 24)
      clear B2 D2
      have x1 := K2.out.cell0 at1
      have x2 := K2.out.cell0 at0
      go_wp2_with fail
      refine (ML.out _ (K2.out.get at1) (K2.out.get at0) h1 h2).mono ?_
      rintro e w3 ⟨A3, n3, c3, rfl, B3, D3, h3, l3⟩
      have K3 := Lib.hid (((K2.out.call B3).num D3).box [.slice A3 n3 c3] 24)
      clear B3 D3 x1 x2
      have x3 := K3.out.cell0 at0
      go_wp2_with fail
      refine (TI.out _ (K3.out.get at0) h3 l3).mono ?_
      rintro e w4 ⟨rfl, B4⟩
      have K4 := Lib.hid (K3.out.call B4)
      clear B4 x3
      go_wp2_with fail
      go_ret2
      exact ⟨rfl, K4.out.bel⟩
    · obtain ⟨e1, e2⟩ := Cb.hit_k (n := n) (k := k) (d := d) (h := h) hv (by
        cases hk : Cb.inn k n <;> cases hh : Cb.inn h d <;> simp_all [Cb.hitO])
      rw [e1, e2]
      have hno : k < 0 ∨ n < k ∨ h < 0 ∨ d < h := by
        cases hk : Cb.inn k n
        · rcases Cb.inn_no hk with h1 | h1
          · exact .inl h1
          · exact .inr (.inl h1)
        · cases hh : Cb.inn h d
          · rcases Cb.inn_no hh with h1 | h1
            · exact .inr (.inr (.inl h1))
            · exact .inr (.inr (.inr h1))
          · rw [hk, hh] at hv2; exact absurd rfl hv2
      clear e1 e2 hv hv2 hn hd
      by_cases a1 : k < 0
      · clear hno
        go_enter Try.func16, Try.ntmps16
        go_wp2_with fail
        go_ret2
        exact ⟨rfl, Below.refl _ _⟩
      · by_cases a2 : n < k
        · clear hno
          go_enter Try.func16, Try.ntmps16
          go_wp2_with fail
          go_ret2
          exact ⟨rfl, Below.refl _ _⟩
        · by_cases a3 : h < 0
          · clear hno
            go_enter Try.func16, Try.ntmps16
            go_wp2_with fail
            go_ret2
            exact ⟨rfl, Below.refl _ _⟩
          · have a4 : d < h := by omega
            clear hno
            go_enter Try.func16, Try.ntmps16
            go_wp2_with fail
            go_ret2
            exact ⟨rfl, Below.refl _ _⟩
  · obtain ⟨e1, e2⟩ := Cb.hit_n (n := n) (k := k) (d := d) (h := h) (by simpa using hv)
    rw [e1, e2]
    have hno : n < 0 ∨ 80 < n ∨ d < 0 ∨ n < d := by
      cases hn : Cb.inn n 80
      · rcases Cb.inn_no hn with h1 | h1
        · exact .inl h1
        · exact .inr (.inl h1)
      · cases hd : Cb.inn d n
        · rcases Cb.inn_no hd with h1 | h1
          · exact .inr (.inr (.inl h1))
          · exact .inr (.inr (.inr h1))
        · rw [hn, hd] at hv; exact absurd rfl hv
    clear e1 e2 hv
    by_cases a1 : n < 0
    · clear hno
      go_enter Try.func16, Try.ntmps16
      go_wp2_with fail
      go_ret2
      exact ⟨rfl, Below.refl _ _⟩
    · by_cases a2 : 80 < n
      · clear hno
        go_enter Try.func16, Try.ntmps16
        go_wp2_with fail
        go_ret2
        exact ⟨rfl, Below.refl _ _⟩
      · by_cases a3 : d < 0
        · clear hno
          go_enter Try.func16, Try.ntmps16
          go_wp2_with fail
          go_ret2
          exact ⟨rfl, Below.refl _ _⟩
        · have a4 : n < d := by omega
          clear hno
          go_enter Try.func16, Try.ntmps16
          go_wp2_with fail
          go_ret2
          exact ⟨rfl, Below.refl _ _⟩
end Go.Proofs.Ytfjnpmkklanopaa
