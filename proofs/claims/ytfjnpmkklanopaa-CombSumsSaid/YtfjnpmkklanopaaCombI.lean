/- Layer 5: the program's check, Rank, Unrank. -/
import Derived.Test.YtfjnpmkklanopaaCombG
import Derived.Test.YtfjnpmkklanopaaCombD
namespace Go.Proofs.Ytfjnpmkklanopaa
set_option maxRecDepth 20000
open Go.RowKit
set_option linter.unusedVariables false
set_option linter.unusedSimpArgs false
namespace Cb
/-- Over the elements: the combinations that agree before an element and have a greater one there. -/
def gs (n : Nat) : List Nat → Nat
  | [] => 0
  | x :: t => bin (n - x) (t.length + 1) + gs n t
theorem gs_rk : ∀ {n a : Nat} {l : List Nat}, Asc n a l → a ≤ n → rk n a l + 1 + gs n l = bin (n - a) l.length
  | n, a, [], _, _ => by rw [rk_nil, List.length_nil, bin_zero]; rfl
  | n, a, x :: t, h, ha => by
    have h1 := gs_rk (l := t) h.2.2 h.2.1
    rw [rk_cons, List.length_cons, gs]
    have e : n + 1 - x = (n - x) + 1 := by have := h.2.1; omega
    have h2 : bin (n + 1 - x) (t.length + 1) ≤ bin (n - a) (t.length + 1) := bin_le _ (by have := h.1; omega)
    rw [e, bin_succ] at h2 ⊢
    omega
theorem cnt_any {n k : Nat} (hn : n ≤ 80) (hb : bin n k ≤ 9223372036854775807) : cntV n k = (bin n k : Nat) ∧ cntE n k = 0 := by
  rcases Nat.lt_or_ge n k with h | h
  · have h1 : inn (k : Int) (n : Int) = false := by
      rw [Bool.eq_false_iff]; intro e; have := inn_iff.1 e; omega
    obtain ⟨e1, e2⟩ := cnt_k (n := (n : Int)) (k := (k : Int)) (inn_iff.2 ⟨by omega, by omega⟩) h1
    exact ⟨by rw [e1, bin_gt h]; rfl, e2⟩
  · exact cnt_nat hn h hb
end Cb
set_option maxHeartbeats 1000000 in
theorem comb_check {B len c : Nat} {A : Option Addr} {zs : List Int} (n : Int) (w : World) (h : Ints w B A len zs) (hl : len ≤ 9223372036854775807) :
    Calls Try.prog 39 #[.slice A len c, .int .i64 n] w fun e w' => e = .returned (.int .i64 (Cb.chkE n zs)) ∧ w = w' := by
  cases hn : Cb.inn n 80
  · have E : Hid (2 = Cb.chkE n zs) := by show _ = _; rw [Cb.chkE, hn]; rfl
    have ho := Cb.inn_no hn
    clear hn h
    by_cases h0 : n < 0
    · clear ho
      go_enter Try.func39, Try.ntmps39
      go_wp2_with fail
      go_ret
      exact ⟨ret_int E.out, rfl⟩
    · have h1 : 80 < n := by omega
      clear ho
      go_enter Try.func39, Try.ntmps39
      go_wp2_with fail
      go_ret
      exact ⟨ret_int E.out, rfl⟩
  · have E : Hid (Cb.chk n 0 zs = Cb.chkE n zs) := by show _ = _; rw [Cb.chkE, hn]; rfl
    obtain ⟨n0, n1⟩ := Cb.inn_iff.1 hn
    have H := Lib.hid h
    have g1 : decide (n < 0) = false := by simp; omega
    have g2 : decide (80 < n) = false := by simp; omega
    clear hn h
    go_enter Try.func39, Try.ntmps39
    go_wp2_with fail
    go_loopw [5, 16] (fun la i W => ∃ (k : Nat) (a : Int), k ≤ len ∧ la = .int .i64 a ∧ i = .int .i64 (k : Int) ∧ Hid (Cb.chk n 0 zs = Cb.chk n a (zs.drop k)) ∧ W = w) (fun _ i _ => len - (intOf i).toNat)
    case atStart => exact ⟨0, 0, by omega, rfl, rfl, by show _ = _; rw [List.drop_zero], rfl⟩
    case round =>
      obtain ⟨k, a, hk, rfl, rfl, HK, rfl⟩ := hrel
      by_cases hlt : k < len
      · obtain ⟨ad, x, rfl, hb, hc, HX⟩ := H.out.at_ hlt
        have hdr := Cb.drop_at (zs := zs) (k := k) (by rw [H.out.len]; exact hlt)
        rw [← HX.out] at hdr
        have HD := Lib.hid hdr
        clear hdr
        by_cases ho : x < 1 ∨ n < x
        · have F : Hid (2 = Cb.chkE n zs) := by show _ = _; rw [← E.out, HK.out, HD.out, Cb.chk_out ho]
          by_cases hx : x < 1
          · clear ho
            go_wp2_with fail
            go_ret
            exact ⟨ret_int F.out, rfl⟩
          · have hx2 : n < x := by omega
            clear ho
            go_wp2_with fail
            go_ret
            exact ⟨ret_int F.out, rfl⟩
        · have x1 : ¬ x < 1 := by omega
          have x2 : ¬ n < x := by omega
          have x3 : 1 ≤ x := by omega
          have x4 : x ≤ n := by omega
          have HO := Lib.hid ho
          clear ho
          by_cases hxa : x ≤ a
          · have F : Hid (1 = Cb.chkE n zs) := by show _ = _; rw [← E.out, HK.out, HD.out, Cb.chk_low HO.out hxa]
            go_wp2_with fail
            go_ret
            exact ⟨ret_int F.out, rfl⟩
          · have F : Hid (Cb.chk n 0 zs = Cb.chk n x (zs.drop (k + 1))) := by show _ = _; rw [HK.out, HD.out, Cb.chk_next HO.out hxa]
            go_wp2_with fail
            go_roundw
            case rel => exact ⟨k + 1, x, by omega, rfl, by go_num, F, trivial⟩
            case measure => simp [intOf]; omega
      · have F : Hid (0 = Cb.chkE n zs) := by
          show _ = _
          rw [← E.out, HK.out, List.drop_of_length_le (by rw [H.out.len]; omega)]; rfl
        go_wp2_with fail
        go_ret
        exact ⟨ret_int F.out, rfl⟩
set_option maxHeartbeats 2000000 in
theorem comb_RankQ {B len c : Nat} {A : Option Addr} {zs : List Int} (n : Int) (w : World) (h : Ints w B A len zs) (hl : len ≤ 9223372036854775807) :
    Calls Try.prog 18 #[.slice A len c, .int .i64 n] w fun e w' => e = .returned (.tuple #[.int .i64 (Cb.rkV n zs), .int .i64 (Cb.rkE n zs)]) ∧ ∃ j, w' = w.drewN j := by
  have ck := fun W (h : Ints W B A len zs) => comb_check (c := c) n W h hl
  have H := Lib.hid h
  clear h
  by_cases hc : Cb.chkE n zs = 0
  · obtain ⟨N, xs, rfl, rfl, hx, hN, hlen⟩ := Cb.chkE_ok hc
    have hL : xs.length = len := by rw [← Cb.zl_len]; exact H.out.len
    have cc := fun W => comb_CountQ (N : Int) (len : Int) (by omega) (by omega) (by omega) (by omega) W
    rw [hc] at ck
    have CK := Lib.hid ck
    clear ck
    by_cases hb : Cb.bin N len ≤ 9223372036854775807
    · obtain ⟨f1, f2⟩ := Cb.cnt_nat hN (by omega) hb
      obtain ⟨g1, g2⟩ := Cb.rk_ok hc (by rw [Cb.zl_len, hL]; exact f2)
      rw [Int.toNat_natCast, Cb.nl_zl] at g1
      obtain ⟨T, eT⟩ : ∃ T, T = Cb.rk N 0 xs := ⟨_, rfl⟩
      have hg := Cb.gs_rk hx (by omega)
      rw [hL, Nat.sub_zero, ← eT] at hg
      obtain ⟨C, eC⟩ : ∃ C : Nat, C = Cb.bin N len := ⟨_, rfl⟩
      rw [f1, f2, ← eC] at cc
      rw [← eC] at hg hb
      have CC := Lib.hid cc
      obtain ⟨S, eS⟩ : ∃ S : Nat, S = C - 1 := ⟨_, rfl⟩
      have hCS : (C : Int) - 1 = (S : Int) := by omega
      have hS63 : S ≤ 9223372036854775807 := by omega
      have hC63 : (C : Int) ≤ 9223372036854775807 := by omega
      have hS : S = T + Cb.gs N xs := by omega
      rw [← eT] at g1
      have E1 := Lib.hid g1
      have E2 := Lib.hid g2
      have I0 : Hid (S = T + Cb.gs N (xs.drop 0)) := by show _ = _; rw [List.drop_zero]; exact hS
      have HX := Lib.hid hx
      have HL := Lib.hid hL
      have N80 : N ≤ 80 := hN
      have L80 : len ≤ N := by omega
      clear hc cc f1 f2 g1 g2 eT hb hx hL hlen hg eC eS hS
      go_enter Try.func18, Try.ntmps18
      go_wp2_with fail
      refine (CK.out _ H.out).mono ?_
      rintro e w' ⟨rfl, rfl⟩
      go_wp2_with fail
      refine (CC.out _).mono ?_
      rintro e w1 ⟨rfl, j0, rfl⟩
      go_wp2_with fail
      go_loopw [9, 34] (fun r i W => ∃ (k R d : Nat), k ≤ len ∧ R ≤ S ∧ r = .int .i64 (R : Int) ∧ i = .int .i64 (k : Int) ∧ Hid (R = T + Cb.gs N (xs.drop k)) ∧ W = w.drewN d) (fun _ i _ => len - (intOf i).toNat)
      case atStart => exact ⟨0, S, j0, by omega, by omega, rfl, rfl, I0, rfl⟩
      case round =>
        obtain ⟨k, R, d, hk, hR, rfl, rfl, HT, rfl⟩ := hrel
        clear hCS hC63
        by_cases hlt : k < len
        · obtain ⟨ad, X, rfl, hb, hcell, HXX⟩ := (H.out.drewN d).at_ hlt
          obtain ⟨x, t, hd, hgx, ht, htl⟩ := Cb.zl_at (xs := xs) (i := k) (by rw [HL.out]; exact hlt)
          have hXx : X = (x : Int) := HXX.out.trans hgx
          obtain ⟨a1, a2⟩ := Cb.asc_drop HX.out (i := k) (by rw [HL.out]; exact hlt)
          have hxg : xs.getD k 0 = x := by
            have := Cb.zl_getD (xs := xs) (i := k) (by rw [HL.out]; exact hlt)
            rw [this] at hgx
            exact Int.ofNat_inj.1 hgx
          rw [hxg] at a1 a2
          obtain ⟨L, eL⟩ : ∃ L : Nat, L = t.length + 1 := ⟨_, rfl⟩
          obtain ⟨m, em⟩ : ∃ m : Nat, m = N - x := ⟨_, rfl⟩
          have hlk : (len : Int) - (k : Int) = (L : Int) := by have := HL.out; omega
          have hnx : (N : Int) - X = (m : Int) := by omega
          have hgs : R = T + (Cb.bin m L + Cb.gs N t) := by
            have := HT.out
            rw [hd, Cb.gs, ← em, ← eL] at this
            exact this
          obtain ⟨f1, f2⟩ := Cb.cnt_any (n := m) (k := L) (by omega) (by omega)
          have c2 := fun W => comb_CountQ (m : Int) (L : Int) (by omega) (by omega) (by omega) (by omega) W
          rw [f1, f2] at c2
          obtain ⟨D, eD⟩ : ∃ D : Nat, D = Cb.bin m L := ⟨_, rfl⟩
          rw [← eD] at c2 hgs
          obtain ⟨R', eR⟩ : ∃ R' : Nat, R' = R - D := ⟨_, rfl⟩
          have hRD : (R : Int) - (D : Int) = (R' : Int) := by omega
          have HT2 : Hid (R' = T + Cb.gs N (xs.drop (k + 1))) := by show _ = _; rw [← ht]; omega
          have hR2 : R' ≤ S := by omega
          have X0 : 1 ≤ X := by omega
          have X1 : X ≤ 80 := by omega
          have hD63 : (D : Int) ≤ 9223372036854775807 := by omega
          have hR63 : (R : Int) ≤ 9223372036854775807 := by omega
          have C2 := Lib.hid c2
          clear c2 f1 f2 eD eR hgs hd hgx ht htl hXx a1 a2 hxg eL em
          go_wp2_with fail
          refine (C2.out _).mono ?_
          rintro e w2 ⟨rfl, j1, rfl⟩
          go_wp2_with fail
          go_roundw
          case rel => exact ⟨k + 1, R', _, by omega, hR2, rfl, by go_num, HT2, rfl⟩
          case measure => simp [intOf]; omega
        · have hRT : R = T := by
            have := HT.out
            rw [List.drop_of_length_le (by rw [HL.out]; omega)] at this
            exact this
          have F1 : Hid (((R : Nat) : Int) = Cb.rkV N (Cb.zl xs)) := by show _ = _; rw [E1.out, hRT]
          clear hRT
          go_wp2_with fail
          go_ret2
          exact ⟨ret2_int F1.out E2.out.symm, d, rfl⟩
    · obtain ⟨f1, f2⟩ := Cb.cnt_big (n := (N : Int)) (k := (len : Int)) (Cb.inn_iff.2 ⟨by omega, by omega⟩) (Cb.inn_iff.2 ⟨by omega, by omega⟩) (by unfold Cb.val; rw [Int.toNat_natCast, Int.toNat_natCast]; omega)
      obtain ⟨g1, g2⟩ := Cb.rk_over (zs := Cb.zl xs) hc (by rw [Cb.zl_len, hL, f2]; decide)
      rw [Cb.zl_len, hL, f2] at g2
      rw [f1, f2] at cc
      have CC := Lib.hid cc
      have E1 := Lib.hid g1
      have E2 := Lib.hid g2
      clear hc cc f1 f2 g1 g2 hb hx hL hlen
      go_enter Try.func18, Try.ntmps18
      go_wp2_with fail
      refine (CK.out _ H.out).mono ?_
      rintro e w' ⟨rfl, rfl⟩
      go_wp2_with fail
      refine (CC.out _).mono ?_
      rintro e w1 ⟨rfl, j0, hj0⟩
      have HJ := Lib.hid hj0
      clear hj0
      go_wp2_with fail
      go_ret2
      exact ⟨ret2_int E1.out.symm E2.out.symm, j0, HJ.out⟩
  · obtain ⟨g1, g2⟩ := Cb.rk_bad hc
    obtain ⟨E, eE⟩ : ∃ E, E = Cb.chkE n zs := ⟨_, rfl⟩
    rw [← eE] at ck g2 hc
    have CK := Lib.hid ck
    have hE : (E == 0) = false := by simpa using hc
    have E1 := Lib.hid g1
    have E2 := Lib.hid g2
    clear ck hc g1 g2 eE
    go_enter Try.func18, Try.ntmps18
    go_wp2_with fail
    refine (CK.out _ H.out).mono ?_
    rintro e w' ⟨rfl, rfl⟩
    go_wp2_with fail
    go_ret2
    exact ⟨ret2_int E1.out.symm E2.out.symm, 0, rfl⟩
theorem comb_Rank {len c : Nat} {A : Option Addr} {zs : List Int} (n : Int) (hn0 : -9223372036854775808 ≤ n) (hn1 : n ≤ 9223372036854775807) (w : World) (h : Ints w w.heap.size A len zs) (hl : len ≤ 9223372036854775807) (hz : ∀ i, i < len → -9223372036854775808 ≤ zs.getD i 0 ∧ zs.getD i 0 ≤ 9223372036854775807) :
    Calls Try.prog 18 #[.slice A len c, .int .i64 n] w fun e w' => e = .returned (.tuple #[.int .i64 (Cb.rkV n zs), .int .i64 (Cb.rkE n zs)]) ∧ Below w.heap.size w w' :=
  (comb_RankQ n w h hl).mono fun _ _ ⟨he, j, hj⟩ => ⟨he, by rw [hj]; exact below_drewN _ _⟩
theorem make_cap (K : Nat) (h : K ≤ 80) (W : World) : (Instr.makeSlice 37 (.int .i64 0) (.int .i64 (K : Int))).run Try.prog W = .ok (.slice (some ⟨W.heap.size, 0, none⟩) 0 K) (W.alloc (.cells (madeCells #[.int .i64 0] K) 3)) := by
  obtain ⟨i0, hi, hz0, hz1, hz2⟩ := info_parts info_i64
  have hr := run_make (P := Try.prog) W 37 3 i0 (.int .i64 0) Try.underlying37 hi hz0 .i64 .i64 0 (K : Int) (Int.le_refl _) (by omega) (by rw [hz2]; omega) (by omega)
  simp only [Int.toNat_zero, Int.toNat_natCast, hz1, Nat.mul_one] at hr
  exact hr
theorem made_size (K : Nat) : (madeCells #[.int .i64 0] K).size = K := by
  have := size_madeCells #[.int .i64 0] K
  simpa using this
theorem OwnL.made (w : World) {B K : Nat} (hB : B ≤ w.heap.size) (hK : K ≤ 80) : OwnL (w.alloc (.cells (madeCells #[.int .i64 0] K) 3)) B (.slice (some ⟨w.heap.size, 0, none⟩) 0 K) [] := by
  have h := World.ownsRow_made (base := B) (e := 3) (size := 1) w (madeCells #[.int .i64 0] K) K hB (by unfold maxLen; omega) (by rw [Nat.mul_one]; exact made_size K)
  exact h
set_option maxHeartbeats 2000000 in
theorem comb_Unrank (r n k : Int) (hr0 : -9223372036854775808 ≤ r) (hr1 : r ≤ 9223372036854775807) (hn0 : -9223372036854775808 ≤ n) (hn1 : n ≤ 9223372036854775807) (hk0 : -9223372036854775808 ≤ k) (hk1 : k ≤ 9223372036854775807) (w : World) :
    Calls Try.prog 23 #[.int .i64 r, .int .i64 n, .int .i64 k] w (LRes (Cb.unL r n k) (.int .i64 (Cb.unE r n k)) w) := by
  cases hn : Cb.inn n 80
  · obtain ⟨e1, e2⟩ := Cb.un_out (r := r) (n := n) (k := k) (by rw [hn]; rfl)
    rw [e1, e2]
    have ho := Cb.inn_no hn
    clear e1 e2 hn
    by_cases h0 : n < 0
    · clear ho
      go_enter Try.func23, Try.ntmps23
      go_wp2_with fail
      go_ret2
      exact ⟨none, 0, rfl, Below.refl _ _, Ints.none_, by decide, by omega⟩
    · have h1 : 80 < n := by omega
      clear ho
      go_enter Try.func23, Try.ntmps23
      go_wp2_with fail
      go_ret2
      exact ⟨none, 0, rfl, Below.refl _ _, Ints.none_, by decide, by omega⟩
  · obtain ⟨n0, n1⟩ := Cb.inn_iff.1 hn
    cases hk : Cb.inn k n
    · obtain ⟨e1, e2⟩ := Cb.un_out (r := r) (n := n) (k := k) (by rw [hn, hk]; rfl)
      rw [e1, e2]
      have ho := Cb.inn_no hk
      clear e1 e2 hn hk
      by_cases h0 : k < 0
      · clear ho
        go_enter Try.func23, Try.ntmps23
        go_wp2_with fail
        go_ret2
        exact ⟨none, 0, rfl, Below.refl _ _, Ints.none_, by decide, by omega⟩
      · have h1 : n < k := by omega
        clear ho
        go_enter Try.func23, Try.ntmps23
        go_wp2_with fail
        go_ret2
        exact ⟨none, 0, rfl, Below.refl _ _, Ints.none_, by decide, by omega⟩
    · have hv : (Cb.inn n 80 && Cb.inn k n) = true := by rw [hn, hk]; rfl
      obtain ⟨k0, k1⟩ := Cb.inn_iff.1 hk
      have c1 := fun W => comb_CountQ n k hn0 hn1 hk0 hk1 W
      by_cases hb : Cb.val n k ≤ 9223372036854775807
      · obtain ⟨f1, f2⟩ := Cb.cnt_ok hn hk hb
        by_cases hr : r < 0 ∨ Cb.cntV n k ≤ r
        · obtain ⟨e1, e2⟩ := Cb.un_rank hv f2 hr
          rw [e1, e2]
          rw [f2] at c1
          obtain ⟨C, eC⟩ : ∃ C, C = Cb.cntV n k := ⟨_, rfl⟩
          rw [← eC] at c1 hr
          have C1 := Lib.hid c1
          clear c1 e1 e2 hn hk hv f1 f2 eC
          by_cases h0 : r < 0
          · clear hr
            go_enter Try.func23, Try.ntmps23
            go_wp2_with fail
            refine (C1.out _).mono ?_
            rintro e w1 ⟨rfl, j0, rfl⟩
            go_wp2_with fail
            go_ret2
            exact ⟨none, 0, rfl, below_drewN _ _, Ints.none_, by decide, by omega⟩
          · have hr2 : C ≤ r := by omega
            clear hr
            go_enter Try.func23, Try.ntmps23
            go_wp2_with fail
            refine (C1.out _).mono ?_
            rintro e w1 ⟨rfl, j0, rfl⟩
            go_wp2_with fail
            go_ret2
            exact ⟨none, 0, rfl, below_drewN _ _, Ints.none_, by decide, by omega⟩
        · obtain ⟨e1, e2⟩ := Cb.un_ok hv f2 hr
          rw [e1]
          obtain ⟨N, eN⟩ : ∃ N : Nat, n = (N : Int) := ⟨n.toNat, by omega⟩
          obtain ⟨K, eK⟩ : ∃ K : Nat, k = (K : Int) := ⟨k.toNat, by omega⟩
          obtain ⟨R, eR⟩ : ∃ R : Nat, r = (R : Int) := ⟨r.toNat, by omega⟩
          subst eN eK eR
          rw [Int.toNat_natCast, Int.toNat_natCast, Int.toNat_natCast] at e2
          have hbN : Cb.bin N K ≤ 9223372036854775807 := hb
          have f3 : Cb.cntV (N : Int) (K : Int) = (Cb.bin N K : Nat) := f1
          have hRC : R < Cb.bin N K := by omega
          obtain ⟨C, eC⟩ : ∃ C, C = Cb.bin N K := ⟨_, rfl⟩
          rw [f3, f2, ← eC] at c1
          have hRC2 : (R : Int) < (C : Int) := by omega
          have hRC3 : R < C := by omega
          have C1 := Lib.hid c1
          have E2 := Lib.hid e2
          have N80 : N ≤ 80 := by omega
          have KN : K ≤ N := by omega
          have R1 : Hid (Cb.unrk N N K R = [] ++ Cb.unrk N (N + 1 - 1) (K - 0) R) := rfl
          have R2 : Hid (R < Cb.bin (N + 1 - 1) (K - 0)) := hRC
          have R3 : Hid (Cb.bin (N + 1 - 1) (K - 0) ≤ 9223372036854775807) := hbN
          have R63 : R ≤ 9223372036854775807 := by omega
          have MK := make_cap K (by omega)
          have g1 : decide ((N : Int) < 0) = false := by simp
          have g2 : decide ((80 : Int) < (N : Int)) = false := by simp; omega
          have g3 : decide ((K : Int) < 0) = false := by simp
          have g4 : decide (N < K) = false := by simp; omega
          have g5 : decide ((R : Int) < 0) = false := by simp
          have g6 : decide (C ≤ R) = false := by simp; omega
          clear c1 e1 e2 hn hk hv f1 f2 f3 eC hr hb hbN hRC
          go_enter Try.func23, Try.ntmps23
          go_wp2_with fail
          refine (C1.out _).mono ?_
          rintro e w1 ⟨rfl, j0, rfl⟩
          have O0 : Hid (OwnL ((w.drewN j0).alloc (.cells (madeCells #[.int .i64 0] K) 3)) w.heap.size (.slice (some ⟨w.heap.size, 0, none⟩) 0 K) []) := OwnL.made (w.drewN j0) (Nat.le_refl _) (by omega)
          have B0 : Hid (Below w.heap.size w ((w.drewN j0).alloc (.cells (madeCells #[.int .i64 0] K) 3))) := (below_drewN w j0).alloc (Nat.le_refl _) _
          go_wp2_with fail
          go_loopw [0, 10, 11] (fun r l v W => ∃ (q u m c : Nat) (A : Option Addr) (xs : List Nat), r = .int .i64 (q : Int) ∧ l = .slice A m c ∧ v = .int .i64 (u : Int) ∧ 1 ≤ u ∧ u ≤ N + 1 ∧ m ≤ K ∧ m ≤ c ∧ c ≤ 9223372036854775807 ∧ q ≤ 9223372036854775807 ∧ Hid (xs.length = m) ∧ Hid (OwnL W w.heap.size (.slice A m c) xs) ∧ Hid (Below w.heap.size w W) ∧ Hid (Cb.unrk N N K R = xs ++ Cb.unrk N (N + 1 - u) (K - m) q) ∧ Hid (q < Cb.bin (N + 1 - u) (K - m)) ∧ Hid (Cb.bin (N + 1 - u) (K - m) ≤ 9223372036854775807)) (fun _ _ v _ => 100 - (intOf v).toNat)
          case atStart => exact ⟨R, 1, 0, K, _, [], rfl, rfl, rfl, by omega, by omega, by omega, by omega, by omega, R63, rfl, O0, B0, R1, R2, R3⟩
          case round =>
            obtain ⟨q, u, m, c, A, xs, rfl, rfl, rfl, u1, u2, hm, hmc, hcm, hq, HL, HO, HB, HU, HQ, HM⟩ := hrel
            clear O0 B0 MK hRC2 hRC3
            by_cases hgo : m < K
            · have g1 : u ≤ N := by
                rcases Nat.lt_or_ge N u with h | h
                · have h1 := HQ.out
                  obtain ⟨z, hz⟩ : ∃ z, K - m = z + 1 := ⟨K - m - 1, by omega⟩
                  rw [show N + 1 - u = 0 by omega, hz, Cb.bin_none] at h1
                  omega
                · exact h
              obtain ⟨s1, s2, s3, s4⟩ := Cb.un_step u1 g1 hgo HQ.out HM.out
              have hmk : (m : Int) < (K : Int) := by omega
              obtain ⟨M, hM⟩ : ∃ M : Nat, M = N - u := ⟨_, rfl⟩
              obtain ⟨P, hP⟩ : ∃ P : Nat, P = K - 1 - m := ⟨_, rfl⟩
              obtain ⟨Q, hQ⟩ : ∃ Q : Nat, Q = K - m := ⟨_, rfl⟩
              have hnu : (N : Int) - (u : Int) = (M : Int) := by omega
              have hkm : (K : Int) - (m : Int) = (Q : Int) := by omega
              have hkq : (Q : Int) - 1 = (P : Int) := by omega
              rw [← hM, ← hP] at s1 s2 s3 s4
              obtain ⟨f1, f2⟩ := Cb.cnt_nat (n := M) (k := P) (by omega) s1 s2
              have c2 := fun W => comb_CountQ (M : Int) (P : Int) (by omega) (by omega) (by omega) (by omega) W
              rw [f1, f2] at c2
              obtain ⟨D, eD⟩ : ∃ D : Nat, D = Cb.bin M P := ⟨_, rfl⟩
              rw [← eD] at c2 s2 s3 s4
              have C2 := Lib.hid c2
              by_cases hqd : q < D
              · obtain ⟨t1, t2, t3⟩ := s3 hqd
                have hqd2 : (q : Int) < (D : Int) := by omega
                have HU2 : Hid (Cb.unrk N N K R = (xs ++ [u]) ++ Cb.unrk N (N + 1 - (u + 1)) (K - (m + 1)) q) := by show _ = _; rw [HU.out, t1]; simp
                have HQ2 := Lib.hid t3
                have HM2 := Lib.hid t2
                have HS := Lib.hid HB.out.size
                clear c2 f1 f2 eD s1 s2 s3 s4 hM hP hQ t1 t2 t3 hqd
                go_wp2_with fail
                refine (C2.out _).mono ?_
                rintro e w2 ⟨rfl, j1, rfl⟩
                go_wp2_with (at_builtin; refine Hid.out ?_)
                refine Lib.hid (wpList_app rfl (.tmp 68) (.tmp 70) 37 3 .i64 8 rfl Try.underlying37 info_i64 (by omega) w.heap.size (.slice A m c) m (fun i => xs.getD i 0) u _ rfl rfl (by have := HO.out; unfold OwnL at this; rw [HL.out] at this; exact this.drewN _) rfl (by omega) HS.out ?_)
                intro v' w2 hown hb2 hloc hgr
                have ho : OwnL w2 w.heap.size v' (xs ++ [u]) := OwnL.snoc (by rw [HL.out]; exact hown)
                obtain ⟨A2, c2, rfl, q1, q2, -⟩ := ho.out
                have hl2 : (xs ++ [u]).length = m + 1 := by rw [List.length_append, List.length_singleton, HL.out]
                rw [hl2] at q1
                rw [hl2] at ho ⊢
                have HO2 := Lib.hid ho
                have HB2 := Lib.hid ((HB.out.trans (below_dr _ _ j1)).trans hb2)
                have HL2 := Lib.hid hl2
                clear hown hb2 hloc hgr ho hl2
                go_wp2_with fail
                go_roundw
                case rel => exact ⟨q, u + 1, m + 1, c2, A2, xs ++ [u], rfl, rfl, by go_num, by omega, by omega, by omega, q1, q2, hq, HL2, HO2, HB2, HU2, HQ2, HM2⟩
                case measure => simp [intOf]; omega
              · obtain ⟨t1, t2, t3⟩ := s4 hqd
                have hqd2 : ¬ (q : Int) < (D : Int) := by omega
                obtain ⟨Q', eQ⟩ : ∃ Q' : Nat, Q' = q - D := ⟨_, rfl⟩
                rw [← eQ] at t1 t3
                have hqD : (q : Int) - (D : Int) = (Q' : Int) := by omega
                have hQ63 : Q' ≤ 9223372036854775807 := by omega
                have HU2 : Hid (Cb.unrk N N K R = xs ++ Cb.unrk N (N + 1 - (u + 1)) (K - m) Q') := by show _ = _; rw [HU.out, t1]
                have HQ2 := Lib.hid t3
                have HM2 := Lib.hid t2
                clear c2 f1 f2 eD s1 s3 s4 hM hP hQ t1 t2 t3 hqd eQ
                go_wp2_with fail
                refine (C2.out _).mono ?_
                rintro e w2 ⟨rfl, j1, rfl⟩
                have HO2 : Hid (OwnL (wr.drewN j1) w.heap.size (.slice A m c) xs) := OwnD.drewN HO.out j1
                have HB2 := Lib.hid (HB.out.trans (below_dr _ _ j1))
                go_wp2_with fail
                go_roundw
                case rel => exact ⟨Q', u + 1, m, c, A, xs, rfl, rfl, by go_num, by omega, by omega, hm, hmc, hcm, hQ63, HL, HO2, HB2, HU2, HQ2, HM2⟩
                case measure => simp [intOf]; omega
            · have hend := Cb.un_end (N := N) (v := u) (m := m) (K := K) (by omega) HQ.out
              have hxs : Cb.unL (R : Int) (N : Int) (K : Int) = xs := by rw [E2.out, HU.out, hend, List.append_nil]
              obtain ⟨A2, c2, h1, h2, h3, h4⟩ := HO.out.out
              rw [HL.out] at h1 h2 h4
              injection h1 with h1a h1b h1c
              subst h1a h1c
              have HI := Lib.hid h4
              have HX := Lib.hid hxs
              clear hend hxs h4 h1b
              have fin : LRes (Cb.unL (R : Int) (N : Int) (K : Int)) (.int .i64 0) w (.returned (.tuple #[.slice A m c, .int .i64 0])) wr := by
                rw [HX.out]
                exact ⟨A, c, by rw [HL.out], HB.out, by rw [HL.out]; exact HI.out, by rw [HL.out]; exact hmc, hcm⟩
              have FIN := Lib.hid fin
              clear fin
              have hmk : ¬ (m : Int) < (K : Int) := by omega
              go_wp2_with fail
              go_ret2
              exact FIN.out
      · obtain ⟨f1, f2⟩ := Cb.cnt_big hn hk (by omega)
        obtain ⟨e1, e2⟩ := Cb.un_over (r := r) hv (by rw [f2]; decide)
        rw [f2] at e1
        rw [e1, e2]
        rw [f1, f2] at c1
        have C1 := Lib.hid c1
        clear c1 e1 e2 hn hk hv f1 f2 hb
        go_enter Try.func23, Try.ntmps23
        go_wp2_with fail
        refine (C1.out _).mono ?_
        rintro e w1 ⟨rfl, j0, rfl⟩
        go_wp2_with fail
        go_ret2
        exact ⟨none, 0, rfl, below_drewN _ _, Ints.none_, by decide, by omega⟩
end Go.Proofs.Ytfjnpmkklanopaa
