/- Layer 6's reference: Leap, Year, Length, Civil. -/
import Derived.Test.YtjhkbgdjgiiocaaDoorCalMath
import Derived.Test.YtjhkbgdjgiiocaaDoorMonA
namespace Go.Proofs.YtjhkbgdjgiiocaaDoor
set_option maxRecDepth 20000
open Go.RowKit
set_option linter.unusedVariables false
set_option linter.unusedSimpArgs false
theorem ref6_Leap (y : Nat) (w : World) (hy : y ≤ 10000) : Calls Tryd.prog 44 #[.int .i64 (y : Int)] w fun e w' => e = .returned (.bool (Cl.leap y)) ∧ w = w' := by
  have y0 : (0 : Int) ≤ (y : Int) := by omega
  have y1 : (y : Int) ≤ 10000 := by omega
  by_cases h4 : y % 4 = 0
  · by_cases h100 : y % 100 = 0
    · by_cases h400 : y % 400 = 0
      · have F : Hid (true = Cl.leap y) := by show _ = _; simp [Cl.leap, h4, h400]
        have g1 : (y : Int) % 4 = 0 := by omega
        have g2 : (y : Int) % 100 = 0 := by omega
        have g3 : (y : Int) % 400 = 0 := by omega
        clear h4 h100 h400
        go_enter Tryd.func44, Tryd.ntmps44
        go_wp2_with fail
        go_ret
        exact ⟨ret_bool F.out, rfl⟩
      · have F : Hid (((y : Int) % 400 == 0) = Cl.leap y) := by
          show _ = _
          rw [show ((y : Int) % 400 == 0) = false by rw [beq_eq_false_iff_ne]; omega]
          simp [Cl.leap, h4, h100, h400]
        have g1 : (y : Int) % 4 = 0 := by omega
        have g2 : (y : Int) % 100 = 0 := by omega
        have g3 : ¬ (y : Int) % 400 = 0 := by omega
        clear h4 h100 h400
        go_enter Tryd.func44, Tryd.ntmps44
        go_wp2_with fail
        go_ret
        exact ⟨ret_bool F.out, rfl⟩
    · have F : Hid (true = Cl.leap y) := by show _ = _; simp [Cl.leap, h4, h100]
      have g1 : (y : Int) % 4 = 0 := by omega
      have g2 : ¬ (y : Int) % 100 = 0 := by omega
      clear h4 h100
      go_enter Tryd.func44, Tryd.ntmps44
      go_wp2_with fail
      go_ret
      exact ⟨ret_bool F.out, rfl⟩
  · have F : Hid (false = Cl.leap y) := by show _ = _; simp [Cl.leap, h4]
    have g1 : ¬ (y : Int) % 4 = 0 := by omega
    clear h4
    go_enter Tryd.func44, Tryd.ntmps44
    go_wp2_with fail
    go_ret
    exact ⟨ret_bool F.out, rfl⟩
theorem ref6_Year (y : Nat) (w : World) (hy : y ≤ 10000) : Calls Tryd.prog 43 #[.int .i64 (y : Int)] w fun e w' => e = .returned (.int .i64 (Cl.ylen y : Nat)) ∧ w = w' := by
  have L := Lib.hid (ref6_Leap y w hy)
  cases hl : Cl.leap y
  · have F : Hid ((365 : Int) = (Cl.ylen y : Nat)) := by show _ = _; simp [Cl.ylen, hl]
    rw [hl] at L
    clear hl
    go_enter Tryd.func43, Tryd.ntmps43
    go_wp2_with fail
    refine L.out.mono ?_
    rintro e w' ⟨rfl, rfl⟩
    go_wp2_with fail
    go_ret
    exact ⟨ret_int F.out, rfl⟩
  · have F : Hid ((366 : Int) = (Cl.ylen y : Nat)) := by show _ = _; simp [Cl.ylen, hl]
    rw [hl] at L
    clear hl
    go_enter Tryd.func43, Tryd.ntmps43
    go_wp2_with fail
    refine L.out.mono ?_
    rintro e w' ⟨rfl, rfl⟩
    go_wp2_with fail
    go_ret
    exact ⟨ret_int F.out, rfl⟩
set_option maxHeartbeats 2000000 in
theorem ref6_Length (y m : Nat) (w : World) (hy : y ≤ 10000) (m0 : 1 ≤ m) (m1 : m ≤ 12) : Calls Tryd.prog 36 #[.int .i64 (y : Int), .int .i64 (m : Int)] w fun e w' => e = .returned (.int .i64 (Cl.mlen y m : Nat)) ∧ Below w.heap.size w w' := by
  have L := Lib.hid fun W => ref6_Leap y W hy
  have B0 := fun (o : Obj) => (Below.refl w.heap.size w).alloc (Nat.le_refl _) o
  have HB := Lib.hid B0
  clear B0
  have cs : m = 2 ∨ m = 1 ∨ m = 3 ∨ m = 4 ∨ m = 5 ∨ m = 6 ∨ m = 7 ∨ m = 8 ∨ m = 9 ∨ m = 10 ∨ m = 11 ∨ m = 12 := by omega
  rcases cs with rfl | hm
  · cases hl : Cl.leap y
    · have F : Hid ((28 : Int) = (Cl.mlen y 2 : Nat)) := by show _ = _; simp [Cl.mlen, hl]
      rw [hl] at L
      clear hl m0 m1
      go_enter Tryd.func36, Tryd.ntmps36
      go_wp2_with fail
      refine (L.out _).mono ?_
      rintro e w' ⟨rfl, rfl⟩
      go_wp2_with fail
      go_ret
      exact ⟨ret_int F.out, HB.out _⟩
    · have F : Hid ((29 : Int) = (Cl.mlen y 2 : Nat)) := by show _ = _; simp [Cl.mlen, hl]
      rw [hl] at L
      clear hl m0 m1
      go_enter Tryd.func36, Tryd.ntmps36
      go_wp2_with fail
      refine (L.out _).mono ?_
      rintro e w' ⟨rfl, rfl⟩
      go_wp2_with fail
      go_ret
      exact ⟨ret_int F.out, HB.out _⟩
  · rcases hm with rfl | rfl | rfl | rfl | rfl | rfl | rfl | rfl | rfl | rfl | rfl
    all_goals (
      clear m0 m1
      go_enter Tryd.func36, Tryd.ntmps36
      go_wp2_with fail
      go_ret
      exact ⟨rfl, HB.out _⟩)
namespace Cl
theorem yd_next {Y : Nat} (h : 2000 ≤ Y) : yd (Y + 1 - 2000) = yd (Y - 2000) + ylen Y := by
  rw [show Y + 1 - 2000 = (Y - 2000) + 1 by omega, yd, show 2000 + (Y - 2000) = Y by omega]
theorem md_next {y M : Nat} (h : 1 ≤ M) : md y (M + 1 - 1) = md y (M - 1) + mlen y M := by
  rw [show M + 1 - 1 = (M - 1) + 1 by omega, md, show M - 1 + 1 = M by omega]
theorem yr_of {n Y r : Nat} (h : 2000 ≤ Y) (hn : n = yd (Y - 2000) + r) (hr : r < ylen Y) : Y = yr n ∧ r = rest n := by
  have h1 := civY_spec n
  have h2 := yd_next h
  have e : Y - 2000 = civY n := yd_one (d := n) (by omega) (by rw [show Y - 2000 + 1 = Y + 1 - 2000 by omega, h2]; omega) h1.1 h1.2
  refine ⟨by unfold yr; omega, ?_⟩
  unfold rest
  rw [← e]; omega
theorem mo_of {n M r : Nat} (h : 1 ≤ M) (hn : rest n = md (yr n) (M - 1) + r) (hr : r < mlen (yr n) M) : M = mo n ∧ r + 1 = dy n := by
  have h1 := civM_spec (yr n) (rest n)
  have h2 := md_next (y := yr n) h
  have e : M - 1 = civM (yr n) (rest n) := md_one (y := yr n) (r := rest n) (by omega) (by rw [show M - 1 + 1 = M + 1 - 1 by omega, h2]; omega) h1.1 h1.2
  have e2 : M = mo n := by unfold mo; omega
  refine ⟨e2, ?_⟩
  unfold dy
  rw [← e2, hn]; omega
theorem mo_more {n M r : Nat} (h : 1 ≤ M) (hM : M ≤ 12) (hn : rest n = md (yr n) (M - 1) + r) (hr : mlen (yr n) M ≤ r) : M + 1 ≤ 12 := by
  have h1 := rest_lt n
  have h2 := md_next (y := yr n) h
  rcases Nat.lt_or_ge M 12 with h3 | h3
  · omega
  · have e : M = 12 := by omega
    rw [e] at h2 hn hr
    have : md (yr n) (12 + 1 - 1) = md (yr n) 12 := rfl
    rw [this, md_12] at h2
    omega
end Cl
set_option maxHeartbeats 2000000 in
theorem ref6_Civil (n : Nat) (w : World) (hn : n ≤ 745654) : Calls Tryd.prog 30 #[.int .i64 (n : Int)] w fun e w' => e = .returned (.tuple #[.int .i64 (Cl.yr n : Nat), .int .i64 (Cl.mo n : Nat), .int .i64 (Cl.dy n : Nat)]) ∧ Below w.heap.size w w' := by
  have YR := Lib.hid fun (y : Nat) (h : y ≤ 10000) W => ref6_Year y W h
  have LN := Lib.hid fun (y m : Nat) (h : y ≤ 10000) (m0 : 1 ≤ m) (m1 : m ≤ 12) W => ref6_Length y m W h m0 m1
  have I0 : Hid (n = Cl.yd (2000 - 2000) + n) := by show n = 0 + n; omega
  go_enter Tryd.func30, Tryd.ntmps30
  go_wp2_with fail
  go_loopw [0, 5] (fun d y W => ∃ (Y r : Nat), 2000 ≤ Y ∧ Y ≤ 5000 ∧ r ≤ 745654 ∧ d = .int .i64 (r : Int) ∧ y = .int .i64 (Y : Int) ∧ Hid (n = Cl.yd (Y - 2000) + r) ∧ W = w) (fun d _ _ => (intOf d).toNat)
  case atStart => exact ⟨2000, n, by omega, by omega, hn, rfl, rfl, I0, rfl⟩
  case round =>
    obtain ⟨Y, r, y0, y1, hr, rfl, rfl, HN, rfl⟩ := hrel
    have hy := YR.out Y (by omega)
    obtain ⟨b0, b1⟩ := Cl.ylen_bd Y
    obtain ⟨L, eL⟩ : ∃ L, L = Cl.ylen Y := ⟨_, rfl⟩
    rw [← eL] at hy b0 b1
    have HY := Lib.hid hy
    clear hy
    by_cases hlt : L ≤ r
    · have h1 : (L : Int) ≤ (r : Int) := by omega
      obtain ⟨r2, er⟩ : ∃ r2, r2 = r - L := ⟨_, rfl⟩
      have h2 : (r : Int) - (L : Int) = (r2 : Int) := by omega
      have hN2 : n = Cl.yd (Y + 1 - 2000) + r2 := by rw [Cl.yd_next y0, ← eL]; have := HN.out; omega
      have hyb : Y + 1 ≤ 5000 := by have := Cl.yd_ge (Y + 1 - 2000); omega
      have HN2 := Lib.hid hN2
      have hr2 : r2 ≤ 745654 := by omega
      have hr3 : r2 < r := by omega
      clear hN2 eL er
      go_wp2_with fail
      refine (HY.out _).mono ?_
      rintro e w' ⟨rfl, rfl⟩
      go_wp2_with fail
      refine (HY.out _).mono ?_
      rintro e w' ⟨rfl, rfl⟩
      go_wp2_with fail
      go_roundw
      case rel => exact ⟨Y + 1, r2, by omega, hyb, hr2, rfl, by go_num, HN2, trivial⟩
      case measure => simp [intOf]; omega
    · have h1 : ¬ (L : Int) ≤ (r : Int) := by omega
      obtain ⟨eY, eR⟩ := Cl.yr_of y0 HN.out (by omega : r < Cl.ylen Y)
      have EY := Lib.hid eY
      have J0 : Hid (Cl.rest n = Cl.md (Cl.yr n) (1 - 1) + r) := by show Cl.rest n = 0 + r; omega
      clear eY eR eL
      go_wp2_with fail
      refine (HY.out _).mono ?_
      rintro e w' ⟨rfl, rfl⟩
      go_wp2_with fail
      go_loopw [0, 6] (fun d m W => ∃ (M q : Nat), 1 ≤ M ∧ M ≤ 12 ∧ q ≤ 745654 ∧ d = .int .i64 (q : Int) ∧ m = .int .i64 (M : Int) ∧ Hid (Cl.rest n = Cl.md (Cl.yr n) (M - 1) + q) ∧ Hid (Below wr.heap.size wr W)) (fun d _ _ => (intOf d).toNat)
      case atStart => exact ⟨1, r, by omega, by omega, hr, rfl, rfl, J0, Below.refl _ _⟩
      case round =>
        obtain ⟨M, q, m0, m1, hq, rfl, rfl, HM, HB⟩ := hrel
        have hl := LN.out Y M (by omega) m0 m1
        obtain ⟨b2, b3⟩ := Cl.mlen_bd Y M
        obtain ⟨K, eK⟩ : ∃ K, K = Cl.mlen Y M := ⟨_, rfl⟩
        rw [← eK] at hl b2 b3
        have HLn := Lib.hid hl
        clear hl
        by_cases hlt2 : K ≤ q
        · have h3 : (K : Int) ≤ (q : Int) := by omega
          obtain ⟨q2, eq⟩ : ∃ q2, q2 = q - K := ⟨_, rfl⟩
          have h4 : (q : Int) - (K : Int) = (q2 : Int) := by omega
          have eK2 : K = Cl.mlen (Cl.yr n) M := by rw [← EY.out]; exact eK
          have hM2 : Cl.rest n = Cl.md (Cl.yr n) (M + 1 - 1) + q2 := by rw [Cl.md_next m0, ← eK2]; have := HM.out; omega
          have hmb := Cl.mo_more m0 m1 HM.out (by rw [← eK2]; exact hlt2)
          have HM2 := Lib.hid hM2
          have hq2 : q2 ≤ 745654 := by omega
          have hq3 : q2 < q := by omega
          clear hM2 eK eK2 eq
          go_wp2_with fail
          refine (HLn.out _).mono ?_
          rintro e w2 ⟨rfl, B2⟩
          have HB2 := Lib.hid (HB.out.trans (B2.mono HB.out.size))
          clear B2
          go_wp2_with fail
          refine (HLn.out _).mono ?_
          rintro e w3 ⟨rfl, B3⟩
          have HB3 := Lib.hid (HB2.out.trans (B3.mono HB2.out.size))
          clear B3
          go_wp2_with fail
          go_roundw
          case rel => exact ⟨M + 1, q2, by omega, hmb, hq2, rfl, by go_num, HM2, HB3⟩
          case measure => simp [intOf]; omega
        · have h3 : ¬ (K : Int) ≤ (q : Int) := by omega
          obtain ⟨e1, e2⟩ := Cl.mo_of m0 HM.out (by rw [← EY.out, ← eK]; omega)
          have F1 : Hid ((Y : Int) = (Cl.yr n : Nat)) := by show _ = _; rw [EY.out]
          have F2 : Hid ((M : Int) = (Cl.mo n : Nat)) := by show _ = _; rw [e1]
          have F3 : Hid ((q : Int) + 1 = (Cl.dy n : Nat)) := by show _ = _; rw [← e2]; rfl
          clear e1 e2 eK
          go_wp2_with fail
          refine (HLn.out _).mono ?_
          rintro e w2 ⟨rfl, B2⟩
          have HB2 := Lib.hid (HB.out.trans (B2.mono HB.out.size))
          clear B2
          go_wp2_with fail
          refine bodyPost_ret (v := .tuple #[.int .i64 (Y : Int), .int .i64 (M : Int), .int .i64 ((q : Int) + 1)]) (by simp [results, Tryd.results30, go_sem]) rfl ?_
          rw [F1.out, F2.out, F3.out]
          exact ⟨rfl, HB2.out⟩
end Go.Proofs.YtjhkbgdjgiiocaaDoor
