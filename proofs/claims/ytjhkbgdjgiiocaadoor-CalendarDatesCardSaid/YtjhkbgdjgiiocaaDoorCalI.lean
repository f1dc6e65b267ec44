/- Layer 6, the project's package calendar: monthDays, dayOf, dateOf. -/
import Derived.Test.YtjhkbgdjgiiocaaDoorCalH
namespace Go.Proofs.YtjhkbgdjgiiocaaDoor
set_option maxRecDepth 20000
open Go.RowKit
set_option linter.unusedVariables false
set_option linter.unusedSimpArgs false
theorem cal_dbm_at (y M : Nat) (w : World) (hE : CEnv w) (hy : y ≤ 10000) (m0 : 1 ≤ M) (m1 : M ≤ 13) : Calls Tryd.prog 42 #[.int .i64 (y : Int), .int .i64 (M : Int)] w fun e w' => e = .returned (.int .i64 (Cl.md y (M - 1) : Nat)) ∧ w = w' := by
  have h := cal_dbm y (M - 1) w hE hy (by omega)
  rw [show ((M - 1 : Nat) : Int) + 1 = (M : Int) by omega] at h
  exact h
theorem cal_dby_at (Y : Nat) (w : World) (y0 : 2000 ≤ Y) (y1 : Y ≤ 10000) : Calls Tryd.prog 41 #[.int .i64 (Y : Int)] w fun e w' => e = .returned (.int .i64 (Cl.yd (Y - 2000) : Nat)) ∧ w = w' := by
  have h := cal_dby (Y - 2000) w (by omega)
  rw [show ((Y - 2000 : Nat) : Int) + 2000 = (Y : Int) by omega] at h
  exact h
theorem cal_dby_next (Y : Nat) (w : World) (y0 : 2000 ≤ Y) (y1 : Y ≤ 9999) : Calls Tryd.prog 41 #[.int .i64 ((Y : Int) + 1)] w fun e w' => e = .returned (.int .i64 (Cl.yd (Y + 1 - 2000) : Nat)) ∧ w = w' := by
  have h := cal_dby_at (Y + 1) w (by omega) (by omega)
  rw [show ((Y + 1 : Nat) : Int) = (Y : Int) + 1 by omega] at h
  exact h
theorem cal_monthDays (y M : Nat) (w : World) (hE : CEnv w) (hy : y ≤ 10000) (m0 : 1 ≤ M) (m1 : M ≤ 12) : Calls Tryd.prog 34 #[.int .i64 (y : Int), .int .i64 (M : Int)] w fun e w' => e = .returned (.int .i64 (Cl.mlen y M : Nat)) ∧ w = w' := by
  have C1 := Lib.hid (cal_dbm y M w hE hy m1)
  have C2 := Lib.hid (cal_dbm_at y M w hE hy m0 (by omega))
  have hn := Cl.md_next (y := y) m0
  rw [Nat.add_sub_cancel] at hn
  have b1 := Cl.md_bd (y := y) m1
  have F : Hid ((Cl.md y M : Int) - (Cl.md y (M - 1) : Int) = (Cl.mlen y M : Nat)) := by show _ = _; omega
  obtain ⟨a, ea⟩ : ∃ a, a = Cl.md y M := ⟨_, rfl⟩
  obtain ⟨b, eb⟩ : ∃ b, b = Cl.md y (M - 1) := ⟨_, rfl⟩
  rw [← ea] at C1 b1 hn F
  rw [← eb] at C2 hn F
  have b2 : b ≤ a := by omega
  clear hn ea eb
  go_enter Tryd.func34, Tryd.ntmps34
  go_wp2_with fail
  refine C1.out.mono ?_
  rintro e w' ⟨rfl, rfl⟩
  go_wp2_with fail
  refine C2.out.mono ?_
  rintro e w' ⟨rfl, rfl⟩
  go_wp2_with fail
  go_ret
  exact ⟨ret_int F.out, rfl⟩
theorem ret_ib {k : IntKind} {x y : Int} {b c : Bool} (h : x = y) (h' : b = c) : Ending.returned (.tuple #[.int k x, .bool b]) = .returned (.tuple #[.int k y, .bool c]) := by rw [h, h']
theorem Cl.num9_no {y m d : Int} (h : ¬ (2000 ≤ y ∧ y ≤ 9999 ∧ 1 ≤ m ∧ m ≤ 12 ∧ 1 ≤ d ∧ d ≤ (mlen y.toNat m.toNat : Nat))) : (0 : Int) = (Cl.num9 y m d : Nat) ∧ false = Cl.ex9 y m d := by
  have := Cl.ex9_no h
  exact ⟨by rw [Cl.num9, ← this]; rfl, this⟩
theorem cal_dayOf (y m d : Int) (w : World) (hE : CEnv w) : Calls Tryd.prog 24 #[.int .i64 y, .int .i64 m, .int .i64 d] w fun e w' => e = .returned (.tuple #[.int .i64 (Cl.num9 y m d : Nat), .bool (Cl.ex9 y m d)]) ∧ w = w' := by
  by_cases y0 : 2000 ≤ y
  · by_cases y1 : y ≤ 9999
    · by_cases m0 : 1 ≤ m
      · by_cases m1 : m ≤ 12
        · by_cases d0 : 1 ≤ d
          · obtain ⟨Y, eY⟩ : ∃ Y : Nat, y = (Y : Int) := ⟨y.toNat, by omega⟩
            obtain ⟨M, eM⟩ : ∃ M : Nat, m = (M : Int) := ⟨m.toNat, by omega⟩
            subst eY eM
            have ln := cal_monthDays Y M w hE (by omega) (by omega) (by omega)
            by_cases d1 : d ≤ (Cl.mlen Y M : Nat)
            · have hx : Cl.ex9 (Y : Int) (M : Int) d = true := Cl.ex9_iff.2 ⟨y0, y1, m0, m1, d0, by rw [Int.toNat_natCast, Int.toNat_natCast]; exact d1⟩
              have hbd := Cl.num9_bd (Y : Int) (M : Int) d
              have hN : Cl.num9 (Y : Int) (M : Int) d = Cl.yd (Y - 2000) + Cl.md Y (M - 1) + (d.toNat - 1) := by
                rw [Cl.num9, hx, if_pos rfl, Cl.num, Int.toNat_natCast, Int.toNat_natCast]
              have F2 : Hid (true = Cl.ex9 (Y : Int) (M : Int) d) := hx.symm
              have C1 := Lib.hid (cal_dby_at Y w (by omega) (by omega))
              have C2 := Lib.hid (cal_dbm_at Y M w hE (by omega) (by omega) (by omega))
              obtain ⟨a, ea⟩ : ∃ a, a = Cl.yd (Y - 2000) := ⟨_, rfl⟩
              obtain ⟨b, eb⟩ : ∃ b, b = Cl.md Y (M - 1) := ⟨_, rfl⟩
              obtain ⟨L, eL⟩ : ∃ L, L = Cl.mlen Y M := ⟨_, rfl⟩
              have hL := Cl.mlen_bd Y M
              rw [← eL] at ln d1 hL
              rw [← ea] at C1 hN
              rw [← eb] at C2 hN
              have F1 : Hid ((a : Int) + (b : Int) + d - 1 = (Cl.num9 (Y : Int) (M : Int) d : Nat)) := by show _ = _; omega
              have ab : (a : Int) ≤ 3000000 := by omega
              have bb : (b : Int) ≤ 3000000 := by omega
              have db : d ≤ 31 := by omega
              have LN := Lib.hid ln
              clear ln eL ea eb hN hbd hx
              go_enter Tryd.func24, Tryd.ntmps24
              go_wp2_with fail
              refine LN.out.mono ?_
              rintro e w' ⟨rfl, rfl⟩
              go_wp2_with fail
              refine C1.out.mono ?_
              rintro e w' ⟨rfl, rfl⟩
              go_wp2_with fail
              refine C2.out.mono ?_
              rintro e w' ⟨rfl, rfl⟩
              go_wp2_with fail
              go_ret2
              exact ⟨ret_ib F1.out F2.out, rfl⟩
            · obtain ⟨f1, f2⟩ := Cl.num9_no (y := (Y : Int)) (m := (M : Int)) (d := d) (by rw [Int.toNat_natCast, Int.toNat_natCast]; omega)
              obtain ⟨L, eL⟩ : ∃ L, L = Cl.mlen Y M := ⟨_, rfl⟩
              rw [← eL] at ln d1
              have hL := Cl.mlen_bd Y M
              rw [← eL] at hL
              have LN := Lib.hid ln
              have F1 := Lib.hid f1
              have F2 := Lib.hid f2
              clear ln eL f1 f2
              go_enter Tryd.func24, Tryd.ntmps24
              go_wp2_with fail
              refine LN.out.mono ?_
              rintro e w' ⟨rfl, rfl⟩
              go_wp2_with fail
              go_ret2
              exact ⟨ret_ib F1.out F2.out, rfl⟩
          · obtain ⟨f1, f2⟩ := Cl.num9_no (y := y) (m := m) (d := d) (by omega)
            have F1 := Lib.hid f1
            have F2 := Lib.hid f2
            clear f1 f2
            go_enter Tryd.func24, Tryd.ntmps24
            go_wp2_with fail
            go_ret2
            exact ⟨ret_ib F1.out F2.out, rfl⟩
        · obtain ⟨f1, f2⟩ := Cl.num9_no (y := y) (m := m) (d := d) (by omega)
          have F1 := Lib.hid f1
          have F2 := Lib.hid f2
          clear f1 f2
          go_enter Tryd.func24, Tryd.ntmps24
          go_wp2_with fail
          go_ret2
          exact ⟨ret_ib F1.out F2.out, rfl⟩
      · obtain ⟨f1, f2⟩ := Cl.num9_no (y := y) (m := m) (d := d) (by omega)
        have F1 := Lib.hid f1
        have F2 := Lib.hid f2
        clear f1 f2
        go_enter Tryd.func24, Tryd.ntmps24
        go_wp2_with fail
        go_ret2
        exact ⟨ret_ib F1.out F2.out, rfl⟩
    · obtain ⟨f1, f2⟩ := Cl.num9_no (y := y) (m := m) (d := d) (by omega)
      have F1 := Lib.hid f1
      have F2 := Lib.hid f2
      clear f1 f2
      go_enter Tryd.func24, Tryd.ntmps24
      go_wp2_with fail
      go_ret2
      exact ⟨ret_ib F1.out F2.out, rfl⟩
  · obtain ⟨f1, f2⟩ := Cl.num9_no (y := y) (m := m) (d := d) (by omega)
    have F1 := Lib.hid f1
    have F2 := Lib.hid f2
    clear f1 f2
    go_enter Tryd.func24, Tryd.ntmps24
    go_wp2_with fail
    go_ret2
    exact ⟨ret_ib F1.out F2.out, rfl⟩
set_option maxHeartbeats 2000000 in
theorem cal_dateOf (n : Nat) (w : World) (hE : CEnv w) (hn : n ≤ 745654) : Calls Tryd.prog 28 #[.int .i64 (n : Int)] w fun e w' => e = .returned (.tuple #[.int .i64 (Cl.yr n : Nat), .int .i64 (Cl.mo n : Nat), .int .i64 (Cl.dy n : Nat)]) ∧ w = w' := by
  have HE := Lib.hid hE
  have n1 : (n : Int) ≤ 745654 := by omega
  have n0 : (0 : Int) ≤ (n : Int) := by omega
  obtain ⟨q, eq⟩ : ∃ q, q = n / 366 := ⟨_, rfl⟩
  have q0 : (n : Int) / 366 = (q : Int) := by omega
  have I0 : Hid (Cl.yd (2000 + q - 2000) ≤ n) := by
    show _ ≤ _
    rw [Nat.add_sub_cancel_left]
    have := Cl.yd_le q; omega
  have J0 : 2000 + q ≤ 4050 := by omega
  clear hE eq
  go_enter Tryd.func28, Tryd.ntmps28
  go_wp2_with fail
  go_loopw [5] (fun y W => ∃ Y : Nat, 2000 ≤ Y ∧ Y ≤ 4050 ∧ y = .int .i64 (Y : Int) ∧ Hid (Cl.yd (Y - 2000) ≤ n) ∧ W = w) (fun y _ => 5000 - (intOf y).toNat)
  case atStart => exact ⟨2000 + q, by omega, J0, by go_num, I0, rfl⟩
  case round =>
    obtain ⟨Y, y0, y1, rfl, HY, rfl⟩ := hrel
    have c1 := cal_dby_next Y wr y0 (by omega)
    obtain ⟨L, eL⟩ : ∃ L, L = Cl.yd (Y + 1 - 2000) := ⟨_, rfl⟩
    rw [← eL] at c1
    have C1 := Lib.hid c1
    clear c1
    by_cases hlt : L ≤ n
    · have h1 : (L : Int) ≤ (n : Int) := by omega
      have hyb : Y + 1 ≤ 4050 := Cl.yr_up hn (by rw [← eL]; exact hlt)
      have HY2 : Hid (Cl.yd (Y + 1 - 2000) ≤ n) := by show _ ≤ _; rw [← eL]; exact hlt
      clear eL
      go_wp2_with fail
      refine C1.out.mono ?_
      rintro e w' ⟨rfl, rfl⟩
      go_wp2_with fail
      go_roundw
      case rel => exact ⟨Y + 1, by omega, hyb, by go_num, HY2, trivial⟩
      case measure => simp [intOf]; omega
    · have h1 : ¬ (L : Int) ≤ (n : Int) := by omega
      obtain ⟨eY, eR⟩ := Cl.yr_found y0 HY.out (by rw [← eL]; omega)
      have c2 := cal_dby_at Y wr y0 (by omega)
      obtain ⟨K, eK⟩ : ∃ K, K = Cl.yd (Y - 2000) := ⟨_, rfl⟩
      rw [← eK] at c2 eR
      have C2 := Lib.hid c2
      have hK : K ≤ n := by rw [eK]; exact HY.out
      obtain ⟨r, er⟩ : ∃ r, r = Cl.rest n := ⟨_, rfl⟩
      rw [← er] at eR
      have hr : (n : Int) - (K : Int) = (r : Int) := by omega
      have hr1 : r ≤ 745654 := by omega
      have EY := Lib.hid eY
      have ER := Lib.hid er
      have J1 : Hid (Cl.md (Cl.yr n) (1 - 1) ≤ Cl.rest n) := Nat.zero_le _
      clear eY eR eL eK er c2
      go_wp2_with fail
      refine C1.out.mono ?_
      rintro e w' ⟨rfl, rfl⟩
      go_wp2_with fail
      refine C2.out.mono ?_
      rintro e w' ⟨rfl, rfl⟩
      go_wp2_with fail
      go_loopw [7] (fun m V => ∃ M : Nat, 1 ≤ M ∧ M ≤ 12 ∧ m = .int .i64 (M : Int) ∧ Hid (Cl.md (Cl.yr n) (M - 1) ≤ Cl.rest n) ∧ V = wr) (fun m _ => 13 - (intOf m).toNat)
      case atStart => exact ⟨1, by omega, by omega, rfl, J1, rfl⟩
      case round =>
        obtain ⟨M, m0, m1, rfl, HM, rfl⟩ := hrel
        have c3 := cal_dbm Y M wr HE.out (by omega) m1
        obtain ⟨P, eP⟩ : ∃ P, P = Cl.md Y M := ⟨_, rfl⟩
        rw [← eP] at c3
        have C3 := Lib.hid c3
        clear c3
        by_cases hlt2 : P ≤ r
        · have h3 : (P : Int) ≤ (r : Int) := by omega
          have hP2 : Cl.md (Cl.yr n) (M + 1 - 1) ≤ Cl.rest n := by rw [Nat.add_sub_cancel, ← EY.out, ← eP, ← ER.out]; exact hlt2
          have hmb := Cl.mo_up m0 m1 hP2
          have HP2 := Lib.hid hP2
          clear hP2 eP
          go_wp2_with fail
          refine C3.out.mono ?_
          rintro e w' ⟨rfl, rfl⟩
          go_wp2_with fail
          go_roundw
          case rel => exact ⟨M + 1, by omega, hmb, by go_num, HP2, trivial⟩
          case measure => simp [intOf]; omega
        · have h3 : ¬ (P : Int) ≤ (r : Int) := by omega
          obtain ⟨eM, eD⟩ := Cl.mo_found m0 HM.out (by rw [Nat.add_sub_cancel, ← EY.out, ← eP, ← ER.out]; omega)
          have c4 := cal_dbm_at Y M wr HE.out (by omega) m0 (by omega)
          obtain ⟨O, eO⟩ : ∃ O, O = Cl.md Y (M - 1) := ⟨_, rfl⟩
          rw [← eO] at c4
          rw [← EY.out, ← eO, ← ER.out] at eD
          have hO : O ≤ r := by have := HM.out; rw [← EY.out, ← eO, ← ER.out] at this; exact this
          have F1 : Hid ((Y : Int) = (Cl.yr n : Nat)) := by show _ = _; rw [← EY.out]
          have F2 : Hid ((M : Int) = (Cl.mo n : Nat)) := by show _ = _; rw [← eM]
          have F3 : Hid ((r : Int) - (O : Int) + 1 = (Cl.dy n : Nat)) := by show _ = _; omega
          have C4 := Lib.hid c4
          clear eM eD eO eP c4
          go_wp2_with fail
          refine C3.out.mono ?_
          rintro e w' ⟨rfl, rfl⟩
          go_wp2_with fail
          refine C4.out.mono ?_
          rintro e w' ⟨rfl, rfl⟩
          go_wp2_with fail
          refine bodyPost_ret (v := .tuple #[.int .i64 (Y : Int), .int .i64 (M : Int), .int .i64 ((r : Int) - (O : Int) + 1)]) (by simp [results, Tryd.results28, go_sem]) rfl ?_
          exact ⟨ret3_int F1.out F2.out F3.out, rfl⟩
end Go.Proofs.YtjhkbgdjgiiocaaDoor
