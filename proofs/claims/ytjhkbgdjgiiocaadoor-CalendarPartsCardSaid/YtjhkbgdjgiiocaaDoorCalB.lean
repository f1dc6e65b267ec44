/- Layer 6: what Day, Date, Weekday and Age answer; the reference's. -/
import Derived.Test.YtjhkbgdjgiiocaaDoorCalA
namespace Go.Proofs.YtjhkbgdjgiiocaaDoor
set_option maxRecDepth 20000
open Go.RowKit
set_option linter.unusedVariables false
set_option linter.unusedSimpArgs false
namespace Cl
def isd (n : Int) : Bool := decide (0 ≤ n) && decide (n < 745654)
def ist (n : Int) : Bool := decide (0 ≤ n) && decide (n ≤ 1073741824)
theorem isd_iff {n : Int} : isd n = true ↔ 0 ≤ n ∧ n < 745654 := by simp [isd]
theorem ist_iff {n : Int} : ist n = true ↔ 0 ≤ n ∧ n ≤ 1073741824 := by simp [ist]
/-- Is there such a date from 2000 to 4100? -/
def ex (y m d : Int) : Bool := decide (2000 ≤ y ∧ y ≤ 4100 ∧ 1 ≤ m ∧ m ≤ 12 ∧ 1 ≤ d ∧ d ≤ (mlen y.toNat m.toNat : Nat))
theorem ex_iff {y m d : Int} : ex y m d = true ↔ 2000 ≤ y ∧ y ≤ 4100 ∧ 1 ≤ m ∧ m ≤ 12 ∧ 1 ≤ d ∧ d ≤ (mlen y.toNat m.toNat : Nat) := by simp [ex]
theorem ex_no {y m d : Int} (h : ¬ (2000 ≤ y ∧ y ≤ 4100 ∧ 1 ≤ m ∧ m ≤ 12 ∧ 1 ≤ d ∧ d ≤ (mlen y.toNat m.toNat : Nat))) : false = ex y m d := by
  rw [eq_comm, Bool.eq_false_iff]; intro e; exact h (ex_iff.1 e)
/-- The day number of a date. -/
def num (y m d : Nat) : Nat := yd (y - 2000) + md y (m - 1) + (d - 1)
theorem num_bd {y m d : Nat} (hy : y ≤ 4100) (hm : m ≤ 12) (hd : d ≤ 31) : num y m d ≤ 800000 := by
  have h1 := yd_le (y - 2000)
  have h2 := md_mono (y := y) (i := m - 1) (j := 12) (by omega)
  rw [md_12] at h2
  have h3 := ylen_bd y
  unfold num; omega
/-- What Day answers. -/
def dayO (y m d : Int) : Bool := ex y m d && decide (num y.toNat m.toNat d.toNat < 745654)
def dayV (y m d : Int) : Int := if dayO y m d then (num y.toNat m.toNat d.toNat : Nat) else 0
def dayE (y m d : Int) : Int := if dayO y m d then 0 else 2
theorem day_no {y m d : Int} (h : dayO y m d = false) : dayV y m d = 0 ∧ dayE y m d = 2 := by simp [dayV, dayE, h]
theorem day_ok {y m d : Int} (h : dayO y m d = true) : dayV y m d = (num y.toNat m.toNat d.toNat : Nat) ∧ dayE y m d = 0 := by simp [dayV, dayE, h]
/-- What Date answers. -/
def datY (n : Int) : Int := if isd n then (yr n.toNat : Nat) else 0
def datM (n : Int) : Int := if isd n then (mo n.toNat : Nat) else 0
def datD (n : Int) : Int := if isd n then (dy n.toNat : Nat) else 0
def datE (n : Int) : Int := if isd n then 0 else 2
def wdV (n : Int) : Int := if isd n then (wd n.toNat : Nat) else 0
/-- What Age answers. -/
def ageO (b n : Int) : Bool := isd b && isd n && decide (b ≤ n)
def ageV (b n : Int) : Int := if ageO b n then (age b.toNat n.toNat : Nat) else 0
def ageE (b n : Int) : Int := if ageO b n then 0 else 2
theorem dy_bd (n : Nat) : 1 ≤ dy n ∧ dy n ≤ 31 ∧ 1 ≤ mo n ∧ mo n ≤ 12 := by
  have h := civ_is n
  have := mlen_bd (yr n) (mo n)
  exact ⟨h.d0, by have := h.d1; omega, h.m0, h.m1⟩
end Cl
theorem ref6_isDay {n : Int} {b : Bool} (h : Cl.isd n = b) (w : World) : Calls Tryd.prog 29 #[.int .i64 n] w fun e w' => e = .returned (.bool b) ∧ w = w' := by
  subst h
  by_cases h0 : 0 ≤ n
  · by_cases h1 : n < 745654
    · have F : Hid (true = Cl.isd n) := (Cl.isd_iff.2 ⟨h0, h1⟩).symm
      go_enter Tryd.func29, Tryd.ntmps29
      go_wp2_with fail
      go_ret
      exact ⟨ret_bool F.out, rfl⟩
    · have F : Hid (false = Cl.isd n) := by show _ = _; rw [eq_comm, Bool.eq_false_iff]; intro e; exact h1 (Cl.isd_iff.1 e).2
      go_enter Tryd.func29, Tryd.ntmps29
      go_wp2_with fail
      go_ret
      exact ⟨ret_bool F.out, rfl⟩
  · have F : Hid (false = Cl.isd n) := by show _ = _; rw [eq_comm, Bool.eq_false_iff]; intro e; exact h0 (Cl.isd_iff.1 e).1
    go_enter Tryd.func29, Tryd.ntmps29
    go_wp2_with fail
    go_ret
    exact ⟨ret_bool F.out, rfl⟩
theorem ref6_isTime {n : Int} {b : Bool} (h : Cl.ist n = b) (w : World) : Calls Tryd.prog 35 #[.int .i64 n] w fun e w' => e = .returned (.bool b) ∧ w = w' := by
  subst h
  by_cases h0 : 0 ≤ n
  · by_cases h1 : n ≤ 1073741824
    · have F : Hid (true = Cl.ist n) := (Cl.ist_iff.2 ⟨h0, h1⟩).symm
      go_enter Tryd.func35, Tryd.ntmps35
      go_wp2_with fail
      go_ret
      exact ⟨ret_bool F.out, rfl⟩
    · have F : Hid (false = Cl.ist n) := by show _ = _; rw [eq_comm, Bool.eq_false_iff]; intro e; exact h1 (Cl.ist_iff.1 e).2
      go_enter Tryd.func35, Tryd.ntmps35
      go_wp2_with fail
      go_ret
      exact ⟨ret_bool F.out, rfl⟩
  · have F : Hid (false = Cl.ist n) := by show _ = _; rw [eq_comm, Bool.eq_false_iff]; intro e; exact h0 (Cl.ist_iff.1 e).1
    go_enter Tryd.func35, Tryd.ntmps35
    go_wp2_with fail
    go_ret
    exact ⟨ret_bool F.out, rfl⟩
theorem ref6_On (n : Nat) (w : World) (hn : n ≤ 800000) : Calls Tryd.prog 32 #[.int .i64 (n : Int)] w fun e w' => e = .returned (.int .i64 (Cl.wd n : Nat)) ∧ w = w' := by
  have F : Hid (((n : Int) + 5) % 7 = (Cl.wd n : Nat)) := by show _ = _; unfold Cl.wd; omega
  have n0 : (0 : Int) ≤ (n : Int) := by omega
  go_enter Tryd.func32, Tryd.ntmps32
  go_wp2_with fail
  go_ret
  exact ⟨ret_int F.out, rfl⟩
theorem ref6_exists (y m d : Int) (w : World) : Calls Tryd.prog 26 #[.int .i64 y, .int .i64 m, .int .i64 d] w fun e w' => e = .returned (.bool (Cl.ex y m d)) ∧ Below w.heap.size w w' := by
  have B0 := Lib.hid (Below.refl w.heap.size w)
  by_cases y0 : 2000 ≤ y
  · by_cases y1 : y ≤ 4100
    · by_cases m0 : 1 ≤ m
      · by_cases m1 : m ≤ 12
        · by_cases d0 : 1 ≤ d
          · obtain ⟨Y, eY⟩ : ∃ Y : Nat, y = (Y : Int) := ⟨y.toNat, by omega⟩
            obtain ⟨M, eM⟩ : ∃ M : Nat, m = (M : Int) := ⟨m.toNat, by omega⟩
            subst eY eM
            have ln := ref6_Length Y M w (by omega) (by omega) (by omega)
            by_cases d1 : d ≤ (Cl.mlen Y M : Nat)
            · have F : Hid (true = Cl.ex (Y : Int) (M : Int) d) := (Cl.ex_iff.2 ⟨y0, y1, m0, m1, d0, by rw [Int.toNat_natCast, Int.toNat_natCast]; exact d1⟩).symm
              obtain ⟨L, eL⟩ : ∃ L, L = Cl.mlen Y M := ⟨_, rfl⟩
              rw [← eL] at ln d1
              have LN := Lib.hid ln
              clear ln eL
              go_enter Tryd.func26, Tryd.ntmps26
              go_wp2_with fail
              refine LN.out.mono ?_
              rintro e w1 ⟨rfl, B1⟩
              have K1 := Lib.hid B1
              clear B1
              go_wp2_with fail
              go_ret
              exact ⟨ret_bool F.out, K1.out⟩
            · have f : decide (d ≤ ((Cl.mlen Y M : Nat) : Int)) = Cl.ex (Y : Int) (M : Int) d := by
                rw [decide_eq_false d1]; exact Cl.ex_no (by rw [Int.toNat_natCast, Int.toNat_natCast]; omega)
              obtain ⟨L, eL⟩ : ∃ L, L = Cl.mlen Y M := ⟨_, rfl⟩
              rw [← eL] at ln d1 f
              have LN := Lib.hid ln
              have F := Lib.hid f
              clear ln eL f
              go_enter Tryd.func26, Tryd.ntmps26
              go_wp2_with fail
              refine LN.out.mono ?_
              rintro e w1 ⟨rfl, B1⟩
              have K1 := Lib.hid B1
              clear B1
              go_wp2_with fail
              go_ret
              exact ⟨ret_bool F.out, K1.out⟩
          · have F : Hid (false = Cl.ex y m d) := Cl.ex_no (by omega)
            go_enter Tryd.func26, Tryd.ntmps26
            go_wp2_with fail
            go_ret
            exact ⟨ret_bool F.out, B0.out⟩
        · have F : Hid (false = Cl.ex y m d) := Cl.ex_no (by omega)
          go_enter Tryd.func26, Tryd.ntmps26
          go_wp2_with fail
          go_ret
          exact ⟨ret_bool F.out, B0.out⟩
      · have F : Hid (false = Cl.ex y m d) := Cl.ex_no (by omega)
        go_enter Tryd.func26, Tryd.ntmps26
        go_wp2_with fail
        go_ret
        exact ⟨ret_bool F.out, B0.out⟩
    · have F : Hid (false = Cl.ex y m d) := Cl.ex_no (by omega)
      go_enter Tryd.func26, Tryd.ntmps26
      go_wp2_with fail
      go_ret
      exact ⟨ret_bool F.out, B0.out⟩
  · have F : Hid (false = Cl.ex y m d) := Cl.ex_no (by omega)
    go_enter Tryd.func26, Tryd.ntmps26
    go_wp2_with fail
    go_ret
    exact ⟨ret_bool F.out, B0.out⟩
set_option maxHeartbeats 1000000 in
theorem ref6_number (y m d : Nat) (w : World) (y0 : 2000 ≤ y) (y1 : y ≤ 4100) (m0 : 1 ≤ m) (m1 : m ≤ 12) (d0 : 1 ≤ d) (d1 : d ≤ 31) :
    Calls Tryd.prog 27 #[.int .i64 (y : Int), .int .i64 (m : Int), .int .i64 (d : Int)] w fun e w' => e = .returned (.int .i64 (Cl.num y m d : Nat)) ∧ Below w.heap.size w w' := by
  have YR := Lib.hid fun (y : Nat) (h : y ≤ 10000) W => ref6_Year y W h
  have LN := Lib.hid fun (y m : Nat) (h : y ≤ 10000) (m0 : 1 ≤ m) (m1 : m ≤ 12) W => ref6_Length y m W h m0 m1
  have HT := Lib.hid (Cl.num_bd (y := y) (m := m) (d := d) y1 m1 d1)
  obtain ⟨d', ed⟩ : ∃ d', d' = d - 1 := ⟨_, rfl⟩
  have e1 : (d : Int) - 1 = (d' : Int) := by omega
  have ED := Lib.hid ed
  have I0 : Hid (d' = (d - 1) + Cl.yd (2000 - 2000)) := by show d' = (d - 1) + 0; omega
  clear ed
  go_enter Tryd.func27, Tryd.ntmps27
  go_wp2_with fail
  go_loopw [7, 8] (fun s i W => ∃ (S Y : Nat), 2000 ≤ Y ∧ Y ≤ y ∧ S ≤ 1000000 ∧ s = .int .i64 (S : Int) ∧ i = .int .i64 (Y : Int) ∧ Hid (S = (d - 1) + Cl.yd (Y - 2000)) ∧ W = w) (fun _ i _ => y - (intOf i).toNat)
  case atStart => exact ⟨d', 2000, by omega, y0, by omega, rfl, rfl, I0, rfl⟩
  case round =>
    obtain ⟨S, Y, g0, g1, hS, rfl, rfl, HS, rfl⟩ := hrel
    by_cases hlt : Y < y
    · have h1 : (Y : Int) < (y : Int) := by omega
      have hy := YR.out Y (by omega)
      obtain ⟨b0, b1⟩ := Cl.ylen_bd Y
      obtain ⟨L, eL⟩ : ∃ L, L = Cl.ylen Y := ⟨_, rfl⟩
      rw [← eL] at hy b0 b1
      have HY := Lib.hid hy
      obtain ⟨S2, eS⟩ : ∃ S2, S2 = S + L := ⟨_, rfl⟩
      have h2 : (S : Int) + (L : Int) = (S2 : Int) := by omega
      have hS2 : S2 = (d - 1) + Cl.yd (Y + 1 - 2000) := by rw [Cl.yd_next g0, ← eL]; have := HS.out; omega
      have hS3 : S2 ≤ 1000000 := by have := Cl.yd_le (Y + 1 - 2000); omega
      have HS2 := Lib.hid hS2
      clear hy eL eS hS2
      go_wp2_with fail
      refine (HY.out _).mono ?_
      rintro e w' ⟨rfl, rfl⟩
      go_wp2_with fail
      go_roundw
      case rel => exact ⟨S2, Y + 1, by omega, by omega, hS3, rfl, by go_num, HS2, trivial⟩
      case measure => simp [intOf]; omega
    · obtain rfl : Y = y := by omega
      have h1 : ¬ (Y : Int) < (Y : Int) := by omega
      have J0 : Hid (S = (d - 1) + Cl.yd (Y - 2000) + Cl.md Y (1 - 1)) := by show S = _ + 0; exact HS.out
      go_wp2_with fail
      go_loopw [7, 9] (fun s i W => ∃ (S M : Nat), 1 ≤ M ∧ M ≤ m ∧ S ≤ 1000000 ∧ s = .int .i64 (S : Int) ∧ i = .int .i64 (M : Int) ∧ Hid (S = (d - 1) + Cl.yd (Y - 2000) + Cl.md Y (M - 1)) ∧ Hid (Below wr.heap.size wr W)) (fun _ i _ => m - (intOf i).toNat)
      case atStart => exact ⟨S, 1, by omega, m0, hS, rfl, rfl, J0, Below.refl _ _⟩
      case round =>
        clear J0 HS hS
        obtain ⟨S, M, g2, g3, hS, rfl, rfl, HS, HB⟩ := hrel
        by_cases hlt2 : M < m
        · have h3 : (M : Int) < (m : Int) := by omega
          have hl := LN.out Y M (by omega) g2 (by omega)
          obtain ⟨b2, b3⟩ := Cl.mlen_bd Y M
          obtain ⟨K, eK⟩ : ∃ K, K = Cl.mlen Y M := ⟨_, rfl⟩
          rw [← eK] at hl b2 b3
          have HLn := Lib.hid hl
          obtain ⟨S2, eS⟩ : ∃ S2, S2 = S + K := ⟨_, rfl⟩
          have h2 : (S : Int) + (K : Int) = (S2 : Int) := by omega
          have hS2 : S2 = (d - 1) + Cl.yd (Y - 2000) + Cl.md Y (M + 1 - 1) := by rw [Cl.md_next g2, ← eK]; have := HS.out; omega
          have hS3 : S2 ≤ 1000000 := by
            have q1 := Cl.yd_le (Y - 2000)
            have q2 := Cl.md_mono (y := Y) (i := M + 1 - 1) (j := 12) (by omega)
            rw [Cl.md_12] at q2
            have q3 := Cl.ylen_bd Y
            omega
          have HS2 := Lib.hid hS2
          clear hl eK eS hS2
          go_wp2_with fail
          refine (HLn.out _).mono ?_
          rintro e w2 ⟨rfl, B2⟩
          have HB2 := Lib.hid (HB.out.trans (B2.mono HB.out.size))
          clear B2
          go_wp2_with fail
          go_roundw
          case rel => exact ⟨S2, M + 1, by omega, by omega, hS3, rfl, by go_num, HS2, HB2⟩
          case measure => simp [intOf]; omega
        · obtain rfl : M = m := by omega
          have h3 : ¬ (M : Int) < (M : Int) := by omega
          have F : Hid ((S : Int) = (Cl.num Y M d : Nat)) := by show _ = _; rw [HS.out]; unfold Cl.num; omega
          go_wp2_with fail
          go_ret
          exact ⟨ret_int F.out, HB.out⟩
end Go.Proofs.YtjhkbgdjgiiocaaDoor
