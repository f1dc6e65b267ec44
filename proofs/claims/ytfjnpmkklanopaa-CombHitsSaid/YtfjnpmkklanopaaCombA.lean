/- Layer 5: what Count, Hits and a check of a list answer; the reference's in, Count, Hits. -/
import Derived.Test.YtfjnpmkklanopaaCombMath
import Derived.Test.YtfjnpmkklanopaaGN
import Derived.Test.YtfjnpmkklanopaaMonA
namespace Go.Proofs.Ytfjnpmkklanopaa
set_option maxRecDepth 20000
open Go.RowKit
set_option linter.unusedVariables false
set_option linter.unusedSimpArgs false
namespace Cb
/-- Is x from 0 to m? -/
def inn (x m : Int) : Bool := decide (0 ≤ x) && decide (x ≤ m)
theorem inn_iff {x m : Int} : inn x m = true ↔ 0 ≤ x ∧ x ≤ m := by simp [inn]
theorem inn_no {x m : Int} (h : inn x m = false) : x < 0 ∨ m < x := by
  rcases Int.lt_or_le x 0 with h1 | h1
  · exact .inl h1
  · rcases Int.lt_or_le m x with h2 | h2
    · exact .inr h2
    · have := inn_iff.2 ⟨h1, h2⟩
      rw [this] at h; cases h
def val (n k : Int) : Nat := bin n.toNat k.toNat
/-- What Count answers. -/
def cntV (n k : Int) : Int := if inn n 80 && inn k n then (if val n k ≤ 9223372036854775807 then (val n k : Nat) else 0) else 0
def cntE (n k : Int) : Int := if inn n 80 then (if inn k n then (if val n k ≤ 9223372036854775807 then 0 else 9) else 0) else 2
theorem cnt_n {n k : Int} (h : inn n 80 = false) : cntV n k = 0 ∧ cntE n k = 2 := by simp [cntV, cntE, h]
theorem cnt_k {n k : Int} (h : inn n 80 = true) (h' : inn k n = false) : cntV n k = 0 ∧ cntE n k = 0 := by simp [cntV, cntE, h, h']
theorem cnt_big {n k : Int} (h : inn n 80 = true) (h' : inn k n = true) (hb : 9223372036854775807 < val n k) : cntV n k = 0 ∧ cntE n k = 9 := by
  have : ¬ val n k ≤ 9223372036854775807 := by omega
  simp [cntV, cntE, h, h', this]
theorem cnt_ok {n k : Int} (h : inn n 80 = true) (h' : inn k n = true) (hb : val n k ≤ 9223372036854775807) : cntV n k = (val n k : Nat) ∧ cntE n k = 0 := by
  simp [cntV, cntE, h, h', hb]
theorem cnt_nat {n k : Nat} (hn : n ≤ 80) (hk : k ≤ n) (hb : bin n k ≤ 9223372036854775807) : cntV n k = (bin n k : Nat) ∧ cntE n k = 0 :=
  cnt_ok (inn_iff.2 ⟨by omega, by omega⟩) (inn_iff.2 ⟨by omega, by omega⟩) hb
theorem cntV_bd (n k : Int) : 0 ≤ cntV n k ∧ cntV n k ≤ 9223372036854775807 := by
  unfold cntV; split <;> (try split) <;> omega
theorem mdN {a b c : Nat} (hc : 0 < c) (h : a * b / c ≤ 9223372036854775807) : Nm.mdE a b c = 0 ∧ Nm.mdQ a b c = ((a * b / c : Nat) : Int) ∧ Nm.mdR a b c = ((a * b % c : Nat) : Int) := by
  have e : (a : Int) * b / c = ((a * b / c : Nat) : Int) := rfl
  have e2 : (a : Int) * b % c = ((a * b % c : Nat) : Int) := rfl
  have := Nm.md_ok (a := a) (b := b) (c := c) (by omega) (by omega) (by omega) (by rw [e]; omega)
  rw [e, e2] at this
  exact this
theorem mdN_over {a b c : Nat} (hc : 0 < c) (h : 9223372036854775807 < a * b / c) : Nm.mdE a b c = 9 ∧ Nm.mdQ a b c = 0 ∧ Nm.mdR a b c = 0 := by
  have e : (a : Int) * b / c = ((a * b / c : Nat) : Int) := rfl
  exact Nm.md_over (a := a) (b := b) (c := c) (by omega) (by omega) (by omega) (by rw [e]; omega)
/-- What Hits answers. -/
def hitP (n k d h : Int) : Nat := val d h * val (n - d) (k - h)
def hitO (n k d h : Int) : Bool := inn k n && inn h d && inn (k - h) (n - d)
def hitV (n k d h : Int) : Int := if inn n 80 && inn d n then (if hitO n k d h then (if hitP n k d h ≤ 9223372036854775807 then (hitP n k d h : Nat) else 0) else 0) else 0
def hitE (n k d h : Int) : Int := if inn n 80 && inn d n then (if hitO n k d h then (if hitP n k d h ≤ 9223372036854775807 then 0 else 9) else 0) else 2
end Cb
theorem ref5_in (x m : Int) (w : World) : Calls Try.prog 29 #[.int .i64 x, .int .i64 m] w fun e w' => e = .returned (.bool (Cb.inn x m)) ∧ w = w' := by
  by_cases h0 : 0 ≤ x
  · by_cases h1 : x ≤ m
    · have F : Hid (true = Cb.inn x m) := (Cb.inn_iff.2 ⟨h0, h1⟩).symm
      go_enter Try.func29, Try.ntmps29
      go_wp2_with fail
      go_ret
      exact ⟨ret_bool F.out, rfl⟩
    · have F : Hid (false = Cb.inn x m) := by
        show _ = _
        rw [eq_comm, Bool.eq_false_iff]
        intro e
        exact h1 (Cb.inn_iff.1 e).2
      go_enter Try.func29, Try.ntmps29
      go_wp2_with fail
      go_ret
      exact ⟨ret_bool F.out, rfl⟩
  · have F : Hid (false = Cb.inn x m) := by
      show _ = _
      rw [eq_comm, Bool.eq_false_iff]
      intro e
      exact h0 (Cb.inn_iff.1 e).1
    go_enter Try.func29, Try.ntmps29
    go_wp2_with fail
    go_ret
    exact ⟨ret_bool F.out, rfl⟩
theorem ref5_in_is {x m : Int} {b : Bool} (h : Cb.inn x m = b) (w : World) : Calls Try.prog 29 #[.int .i64 x, .int .i64 m] w fun e w' => e = .returned (.bool b) ∧ w = w' := by
  subst h; exact ref5_in x m w
set_option maxHeartbeats 1000000 in
theorem ref5_Count (n k : Int) (hk0 : -9223372036854775808 ≤ k) (hk1 : k ≤ 9223372036854775807) (w : World) :
    Calls Try.prog 13 #[.int .i64 n, .int .i64 k] w fun e w' => e = .returned (.tuple #[.int .i64 (Cb.cntV n k), .int .i64 (Cb.cntE n k)]) ∧ w = w' := by
  cases hn : Cb.inn n 80
  · obtain ⟨e1, e2⟩ := Cb.cnt_n (k := k) hn
    have E1 := Lib.hid e1
    have E2 := Lib.hid e2
    have I1 := Lib.hid fun w => ref5_in_is hn w
    clear e1 e2 hn
    go_enter Try.func13, Try.ntmps13
    go_wp2_with fail
    refine (I1.out _).mono ?_
    rintro e w' ⟨rfl, rfl⟩
    go_wp2_with fail
    go_ret2
    exact ⟨ret2_int E1.out.symm E2.out.symm, rfl⟩
  · cases hk : Cb.inn k n
    · obtain ⟨e1, e2⟩ := Cb.cnt_k hn hk
      have E1 := Lib.hid e1
      have E2 := Lib.hid e2
      have I1 := Lib.hid fun w => ref5_in_is hn w
      have I2 := Lib.hid fun w => ref5_in_is hk w
      clear e1 e2 hn hk
      go_enter Try.func13, Try.ntmps13
      go_wp2_with fail
      refine (I1.out _).mono ?_
      rintro e w' ⟨rfl, rfl⟩
      go_wp2_with fail
      refine (I2.out _).mono ?_
      rintro e w' ⟨rfl, rfl⟩
      go_wp2_with fail
      go_ret2
      exact ⟨ret2_int E1.out.symm E2.out.symm, rfl⟩
    · have I1 := Lib.hid fun w => ref5_in_is hn w
      have I2 := Lib.hid fun w => ref5_in_is hk w
      obtain ⟨n0, n1⟩ := Cb.inn_iff.1 hn
      obtain ⟨k0, k1⟩ := Cb.inn_iff.1 hk
      have HN := Lib.hid hn
      have HK := Lib.hid hk
      obtain ⟨K, eK⟩ : ∃ K : Nat, k = (K : Int) := ⟨k.toNat, by omega⟩
      obtain ⟨m, em⟩ : ∃ m : Nat, n = (m : Int) + (K : Int) := ⟨(n - k).toNat, by omega⟩
      subst eK
      have hv : Cb.val n K = Cb.bin (m + K) K := by
        unfold Cb.val
        rw [show n.toNat = m + K by omega, Int.toNat_natCast]
      have HV := Lib.hid hv
      have hnk : n - (K : Int) = (m : Int) := by omega
      have m80 : m ≤ 80 := by omega
      have K80 : K ≤ 80 := by omega
      clear hn hk hv em
      go_enter Try.func13, Try.ntmps13
      go_wp2_with fail
      refine (I1.out _).mono ?_
      rintro e w' ⟨rfl, rfl⟩
      go_wp2_with fail
      refine (I2.out _).mono ?_
      rintro e w' ⟨rfl, rfl⟩
      go_wp2_with fail
      go_loopw [6, 7] (fun c i W => ∃ (j : Nat) (C : Int), j ≤ K ∧ c = .int .i64 C ∧ i = .int .i64 ((j : Int) + 1) ∧ 1 ≤ C ∧ C ≤ 9223372036854775807 ∧ Hid (C = (Cb.bin (m + j) j : Nat)) ∧ W = w) (fun _ i _ => K + 1 - (intOf i).toNat)
      case atStart => exact ⟨0, 1, by omega, rfl, rfl, by omega, by omega, by show _ = _; rw [Cb.bin_zero]; rfl, rfl⟩
      case round =>
        obtain ⟨j, C, hj, rfl, rfl, c0, c1, HC, rfl⟩ := hrel
        by_cases hlt : j < K
        · have hle : (j : Int) + 1 ≤ (K : Int) := by omega
          have hstep := Cb.bin_step m j
          by_cases hbig : Cb.bin (m + j + 1) (j + 1) ≤ 9223372036854775807
          · obtain ⟨q1, q2, q3⟩ := Cb.mdN (a := Cb.bin (m + j) j) (b := m + j + 1) (c := j + 1) (by omega) (by rw [hstep]; exact hbig)
            have md := fun W => ref_MulDiv C ((m : Int) + ((j : Int) + 1)) ((j : Int) + 1) (by omega) (by omega) (by omega) (by omega) (by omega) (by omega) W
            have x1 : (m : Int) + ((j : Int) + 1) = ((m + j + 1 : Nat) : Int) := by omega
            have x2 : (j : Int) + 1 = ((j + 1 : Nat) : Int) := by omega
            obtain ⟨D, eD⟩ : ∃ D : Int, D = (Cb.bin (m + j + 1) (j + 1) : Nat) := ⟨_, rfl⟩
            have d0 : 1 ≤ D := by have := Cb.bin_pos (n := m + j + 1) (k := j + 1) (by omega); omega
            have d1 : D ≤ 9223372036854775807 := by omega
            have y1 : Nm.mdQ C ((m : Int) + ((j : Int) + 1)) ((j : Int) + 1) = D := by rw [x1, x2, HC.out, q2, hstep, eD]
            have y3 : Nm.mdE C ((m : Int) + ((j : Int) + 1)) ((j : Int) + 1) = 0 := by rw [x1, x2, HC.out, q1]
            rw [y1, y3] at md
            have MD := Lib.hid md
            have HD : Hid (D = (Cb.bin (m + (j + 1)) (j + 1) : Nat)) := eD
            clear q1 q2 q3 md x1 x2 eD y1 y3 hbig hstep
            go_wp2_with fail
            refine (MD.out _).mono ?_
            rintro e w' ⟨rfl, rfl⟩
            go_wp2_with fail
            go_roundw
            case rel => exact ⟨j + 1, D, by omega, rfl, by go_num, d0, d1, HD, trivial⟩
            case measure => simp [intOf]; omega
          · have hb2 : 9223372036854775807 < Cb.bin (m + j + 1) (j + 1) := by omega
            obtain ⟨q1, q2, q3⟩ := Cb.mdN_over (a := Cb.bin (m + j) j) (b := m + j + 1) (c := j + 1) (by omega) (by rw [hstep]; exact hb2)
            have md := fun W => ref_MulDiv C ((m : Int) + ((j : Int) + 1)) ((j : Int) + 1) (by omega) (by omega) (by omega) (by omega) (by omega) (by omega) W
            have x1 : (m : Int) + ((j : Int) + 1) = ((m + j + 1 : Nat) : Int) := by omega
            have x2 : (j : Int) + 1 = ((j + 1 : Nat) : Int) := by omega
            have y1 : Nm.mdQ C ((m : Int) + ((j : Int) + 1)) ((j : Int) + 1) = 0 := by rw [x1, x2, HC.out, q2]
            have y3 : Nm.mdE C ((m : Int) + ((j : Int) + 1)) ((j : Int) + 1) = 9 := by rw [x1, x2, HC.out, q1]
            rw [y1, y3] at md
            have MD := Lib.hid md
            obtain ⟨e1, e2⟩ := Cb.cnt_big HN.out HK.out (by
              rw [HV.out]
              have := Cb.bin_ups (m + j + 1) (j + 1) (K - (j + 1))
              rw [show m + j + 1 + (K - (j + 1)) = m + K by omega, show j + 1 + (K - (j + 1)) = K by omega] at this
              omega)
            have E1 := Lib.hid e1
            have E2 := Lib.hid e2
            clear q1 q2 q3 md x1 x2 y1 y3 hbig hb2 hstep e1 e2
            go_wp2_with fail
            refine (MD.out _).mono ?_
            rintro e w' ⟨rfl, rfl⟩
            go_wp2_with fail
            go_ret2
            exact ⟨ret2_int E1.out.symm E2.out.symm, rfl⟩
        · obtain rfl : j = K := by omega
          have hle : ¬ (j : Int) + 1 ≤ (j : Int) := by omega
          obtain ⟨e1, e2⟩ := Cb.cnt_ok HN.out HK.out (by rw [HV.out]; have := HC.out; omega)
          rw [HV.out] at e1
          have E1 : Hid (C = Cb.cntV n j) := HC.out.trans e1.symm
          have E2 := Lib.hid e2
          clear e1 e2
          go_wp2_with fail
          go_ret2
          exact ⟨ret2_int E1.out E2.out.symm, rfl⟩
end Go.Proofs.Ytfjnpmkklanopaa
