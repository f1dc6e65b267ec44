/- Layer 5: the program's Count (binomial over ints, scaleInt). -/
import Derived.Test.YtfjnpmkklanopaaCombB
namespace Go.Proofs.Ytfjnpmkklanopaa
set_option maxRecDepth 20000
open Go.RowKit
set_option linter.unusedVariables false
set_option linter.unusedSimpArgs false
namespace Cb
/-- Coefficients grow up to the middle. -/
theorem bin_up1 {n j : Nat} (h : 2 * j + 1 ≤ n) : bin n j ≤ bin n (j + 1) := by
  have h1 := bin_next n j
  have h2 : (j + 1) * bin n j ≤ (n - j) * bin n j := Nat.mul_le_mul_right _ (by omega)
  rw [← h1] at h2
  exact Nat.le_of_mul_le_mul_left h2 (by omega)
theorem bin_mid {n K : Nat} (h : 2 * K ≤ n) : ∀ {j}, j ≤ K → bin n j ≤ bin n K := by
  induction K with
  | zero => intro j hj; rw [show j = 0 by omega]; exact Nat.le_refl _
  | succ K ih =>
    intro j hj
    rcases Nat.lt_or_ge j (K + 1) with h1 | h1
    · exact Nat.le_trans (ih (by omega) (by omega)) (bin_up1 (by omega))
    · rw [show j = K + 1 by omega]; exact Nat.le_refl _
/-- The rounds of a product for C(n, k): the lesser of k and n - k. -/
theorem bin_min {n K M : Nat} (hK : K ≤ n) (hM : M = K ∧ K ≤ n - K ∨ M = n - K ∧ n - K < K) : bin n K = bin n M ∧ 2 * M ≤ n := by
  rcases hM with ⟨rfl, h⟩ | ⟨rfl, h⟩
  · exact ⟨rfl, by omega⟩
  · exact ⟨bin_symm hK, by omega⟩
end Cb
set_option maxHeartbeats 400000 in
theorem comb_scaleInt (a b c : Int) (ha0 : -9223372036854775808 ≤ a) (ha1 : a ≤ 9223372036854775807) (hb0 : -9223372036854775808 ≤ b) (hb1 : b ≤ 9223372036854775807) (hc0 : -9223372036854775808 ≤ c) (hc1 : c ≤ 9223372036854775807) (w : World) :
    Calls Try.prog 34 #[.int .i64 a, .int .i64 b, .int .i64 c] w fun e w' => e = .returned (.tuple #[.int .i64 (Nm.mdQ a b c), .int .i64 (Nm.mdE a b c)]) ∧ ∃ k, w' = w.drewN k := by
  have M1 := Lib.hid fun W => num_MulDivQ a b c ha0 ha1 hb0 hb1 hc0 hc1 W
  go_enter Try.func34, Try.ntmps34
  go_wp2_with fail
  refine (M1.out _).mono ?_
  rintro e w1 ⟨rfl, j0, hj⟩
  have HJ := Lib.hid hj
  clear hj
  go_wp2_with fail
  go_ret2
  exact ⟨rfl, j0, HJ.out⟩
set_option maxHeartbeats 1000000 in
theorem comb_binomial_int (n k : Int) (hn0 : -9223372036854775808 ≤ n) (hn1 : n ≤ 9223372036854775807) (hk0 : -9223372036854775808 ≤ k) (hk1 : k ≤ 9223372036854775807) (w : World) :
    Calls Try.prog 33 #[.int .i64 n, .int .i64 k, .int .i64 1, .func (.func 34) #[] #[]] w fun e w' => e = .returned (.tuple #[.int .i64 (Cb.cntV n k), .int .i64 (Cb.cntE n k)]) ∧ ∃ j, w' = w.drewN j := by
  cases hn : Cb.inn n 80
  · obtain ⟨e1, e2⟩ := Cb.cnt_n (k := k) hn
    rw [e1, e2]
    have ho := Cb.inn_no hn
    clear e1 e2 hn
    by_cases h0 : n < 0
    · clear ho
      go_enter Try.func33, Try.ntmps33
      go_wp2_with fail
      go_ret2
      exact ⟨rfl, 0, rfl⟩
    · have h1 : 80 < n := by omega
      clear ho
      go_enter Try.func33, Try.ntmps33
      go_wp2_with fail
      go_ret2
      exact ⟨rfl, 0, rfl⟩
  · obtain ⟨n0, n1⟩ := Cb.inn_iff.1 hn
    cases hk : Cb.inn k n
    · obtain ⟨e1, e2⟩ := Cb.cnt_k hn hk
      rw [e1, e2]
      have ho := Cb.inn_no hk
      clear e1 e2 hn hk
      by_cases h0 : k < 0
      · clear ho
        go_enter Try.func33, Try.ntmps33
        go_wp2_with fail
        go_ret2
        exact ⟨rfl, 0, rfl⟩
      · have h1 : n < k := by omega
        clear ho
        go_enter Try.func33, Try.ntmps33
        go_wp2_with fail
        go_ret2
        exact ⟨rfl, 0, rfl⟩
    · obtain ⟨k0, k1⟩ := Cb.inn_iff.1 hk
      have HN := Lib.hid hn
      have HK := Lib.hid hk
      obtain ⟨K, eK⟩ : ∃ K : Nat, k = (K : Int) := ⟨k.toNat, by omega⟩
      obtain ⟨N, eN⟩ : ∃ N : Nat, n = (N : Int) := ⟨n.toNat, by omega⟩
      subst eK eN
      have hv : Cb.val N K = Cb.bin N K := by
        unfold Cb.val
        rw [Int.toNat_natCast, Int.toNat_natCast]
      have HV := Lib.hid hv
      obtain ⟨D, eD⟩ : ∃ D : Nat, D = N - K := ⟨_, rfl⟩
      have hnk : (N : Int) - (K : Int) = (D : Int) := by omega
      obtain ⟨M, hM⟩ : ∃ M : Nat, M = K ∧ K ≤ N - K ∨ M = N - K ∧ N - K < K := by
        rcases Nat.lt_or_ge (N - K) K with h | h
        · exact ⟨_, .inr ⟨rfl, h⟩⟩
        · exact ⟨_, .inl ⟨rfl, h⟩⟩
      obtain ⟨m1, m2⟩ := Cb.bin_min (n := N) (by omega) hM
      have hmin : (if (D : Int) < (K : Int) then (D : Int) else (K : Int)) = (M : Int) := by
        rcases hM with ⟨h1, h2⟩ | ⟨h1, h2⟩
        · rw [if_neg (by omega)]; omega
        · rw [if_pos (by omega)]; omega
      have hmin2 : min (K : Int) (D : Int) = (M : Int) := by
        rw [Int.min_def]
        rcases hM with ⟨h1, h2⟩ | ⟨h1, h2⟩
        · rw [if_pos (by omega)]; omega
        · rw [if_neg (by omega)]; omega
      have HM1 := Lib.hid m1
      have M80 : M ≤ 40 := by omega
      have MN : 2 * M ≤ N := m2
      have N80 : N ≤ 80 := by omega
      clear hn hk hv hM m1 m2 eD
      have g1 : decide ((N : Int) < 0) = false := by simp
      have g2 : decide ((80 : Int) < (N : Int)) = false := by simp; omega
      have g3 : decide ((K : Int) < 0) = false := by simp
      have g4 : decide (N < K) = false := by simp; omega
      go_enter Try.func33, Try.ntmps33
      go_wp2_with fail
      go_loopw [11, 36] (fun c i W => ∃ (j r : Nat) (C : Int), j ≤ M ∧ c = .int .i64 C ∧ i = .int .i64 (j : Int) ∧ 1 ≤ C ∧ C ≤ 9223372036854775807 ∧ Hid (C = (Cb.bin N j : Nat)) ∧ W = w.drewN r) (fun _ i _ => M - (intOf i).toNat)
      case atStart => exact ⟨0, 0, 1, by omega, rfl, rfl, by omega, by omega, by show _ = _; rw [Cb.bin_zero]; rfl, rfl⟩
      case round =>
        obtain ⟨j, r, C, hj, rfl, rfl, c0, c1, HC, rfl⟩ := hrel
        clear hmin hmin2
        by_cases hlt : j < M
        · have hstep := Cb.bin_step' N j
          obtain ⟨J, eJ⟩ : ∃ J : Nat, J = N - j := ⟨_, rfl⟩
          have hnj : (N : Int) - (j : Int) = (J : Int) := by omega
          have sc := fun W => comb_scaleInt C (J : Int) ((j : Int) + 1) (by omega) (by omega) (by omega) (by omega) (by omega) (by omega) W
          have x2 : (j : Int) + 1 = ((j + 1 : Nat) : Int) := by omega
          by_cases hbig : Cb.bin N (j + 1) ≤ 9223372036854775807
          · obtain ⟨q1, q2, q3⟩ := Cb.mdN (a := Cb.bin N j) (b := J) (c := j + 1) (by omega) (by rw [eJ, hstep]; exact hbig)
            obtain ⟨D', eD'⟩ : ∃ D : Int, D = (Cb.bin N (j + 1) : Nat) := ⟨_, rfl⟩
            have d0 : 1 ≤ D' := by have := Cb.bin_pos (n := N) (k := j + 1) (by omega); omega
            have d1 : D' ≤ 9223372036854775807 := by omega
            have y1 : Nm.mdQ C (J : Int) ((j : Int) + 1) = D' := by rw [x2, HC.out, q2, eJ, hstep, eD']
            have y3 : Nm.mdE C (J : Int) ((j : Int) + 1) = 0 := by rw [x2, HC.out, q1]
            rw [y1, y3] at sc
            have SC := Lib.hid sc
            have HD : Hid (D' = (Cb.bin N (j + 1) : Nat)) := eD'
            clear q1 q2 q3 sc x2 eD' y1 y3 hbig hstep eJ
            go_wp2_with fail
            refine (SC.out _).mono ?_
            rintro e w1 ⟨rfl, j0, rfl⟩
            go_wp2_with fail
            go_roundw
            case rel => exact ⟨j + 1, _, D', by omega, rfl, by go_num, d0, d1, HD, rfl⟩
            case measure => simp [intOf]; omega
          · have hb2 : 9223372036854775807 < Cb.bin N (j + 1) := by omega
            obtain ⟨q1, q2, q3⟩ := Cb.mdN_over (a := Cb.bin N j) (b := J) (c := j + 1) (by omega) (by rw [eJ, hstep]; exact hb2)
            have y1 : Nm.mdQ C (J : Int) ((j : Int) + 1) = 0 := by rw [x2, HC.out, q2]
            have y3 : Nm.mdE C (J : Int) ((j : Int) + 1) = 9 := by rw [x2, HC.out, q1]
            rw [y1, y3] at sc
            have SC := Lib.hid sc
            obtain ⟨e1, e2⟩ := Cb.cnt_big HN.out HK.out (by
              rw [HV.out, HM1.out]
              have := Cb.bin_mid MN (j := j + 1) (by omega)
              omega)
            have E1 := Lib.hid e1
            have E2 := Lib.hid e2
            clear q1 q2 q3 sc x2 y1 y3 hbig hb2 hstep e1 e2 eJ
            go_wp2_with fail
            refine (SC.out _).mono ?_
            rintro e w1 ⟨rfl, j0, rfl⟩
            go_wp2_with fail
            go_ret2
            exact ⟨ret2_int E1.out.symm E2.out.symm, _, rfl⟩
        · obtain rfl : j = M := by omega
          obtain ⟨e1, e2⟩ := Cb.cnt_ok HN.out HK.out (by rw [HV.out, HM1.out]; have := HC.out; omega)
          rw [HV.out, HM1.out] at e1
          have E1 : Hid (C = Cb.cntV N K) := HC.out.trans e1.symm
          have E2 := Lib.hid e2
          clear e1 e2
          go_wp2_with fail
          go_ret2
          exact ⟨ret2_int E1.out E2.out.symm, r, rfl⟩
theorem comb_CountQ (n k : Int) (hn0 : -9223372036854775808 ≤ n) (hn1 : n ≤ 9223372036854775807) (hk0 : -9223372036854775808 ≤ k) (hk1 : k ≤ 9223372036854775807) (w : World) :
    Calls Try.prog 12 #[.int .i64 n, .int .i64 k] w fun e w' => e = .returned (.tuple #[.int .i64 (Cb.cntV n k), .int .i64 (Cb.cntE n k)]) ∧ ∃ j, w' = w.drewN j := by
  have B1 := Lib.hid fun W => comb_binomial_int n k hn0 hn1 hk0 hk1 W
  go_enter Try.func12, Try.ntmps12
  go_wp2_with fail
  refine (B1.out _).mono ?_
  rintro e w1 ⟨rfl, j0, hj⟩
  have HJ := Lib.hid hj
  clear hj
  go_wp2_with fail
  go_ret2
  exact ⟨rfl, j0, HJ.out⟩
theorem comb_Count (n k : Int) (hn0 : -9223372036854775808 ≤ n) (hn1 : n ≤ 9223372036854775807) (hk0 : -9223372036854775808 ≤ k) (hk1 : k ≤ 9223372036854775807) (w : World) :
    Calls Try.prog 12 #[.int .i64 n, .int .i64 k] w fun e w' => e = .returned (.tuple #[.int .i64 (Cb.cntV n k), .int .i64 (Cb.cntE n k)]) ∧ Below w.heap.size w w' :=
  (comb_CountQ n k hn0 hn1 hk0 hk1 w).mono fun _ _ ⟨he, j, hj⟩ => ⟨he, by rw [hj]; exact below_drewN _ _⟩
end Go.Proofs.Ytfjnpmkklanopaa
