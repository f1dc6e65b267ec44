/- Layer 7: the reference's Hex, ParseHex. -/
import Derived.Test.YtimcgbichnakhaaDoorDigA
namespace Go.Proofs.YtimcgbichnakhaaDoor
set_option maxRecDepth 20000
open Go.RowKit
set_option linter.unusedVariables false
set_option linter.unusedSimpArgs false
theorem hex_at : ∀ d, d < 16 → ((⟨#[48, 49, 50, 51, 52, 53, 54, 55, 56, 57, 97, 98, 99, 100, 101, 102]⟩ : ByteArray).extract d (d + 1)).data.toList = [Dg.hexd d] := by decide
theorem ret_sg {a b : ByteArray} (h : a = b) : Ending.returned (.string a) = .returned (.string b) := by rw [h]
theorem size_list (S : ByteArray) : S.size = S.data.toList.length := by rw [Array.length_toList]; rfl
theorem ref7_Hex (x : Int) (w : World) (x0 : 0 ≤ x) (x1 : x ≤ 18446744073709551615) : Calls Tryd.prog 24 #[.int .u64 x] w fun e w' => e = .returned (.string (Dg.hexS x)) ∧ w = w' := by
  obtain ⟨N, eN⟩ : ∃ N : Nat, N = x.toNat := ⟨_, rfl⟩
  have hx : x = (N : Int) := by omega
  have E : Hid (∀ S : ByteArray, S.data.toList = Dg.hexL 16 N → S = Dg.hexS x) := fun S h => by
    unfold Dg.hexS
    rw [← eN, ← h]
  clear eN
  go_enter Tryd.func24, Tryd.ntmps24
  go_wp2_with fail
  go_loopw [0, 3, 4] (fun a s i W => ∃ (j Y : Nat) (S : ByteArray), j ≤ 16 ∧ Y ≤ 18446744073709551615 ∧ a = .int .u64 (Y : Int) ∧ s = .string S ∧ i = .int .i64 (j : Int) ∧ S.size ≤ 16 ∧ Hid (Y = N / 16 ^ j) ∧ Hid (S.data.toList = Dg.hexL j N) ∧ W = w) (fun _ _ i _ => 16 - (intOf i).toNat)
  case atStart => exact ⟨0, N, ⟨#[]⟩, by omega, by omega, by rw [hx], rfl, rfl, by decide, by show _ = _; rw [Nat.pow_zero, Nat.div_one], rfl, rfl⟩
  case round =>
    obtain ⟨j, Y, S, hj, hY, rfl, rfl, rfl, hS, HY, HS, rfl⟩ := hrel
    by_cases hlt : j < 16
    · obtain ⟨d, ed⟩ : ∃ d : Nat, d = Y % 16 := ⟨_, rfl⟩
      have hd : (Y : Int) % 16 = (d : Int) := by omega
      have hd' : (Y : Int).tmod 16 = (d : Int) := by rw [Int.tmod_eq_emod_of_nonneg (by omega)]; omega
      have d16 : d ≤ 15 := by omega
      have HX := Lib.hid (hex_at d (by omega))
      have HN : Hid (∀ T : ByteArray, T.data.toList = [Dg.hexd d] → (T ++ S).data.toList = Dg.hexL (j + 1) N) := fun T hT => by
        rw [ByteArray.data_append, Array.toList_append, hT, HS.out, Dg.hexL_high, ← HY.out, ← ed]; rfl
      obtain ⟨Z, eZ⟩ : ∃ Z : Nat, Z = Y / 16 := ⟨_, rfl⟩
      have hz : (Y : Int) / 16 = (Z : Int) := by omega
      have Z1 : Z ≤ 18446744073709551615 := by omega
      have HZ : Hid (Z = N / 16 ^ (j + 1)) := by show _ = _; rw [eZ, HY.out, Nat.div_div_eq_div_mul, Nat.pow_succ]
      clear ed eZ
      go_wp2_with fail
      go_roundw
      case rel =>
        have h := HN.out _ HX.out
        exact ⟨j + 1, Z, _, by omega, Z1, rfl, rfl, by go_num, by rw [size_list, h, Dg.hexL_len]; omega, HZ, h, trivial⟩
      case measure => simp [intOf]; omega
    · obtain rfl : j = 16 := by omega
      have F := Lib.hid (E.out S HS.out)
      go_wp2_with fail
      go_ret
      exact ⟨ret_sg F.out, rfl⟩
theorem ph_step {s : ByteArray} {k : Nat} (h : k < s.size) (hok : (s.data.toList.take k).all Dg.okh = true) (hc : Dg.okh s[k] = true) :
    (s.data.toList.take (k + 1)).all Dg.okh = true ∧ Dg.pv (s.data.toList.take (k + 1)) = 16 * Dg.pv (s.data.toList.take k) + Dg.hv s[k] := by
  have h' : k < s.data.toList.length := by rw [Array.length_toList]; exact h
  have e : s.data.toList.take (k + 1) = s.data.toList.take k ++ [s[k]] := by rw [List.take_succ_eq_append_getElem h']; rfl
  rw [e, Dg.pv_snoc, List.all_append, hok, List.all_cons, hc]
  exact ⟨rfl, rfl⟩
theorem ph_bad {s : ByteArray} {k : Nat} (h : k < s.size) (hc : ¬ ((48 ≤ s[k].toNat ∧ s[k].toNat ≤ 57) ∨ (97 ≤ s[k].toNat ∧ s[k].toNat ≤ 102))) : Dg.phV s.data.toList = 0 ∧ Dg.phE s.data.toList = 1 := by
  have h' : k < s.data.toList.length := by rw [Array.length_toList]; exact h
  refine Dg.ph_no ?_
  unfold Dg.phO
  rw [Dg.take_all h' (by rw [Bool.eq_false_iff]; intro e; exact hc (Dg.okh_iff.1 e)), Bool.and_false]
theorem ph_bd {s : ByteArray} {k : Nat} (h : k < 16) (hk : k ≤ s.size) (hok : (s.data.toList.take k).all Dg.okh = true) : Dg.pv (s.data.toList.take k) ≤ 1152921504606846975 := by
  have h1 := Dg.pv_lt k (s.data.toList.take k) (by rw [List.length_take, Array.length_toList]; exact Nat.min_eq_left hk) hok
  have h2 : 16 ^ k ≤ 16 ^ 15 := Nat.pow_le_pow_right (by omega) (by omega)
  have h3 : (16 : Nat) ^ 15 = 1152921504606846976 := by decide
  omega
set_option maxHeartbeats 1000000 in
theorem ref7_ParseHex (s : ByteArray) (w : World) (hs : s.size ≤ 281474976710656) : Calls Tryd.prog 25 #[.string s] w fun e w' => e = .returned (.tuple #[.int .u64 (Dg.phV s.data.toList), .int .i64 (Dg.phE s.data.toList)]) ∧ w = w' := by
  by_cases h16 : s.size = 16
  · have hz1 : 16 ≤ s.size := by omega
    have hz2 : s.size ≤ 16 := by omega
    have hne : ((s.size : Int) == 16) = true := by rw [beq_iff_eq]; omega
    have hne' : ((s.size : Int) != 16) = false := by rw [bne, hne]; rfl
    have H16 := Lib.hid h16
    clear h16 hs
    go_enter Tryd.func25, Tryd.ntmps25
    go_wp2_with fail
    go_loopw [4, 5] (fun x i W => ∃ (k X : Nat), k ≤ 16 ∧ x = .int .u64 (X : Int) ∧ i = .int .i64 (k : Int) ∧ Hid (X = Dg.pv (s.data.toList.take k)) ∧ Hid ((s.data.toList.take k).all Dg.okh = true) ∧ W = w) (fun _ i _ => 16 - (intOf i).toNat)
    case atStart => exact ⟨0, 0, by omega, rfl, rfl, rfl, rfl, rfl⟩
    case round =>
      obtain ⟨k, X, hk, rfl, rfl, HX, HK, rfl⟩ := hrel
      by_cases hlt : k < 16
      · have hks : k < s.size := by omega
        have hX : X ≤ 1152921504606846975 := by rw [HX.out]; exact ph_bd hlt (by omega) HK.out
        have hX' : (X : Int) ≤ 1152921504606846975 := by omega
        by_cases c1 : 48 ≤ s[k].toNat ∧ s[k].toNat ≤ 57
        · obtain ⟨h1, h2⟩ := c1
          have hok := Dg.okh_iff.2 (.inl ⟨h1, h2⟩)
          obtain ⟨n1, n2⟩ := ph_step hks HK.out hok
          obtain ⟨Z, eZ⟩ : ∃ Z : Nat, Z = 16 * X + (s[k].toNat - 48) := ⟨_, rfl⟩
          have hz : 16 * (X : Int) + ((s[k].toNat : Int) - 48) = (Z : Int) := by omega
          have HZ : Hid (Z = Dg.pv (s.data.toList.take (k + 1))) := by
            show _ = _
            rw [n2, ← HX.out, eZ, Dg.hv, if_pos h2]
          have HK2 := Lib.hid n1
          clear hok n1 n2 eZ
          go_wp2_with fail
          go_roundw
          case rel => exact ⟨k + 1, Z, by omega, rfl, by go_num, HZ, HK2, trivial⟩
          case measure => simp [intOf]; omega
        · by_cases c2 : 97 ≤ s[k].toNat ∧ s[k].toNat ≤ 102
          · obtain ⟨h1, h2⟩ := c2
            have hok := Dg.okh_iff.2 (.inr ⟨h1, h2⟩)
            obtain ⟨n1, n2⟩ := ph_step hks HK.out hok
            obtain ⟨Z, eZ⟩ : ∃ Z : Nat, Z = 16 * X + (s[k].toNat - 87) := ⟨_, rfl⟩
            have hz : 16 * (X : Int) + ((s[k].toNat : Int) - 97) + 10 = (Z : Int) := by omega
            have h3 : 57 < s[k].toNat := by omega
            have HZ : Hid (Z = Dg.pv (s.data.toList.take (k + 1))) := by
              show _ = _
              rw [n2, ← HX.out, eZ, Dg.hv, if_neg (by omega)]
            have HK2 := Lib.hid n1
            clear hok n1 n2 eZ c1
            go_wp2_with fail
            go_roundw
            case rel => exact ⟨k + 1, Z, by omega, rfl, by go_num, HZ, HK2, trivial⟩
            case measure => simp [intOf]; omega
          · obtain ⟨e1, e2⟩ := ph_bad hks (by omega)
            have E1 := Lib.hid e1
            have E2 := Lib.hid e2
            by_cases a1 : s[k].toNat < 48
            · clear c1 c2 e1 e2
              go_wp2_with fail
              go_ret2
              exact ⟨ret2_int E1.out.symm E2.out.symm, rfl⟩
            · have a1' : 48 ≤ s[k].toNat := by omega
              have a2 : 57 < s[k].toNat := by omega
              by_cases a3 : s[k].toNat < 97
              · clear c1 c2 e1 e2
                go_wp2_with fail
                go_ret2
                exact ⟨ret2_int E1.out.symm E2.out.symm, rfl⟩
              · have a3' : 97 ≤ s[k].toNat := by omega
                have a4 : 102 < s[k].toNat := by omega
                clear c1 c2 e1 e2
                go_wp2_with fail
                go_ret2
                exact ⟨ret2_int E1.out.symm E2.out.symm, rfl⟩
      · have hall : s.data.toList.take k = s.data.toList := List.take_of_length_le (by rw [Array.length_toList]; show s.size ≤ k; omega)
        rw [hall] at HX HK
        obtain ⟨e1, e2⟩ := Dg.ph_ok (L := s.data.toList) (by unfold Dg.phO; rw [HK.out, Bool.and_true, decide_eq_true_iff, Array.length_toList]; exact H16.out)
        have E1 : Hid ((X : Int) = Dg.phV s.data.toList) := by show _ = _; rw [e1, HX.out]
        have E2 := Lib.hid e2
        clear e1 e2 hall
        go_wp2_with fail
        go_ret2
        exact ⟨ret2_int E1.out E2.out.symm, rfl⟩
  · obtain ⟨e1, e2⟩ := Dg.ph_no (L := s.data.toList) (by
      unfold Dg.phO
      rw [show decide (s.data.toList.length = 16) = false by rw [decide_eq_false_iff_not, Array.length_toList]; exact h16, Bool.false_and])
    have E1 := Lib.hid e1
    have E2 := Lib.hid e2
    have hne : ((s.size : Int) == 16) = false := by rw [beq_eq_false_iff_ne]; omega
    have hne' : ((s.size : Int) != 16) = true := by rw [bne, hne]; rfl
    clear e1 e2 h16
    go_enter Tryd.func25, Tryd.ntmps25
    go_wp2_with fail
    go_ret2
    exact ⟨ret2_int E1.out.symm E2.out.symm, rfl⟩
end Go.Proofs.YtimcgbichnakhaaDoor
