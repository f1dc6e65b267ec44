/- Contracts of money.totalWeight, of the reference's checkSplit and greatest. -/
import Derived.Test.YtckimajnhdefcaaDoorMonA
namespace Go.Proofs.YtckimajnhdefcaaDoor
open Go.RowKit

theorem money_totalWeight {B n c : Nat} {A : Option Addr} {zs : List Int} (m : Int) (w : World) (h : Ints w B A n zs) (hn : n ≤ 9223372036854775807) :
    Calls Tryd.prog 32 #[.int .i64 m, .slice A n c] w fun e w' => e = .returned (.tuple #[.int .i64 (Mn.twV m zs), .int .i64 (Mn.twE m zs)]) ∧ w = w' := by
  have H := Lib.hid h
  clear h
  have hl := H.out.len
  cases hv : Mn.vld m
  · obtain ⟨e1, e2⟩ := Mn.tw_m (ws := zs) hv
    have E1 := Lib.hid e1
    have E2 := Lib.hid e2
    clear e1 e2 hl
    go_enter Tryd.func32, Tryd.ntmps32
    go_wp2_with (go_at_call 14; refine (money_Valid _ _).mono ?_; rintro e w' ⟨rfl, rfl⟩)
    go_ret2
    exact ⟨ret2_int E1.out.symm E2.out.symm, rfl⟩
  · by_cases hnn : n < 1 ∨ 64 < n
    · obtain ⟨e1, e2⟩ := Mn.tw_n hv (ws := zs) (by omega)
      have E1 := Lib.hid e1
      have E2 := Lib.hid e2
      clear e1 e2 hl
      by_cases h0 : n < 1
      · obtain rfl : n = 0 := by omega
        clear hnn
        go_enter Tryd.func32, Tryd.ntmps32
        go_wp2_with (go_at_call 14; refine (money_Valid _ _).mono ?_; rintro e w' ⟨rfl, rfl⟩)
        go_ret2
        exact ⟨ret2_int E1.out.symm E2.out.symm, rfl⟩
      · have h1 : 64 < n := by omega
        have h2 : ((n : Int) == 0) = false := by simp; omega
        clear hnn
        go_enter Tryd.func32, Tryd.ntmps32
        go_wp2_with (go_at_call 14; refine (money_Valid _ _).mono ?_; rintro e w' ⟨rfl, rfl⟩)
        go_ret2
        exact ⟨ret2_int E1.out.symm E2.out.symm, rfl⟩
    · have n0 : 1 ≤ n := by omega
      have n1 : n ≤ 64 := by omega
      have h2 : ((n : Int) == 0) = false := by simp; omega
      clear hnn
      cases hall : zs.all Mn.vld
      · obtain ⟨e1, e2⟩ := Mn.tw_w hv (by omega) (by omega) hall
        have E1 := Lib.hid e1
        have E2 := Lib.hid e2
        clear e1 e2 hl
        go_enter Tryd.func32, Tryd.ntmps32
        go_wp2_with (first | (go_at_call 14; refine (money_Valid _ _).mono ?_; rintro e w' ⟨rfl, rfl⟩) | (go_at_call 31; refine (money_allValid _ H.out hn).mono ?_; rintro e w' ⟨rfl, rfl⟩))
        go_ret2
        exact ⟨ret2_int E1.out.symm E2.out.symm, rfl⟩
      · have HA := Lib.hid hall
        have HL := Lib.hid hl
        clear hl
        go_enter Tryd.func32, Tryd.ntmps32
        go_wp2_with (first | (go_at_call 14; refine (money_Valid _ _).mono ?_; rintro e w' ⟨rfl, rfl⟩) | (go_at_call 31; refine (money_allValid _ H.out hn).mono ?_; rintro e w' ⟨rfl, rfl⟩))
        clear hall
        go_loop [25, 6] (fun i s => ∃ (k : Nat) (t : Int), k ≤ n ∧ i = .int .i64 k ∧ s = .int .i64 t ∧ 0 ≤ t ∧ t ≤ 64000000000000 ∧ Hid (t = Mn.lsum (zs.take k))) (fun i _ => n - (intOf i).toNat)
        case atStart => exact ⟨0, 0, by omega, rfl, rfl, by omega, by omega, rfl⟩
        case round =>
          obtain ⟨k, t, hk, rfl, rfl, t0, t1, HK⟩ := hrel
          by_cases hlt : k < n
          · obtain ⟨ad, x, rfl, hb, hc, HX⟩ := H.out.at_ hlt
            have hs : Hid (Mn.lsum (zs.take (k + 1)) = t + x) := by
              show _ = _
              rw [Mn.lsum_take _ _ (by rw [HL.out]; exact hlt), ← HK.out, ← HX.out]
            have hbd := Mn.sum_bd zs HA.out (k + 1) (by rw [HL.out]; exact hlt)
            rw [hs.out] at hbd
            have hx := Mn.all_getD HA.out (k := k) (by rw [HL.out]; exact hlt)
            rw [← HX.out] at hx
            obtain ⟨x0, x1⟩ := hx
            have s0 : 0 ≤ t + x := hbd.1
            have s1 : t + x ≤ 64000000000000 := by omega
            clear hbd
            go_wp2
            go_round
            case rel => exact ⟨k + 1, t + x, by omega, by go_num, rfl, by omega, by omega, hs.out.symm⟩
            case measure => simp [intOf]; omega
          · have ht : t = Mn.lsum zs := by
              rw [HK.out, List.take_of_length_le (by rw [HL.out]; omega)]
            by_cases hz : t = 0
            · obtain ⟨e1, e2⟩ := Mn.tw_z (m := m) hv (by rw [HL.out]; omega) (by rw [HL.out]; omega) HA.out (by rw [← ht]; exact hz)
              have E1 := Lib.hid e1
              have E2 := Lib.hid e2
              clear e1 e2 ht HK
              subst hz
              go_wp2
              go_ret2
              exact ⟨ret2_int E1.out.symm E2.out.symm, rfl⟩
            · obtain ⟨e1, e2⟩ := Mn.tw_ok (m := m) hv (by rw [HL.out]; omega) (by rw [HL.out]; omega) HA.out (by rw [← ht]; exact hz)
              rw [← ht] at e1
              have E1 := Lib.hid e1
              have E2 := Lib.hid e2
              have hzb : (t == 0) = false := by simpa using hz
              clear e1 e2 ht HK hz
              go_wp2
              go_ret2
              exact ⟨ret2_int E1.out.symm E2.out.symm, rfl⟩

theorem ref2_checkSplit {B n c : Nat} {A : Option Addr} {zs : List Int} (m : Int) (w : World) (h : Ints w B A n zs) (hn : n ≤ 9223372036854775807) :
    Calls Tryd.prog 37 #[.int .i64 m, .slice A n c] w fun e w' => e = .returned (.tuple #[.int .i64 (Mn.twV m zs), .int .i64 (Mn.twE m zs)]) ∧ w = w' := by
  have H := Lib.hid h
  clear h
  have hl := H.out.len
  cases hv : Mn.vld m
  · obtain ⟨e1, e2⟩ := Mn.tw_m (ws := zs) hv
    have E1 := Lib.hid e1
    have E2 := Lib.hid e2
    clear e1 e2 hl
    go_enter Tryd.func37, Tryd.ntmps37
    go_wp2_with (go_at_call 15; refine (ref2_Valid _ _).mono ?_; rintro e w' ⟨rfl, rfl⟩)
    go_ret2
    exact ⟨ret2_int E1.out.symm E2.out.symm, rfl⟩
  · by_cases hnn : n < 1 ∨ 64 < n
    · obtain ⟨e1, e2⟩ := Mn.tw_n hv (ws := zs) (by omega)
      have E1 := Lib.hid e1
      have E2 := Lib.hid e2
      clear e1 e2 hl
      by_cases h0 : n < 1
      · obtain rfl : n = 0 := by omega
        clear hnn
        go_enter Tryd.func37, Tryd.ntmps37
        go_wp2_with (go_at_call 15; refine (ref2_Valid _ _).mono ?_; rintro e w' ⟨rfl, rfl⟩)
        go_ret2
        exact ⟨ret2_int E1.out.symm E2.out.symm, rfl⟩
      · have h1 : 64 < n := by omega
        clear hnn
        go_enter Tryd.func37, Tryd.ntmps37
        go_wp2_with (go_at_call 15; refine (ref2_Valid _ _).mono ?_; rintro e w' ⟨rfl, rfl⟩)
        go_ret2
        exact ⟨ret2_int E1.out.symm E2.out.symm, rfl⟩
    · have n0 : 1 ≤ n := by omega
      have n1 : n ≤ 64 := by omega
      clear hnn
      have HV := Lib.hid hv
      have HL := Lib.hid hl
      clear hl
      go_enter Tryd.func37, Tryd.ntmps37
      go_wp2_with (go_at_call 15; refine (ref2_Valid _ _).mono ?_; rintro e w' ⟨rfl, rfl⟩)
      clear hv
      go_loop [7, 6] (fun i s => ∃ (k : Nat) (t : Int), k ≤ n ∧ i = .int .i64 k ∧ s = .int .i64 t ∧ 0 ≤ t ∧ t ≤ 1000000000000 * (k : Int) ∧ Hid ((zs.take k).all Mn.vld = true) ∧ Hid (t = Mn.lsum (zs.take k))) (fun i _ => n - (intOf i).toNat)
      case atStart => exact ⟨0, 0, by omega, rfl, rfl, by omega, by omega, rfl, rfl⟩
      case round =>
        obtain ⟨k, t, hk, rfl, rfl, t0, t1, HP, HK⟩ := hrel
        by_cases hlt : k < n
        · obtain ⟨ad, x, rfl, hb, hc, HX⟩ := H.out.at_ hlt
          cases hx : Mn.vld x
          · obtain ⟨e1, e2⟩ := Mn.tw_w (m := m) HV.out (by rw [HL.out]; omega) (by rw [HL.out]; omega) (Mn.all_not (by rw [HL.out]; exact hlt) (by rw [← HX.out]; exact hx))
            have E1 := Lib.hid e1
            have E2 := Lib.hid e2
            clear e1 e2
            go_wp2_with (go_at_call 15; refine (ref2_Valid _ _).mono ?_; rintro e w' ⟨rfl, rfl⟩)
            go_ret2
            exact ⟨ret2_int E1.out.symm E2.out.symm, rfl⟩
          · have F : Hid ((zs.take (k + 1)).all Mn.vld = true) := Mn.all_take (by rw [HL.out]; exact hlt) HP.out (by rw [← HX.out]; exact hx)
            have hs : Hid (Mn.lsum (zs.take (k + 1)) = t + x) := by
              show _ = _
              rw [Mn.lsum_take _ _ (by rw [HL.out]; exact hlt), ← HK.out, ← HX.out]
            obtain ⟨x0, x1⟩ := (Mn.vld_iff x).1 hx
            go_wp2_with (go_at_call 15; refine (ref2_Valid _ _).mono ?_; rintro e w' ⟨rfl, rfl⟩)
            go_round
            case rel => exact ⟨k + 1, t + x, by omega, by go_num, rfl, by omega, by omega, F, hs.out.symm⟩
            case measure => simp [intOf]; omega
        · have hall : zs.all Mn.vld = true := by
            have := HP.out
            rwa [List.take_of_length_le (by rw [HL.out]; omega)] at this
          have ht : t = Mn.lsum zs := by
            rw [HK.out, List.take_of_length_le (by rw [HL.out]; omega)]
          by_cases hz : t = 0
          · obtain ⟨e1, e2⟩ := Mn.tw_z (m := m) HV.out (by rw [HL.out]; omega) (by rw [HL.out]; omega) hall (by rw [← ht]; exact hz)
            have E1 := Lib.hid e1
            have E2 := Lib.hid e2
            clear e1 e2 ht HK hall
            subst hz
            go_wp2
            go_ret2
            exact ⟨ret2_int E1.out.symm E2.out.symm, rfl⟩
          · obtain ⟨e1, e2⟩ := Mn.tw_ok (m := m) HV.out (by rw [HL.out]; omega) (by rw [HL.out]; omega) hall (by rw [← ht]; exact hz)
            rw [← ht] at e1
            have E1 := Lib.hid e1
            have E2 := Lib.hid e2
            have hzb : (t == 0) = false := by simpa using hz
            clear e1 e2 ht HK hz hall
            go_wp2
            go_ret2
            exact ⟨ret2_int E1.out.symm E2.out.symm, rfl⟩

/-- The reference's greatest: the place of the first greatest element of a list that is not empty. -/
theorem ref2_greatest {B n c : Nat} {A : Option Addr} {zs : List Int} (w : World) (h : Ints w B A n zs) (hn : n ≤ 9223372036854775807) (h0 : 0 < n) :
    Calls Tryd.prog 38 #[.slice A n c] w fun e w' => e = .returned (.int .i64 (Mn.amax zs : Nat)) ∧ ∃ k, w' = w.drewN k := by
  have H := Lib.hid h
  clear h
  go_enter Tryd.func38, Tryd.ntmps38
  go_wp2_with fail
  go_loopw [4, 3] (fun i b wr => ∃ (k t d : Nat), 1 ≤ k ∧ k ≤ n ∧ t < k ∧ i = .int .i64 k ∧ b = .int .i64 t ∧ wr = w.drewN d ∧ Hid (t = Mn.amx zs (k - 1))) (fun i _ _ => n - (intOf i).toNat)
  case atStart => exact ⟨1, 0, 0, by omega, by omega, by omega, rfl, rfl, rfl, rfl⟩
  case round =>
    obtain ⟨k, t, d, k0, hk, htk, rfl, rfl, rfl, HK⟩ := hrel
    by_cases hlt : k < n
    · have hk1 : (k : Int) < (n : Int) := by omega
      have ht1 : (t : Int) < (n : Int) := by omega
      obtain ⟨ad, x, rfl, hb, hc, HX⟩ := H.out.at_ hlt
      obtain ⟨ad', y, he, hb', hc', HY⟩ := H.out.at_ (show t < n by omega)
      obtain rfl : ad = ad' := Option.some.inj he
      clear he hb'
      by_cases hxy : y < x
      · have F : Hid (k = Mn.amx zs (k + 1 - 1)) := by
          show _ = _
          rw [show k + 1 - 1 = (k - 1) + 1 by omega, Mn.amx, ← HK.out, ← HY.out, show k - 1 + 1 = k by omega, ← HX.out, if_pos hxy]
        go_wp2_with fail
        go_quiet (fail)
        go_wp2
        go_roundw
        case rel => exact ⟨k + 1, k, _, by omega, by omega, by omega, by go_num, rfl, rfl, F⟩
        case measure => simp [intOf]; omega
      · have F : Hid (t = Mn.amx zs (k + 1 - 1)) := by
          show _ = _
          rw [show k + 1 - 1 = (k - 1) + 1 by omega, Mn.amx, ← HK.out, ← HY.out, show k - 1 + 1 = k by omega, ← HX.out, if_neg hxy]
        go_wp2_with fail
        go_quiet (fail)
        go_wp2
        go_roundw
        case rel => exact ⟨k + 1, t, _, by omega, by omega, by omega, by go_num, rfl, rfl, F⟩
        case measure => simp [intOf]; omega
    · have F : Hid (t = Mn.amax zs) := by
        show _ = _
        rw [HK.out, Mn.amax, H.out.len, show k = n by omega]
      go_wp2
      go_ret
      exact ⟨ret_int (by rw [F.out]), _, rfl⟩
end Go.Proofs.YtckimajnhdefcaaDoor
