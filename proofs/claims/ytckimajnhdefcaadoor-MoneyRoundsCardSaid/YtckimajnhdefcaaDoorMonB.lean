/- Contracts of money.Sum, money.Part, money.Round, money.Even and of the reference's twins. -/
import Derived.Test.YtckimajnhdefcaaDoorMonA
namespace Go.Proofs.YtckimajnhdefcaaDoor
open Go.RowKit

theorem money_Sum {B n c : Nat} {A : Option Addr} {zs : List Int} (w : World) (h : Ints w B A n zs) (hn : n ≤ 9223372036854775807) :
    Calls Tryd.prog 12 #[.slice A n c] w fun e w' => e = .returned (.tuple #[.int .i64 (Mn.sumV zs), .int .i64 (Mn.sumE zs)]) ∧ w = w' := by
  have H := Lib.hid h
  clear h
  cases hall : zs.all Mn.vld
  · obtain ⟨e1, e2⟩ := Mn.sum_bad hall
    have E1 := Lib.hid e1
    have E2 := Lib.hid e2
    clear e1 e2
    go_enter Tryd.func12, Tryd.ntmps12
    go_wp2_with (go_at_call 31; refine (money_allValid _ H.out hn).mono ?_; rintro e w' ⟨rfl, rfl⟩)
    go_ret2
    exact ⟨ret2_int E1.out.symm E2.out.symm, rfl⟩
  · have HA := Lib.hid hall
    go_enter Tryd.func12, Tryd.ntmps12
    go_wp2_with (go_at_call 31; refine (money_allValid _ H.out hn).mono ?_; rintro e w' ⟨rfl, rfl⟩)
    clear hall
    go_loop [12, 4] (fun i s => ∃ (k : Nat) (t : Int), k ≤ n ∧ i = .int .i64 k ∧ s = .int .i64 t ∧ 0 ≤ t ∧ t ≤ 1000000000000 ∧ Hid (t = Mn.lsum (zs.take k))) (fun i _ => n - (intOf i).toNat)
    case atStart => exact ⟨0, 0, by omega, rfl, rfl, by omega, by omega, rfl⟩
    case round =>
      obtain ⟨k, t, hk, rfl, rfl, t0, t1, HK⟩ := hrel
      by_cases hlt : k < n
      · obtain ⟨ad, x, rfl, hb, hc, HX⟩ := H.out.at_ hlt
        have hx := Mn.all_getD HA.out (k := k) (by rw [H.out.len]; exact hlt)
        rw [← HX.out] at hx
        obtain ⟨x0, x1⟩ := hx
        have hs : Hid (Mn.lsum (zs.take (k + 1)) = t + x) := by
          show _ = _
          rw [Mn.lsum_take _ _ (by rw [H.out.len]; exact hlt), ← HK.out, ← HX.out]
        by_cases ho : 1000000000000 - t < x
        · have hov : 1000000000000 < Mn.lsum zs := by
            have h1 := (Mn.lsum_take_le zs HA.out (k + 1)).1
            rw [hs.out] at h1; omega
          obtain ⟨e1, e2⟩ := Mn.sum_over HA.out hov
          have E1 := Lib.hid e1
          have E2 := Lib.hid e2
          clear e1 e2 hov
          go_wp2
          go_ret2
          exact ⟨ret2_int E1.out.symm E2.out.symm, rfl⟩
        · go_wp2
          go_round
          case rel => exact ⟨k + 1, t + x, by omega, by go_num, rfl, by omega, by omega, hs.out.symm⟩
          case measure => simp [intOf]; omega
      · have ht : t = Mn.lsum zs := by
          rw [HK.out, List.take_of_length_le (by rw [H.out.len]; omega)]
        obtain ⟨e1, e2⟩ := Mn.sum_ok HA.out (by omega)
        rw [← ht] at e1
        have E1 := Lib.hid e1
        have E2 := Lib.hid e2
        clear e1 e2 ht
        go_wp2
        go_ret2
        exact ⟨ret2_int E1.out.symm E2.out.symm, rfl⟩

theorem ref2_Sum {B n c : Nat} {A : Option Addr} {zs : List Int} (w : World) (h : Ints w B A n zs) (hn : n ≤ 9223372036854775807) :
    Calls Tryd.prog 13 #[.slice A n c] w fun e w' => e = .returned (.tuple #[.int .i64 (Mn.sumV zs), .int .i64 (Mn.sumE zs)]) ∧ w = w' := by
  have H := Lib.hid h
  clear h
  go_enter Tryd.func13, Tryd.ntmps13
  go_wp2_with fail
  go_loop [4] (fun i => ∃ k : Nat, k ≤ n ∧ i = .int .i64 k ∧ Hid ((zs.take k).all Mn.vld = true)) (fun i => n - (intOf i).toNat)
  case atStart => exact ⟨0, by omega, rfl, rfl⟩
  case round =>
    obtain ⟨k, hk, rfl, HK⟩ := hrel
    by_cases hlt : k < n
    · obtain ⟨ad, x, rfl, hb, hc, HX⟩ := H.out.at_ hlt
      cases hv : Mn.vld x
      · obtain ⟨e1, e2⟩ := Mn.sum_bad (Mn.all_not (by rw [H.out.len]; exact hlt) (by rw [← HX.out]; exact hv))
        have E1 := Lib.hid e1
        have E2 := Lib.hid e2
        clear e1 e2
        go_wp2_with (go_at_call 15; refine (ref2_Valid _ _).mono ?_; rintro e w' ⟨rfl, rfl⟩)
        go_ret2
        exact ⟨ret2_int E1.out.symm E2.out.symm, rfl⟩
      · have F : Hid ((zs.take (k + 1)).all Mn.vld = true) := Mn.all_take (by rw [H.out.len]; exact hlt) HK.out (by rw [← HX.out]; exact hv)
        go_wp2_with (go_at_call 15; refine (ref2_Valid _ _).mono ?_; rintro e w' ⟨rfl, rfl⟩)
        go_round
        case rel => exact ⟨k + 1, by omega, by go_num, F⟩
        case measure => simp [intOf]; omega
    · have HA : Hid (zs.all Mn.vld = true) := by
        show _ = _
        have := HK.out
        rw [List.take_of_length_le (by rw [H.out.len]; omega)] at this
        exact this
      go_wp2
      obtain ⟨kk, hkk⟩ : ∃ kk : Nat, kk = k := ⟨_, rfl⟩
      go_loop [6, 5] (fun i s => ∃ (k : Nat) (t : Int), k ≤ n ∧ i = .int .i64 k ∧ s = .int .i64 t ∧ 0 ≤ t ∧ t ≤ 1000000000000 ∧ Hid (t = Mn.lsum (zs.take k))) (fun i _ => n - (intOf i).toNat)
      case atStart => exact ⟨0, 0, by omega, rfl, rfl, by omega, by omega, rfl⟩
      case round =>
        clear hlt hk HK hkk
        obtain ⟨k, t, hk, rfl, rfl, t0, t1, HK⟩ := hrel
        by_cases hlt : k < n
        · obtain ⟨ad, x, rfl, hb, hc, HX⟩ := H.out.at_ hlt
          have hx := Mn.all_getD HA.out (k := k) (by rw [H.out.len]; exact hlt)
          rw [← HX.out] at hx
          obtain ⟨x0, x1⟩ := hx
          have hs : Hid (Mn.lsum (zs.take (k + 1)) = t + x) := by
            show _ = _
            rw [Mn.lsum_take _ _ (by rw [H.out.len]; exact hlt), ← HK.out, ← HX.out]
          by_cases ho : 1000000000000 < t + x
          · have hov : 1000000000000 < Mn.lsum zs := by
              have h1 := (Mn.lsum_take_le zs HA.out (k + 1)).1
              rw [hs.out] at h1; omega
            obtain ⟨e1, e2⟩ := Mn.sum_over HA.out hov
            have E1 := Lib.hid e1
            have E2 := Lib.hid e2
            clear e1 e2 hov
            go_wp2
            go_ret2
            exact ⟨ret2_int E1.out.symm E2.out.symm, rfl⟩
          · go_wp2
            go_round
            case rel => exact ⟨k + 1, t + x, by omega, by go_num, rfl, by omega, by omega, hs.out.symm⟩
            case measure => simp [intOf]; omega
        · have ht : t = Mn.lsum zs := by
            rw [HK.out, List.take_of_length_le (by rw [H.out.len]; omega)]
          obtain ⟨e1, e2⟩ := Mn.sum_ok HA.out (by omega)
          rw [← ht] at e1
          have E1 := Lib.hid e1
          have E2 := Lib.hid e2
          clear e1 e2 ht
          go_wp2
          go_ret2
          exact ⟨ret2_int E1.out.symm E2.out.symm, rfl⟩

theorem money_Part (m bp : Int) (w : World) :
    Calls Tryd.prog 16 #[.int .i64 m, .int .i64 bp] w fun e w' => e = .returned (.tuple #[.int .i64 (Mn.ptV m bp), .int .i64 (Mn.ptE m bp)]) ∧ w = w' := by
  cases hv : Mn.vld m
  · obtain ⟨e1, e2⟩ := Mn.pt_no (m := m) (bp := bp) (fun h => by rw [(Mn.vld_iff m).2 h.1] at hv; cases hv)
    have E1 := Lib.hid e1
    have E2 := Lib.hid e2
    clear e1 e2
    go_enter Tryd.func16, Tryd.ntmps16
    go_wp2_with (go_at_call 14; refine (money_Valid _ _).mono ?_; rintro e w' ⟨rfl, rfl⟩)
    go_ret2
    exact ⟨ret2_int E1.out.symm E2.out.symm, rfl⟩
  · obtain ⟨m0, m1⟩ := (Mn.vld_iff m).1 hv
    by_cases hb : 0 ≤ bp ∧ bp ≤ 10000
    · obtain ⟨e1, e2⟩ := Mn.pt_yes ⟨⟨m0, m1⟩, hb⟩
      have E1 := Lib.hid e1
      have E2 := Lib.hid e2
      clear e1 e2
      obtain ⟨b0, b1⟩ := hb
      obtain ⟨p0, p1⟩ := Mn.mul_bd m0 m1 b0 b1
      go_enter Tryd.func16, Tryd.ntmps16
      go_wp2_with (go_at_call 14; refine (money_Valid _ _).mono ?_; rintro e w' ⟨rfl, rfl⟩)
      go_ret2
      exact ⟨ret2_int E1.out.symm E2.out.symm, rfl⟩
    · obtain ⟨e1, e2⟩ := Mn.pt_no (m := m) (bp := bp) (fun h => hb h.2)
      have E1 := Lib.hid e1
      have E2 := Lib.hid e2
      clear e1 e2
      by_cases b0 : bp < 0
      · clear hb
        go_enter Tryd.func16, Tryd.ntmps16
        go_wp2_with (go_at_call 14; refine (money_Valid _ _).mono ?_; rintro e w' ⟨rfl, rfl⟩)
        go_ret2
        exact ⟨ret2_int E1.out.symm E2.out.symm, rfl⟩
      · have b1 : 10000 < bp := by omega
        clear hb
        go_enter Tryd.func16, Tryd.ntmps16
        go_wp2_with (go_at_call 14; refine (money_Valid _ _).mono ?_; rintro e w' ⟨rfl, rfl⟩)
        go_ret2
        exact ⟨ret2_int E1.out.symm E2.out.symm, rfl⟩
end Go.Proofs.YtckimajnhdefcaaDoor
