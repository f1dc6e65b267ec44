/- Contracts of money.isDigit, money.digit, money.Parse, money.Format. -/
import Derived.Test.YtckimajnhdefcaaDoorMonA
import Derived.Test.YtckimajnhdefcaaDoorMonText
import Derived.Test.YtckimajnhdefcaaDoorNumS
import Derived.Laws.IdiomStrings
import Derived.Laws.Concat
import Derived.Lib.ItoaLen
namespace Go.Proofs.YtckimajnhdefcaaDoor
open Go.RowKit

namespace Mn
def digB (b : Int) : Bool := decide (48 ≤ b ∧ b ≤ 57)
theorem digB_byte (c : UInt8) : digB (c.toNat : Int) = Nm.isDig c := by
  rw [Bool.eq_iff_iff, Nm.isDig_iff]; simp [digB]; omega
end Mn
theorem money_isDigit (b : Int) (w : World) : Calls Tryd.prog 43 #[.int .u8 b] w fun e w' => e = .returned (.bool (Mn.digB b)) ∧ w = w' := by
  by_cases h0 : 48 ≤ b
  · by_cases h1 : b ≤ 57
    · have F : Hid (Mn.digB b = true) := by show _ = _; simp [Mn.digB, h0, h1]
      go_enter Tryd.func43, Tryd.ntmps43
      go_wp2
      go_ret
      exact ⟨ret_bool F.out.symm, rfl⟩
    · have F : Hid (Mn.digB b = false) := by show _ = _; simp [Mn.digB, h0, h1]
      go_enter Tryd.func43, Tryd.ntmps43
      go_wp2
      go_ret
      exact ⟨ret_bool F.out.symm, rfl⟩
  · have F : Hid (Mn.digB b = false) := by show _ = _; simp [Mn.digB, h0]
    go_enter Tryd.func43, Tryd.ntmps43
    go_wp2
    go_ret
    exact ⟨ret_bool F.out.symm, rfl⟩
theorem ref2_digit (b : Int) (w : World) : Calls Tryd.prog 54 #[.int .u8 b] w fun e w' => e = .returned (.bool (Mn.digB b)) ∧ w = w' := by
  by_cases h0 : 48 ≤ b
  · by_cases h1 : b ≤ 57
    · have F : Hid (Mn.digB b = true) := by show _ = _; simp [Mn.digB, h0, h1]
      go_enter Tryd.func54, Tryd.ntmps54
      go_wp2
      go_ret
      exact ⟨ret_bool F.out.symm, rfl⟩
    · have F : Hid (Mn.digB b = false) := by show _ = _; simp [Mn.digB, h0, h1]
      go_enter Tryd.func54, Tryd.ntmps54
      go_wp2
      go_ret
      exact ⟨ret_bool F.out.symm, rfl⟩
  · have F : Hid (Mn.digB b = false) := by show _ = _; simp [Mn.digB, h0]
    go_enter Tryd.func54, Tryd.ntmps54
    go_wp2
    go_ret
    exact ⟨ret_bool F.out.symm, rfl⟩
theorem money_digit (b : Int) (h0 : 48 ≤ b) (h1 : b ≤ 57) (w : World) : Calls Tryd.prog 45 #[.int .u8 b] w fun e w' => e = .returned (.int .i64 (b - 48)) ∧ w = w' := by
  have e1 : IntKind.u8.wrap (b - 48) = b - 48 := by rw [IntKind.wrap_u8]; omega
  have b0 : 0 ≤ b - 48 := by omega
  have b1 : b - 48 ≤ 255 := by omega
  go_enter Tryd.func45, Tryd.ntmps45
  go_wp2
  go_ret
  exact ⟨rfl, rfl⟩

theorem below_drewN' (B : Nat) (w : World) (k : Nat) : Below B w (w.drewN k) := ⟨rfl, rfl, rfl, Nat.le_refl _, fun _ _ => rfl⟩
theorem money_digit_q {w : World} {n : Nat} (b : Int) (h0 : 48 ≤ b) (h1 : b ≤ 57) : Calls Tryd.prog 45 #[.int .u8 b] (w.drewN n) fun e w'' => e = .returned (.int .i64 (b - 48)) ∧ ∃ m, w'' = w.drewN m :=
  (money_digit b h0 h1 _).mono fun _ _ ⟨he, hw⟩ => ⟨he, n, hw.symm⟩

set_option maxHeartbeats 1000000 in
theorem money_Parse (s : ByteArray) (hs : s.size ≤ 281474976710656) (w : World) (hv : ErrVar 3 w) :
    Calls Tryd.prog 27 #[.string s] w fun e w' => e = .returned (.tuple #[.int .i64 (Mn.mparV s.data.toList), .int .i64 (Mn.mparE s.data.toList)]) ∧ Below w.heap.size w w' := by
  have HV := Lib.hid hv
  clear hv
  have fin : Mn.mform s.data.toList = false → Ending.returned (.tuple #[.int .i64 0, .int .i64 1]) = .returned (.tuple #[.int .i64 (Mn.mparV s.data.toList), .int .i64 (Mn.mparE s.data.toList)]) := fun h => by
    rw [(Mn.mpar_bad h).1, (Mn.mpar_bad h).2]
  have FIN := Lib.hid fin
  clear fin
  by_cases h3 : 3 ≤ s.size
  · have hd : decide ((s.size : Int) - 3 < 0) = false := by simp; omega
    have hb0 : (0 : Int) ≤ (s.size : Int) - 3 := by omega
    by_cases hp : ((s[s.size - 3].toNat : Int) == 46) = true
    · have hp2 : ((s[s.size - 3].toNat : Int) != 46) = false := by simpa using hp
      have HP := Lib.hid (beq_iff_eq.1 hp)
      by_cases hm : ((s[0].toNat : Int) == 45) = true
      · have F := Lib.hid (FIN.out (Mn.form_no_minus h3 (beq_iff_eq.1 hm)))
        go_enter Tryd.func27, Tryd.ntmps27
        go_wp2_with fail
        go_ret2
        exact ⟨F.out, Below.refl _ _⟩
      · have hm2 : ((s[0].toNat : Int) == 45) = false := by simpa using hm
        have HM : Hid ((s[0].toNat : Int) ≠ 45) := by show _ ≠ _; simpa using hm2
        clear hm
        cases hd1 : Mn.digB (s[s.size - 3 + 1].toNat : Int)
        · have F := Lib.hid (FIN.out (Mn.form_no_d1 h3 (by rw [← Mn.digB_byte]; exact hd1)))
          go_enter Tryd.func27, Tryd.ntmps27
          go_wp2_with (go_at_call 43; refine (money_isDigit _ _).mono ?_; rintro e w' ⟨rfl, rfl⟩)
          go_ret2
          exact ⟨F.out, Below.refl _ _⟩
        · cases hd2 : Mn.digB (s[s.size - 3 + 2].toNat : Int)
          · have F := Lib.hid (FIN.out (Mn.form_no_d2 h3 (by rw [← Mn.digB_byte]; exact hd2)))
            go_enter Tryd.func27, Tryd.ntmps27
            go_wp2_with (go_at_call 43; refine (money_isDigit _ _).mono ?_; rintro e w' ⟨rfl, rfl⟩)
            go_ret2
            exact ⟨F.out, Below.refl _ _⟩
          · have i1 : Nm.isDig s[s.size - 3 + 1] = true := by rw [← Mn.digB_byte]; exact hd1
            have i2 : Nm.isDig s[s.size - 3 + 2] = true := by rw [← Mn.digB_byte]; exact hd2
            have r1 := (Nm.isDig_iff _).1 i1
            have r2 := (Nm.isDig_iff _).1 i2
            have hsz := Mn.ext_size (s := s) (s.size - 3)
            have cP := fun w he => num_Parse (s.extract 0 (s.size - 3)) (by omega) w he
            have hneg : Nm.neg (s.extract 0 (s.size - 3)).data.toList = false := by rw [Mn.ext_take]; exact Mn.neg_take _ (by omega) (fun _ => HM.out)
            obtain ⟨hdec, hnum⟩ := Mn.dec_plain hneg
            rw [Mn.ext_take] at hdec hnum
            cases hU : Nm.decU (s.data.toList.take (s.size - 3))
            · have F := Lib.hid (FIN.out (Mn.form_no_whole h3 hU))
              have e1 : Nm.parV (s.extract 0 (s.size - 3)).data.toList = 0 := by rw [Nm.parV, Mn.ext_take, hdec, hU]; rfl
              have e2 : Nm.parE (s.extract 0 (s.size - 3)).data.toList = 1 := by rw [Nm.parE, Mn.ext_take, hdec, hU]; rfl
              rw [e1, e2] at cP
              have CP := Lib.hid cP
              clear e1 e2 cP hneg hdec hnum hU i1 i2 hsz
              go_enter Tryd.func27, Tryd.ntmps27
              go_wp2_with (first | (go_at_call 43; refine (money_isDigit _ _).mono ?_; rintro e w' ⟨rfl, rfl⟩) | (go_at_call 44; refine (CP.out _ HV.out).mono ?_; rintro e w1 ⟨rfl, hb1⟩))
              go_ret2
              exact ⟨F.out, hb1⟩
            · have hform := Mn.form_yes h3 HP.out i1 i2 hU
              have hamt := Mn.amt_at2 (s := s) h3
              obtain ⟨V, eV⟩ : ∃ V, V = Nm.val 0 (s.data.toList.take (s.size - 3)) := ⟨_, rfl⟩
              rw [← eV] at hamt hnum
              unfold Mn.dg at hamt
              have HF := Lib.hid hform
              have HA := Lib.hid hamt
              by_cases hbig : 9223372036854775807 < V
              · have hov : 1000000000000 < Mn.amt s.data.toList := by rw [hamt]; omega
                have F : Hid (Ending.returned (.tuple #[.int .i64 0, .int .i64 9]) = .returned (.tuple #[.int .i64 (Mn.mparV s.data.toList), .int .i64 (Mn.mparE s.data.toList)])) := by
                  show _ = _
                  rw [(Mn.mpar_over hform hov).1, (Mn.mpar_over hform hov).2]
                have hfit : Nm.fits (V : Int) = false := by rw [Bool.eq_false_iff]; intro e; have := (Nm.fits_iff _).1 e; omega
                have e1 : Nm.parV (s.extract 0 (s.size - 3)).data.toList = 0 := by rw [Nm.parV, Mn.ext_take, hdec, hU, if_pos rfl, hnum]; exact (Nm.cv_not hfit).symm
                have e2 : Nm.parE (s.extract 0 (s.size - 3)).data.toList = 9 := by rw [Nm.parE, Mn.ext_take, hdec, hU, if_pos rfl, hnum]; exact (Nm.ce_not hfit).symm
                rw [e1, e2] at cP
                have CP := Lib.hid cP
                clear e1 e2 cP hneg hdec hnum hU i1 i2 hsz hform hamt eV hfit hov
                go_enter Tryd.func27, Tryd.ntmps27
                go_wp2_with (first | (go_at_call 43; refine (money_isDigit _ _).mono ?_; rintro e w' ⟨rfl, rfl⟩) | (go_at_call 44; refine (CP.out _ HV.out).mono ?_; rintro e w1 ⟨rfl, hb1⟩))
                go_ret2
                exact ⟨F.out, hb1⟩
              · have hfit : Nm.fits (V : Int) = true := (Nm.fits_iff _).2 (by omega)
                have e1 : Nm.parV (s.extract 0 (s.size - 3)).data.toList = (V : Int) := by rw [Nm.parV, Mn.ext_take, hdec, hU, if_pos rfl, hnum]; exact Nm.cv_in ((Nm.fits_iff _).1 hfit)
                have e2 : Nm.parE (s.extract 0 (s.size - 3)).data.toList = 0 := by rw [Nm.parE, Mn.ext_take, hdec, hU, if_pos rfl, hnum]; exact (Nm.ce_fits hfit).symm
                rw [e1, e2] at cP
                have CP := Lib.hid cP
                have v1 : (V : Int) ≤ 9223372036854775807 := by omega
                clear e1 e2 cP hneg hdec hnum hU i1 i2 hsz hform hamt eV hfit hbig
                by_cases hbig : 10000000000 < V
                · have F : Hid (Ending.returned (.tuple #[.int .i64 0, .int .i64 9]) = .returned (.tuple #[.int .i64 (Mn.mparV s.data.toList), .int .i64 (Mn.mparE s.data.toList)])) := by
                    show _ = _
                    have hov : 1000000000000 < Mn.amt s.data.toList := by rw [HA.out]; omega
                    rw [(Mn.mpar_over HF.out hov).1, (Mn.mpar_over HF.out hov).2]
                  go_enter Tryd.func27, Tryd.ntmps27
                  go_wp2_with (first | (go_at_call 43; refine (money_isDigit _ _).mono ?_; rintro e w' ⟨rfl, rfl⟩) | (go_at_call 44; refine (CP.out _ HV.out).mono ?_; rintro e w1 ⟨rfl, hb1⟩))
                  go_ret2
                  exact ⟨F.out, hb1⟩
                · have hv10 : (V : Int) ≤ 10000000000 := by omega
                  obtain ⟨d1, ed1⟩ : ∃ d : Nat, d = s[s.size - 3 + 1].toNat := ⟨_, rfl⟩
                  obtain ⟨d2, ed2⟩ : ∃ d : Nat, d = s[s.size - 3 + 2].toNat := ⟨_, rfl⟩
                  have hA : (Mn.amt s.data.toList : Int) = (V : Int) * 100 + ((s[s.size - 3 + 1].toNat : Int) - 48) * 10 + ((s[s.size - 3 + 2].toNat : Int) - 48) := by rw [HA.out]; omega
                  by_cases hover : 1000000000000 < (V : Int) * 100 + ((s[s.size - 3 + 1].toNat : Int) - 48) * 10 + ((s[s.size - 3 + 2].toNat : Int) - 48)
                  · have F : Hid (Ending.returned (.tuple #[.int .i64 0, .int .i64 9]) = .returned (.tuple #[.int .i64 (Mn.mparV s.data.toList), .int .i64 (Mn.mparE s.data.toList)])) := by
                      show _ = _
                      have hov : 1000000000000 < Mn.amt s.data.toList := by omega
                      rw [(Mn.mpar_over HF.out hov).1, (Mn.mpar_over HF.out hov).2]
                    clear hA ed1 ed2
                    have j1 : 0 ≤ (s.size : Int) - 3 + 1 ∧ (s.size : Int) - 3 + 1 < (s.size : Int) := by omega
                    have j2 : 0 ≤ (s.size : Int) - 3 + 2 ∧ (s.size : Int) - 3 + 2 < (s.size : Int) := by omega
                    go_enter Tryd.func27, Tryd.ntmps27
                    go_wp2_with (first | (go_at_call 43; refine (money_isDigit _ _).mono ?_; rintro e w' ⟨rfl, rfl⟩) | (go_at_call 44; refine (CP.out _ HV.out).mono ?_; rintro e w1 ⟨rfl, hb1⟩))
                    go_quiet ((go_at_call 45; exact money_digit_q _ (by omega) (by omega)))
                    go_wp2
                    go_ret2
                    exact ⟨F.out, hb1.trans (below_drewN' _ _ _)⟩
                  · have F : Hid (Ending.returned (.tuple #[.int .i64 ((V : Int) * 100 + ((s[s.size - 3 + 1].toNat : Int) - 48) * 10 + ((s[s.size - 3 + 2].toNat : Int) - 48)), .int .i64 0]) = .returned (.tuple #[.int .i64 (Mn.mparV s.data.toList), .int .i64 (Mn.mparE s.data.toList)])) := by
                      show _ = _
                      have hok : Mn.amt s.data.toList ≤ 1000000000000 := by omega
                      rw [(Mn.mpar_ok HF.out hok).1, (Mn.mpar_ok HF.out hok).2, hA]
                    clear hA ed1 ed2
                    have j1 : 0 ≤ (s.size : Int) - 3 + 1 ∧ (s.size : Int) - 3 + 1 < (s.size : Int) := by omega
                    have j2 : 0 ≤ (s.size : Int) - 3 + 2 ∧ (s.size : Int) - 3 + 2 < (s.size : Int) := by omega
                    go_enter Tryd.func27, Tryd.ntmps27
                    go_wp2_with (first | (go_at_call 43; refine (money_isDigit _ _).mono ?_; rintro e w' ⟨rfl, rfl⟩) | (go_at_call 44; refine (CP.out _ HV.out).mono ?_; rintro e w1 ⟨rfl, hb1⟩))
                    go_quiet ((go_at_call 45; exact money_digit_q _ (by omega) (by omega)))
                    go_wp2
                    go_ret2
                    exact ⟨F.out, hb1.trans (below_drewN' _ _ _)⟩
    · have hp2 : ((s[s.size - 3].toNat : Int) != 46) = true := by simpa using hp
      have F := Lib.hid (FIN.out (Mn.form_no_point h3 (by simpa using hp)))
      clear hp
      go_enter Tryd.func27, Tryd.ntmps27
      go_wp2_with fail
      go_ret2
      exact ⟨F.out, Below.refl _ _⟩
  · have F := Lib.hid (FIN.out (Mn.form_short (by rw [← Lib.size_eq]; omega)))
    have hd : decide ((s.size : Int) - 3 < 0) = true := by simp; omega
    go_enter Tryd.func27, Tryd.ntmps27
    go_wp2_with fail
    go_ret2
    exact ⟨F.out, Below.refl _ _⟩
end Go.Proofs.YtckimajnhdefcaaDoor
