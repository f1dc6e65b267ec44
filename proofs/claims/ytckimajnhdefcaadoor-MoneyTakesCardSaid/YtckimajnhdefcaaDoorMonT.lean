/- Contracts of money.Format and of the reference's form, Parse and Format. -/
import Derived.Test.YtckimajnhdefcaaDoorMonS
import Derived.Test.YtckimajnhdefcaaDoorNumF
import Derived.Test.YtckimajnhdefcaaDoorNumAw
namespace Go.Proofs.YtckimajnhdefcaaDoor
open Go.RowKit

theorem money_Format (m : Int) (w : World) (hE : Env w) :
    Calls Tryd.prog 29 #[.int .i64 m] w fun e w' => e = .returned (.string (Mn.mfmtS m)) ∧ Below w.heap.size w w' := by
  have HE := Lib.hid hE
  clear hE
  cases hv : Mn.vld m
  · have F : Hid (ByteArray.empty = Mn.mfmtS m) := by show _ = _; rw [Mn.mfmtS, hv]; rfl
    go_enter Tryd.func29, Tryd.ntmps29
    go_wp2_with (go_at_call 14; refine (money_Valid _ _).mono ?_; rintro e w' ⟨rfl, rfl⟩)
    go_ret
    exact ⟨ret_str F.out, Below.refl _ _⟩
  · obtain ⟨m0, m1⟩ := (Mn.vld_iff m).1 hv
    obtain ⟨A, eA⟩ : ∃ A : ByteArray, A = ⟨(Lib.itoa (m / 100)).toArray⟩ := ⟨_, rfl⟩
    obtain ⟨B, eB⟩ : ∃ B : ByteArray, B = ⟨(Lib.itoa (m / 10 % 10)).toArray⟩ := ⟨_, rfl⟩
    obtain ⟨C, eC⟩ : ∃ C : ByteArray, C = ⟨(Lib.itoa (m % 10)).toArray⟩ := ⟨_, rfl⟩
    have cA := fun w ht => num_Format (m / 100) (by omega) (by omega) w ht
    have cB := fun w ht => num_Format (m / 10 % 10) (by omega) (by omega) w ht
    have cC := fun w ht => num_Format (m % 10) (by omega) (by omega) w ht
    rw [← eA] at cA
    rw [← eB] at cB
    rw [← eC] at cC
    have F : Hid (A ++ ⟨#[46]⟩ ++ B ++ C = Mn.mfmtS m) := by
      show _ = _
      rw [Mn.mfmtS, hv, if_pos rfl, Mn.mfmt, eA, eB, eC, Mn.itoa_pos (by omega), Mn.itoa_dig (by omega) (by omega), Mn.itoa_dig (by omega) (by omega)]
      refine ByteArray.ext ?_
      simp
    have zA : A.size ≤ 21 := by rw [eA, Lib.size_eq]; exact Lib.itoa_length_le _ (by omega) (by omega)
    have zB : B.size ≤ 21 := by rw [eB, Lib.size_eq]; exact Lib.itoa_length_le _ (by omega) (by omega)
    have zC : C.size ≤ 21 := by rw [eC, Lib.size_eq]; exact Lib.itoa_length_le _ (by omega) (by omega)
    have CA := Lib.hid cA
    have CB := Lib.hid cB
    have CC := Lib.hid cC
    clear eA eB eC cA cB cC
    go_enter Tryd.func29, Tryd.ntmps29
    go_wp2_with (go_at_call 14; refine (money_Valid _ _).mono ?_; rintro e w' ⟨rfl, rfl⟩)
    refine (CA.out _ HE.out.here.1).mono ?_
    rintro e w1 ⟨rfl, h1⟩
    go_wp2_with fail
    refine (CB.out _ (HE.out.on h1).here.1).mono ?_
    rintro e w2 ⟨rfl, h2⟩
    have h2 := below_then h1 h2
    go_wp2_with fail
    refine (CC.out _ (HE.out.on h2).here.1).mono ?_
    rintro e w3 ⟨rfl, h3⟩
    have h3 := below_then h2 h3
    go_wp2_with fail
    go_ret
    exact ⟨ret_str F.out, h3⟩

theorem ref2_form (s : ByteArray) (hs : s.size ≤ 281474976710656) (w : World) :
    Calls Tryd.prog 46 #[.string s] w fun e w' => e = .returned (.bool (Mn.mform s.data.toList)) ∧ w = w' := by
  by_cases h4 : 4 ≤ s.size
  · have hd : decide ((s.size : Int) - 3 < 1) = false := by simp; omega
    by_cases hp : ((s[s.size - 3].toNat : Int) == 46) = true
    · have hp2 : ((s[s.size - 3].toNat : Int) != 46) = false := by simpa using hp
      have HP := Lib.hid (beq_iff_eq.1 hp)
      cases hd1 : Mn.digB (s[s.size - 3 + 1].toNat : Int)
      · have F : Hid (false = Mn.mform s.data.toList) := (Mn.form_no_d1 (by omega) (by rw [← Mn.digB_byte]; exact hd1)).symm
        go_enter Tryd.func46, Tryd.ntmps46
        go_wp2_with (go_at_call 54; refine (ref2_digit _ _).mono ?_; rintro e w' ⟨rfl, rfl⟩)
        go_ret
        exact ⟨ret_bool F.out, rfl⟩
      · cases hd2 : Mn.digB (s[s.size - 3 + 2].toNat : Int)
        · have F : Hid (false = Mn.mform s.data.toList) := (Mn.form_no_d2 (by omega) (by rw [← Mn.digB_byte]; exact hd2)).symm
          go_enter Tryd.func46, Tryd.ntmps46
          go_wp2_with (go_at_call 54; refine (ref2_digit _ _).mono ?_; rintro e w' ⟨rfl, rfl⟩)
          go_ret
          exact ⟨ret_bool F.out, rfl⟩
        · have i1 : Nm.isDig s[s.size - 3 + 1] = true := by rw [← Mn.digB_byte]; exact hd1
          have i2 : Nm.isDig s[s.size - 3 + 2] = true := by rw [← Mn.digB_byte]; exact hd2
          by_cases hz : 1 < s.size - 3 ∧ ((s[0].toNat : Int) == 48) = true
          · obtain ⟨z1, z2⟩ := hz
            have F : Hid (false = Mn.mform s.data.toList) := (Mn.form_zero (by omega) z1 (beq_iff_eq.1 z2)).symm
            have z3 : decide ((s.size : Int) - 3 > 1) = true := by simp; omega
            have z4 : (1 : Int) < (s.size : Int) - 3 := by omega
            clear i1 i2
            go_enter Tryd.func46, Tryd.ntmps46
            go_wp2_with (go_at_call 54; refine (ref2_digit _ _).mono ?_; rintro e w' ⟨rfl, rfl⟩)
            go_ret
            exact ⟨ret_bool F.out, rfl⟩
          · have F : Hid ((s.data.toList.take (s.size - 3)).all Nm.isDig = Mn.mform s.data.toList) := by
              show _ = _
              rw [Mn.form_all h4 HP.out i1 i2]
              by_cases h1 : s.size - 3 = 1
              · exact .inl h1
              · exact .inr fun e => hz ⟨by omega, by simp [e]⟩
            clear i1 i2
            by_cases hn1 : (1 : Int) < (s.size : Int) - 3
            · have z5 : ((s[0].toNat : Int) == 48) = false := by
                rw [Bool.eq_false_iff]; intro e; exact hz ⟨by omega, e⟩
              clear hz
              go_enter Tryd.func46, Tryd.ntmps46
              go_wp2_with (go_at_call 54; refine (ref2_digit _ _).mono ?_; rintro e w' ⟨rfl, rfl⟩)
              go_loop [4] (fun i => ∃ k : Nat, i = .int .i64 k ∧ (k : Int) ≤ (s.size : Int) - 3 ∧ Hid ((s.data.toList.take k).all Nm.isDig = true)) (fun i => s.size - (intOf i).toNat)
              case atStart => exact ⟨0, rfl, by omega, rfl⟩
              case round =>
                obtain ⟨k, rfl, hk, HK⟩ := hrel
                by_cases hlt : (k : Int) < (s.size : Int) - 3
                · have hks : k < s.size := by omega
                  cases hdk : Mn.digB (s[k].toNat : Int)
                  · have F2 : Hid (false = Mn.mform s.data.toList) := by
                      show _ = _
                      rw [← F.out, eq_comm, Bool.eq_false_iff]
                      intro e
                      rw [List.all_eq_true] at e
                      have h2 := e s[k] (by
                        have h1 := List.getElem_mem (l := s.data.toList.take (s.size - 3)) (n := k) (by rw [List.length_take, ← Lib.size_eq]; omega)
                        rw [List.getElem_take] at h1
                        exact h1)
                      rw [← Mn.digB_byte, hdk] at h2
                      cases h2
                    go_wp2_with (go_at_call 54; refine (ref2_digit _ _).mono ?_; rintro e w' ⟨rfl, rfl⟩)
                    go_ret
                    exact ⟨ret_bool F2.out, rfl⟩
                  · have HK2 : Hid ((s.data.toList.take (k + 1)).all Nm.isDig = true) := by
                      show _ = _
                      rw [Nm.bytes_take hks, List.all_append, HK.out]
                      simp only [List.all_cons, List.all_nil, Bool.and_true, Bool.true_and]
                      rw [← Mn.digB_byte]; exact hdk
                    go_wp2_with (go_at_call 54; refine (ref2_digit _ _).mono ?_; rintro e w' ⟨rfl, rfl⟩)
                    go_round
                    case rel => exact ⟨k + 1, by go_num, by omega, HK2⟩
                    case measure => simp [intOf]; omega
                · have F2 : Hid (true = Mn.mform s.data.toList) := by
                    show _ = _
                    rw [← F.out, show s.size - 3 = k by omega]
                    exact HK.out.symm
                  go_wp2_with fail
                  go_ret
                  exact ⟨ret_bool F2.out, rfl⟩
            · clear hz
              go_enter Tryd.func46, Tryd.ntmps46
              go_wp2_with (go_at_call 54; refine (ref2_digit _ _).mono ?_; rintro e w' ⟨rfl, rfl⟩)
              go_loop [4] (fun i => ∃ k : Nat, i = .int .i64 k ∧ (k : Int) ≤ (s.size : Int) - 3 ∧ Hid ((s.data.toList.take k).all Nm.isDig = true)) (fun i => s.size - (intOf i).toNat)
              case atStart => exact ⟨0, rfl, by omega, rfl⟩
              case round =>
                obtain ⟨k, rfl, hk, HK⟩ := hrel
                by_cases hlt : (k : Int) < (s.size : Int) - 3
                · have hks : k < s.size := by omega
                  cases hdk : Mn.digB (s[k].toNat : Int)
                  · have F2 : Hid (false = Mn.mform s.data.toList) := by
                      show _ = _
                      rw [← F.out, eq_comm, Bool.eq_false_iff]
                      intro e
                      rw [List.all_eq_true] at e
                      have h2 := e s[k] (by
                        have h1 := List.getElem_mem (l := s.data.toList.take (s.size - 3)) (n := k) (by rw [List.length_take, ← Lib.size_eq]; omega)
                        rw [List.getElem_take] at h1
                        exact h1)
                      rw [← Mn.digB_byte, hdk] at h2
                      cases h2
                    go_wp2_with (go_at_call 54; refine (ref2_digit _ _).mono ?_; rintro e w' ⟨rfl, rfl⟩)
                    go_ret
                    exact ⟨ret_bool F2.out, rfl⟩
                  · have HK2 : Hid ((s.data.toList.take (k + 1)).all Nm.isDig = true) := by
                      show _ = _
                      rw [Nm.bytes_take hks, List.all_append, HK.out]
                      simp only [List.all_cons, List.all_nil, Bool.and_true, Bool.true_and]
                      rw [← Mn.digB_byte]; exact hdk
                    go_wp2_with (go_at_call 54; refine (ref2_digit _ _).mono ?_; rintro e w' ⟨rfl, rfl⟩)
                    go_round
                    case rel => exact ⟨k + 1, by go_num, by omega, HK2⟩
                    case measure => simp [intOf]; omega
                · have F2 : Hid (true = Mn.mform s.data.toList) := by
                    show _ = _
                    rw [← F.out, show s.size - 3 = k by omega]
                    exact HK.out.symm
                  go_wp2_with fail
                  go_ret
                  exact ⟨ret_bool F2.out, rfl⟩
    · have hp2 : ((s[s.size - 3].toNat : Int) != 46) = true := by simpa using hp
      have F : Hid (false = Mn.mform s.data.toList) := (Mn.form_no_point (by omega) (by simpa using hp)).symm
      clear hp
      go_enter Tryd.func46, Tryd.ntmps46
      go_wp2_with fail
      go_ret
      exact ⟨ret_bool F.out, rfl⟩
  · have F : Hid (false = Mn.mform s.data.toList) := (Mn.form_short (by rw [← Lib.size_eq]; omega)).symm
    have hd : decide ((s.size : Int) - 3 < 1) = true := by simp; omega
    go_enter Tryd.func46, Tryd.ntmps46
    go_wp2_with fail
    go_ret
    exact ⟨ret_bool F.out, rfl⟩

theorem ref2_Parse (s : ByteArray) (hs : s.size ≤ 281474976710656) (w : World) :
    Calls Tryd.prog 28 #[.string s] w fun e w' => e = .returned (.tuple #[.int .i64 (Mn.mparV s.data.toList), .int .i64 (Mn.mparE s.data.toList)]) ∧ w = w' := by
  cases hf : Mn.mform s.data.toList
  · obtain ⟨e1, e2⟩ := Mn.mpar_bad hf
    have E1 := Lib.hid e1
    have E2 := Lib.hid e2
    clear e1 e2
    go_enter Tryd.func28, Tryd.ntmps28
    go_wp2_with (go_at_call 46; refine (ref2_form _ hs _).mono ?_; rintro e w' ⟨rfl, rfl⟩)
    go_ret2
    exact ⟨ret2_int E1.out.symm E2.out.symm, rfl⟩
  · have HF := Lib.hid hf
    go_enter Tryd.func28, Tryd.ntmps28
    go_wp2_with (go_at_call 46; refine (ref2_form _ hs _).mono ?_; rintro e w' ⟨rfl, rfl⟩)
    clear hf
    go_loop [5, 4] (fun i v => ∃ (k : Nat) (V : Int), i = .int .i64 k ∧ v = .int .i64 V ∧ k ≤ s.size ∧ 0 ≤ V ∧ V ≤ 1000000000000 ∧ Hid (V = (Nm.val 0 (Mn.sig (s.data.toList.take k)) : Nat))) (fun i _ => s.size - (intOf i).toNat)
    case atStart => exact ⟨0, 0, rfl, rfl, by omega, by omega, by omega, rfl⟩
    case round =>
      obtain ⟨k, V, rfl, rfl, hk, v0, v1, HV⟩ := hrel
      by_cases hlt : k < s.size
      · by_cases hp : ((s[k].toNat : Int) == 46) = true
        · have HV2 : Hid (V = (Nm.val 0 (Mn.sig (s.data.toList.take (k + 1))) : Nat)) := by
            show _ = _
            rw [Mn.sig_point hlt (beq_iff_eq.1 hp)]; exact HV.out
          go_wp2_with fail
          go_round
          case rel => exact ⟨k + 1, V, by go_num, rfl, by omega, v0, v1, HV2⟩
          case measure => simp [intOf]; omega
        · have hp2 : ((s[k].toNat : Int) == 46) = false := by simpa using hp
          have hdig : Nm.isDig s[k] = true := by
            rcases Mn.form_bytes HF.out s[k] (Mn.byte_mem hlt) with e | e
            · exfalso; rw [e] at hp2; cases hp2
            · exact e
          have hr := (Nm.isDig_iff _).1 hdig
          have hval := Mn.sig_digit hlt hdig
          have HV2 : Hid (10 * V + ((s[k].toNat : Int) - 48) = (Nm.val 0 (Mn.sig (s.data.toList.take (k + 1))) : Nat)) := by
            show _ = _
            rw [hval]; have := HV.out; omega
          have w8 : IntKind.u8.wrap ((s[k].toNat : Int) - 48) = (s[k].toNat : Int) - 48 := by rw [IntKind.wrap_u8]; omega
          obtain ⟨r1, r2⟩ := hr
          have r3 : 0 ≤ (s[k].toNat : Int) - 48 := by omega
          have r4 : (s[k].toNat : Int) - 48 ≤ 9 := by omega
          clear hp hdig hval
          by_cases hov : 1000000000000 < 10 * V + ((s[k].toNat : Int) - 48)
          · have F : Hid (Ending.returned (.tuple #[.int .i64 0, .int .i64 9]) = .returned (.tuple #[.int .i64 (Mn.mparV s.data.toList), .int .i64 (Mn.mparE s.data.toList)])) := by
              show _ = _
              have h1 := Mn.sig_le (l := s.data.toList) (k + 1)
              rw [Mn.sig_form HF.out] at h1
              have h2 := HV2.out
              rw [(Mn.mpar_over HF.out (by omega)).1, (Mn.mpar_over HF.out (by omega)).2]
            go_wp2_with fail
            go_ret2
            exact ⟨F.out, rfl⟩
          · go_wp2_with fail
            go_round
            case rel => exact ⟨k + 1, _, by go_num, rfl, by omega, by omega, by omega, HV2⟩
            case measure => simp [intOf]; omega
      · have F : Hid (Ending.returned (.tuple #[.int .i64 V, .int .i64 0]) = .returned (.tuple #[.int .i64 (Mn.mparV s.data.toList), .int .i64 (Mn.mparE s.data.toList)])) := by
          show _ = _
          have h1 := HV.out
          rw [List.take_of_length_le (by rw [← Lib.size_eq]; omega), Mn.sig_form HF.out] at h1
          rw [(Mn.mpar_ok HF.out (by omega)).1, (Mn.mpar_ok HF.out (by omega)).2, h1]
        go_wp2_with fail
        go_ret2
        exact ⟨F.out, rfl⟩
end Go.Proofs.YtckimajnhdefcaaDoor
