/- nat.Parse and what it calls: decimal texts of any size. -/
import Derived.Test.YtcgbgaljjhopiaaDoorNatT
import Derived.Test.YtcgbgaljjhopiaaDoorNatC
namespace Go.Proofs.YtcgbgaljjhopiaaDoor
set_option maxRecDepth 20000
open Go.RowKit
set_option linter.unusedVariables false
set_option linter.unusedSimpArgs false
theorem Nm.decU_of {s : List UInt8} (h0 : s ≠ []) (h1 : s.head? ≠ some 48 ∨ s.length = 1) : Nm.decU s = s.all Nm.isDig := by
  have e1 : s.isEmpty = false := by
    cases s with
    | nil => exact absurd rfl h0
    | cons => rfl
  have e2 : (decide (s.head? ≠ some 48) || decide (s.length = 1)) = true := by simpa using h1
  rw [Nm.decU, e1, e2]; simp
theorem nat_isDecimal (s : ByteArray) (hs : s.size ≤ 281474976710656) (w : World) :
    Calls Tryd.prog 11 #[.string s] w fun e w' => e = .returned (.bool (Nm.decU s.data.toList)) ∧ w = w' := by
  by_cases hne : s.data.toList = []
  · have F : Hid (false = Nm.decU s.data.toList) := by show _ = _; rw [hne]; rfl
    have he : s.toList.isEmpty = true := by rw [Lib.toList_data, hne]; rfl
    clear hne
    go_enter Tryd.func11, Tryd.ntmps11
    go_wp2
    go_ret
    exact ⟨ret_bool F.out, rfl⟩
  · obtain ⟨he, hpos⟩ := Nm.bytes_ne hne
    have hsz := Lib.hid hne
    clear hne
    by_cases h0 : ((s[0].toNat : Int) == 48) = true
    · have hhead : s.data.toList.head? = some 48 := by
        rw [Nm.bytes_head hpos]
        exact congrArg some (UInt8.toNat_inj.1 (by have h1 := beq_iff_eq.1 h0; show s[0].toNat = 48; omega))
      by_cases h1 : 1 < s.size
      · have F : Hid (false = Nm.decU s.data.toList) := by
          show _ = _
          rw [eq_comm, Bool.eq_false_iff]
          intro hd
          have := (Nm.decU_parts hd).2.2 hhead
          rw [← Lib.size_eq] at this
          omega
        clear hhead
        go_enter Tryd.func11, Tryd.ntmps11
        go_wp2
        go_ret
        exact ⟨ret_bool F.out, rfl⟩
      · have F : Hid (s.data.toList.all Nm.isDig = Nm.decU s.data.toList) := by
          show _ = _
          rw [Nm.decU_of hsz.out (.inr (by rw [← Lib.size_eq]; omega))]
        clear hhead
        go_enter Tryd.func11, Tryd.ntmps11
        go_wp2_with fail
        go_loop [18] (fun k' => ∃ k : Nat, k' = .int .i64 k ∧ k ≤ s.size ∧ Hid ((s.data.toList.take k).all Nm.isDig = true)) (fun k' => s.size - (intOf k').toNat)
        case atStart => exact ⟨0, rfl, by omega, rfl⟩
        case round =>
          obtain ⟨k, rfl, hk, HK⟩ := hrel
          by_cases hlt : k < s.size
          · have hT := Nm.bytes_take hlt
            by_cases hd : 48 ≤ s[k].toNat ∧ s[k].toNat ≤ 57
            · have HK2 : Hid ((s.data.toList.take (k + 1)).all Nm.isDig = true) := by
                show _ = _
                rw [hT, List.all_append, HK.out]
                simp only [List.all_cons, List.all_nil, Bool.and_true, Bool.true_and]
                exact (Nm.isDig_iff _).2 hd
              clear hT
              obtain ⟨hd1, hd2⟩ := hd
              go_wp2_with fail
              go_round
              case rel => exact ⟨k + 1, by go_num, by omega, HK2⟩
              case measure => simp [intOf]; omega
            · have F2 : Hid (false = Nm.decU s.data.toList) := by
                show _ = _
                rw [← F.out, eq_comm, Bool.eq_false_iff]
                intro ha
                exact hd ((Nm.isDig_iff _).1 (Nm.bytes_all _ ha k hlt))
              clear hT
              by_cases hd1 : s[k].toNat < 48
              · clear hd
                go_wp2
                go_ret
                exact ⟨ret_bool F2.out, rfl⟩
              · have hd2 : 57 < s[k].toNat := by omega
                clear hd
                go_wp2
                go_ret
                exact ⟨ret_bool F2.out, rfl⟩
          · have F2 : Hid (true = Nm.decU s.data.toList) := by
              show _ = _
              rw [← F.out]
              have := HK.out
              rw [List.take_of_length_le (by rw [← Lib.size_eq]; omega)] at this
              exact this.symm
            go_wp2
            go_ret
            exact ⟨ret_bool F2.out, rfl⟩
    · have h0' : ((s[0].toNat : Int) == 48) = false := by simpa using h0
      have F : Hid (s.data.toList.all Nm.isDig = Nm.decU s.data.toList) := by
        show _ = _
        rw [Nm.decU_of hsz.out (.inl (by
          rw [Nm.bytes_head hpos]
          intro e
          apply h0
          rw [Option.some.inj e]; rfl))]
      clear h0
      go_enter Tryd.func11, Tryd.ntmps11
      go_wp2_with fail
      go_loop [18] (fun k' => ∃ k : Nat, k' = .int .i64 k ∧ k ≤ s.size ∧ Hid ((s.data.toList.take k).all Nm.isDig = true)) (fun k' => s.size - (intOf k').toNat)
      case atStart => exact ⟨0, rfl, by omega, rfl⟩
      case round =>
        obtain ⟨k, rfl, hk, HK⟩ := hrel
        by_cases hlt : k < s.size
        · have hT := Nm.bytes_take hlt
          by_cases hd : 48 ≤ s[k].toNat ∧ s[k].toNat ≤ 57
          · have HK2 : Hid ((s.data.toList.take (k + 1)).all Nm.isDig = true) := by
              show _ = _
              rw [hT, List.all_append, HK.out]
              simp only [List.all_cons, List.all_nil, Bool.and_true, Bool.true_and]
              exact (Nm.isDig_iff _).2 hd
            clear hT
            obtain ⟨hd1, hd2⟩ := hd
            go_wp2_with fail
            go_round
            case rel => exact ⟨k + 1, by go_num, by omega, HK2⟩
            case measure => simp [intOf]; omega
          · have F2 : Hid (false = Nm.decU s.data.toList) := by
              show _ = _
              rw [← F.out, eq_comm, Bool.eq_false_iff]
              intro ha
              exact hd ((Nm.isDig_iff _).1 (Nm.bytes_all _ ha k hlt))
            clear hT
            by_cases hd1 : s[k].toNat < 48
            · clear hd
              go_wp2
              go_ret
              exact ⟨ret_bool F2.out, rfl⟩
            · have hd2 : 57 < s[k].toNat := by omega
              clear hd
              go_wp2
              go_ret
              exact ⟨ret_bool F2.out, rfl⟩
        · have F2 : Hid (true = Nm.decU s.data.toList) := by
            show _ = _
            rw [← F.out]
            have := HK.out
            rw [List.take_of_length_le (by rw [← Lib.size_eq]; omega)] at this
            exact this.symm
          go_wp2
          go_ret
          exact ⟨ret_bool F2.out, rfl⟩
end Go.Proofs.YtcgbgaljjhopiaaDoor
