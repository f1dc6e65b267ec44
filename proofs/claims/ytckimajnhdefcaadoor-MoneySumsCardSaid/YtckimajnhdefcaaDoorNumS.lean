/- Contracts of num.Parse, num.Format and the reference's twins: decimal numbers as texts; of what was there nothing has turned. -/
import Derived.Test.YtckimajnhdefcaaDoorNumDiv
import Derived.Test.YtckimajnhdefcaaDoorNumDec
import Derived.Lib.LaidTab
import Derived.Lib.AtoiAllMem
import Derived.Lib.AppendIntMem
namespace Go.Proofs.YtckimajnhdefcaaDoor
open Go.RowKit

/-- The part behind a sign, as a string of its own. -/
theorem trim_minus (s : ByteArray) (w : World) :
    Calls Tryd.prog 57 #[.string s, .string ⟨#[45]⟩] w fun e w' => ∃ D : ByteArray, e = .returned (.string D) ∧ w = w' ∧ D.data.toList = Nm.body s.data.toList ∧ D.size ≤ s.size := by
  have hb : Lib.trimPrefix s.data.toList [45] = Nm.body s.data.toList := Nm.trim_body _
  refine (Tryd.strings_TrimPrefix s ⟨#[45]⟩ w).mono fun e w' ⟨he, hw⟩ => ⟨_, he, hw.symm, hb, ?_⟩
  rw [Lib.size_eq, Lib.size_eq]
  show (Lib.trimPrefix s.data.toList [45]).length ≤ _
  rw [hb]
  exact Nm.body_len _

theorem num_isDecimal (s : ByteArray) (hs : s.size ≤ 281474976710656) (w : World) :
    Calls Tryd.prog 52 #[.string s] w fun e w' => e = .returned (.bool (Nm.dec s.data.toList)) ∧ w = w' := by
  go_enter Tryd.func52, Tryd.ntmps52
  go_wp2_with (go_at_call 57; refine (trim_minus _ _).mono ?_; rintro e w' ⟨D, rfl, rfl, hD, hDs⟩; refine Hid.out ?_)
  refine Lib.hid ?_
  have HD := Lib.hid hD
  clear hD
  by_cases hne : D.data.toList = []
  · have F : Hid (false = Nm.dec s.data.toList) := by show _ = _; rw [Nm.dec_empty (by rw [← HD.out, hne])]
    have he : D.toList.isEmpty = true := by rw [Lib.toList_data, hne]; rfl
    clear hne
    go_wp2
    go_ret
    exact ⟨ret_bool F.out, rfl⟩
  · obtain ⟨he, hpos⟩ := Nm.bytes_ne hne
    have hsz := Lib.hid hne
    have hmax : D.size ≤ 281474976710656 := by omega
    clear hDs
    clear hne
    by_cases h0 : ((D[0].toNat : Int) == 48) = true
    · have F : Hid ((s.toList == [48]) = Nm.dec s.data.toList) := by
        show _ = _
        rw [Nm.dec_zero, Lib.toList_data]
        rw [← HD.out, Nm.bytes_head hpos]
        exact congrArg some (UInt8.toNat_inj.1 (by have h1 := beq_iff_eq.1 h0; show D[0].toNat = 48; omega))
      go_wp2
      go_ret
      exact ⟨ret_bool F.out, rfl⟩
    · have h0' : ((D[0].toNat : Int) == 48) = false := by simpa using h0
      have F : Hid (D.data.toList.all Nm.isDig = Nm.dec s.data.toList) := by
        show _ = _
        rw [Nm.dec_all (by rw [← HD.out]; exact hsz.out), ← HD.out]
        rw [← HD.out, Nm.bytes_head hpos]
        intro e
        apply h0
        rw [Option.some.inj e]; rfl
      clear h0
      go_wp2_with fail
      go_loop [16] (fun k' => ∃ k : Nat, k' = .int .i64 k ∧ k ≤ D.size ∧ Hid ((D.data.toList.take k).all Nm.isDig = true)) (fun k' => D.size - (intOf k').toNat)
      case atStart => exact ⟨0, rfl, by omega, rfl⟩
      case round =>
        obtain ⟨k, rfl, hk, HK⟩ := hrel
        by_cases hlt : k < D.size
        · have hT := Nm.bytes_take hlt
          by_cases hd : 48 ≤ D[k].toNat ∧ D[k].toNat ≤ 57
          · have HK2 : Hid ((D.data.toList.take (k + 1)).all Nm.isDig = true) := by
              show _ = _
              rw [hT, List.all_append, HK.out]
              simp only [List.all_cons, List.all_nil, Bool.and_true, Bool.true_and]
              exact (Nm.isDig_iff _).2 hd
            clear hT
            obtain ⟨hd1, hd2⟩ := hd
            go_wp2_with fail
            go_round
            case rel => exact ⟨k + 1, by go_num, by omega, HK2⟩
            case measure => simp [intOf]; omega
          · have F2 : Hid (false = Nm.dec s.data.toList) := by
              show _ = _
              rw [← F.out, eq_comm, Bool.eq_false_iff]
              intro ha
              exact hd ((Nm.isDig_iff _).1 (Nm.bytes_all _ ha k hlt))
            clear hT
            by_cases hd1 : D[k].toNat < 48
            · clear hd
              go_wp2
              go_ret
              exact ⟨ret_bool F2.out, rfl⟩
            · have hd2 : 57 < D[k].toNat := by omega
              clear hd
              go_wp2
              go_ret
              exact ⟨ret_bool F2.out, rfl⟩
        · have F2 : Hid (true = Nm.dec s.data.toList) := by
            show _ = _
            rw [← F.out]
            have := HK.out
            rw [List.take_of_length_le (by rw [← Lib.size_eq]; omega)] at this
            exact this.symm
          go_wp2
          go_ret
          exact ⟨ret_bool F2.out, rfl⟩

/-- What the package-level variables of strconv hold, as these texts need it: whatever value of an interface's type. -/
def ErrVar (g : Nat) (w : World) : Prop := ∃ ev : Value, w.cell? ⟨g, 0, none⟩ = some ev ∧ (ev = .nilIface ∨ ∃ te pe, ev = .iface te pe)

theorem num_Parse (s : ByteArray) (hs : s.size ≤ 281474976710656) (w : World) (hv : ErrVar 3 w) :
    Calls Tryd.prog 44 #[.string s] w fun e w' => e = .returned (.tuple #[.int .i64 (Nm.parV s.data.toList), .int .i64 (Nm.parE s.data.toList)]) ∧ Below w.heap.size w w' := by
  obtain ⟨ev, hv1, hv2⟩ := hv
  have HV2 := Lib.hid hv2
  clear hv2
  cases hd : Nm.dec s.data.toList
  · have F1 : Hid (0 = Nm.parV s.data.toList) := by show _ = _; rw [Nm.parV, hd]; rfl
    have F2 : Hid (1 = Nm.parE s.data.toList) := by show _ = _; rw [Nm.parE, hd]; rfl
    go_enter Tryd.func44, Tryd.ntmps44
    go_wp2_with (go_at_call 52; refine (num_isDecimal _ hs _).mono ?_; rintro e w' ⟨rfl, rfl⟩)
    go_ret2
    exact ⟨ret2_int F1.out F2.out, Below.refl _ _⟩
  · have hat := Nm.atoi_dec hd
    cases hf : Nm.fits (Nm.num s.data.toList)
    · have F1 : Hid (0 = Nm.parV s.data.toList) := by show _ = _; rw [Nm.parV, hd, if_pos rfl]; exact Nm.cv_not hf
      have F2 : Hid (9 = Nm.parE s.data.toList) := by show _ = _; rw [Nm.parE, hd, if_pos rfl]; exact Nm.ce_not hf
      rw [hf] at hat
      have HAT : Hid (Lib.atoiAll s.data.toList = .range) := hat
      clear hat hf
      go_enter Tryd.func44, Tryd.ntmps44
      go_wp2_with (go_at_call 52; refine (num_isDecimal _ hs _).mono ?_; rintro e w' ⟨rfl, rfl⟩)
      refine (Tryd.strconv_Atoi_range _ hs HAT.out ev _ hv1 HV2.out).mono ?_
      rintro e w' ⟨N, rfl, -, -, hb⟩
      go_wp2
      go_ret2
      exact ⟨ret2_int F1.out F2.out, hb⟩
    · have F1 : Hid (Nm.num s.data.toList = Nm.parV s.data.toList) := by show _ = _; rw [Nm.parV, hd, if_pos rfl, Nm.cv_in ((Nm.fits_iff _).1 hf)]
      have F2 : Hid (0 = Nm.parE s.data.toList) := by show _ = _; rw [Nm.parE, hd, if_pos rfl]; exact Nm.ce_fits hf
      rw [hf] at hat
      have HAT : Hid (Lib.atoiAll s.data.toList = .ok (Nm.num s.data.toList)) := hat
      clear hat hf
      go_enter Tryd.func44, Tryd.ntmps44
      go_wp2_with (go_at_call 52; refine (num_isDecimal _ hs _).mono ?_; rintro e w' ⟨rfl, rfl⟩)
      refine (Tryd.strconv_Atoi_ok _ (by omega) _ HAT.out _).mono ?_
      rintro e w' ⟨rfl, hw⟩
      have hb : Below w.heap.size w w' := by
        rcases hw with rfl | ⟨t, rfl⟩
        · exact Below.refl _ _
        · exact Lib.bytesWorld_below _ _ _
      clear hw
      go_wp2
      go_ret2
      exact ⟨ret2_int F1.out F2.out, hb⟩

theorem num_Format (n : Int) (h0 : -9223372036854775808 ≤ n) (h1 : n ≤ 9223372036854775807) (w : World) (htab : Lib.TabIs Tryd.prog w "internal/strconv.uint64pow10" .u64 Lib.pow10Tab) :
    Calls Tryd.prog 47 #[.int .i64 n] w fun e w' => e = .returned (.string ⟨(Lib.itoa n).toArray⟩) ∧ Below w.heap.size w w' := by
  have HT := Lib.hid htab
  clear htab
  go_enter Tryd.func47, Tryd.ntmps47
  go_wp2_with fail
  refine (Tryd.strconv_Itoa n h0 h1 _ HT.out).mono ?_
  rintro e w' ⟨rfl, k, os, rfl⟩
  go_wp2
  go_ret
  exact ⟨rfl, Lib.below_grow _ _ (Nat.le_refl _) _ _⟩
end Go.Proofs.YtckimajnhdefcaaDoor
