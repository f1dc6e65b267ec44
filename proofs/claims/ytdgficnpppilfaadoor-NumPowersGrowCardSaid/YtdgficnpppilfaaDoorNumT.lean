/- Contracts of the reference's Decimal, Parse and Format. -/
import Derived.Test.YtdgficnpppilfaaDoorNumS
import Derived.Outline
namespace Go.Proofs.YtdgficnpppilfaaDoor
open Go.RowKit

namespace Nm
theorem tail_data (s : ByteArray) : (s.extract 1 s.size).data.toList = s.data.toList.tail := by
  rw [Lib.extract_data, List.drop_one, List.take_of_length_le (by rw [List.length_tail, ← Lib.size_eq]; exact Nat.le_refl _)]
theorem neg_head {s : ByteArray} (h : 0 < s.size) : neg s.data.toList = true ↔ ((s[0].toNat : Int) == 45) = true := by
  have hb := bytes_head h
  rw [neg, hb, decide_eq_true_eq, beq_iff_eq, Option.some.injEq]
  constructor
  · intro e; rw [e]; rfl
  · intro e; exact UInt8.toNat_inj.1 (by show s[0].toNat = 45; omega)
theorem neg_empty {s : ByteArray} (h : ¬ 0 < s.size) : s.data.toList = [] := List.length_eq_zero_iff.1 (by rw [← Lib.size_eq]; omega)
theorem neg_pos {s : ByteArray} (h : neg s.data.toList = true) : 0 < s.size := by
  rcases Nat.eq_zero_or_pos s.size with e | e
  · have := neg_empty (s := s) (by omega)
    rw [this] at h; cases h
  · exact e
theorem body_tail {l : List UInt8} (h : neg l = true) : body l = l.tail := by rw [body, if_pos h]
theorem dec_rest {l : List UInt8} (h0 : body l ≠ []) (h1 : (body l).head? = some 48 → (body l).length = 1) (h2 : neg l = true → body l ≠ [48]) : dec l = (body l).all isDig := by
  have e1 : (body l).isEmpty = false := by
    cases hb : body l with
    | nil => exact absurd hb h0
    | cons => rfl
  have e2 : (decide ((body l).head? ≠ some 48) || decide ((body l).length = 1)) = true := by
    by_cases h : (body l).head? = some 48
    · simp [h1 h]
    · simp [h]
  have e3 : (neg l && decide (body l = [48])) = false := by
    by_cases h : neg l = true
    · simp [h2 h]
    · simp [h]
  rw [dec, decU, e1, e2, e3]
  simp
theorem dec_lead {l : List UInt8} (h1 : (body l).head? = some 48) (h2 : 1 < (body l).length) : dec l = false := by
  rw [Bool.eq_false_iff]
  intro hd
  have := (decU_parts (dec_parts hd).1).2.2 h1
  omega
theorem dec_pos {s : ByteArray} (h : dec s.data.toList = true) : 0 < s.size := by
  rcases Nat.eq_zero_or_pos s.size with e | e
  · have := neg_empty (s := s) (by omega)
    rw [this] at h; cases h
  · exact e
theorem val_big {r : List UInt8} (h : decU r = true) (hl : 19 < r.length) : 10000000000000000000 ≤ val 0 r := by
  obtain ⟨h1, h2, h3⟩ := decU_parts h
  cases r with
  | nil => exact absurd rfl h1
  | cons c t =>
    rw [List.all_cons, Bool.and_eq_true] at h2
    have hc := (isDig_iff c).1 h2.1
    have hc48 : c.toNat ≠ 48 := by
      intro e
      have := h3 (by rw [List.head?_cons]; exact congrArg some (UInt8.toNat_inj.1 e))
      omega
    rw [val_cons]
    have h4 := val_pow t (0 * 10 + (c.toNat - 48))
    have h5 : 10 ^ 19 ≤ 10 ^ t.length := Nat.pow_le_pow_right (by omega) (by simp at hl; omega)
    have h6 : 1 * 10 ^ t.length ≤ (0 * 10 + (c.toNat - 48)) * 10 ^ t.length := Nat.mul_le_mul_right _ (by omega)
    have h7 : (10 : Nat) ^ 19 = 10000000000000000000 := by decide
    omega
theorem val_take_lt {r : List UInt8} (h : r.all isDig = true) {k : Nat} (hk : k ≤ 18) : val 0 (r.take k) < 1000000000000000000 := by
  have h1 : (r.take k).all isDig = true := by
    rw [List.all_eq_true] at h ⊢
    exact fun x hx => h x (List.mem_of_mem_take hx)
  have h2 := val_lt (r.take k) 0 h1
  have h3 : 10 ^ (r.take k).length ≤ 10 ^ 18 := Nat.pow_le_pow_right (by omega) (by rw [List.length_take]; omega)
  have h4 : (10 : Nat) ^ 18 = 1000000000000000000 := by decide
  omega
theorem val_small {r : List UInt8} (h : r.all isDig = true) (hl : r.length ≤ 19) : val 0 r < 10000000000000000000 := by
  have h2 := val_lt r 0 h
  have h3 : 10 ^ r.length ≤ 10 ^ 19 := Nat.pow_le_pow_right (by omega) hl
  have h4 : (10 : Nat) ^ 19 = 10000000000000000000 := by decide
  omega
end Nm

theorem ref_Decimal (s : ByteArray) (hs : s.size ≤ 281474976710656) (w : World) :
    Calls Tryd.prog 40 #[.string s] w fun e w' => e = .returned (.bool (Nm.dec s.data.toList)) ∧ w = w' := by
  go_enter Tryd.func40, Tryd.ntmps40
  go_upto_region 1 with fail
  go_cut [11] (fun c wc => c = .bool (Nm.neg s.data.toList) ∧ w = wc)
  case first =>
    by_cases hpos : 0 < s.size
    · by_cases h45 : ((s[0].toNat : Int) == 45) = true
      · have F : Hid (true = Nm.neg s.data.toList) := ((Nm.neg_head hpos).2 h45).symm
        go_wp2_with fail
        go_meet
        exact ⟨congrArg Value.bool F.out, rfl⟩
      · have F : Hid (false = Nm.neg s.data.toList) := by
          show _ = _
          rw [eq_comm, Bool.eq_false_iff]
          exact fun e => h45 ((Nm.neg_head hpos).1 e)
        have h45' : ((s[0].toNat : Int) == 45) = false := by simpa using h45
        go_wp2_with fail
        go_meet
        exact ⟨congrArg Value.bool F.out, rfl⟩
    · have F : Hid (false = Nm.neg s.data.toList) := by show _ = _; rw [Nm.neg_empty hpos]; rfl
      go_wp2_with fail
      go_meet
      exact ⟨congrArg Value.bool F.out, rfl⟩
  case rest =>
    obtain ⟨rfl, rfl⟩ := hcut
    obtain ⟨ng, hng⟩ : ∃ b, b = Nm.neg s.data.toList := ⟨_, rfl⟩
    rw [← hng]
    have HN := Lib.hid hng
    clear hng
    go_upto_if 11 with fail
    go_cut [0] (fun s0 wc => ∃ D : ByteArray, s0 = .string D ∧ w = wc ∧ D.size ≤ s.size ∧ D.data.toList = Nm.body s.data.toList ∧ (Nm.neg s.data.toList = true → D.data.toList ≠ [48]))
    case first =>
      cases ng
      · have hb : Nm.body s.data.toList = s.data.toList := by rw [Nm.body, ← HN.out]; rfl
        have HB := Lib.hid hb
        clear hb
        go_wp2_with fail
        go_meet
        exact ⟨s, rfl, rfl, Nat.le_refl _, HB.out.symm, fun h => by rw [← HN.out] at h; cases h⟩
      · have hp := Nm.neg_pos HN.out.symm
        have hp1 : 1 ≤ (s.size : Int) := by omega
        have HB : Hid ((s.extract 1 s.size).data.toList = Nm.body s.data.toList) := by
          show _ = _
          rw [Nm.tail_data, Nm.body_tail HN.out.symm]
        have hDs : (s.extract 1 s.size).size ≤ s.size := by
          rw [Lib.size_eq (s.extract 1 s.size), HB.out, Lib.size_eq s]; exact Nm.body_len _
        have HDs := Lib.hid hDs
        clear hDs
        by_cases hz : ((s.extract 1 s.size).toList == [48]) = true
        · have F : Hid (false = Nm.dec s.data.toList) := by
            show _ = _
            rw [Lib.toList_data, HB.out, beq_iff_eq] at hz
            rw [Nm.dec, ← HN.out, hz]; rfl
          go_wp2_with fail
          go_ret
          exact ⟨ret_bool F.out, rfl⟩
        · have hz' : ((s.extract 1 s.size).toList == [48]) = false := by simpa using hz
          have HZ : Hid (Nm.body s.data.toList ≠ [48]) := by
            show _ ≠ _
            rw [Lib.toList_data, HB.out, beq_iff_eq] at hz
            exact hz
          clear hz
          go_wp2_with fail
          go_meet
          exact ⟨_, rfl, rfl, HDs.out, HB.out, fun _ => by rw [HB.out]; exact HZ.out⟩
    case rest =>
      obtain ⟨D, rfl, rfl, hDs, hD, hz⟩ := hcut
      have HD := Lib.hid hD
      have HZ := Lib.hid hz
      clear hD hz
      have hmax : D.size ≤ 281474976710656 := by omega
      clear hDs HN
      by_cases he : D.size = 0
      · have F : Hid (false = Nm.dec s.data.toList) := by
          show _ = _
          rw [Nm.dec_empty]
          rw [← HD.out]
          exact Nm.neg_empty (by omega)
        have hb : ((D.size : Int) == 0) = true := by simp [he]
        clear he
        go_wp2_with fail
        go_ret
        exact ⟨ret_bool F.out, rfl⟩
      · have hb : ((D.size : Int) == 0) = false := by simpa using he
        have hpos : 0 < D.size := by omega
        have hne : Nm.body s.data.toList ≠ [] := by
          rw [← HD.out]
          intro e
          rw [Lib.size_eq, e] at hpos
          simp at hpos
        have HNE := Lib.hid hne
        clear he hne
        by_cases hlead : 1 < D.size ∧ D[0].toNat = 48
        · obtain ⟨hl1, hl2⟩ := hlead
          have F : Hid (false = Nm.dec s.data.toList) := by
            show _ = _
            rw [Nm.dec_lead]
            · rw [← HD.out, Nm.bytes_head hpos]
              exact congrArg some (UInt8.toNat_inj.1 hl2)
            · rw [← HD.out, ← Lib.size_eq]; exact hl1
          have hl3 : ((D[0].toNat : Int) == 48) = true := by simp [hl2]
          clear hl2
          go_wp2_with fail
          go_ret
          exact ⟨ret_bool F.out, rfl⟩
        · have F : Hid (D.data.toList.all Nm.isDig = Nm.dec s.data.toList) := by
            show _ = _
            rw [Nm.dec_rest HNE.out ?_ (fun h => by rw [← HD.out]; exact HZ.out h), ← HD.out]
            rw [← HD.out, Nm.bytes_head hpos, ← Lib.size_eq]
            intro e
            have h48 : D[0].toNat = 48 := by rw [Option.some.inj e]; rfl
            omega
          go_upto_region 5 with fail
          go_cut [28] from 16 to 28 (fun c wc => c = .bool false ∧ w = wc)
          case first =>
            by_cases hl1 : 1 < D.size
            · have hl2 : ((D[0].toNat : Int) == 48) = false := by
                rw [Bool.eq_false_iff]
                intro e
                have := beq_iff_eq.1 e
                exact hlead ⟨hl1, by omega⟩
              clear hlead
              go_wp2_with fail
              go_meet
              exact ⟨rfl, rfl⟩
            · clear hlead
              go_wp2_with fail
              go_meet
              exact ⟨rfl, rfl⟩
          case rest =>
            obtain ⟨rfl, rfl⟩ := hcut
            clear hlead
            go_wp2_with fail
            go_loop [3] (fun k' => ∃ k : Nat, k' = .int .i64 k ∧ k ≤ D.size ∧ Hid ((D.data.toList.take k).all Nm.isDig = true)) (fun k' => D.size - (intOf k').toNat)
            case atStart => exact ⟨0, rfl, by omega, rfl⟩
            case round =>
              obtain ⟨k, rfl, hk, HK⟩ := hrel
              by_cases hlt : k < D.size
              · have hT := Nm.bytes_take hlt
                by_cases hd : 48 ≤ D[k].toNat ∧ D[k].toNat ≤ 57
                · have HK2 : Hid ((D.data.toList.take (k + 1)).all Nm.isDig = true) := by
                    show _ = _
                    rw [hT, List.all_append, HK.out]
                    simp only [List.all_cons, List.all_nil, Bool.and_true, Bool.true_and]
                    exact (Nm.isDig_iff _).2 hd
                  clear hT
                  obtain ⟨hd1, hd2⟩ := hd
                  go_wp2_with fail
                  go_round
                  case rel => exact ⟨k + 1, by go_num, by omega, HK2⟩
                  case measure => simp [intOf]; omega
                · have F2 : Hid (false = Nm.dec s.data.toList) := by
                    show _ = _
                    rw [← F.out, eq_comm, Bool.eq_false_iff]
                    intro ha
                    exact hd ((Nm.isDig_iff _).1 (Nm.bytes_all _ ha k hlt))
                  clear hT
                  by_cases hd1 : D[k].toNat < 48
                  · clear hd
                    go_wp2
                    go_ret
                    exact ⟨ret_bool F2.out, rfl⟩
                  · have hd2 : 57 < D[k].toNat := by omega
                    clear hd
                    go_wp2
                    go_ret
                    exact ⟨ret_bool F2.out, rfl⟩
              · have F2 : Hid (true = Nm.dec s.data.toList) := by
                  show _ = _
                  rw [← F.out]
                  have := HK.out
                  rw [List.take_of_length_le (by rw [← Lib.size_eq]; omega)] at this
                  exact this.symm
                go_wp2
                go_ret
                exact ⟨ret_bool F2.out, rfl⟩

theorem ref_Parse (s : ByteArray) (hs : s.size ≤ 281474976710656) (w : World) :
    Calls Tryd.prog 27 #[.string s] w fun e w' => e = .returned (.tuple #[.int .i64 (Nm.parV s.data.toList), .int .i64 (Nm.parE s.data.toList)]) ∧ w = w' := by
  cases hd : Nm.dec s.data.toList
  · have F1 : Hid (0 = Nm.parV s.data.toList) := by show _ = _; rw [Nm.parV, hd]; rfl
    have F2 : Hid (1 = Nm.parE s.data.toList) := by show _ = _; rw [Nm.parE, hd]; rfl
    go_enter Tryd.func27, Tryd.ntmps27
    go_wp2_with (go_at_call 40; refine (ref_Decimal _ hs _).mono ?_; rintro e w' ⟨rfl, rfl⟩)
    go_ret2
    exact ⟨ret2_int F1.out F2.out, rfl⟩
  · have hp := Nm.dec_pos hd
    have F1 : Hid (Nm.cv (Nm.num s.data.toList) = Nm.parV s.data.toList) := by show _ = _; rw [Nm.parV, hd, if_pos rfl]
    have F2 : Hid (Nm.ce (Nm.num s.data.toList) = Nm.parE s.data.toList) := by show _ = _; rw [Nm.parE, hd, if_pos rfl]
    obtain ⟨hu, hz⟩ := Nm.dec_parts hd
    have HU := Lib.hid hu
    clear hu hz
    go_enter Tryd.func27, Tryd.ntmps27
    go_wp2_with (go_at_call 40; refine (ref_Decimal _ hs _).mono ?_; rintro e w' ⟨rfl, rfl⟩; refine Hid.out ?_)
    refine Lib.hid ?_
    go_upto_region 3 with fail
    clear hd
    go_cut [4] (fun c wc => c = .bool (Nm.neg s.data.toList) ∧ w = wc)
    case first =>
      by_cases h45 : ((s[0].toNat : Int) == 45) = true
      · have F : Hid (true = Nm.neg s.data.toList) := ((Nm.neg_head hp).2 h45).symm
        go_wp2_with fail
        go_meet
        exact ⟨congrArg Value.bool F.out, rfl⟩
      · have F : Hid (false = Nm.neg s.data.toList) := by
          show _ = _
          rw [eq_comm, Bool.eq_false_iff]
          exact fun e => h45 ((Nm.neg_head hp).1 e)
        have h45' : ((s[0].toNat : Int) == 45) = false := by simpa using h45
        go_wp2_with fail
        go_meet
        exact ⟨congrArg Value.bool F.out, rfl⟩
    case rest =>
      obtain ⟨rfl, rfl⟩ := hcut
      obtain ⟨ng, hng⟩ : ∃ b, b = Nm.neg s.data.toList := ⟨_, rfl⟩
      rw [← hng]
      have HN := Lib.hid hng
      clear hng
      go_upto_if 13 with fail
      go_cut [0] (fun s0 wc => ∃ D : ByteArray, s0 = .string D ∧ w = wc ∧ D.size ≤ s.size ∧ D.data.toList = Nm.body s.data.toList)
      case first =>
        cases ng
        · have hb : Nm.body s.data.toList = s.data.toList := by rw [Nm.body, ← HN.out]; rfl
          have HB := Lib.hid hb
          clear hb
          go_wp2_with fail
          go_meet
          exact ⟨s, rfl, rfl, Nat.le_refl _, HB.out.symm⟩
        · have hp1 : 1 ≤ (s.size : Int) := by omega
          have HB : Hid ((s.extract 1 s.size).data.toList = Nm.body s.data.toList) := by
            show _ = _
            rw [Nm.tail_data, Nm.body_tail HN.out.symm]
          have hDs : (s.extract 1 s.size).size ≤ s.size := by
            rw [Lib.size_eq (s.extract 1 s.size), HB.out, Lib.size_eq s]; exact Nm.body_len _
          have HDs := Lib.hid hDs
          clear hDs
          go_wp2_with fail
          go_meet
          exact ⟨_, rfl, rfl, HDs.out, HB.out⟩
      case rest =>
        obtain ⟨D, rfl, rfl, hDs, hD⟩ := hcut
        have HD := Lib.hid hD
        clear hD
        have hmax : D.size ≤ 281474976710656 := by omega
        clear hDs
        have hnum : Nm.num s.data.toList = sgn ng (Nm.val 0 D.data.toList : Nat) := by
          rw [HD.out, Nm.num, ← HN.out]
          cases ng <;> rfl
        have HNUM := Lib.hid hnum
        clear hnum
        by_cases hlen : 19 < D.size
        · have hbig := Nm.val_big HU.out (by rw [← HD.out, ← Lib.size_eq]; exact hlen)
          rw [← HD.out] at hbig
          have hout : Nm.num s.data.toList < -9223372036854775808 ∨ 9223372036854775807 < Nm.num s.data.toList := by
            rw [HNUM.out]
            cases ng <;> simp only [sgn] <;> simp <;> omega
          have G1 : Hid (0 = Nm.parV s.data.toList) := by show _ = _; rw [← F1.out, Nm.cv_out hout]
          have G2 : Hid (9 = Nm.parE s.data.toList) := by show _ = _; rw [← F2.out, Nm.ce_out hout]
          clear hout hbig
          go_wp2_with fail
          go_ret2
          exact ⟨ret2_int G1.out G2.out, rfl⟩
        · have hall : D.data.toList.all Nm.isDig = true := by rw [HD.out]; exact (Nm.decU_parts HU.out).2.1
          have hsmall := Nm.val_small hall (by rw [← Lib.size_eq]; omega)
          have HALL := Lib.hid hall
          have HS := Lib.hid hsmall
          clear hall hsmall
          have hlen' : D.size ≤ 19 := by omega
          go_wp2_with fail
          go_loop [5, 6] (fun v k' => ∃ (V : Int) (k : Nat), v = .int .u64 V ∧ k' = .int .i64 k ∧ k ≤ D.size ∧ 0 ≤ V ∧ V < 10000000000000000000 ∧ Hid (V.toNat = Nm.val 0 (D.data.toList.take k))) (fun _ k' => D.size - (intOf k').toNat)
          case atStart => exact ⟨0, 0, rfl, rfl, by omega, by omega, by omega, rfl⟩
          case round =>
            obtain ⟨V, k, rfl, rfl, hk, hV0, hV1, HV⟩ := hrel
            by_cases hlt : k < D.size
            · have hT := Nm.bytes_take hlt
              have hdig := (Nm.isDig_iff _).1 (Nm.bytes_all _ HALL.out k hlt)
              have hVb : V < 1000000000000000000 := by
                have h1 := Nm.val_take_lt HALL.out (k := k) (by omega)
                have h2 := HV.out
                omega
              have HV2 : Hid ((10 * V + ((D[k].toNat : Int) - 48)).toNat = Nm.val 0 (D.data.toList.take (k + 1))) := by
                show _ = _
                rw [hT, Nm.val_snoc, ← HV.out]
                omega
              clear hT
              obtain ⟨hd1, hd2⟩ := hdig
              go_wp2_with fail
              go_round
              case rel => exact ⟨_, k + 1, rfl, by go_num, by omega, by omega, by omega, HV2⟩
              case measure => simp [intOf]; omega
            · have hkk : k = D.size := by omega
              have hv : (V.toNat : Nat) = Nm.val 0 D.data.toList := by
                have := HV.out
                rw [List.take_of_length_le (by rw [← Lib.size_eq]; omega)] at this
                exact this
              have G : Hid (Nm.num s.data.toList = sgn ng V) := by
                show _ = _
                rw [HNUM.out, ← hv, Int.toNat_of_nonneg hV0]
              clear hkk hv
              go_wp2_with (go_at_call 33; refine (ref_signed _ hV0 (by omega) _ _).mono ?_; rintro e w' ⟨rfl, rfl⟩)
              go_ret2
              exact ⟨ret2_int (by rw [← F1.out, G.out]) (by rw [← F2.out, G.out]), rfl⟩
end Go.Proofs.YtdgficnpppilfaaDoor
