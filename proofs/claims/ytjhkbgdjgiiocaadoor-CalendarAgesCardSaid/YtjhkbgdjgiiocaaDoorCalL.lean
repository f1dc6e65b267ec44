/- Layer 6, the project's package calendar: hasTimeForm, digits. -/
import Derived.Test.YtjhkbgdjgiiocaaDoorCalK
import Derived.Test.YtjhkbgdjgiiocaaDoorNumDec
import Derived.Lib.Strings
namespace Go.Proofs.YtjhkbgdjgiiocaaDoor
set_option maxRecDepth 20000
open Go.RowKit
set_option linter.unusedVariables false
set_option linter.unusedSimpArgs false
theorem form_at (k : Nat) (h : k < (⟨#[48, 48, 48, 48, 45, 48, 48, 45, 48, 48, 32, 48, 48, 58, 48, 48]⟩ : ByteArray).size) (hk : k < 16) : (⟨#[48, 48, 48, 48, 45, 48, 48, 45, 48, 48, 32, 48, 48, 58, 48, 48]⟩ : ByteArray)[k].toNat = if Cl.FL.getD k 0 = 100 then 48 else Cl.FL.getD k 0 := by
  match k, hk with
  | 0, _ => rfl
  | 1, _ => rfl
  | 2, _ => rfl
  | 3, _ => rfl
  | 4, _ => rfl
  | 5, _ => rfl
  | 6, _ => rfl
  | 7, _ => rfl
  | 8, _ => rfl
  | 9, _ => rfl
  | 10, _ => rfl
  | 11, _ => rfl
  | 12, _ => rfl
  | 13, _ => rfl
  | 14, _ => rfl
  | 15, _ => rfl
  | n + 16, h => exact absurd h (by omega)
theorem form_no (k : Nat) (hk : k < 16) : Cl.FL.getD k 0 ≠ 48 := by
  have : ∀ k, k < 16 → Cl.FL.getD k 0 ≠ 48 := by decide
  exact this k hk
theorem cal_hasTimeForm (s : ByteArray) (hs : s.size ≤ 281474976710656) (w : World) : Calls Tryd.prog 39 #[.string s] w fun e w' => e = .returned (.bool (Cl.frm s.data.toList)) ∧ Below w.heap.size w w' := by
  have hlen : s.data.toList.length = s.size := by rw [Array.length_toList]; rfl
  by_cases h16 : s.size = 16
  · have H16 := Lib.hid h16
    have HLEN := Lib.hid hlen
    have hz1 : 16 ≤ s.size := by omega
    have hz2 : s.size ≤ 16 := by omega
    have hne : ((s.size : Int) == 16) = true := by rw [beq_iff_eq]; omega
    have hne' : ((s.size : Int) != 16) = false := by rw [bne, hne]; rfl
    clear hlen h16 hs
    go_enter Tryd.func39, Tryd.ntmps39
    go_wp2_with fail
    go_loopw [9] (fun i W => ∃ (k r : Nat), k ≤ 16 ∧ i = .int .i64 (k : Int) ∧ Hid (∀ j, j < k → Cl.okAt (Cl.FL.getD j 0) (Cl.byt s.data.toList j) = true) ∧ w.drewN r = W) (fun i _ => 16 - (intOf i).toNat)
    case atStart => exact ⟨0, 0, by omega, rfl, fun j hj => absurd hj (by omega), rfl⟩
    case round =>
      obtain ⟨k, r, hk, rfl, HK, rfl⟩ := hrel
      by_cases hlt : k < 16
      · have hlt' : (k : Int) < 16 := by omega
        have hks : k < s.size := by omega
        have hsb := byt_at hks
        have hkf : k < (⟨#[48, 48, 48, 48, 45, 48, 48, 45, 48, 48, 32, 48, 48, 58, 48, 48]⟩ : ByteArray).size := hlt
        have hfb := form_at k hkf hlt
        by_cases hf : Cl.FL.getD k 0 = 100
        · have hd1 : (((⟨#[48, 48, 48, 48, 45, 48, 48, 45, 48, 48, 32, 48, 48, 58, 48, 48]⟩ : ByteArray)[k].toNat : Int) == 48) = true := by rw [hfb, if_pos hf]; rfl
          by_cases hc : 48 ≤ s[k].toNat ∧ s[k].toNat ≤ 57
          · have c1 : decide ((s[k].toNat : Int) < 48) = false := by simp; omega
            have c2 : decide ((57 : Int) < (s[k].toNat : Int)) = false := by simp; omega
            have HK2 : Hid (∀ j, j < k + 1 → Cl.okAt (Cl.FL.getD j 0) (Cl.byt s.data.toList j) = true) := fun j hj => by
              rcases Nat.lt_or_ge j k with h | h
              · exact HK.out j h
              · obtain rfl : j = k := by omega
                rw [hf, hsb]; unfold Cl.okAt; rw [if_pos rfl, decide_eq_true_iff]; exact hc
            clear hf hc hfb hsb
            go_wp2_with fail
            go_roundw
            case rel => exact ⟨k + 1, _, by omega, by go_num, HK2, rfl⟩
            case measure => simp [intOf]; omega
          · have e1 : false = Cl.frm s.data.toList := (Cl.frm_at (L := s.data.toList) hlt (by
              rw [hf, hsb]; unfold Cl.okAt; rw [if_pos rfl, decide_eq_false_iff_not]; exact hc)).symm
            have E1 := Lib.hid e1
            by_cases hl : s[k].toNat < 48
            · have c1 : decide ((s[k].toNat : Int) < 48) = true := by simp; omega
              clear hf hc hfb hsb e1
              go_wp2_with fail
              go_ret
              exact ⟨ret_bool E1.out, below_drewN _ _⟩
            · have c1 : decide ((s[k].toNat : Int) < 48) = false := by simp; omega
              have c2 : decide ((57 : Int) < (s[k].toNat : Int)) = true := by simp; omega
              clear hf hc hfb hsb e1 hl
              go_wp2_with fail
              go_ret
              exact ⟨ret_bool E1.out, below_drewN _ _⟩
        · rw [if_neg hf] at hfb
          have hn48 : (⟨#[48, 48, 48, 48, 45, 48, 48, 45, 48, 48, 32, 48, 48, 58, 48, 48]⟩ : ByteArray)[k].toNat ≠ 48 := by rw [hfb]; exact form_no k hlt
          have hd1 : (((⟨#[48, 48, 48, 48, 45, 48, 48, 45, 48, 48, 32, 48, 48, 58, 48, 48]⟩ : ByteArray)[k].toNat : Int) == 48) = false := by rw [beq_eq_false_iff_ne]; omega
          by_cases hc : s[k].toNat = (⟨#[48, 48, 48, 48, 45, 48, 48, 45, 48, 48, 32, 48, 48, 58, 48, 48]⟩ : ByteArray)[k].toNat
          · have c1 : ((s[k].toNat : Int) == ((⟨#[48, 48, 48, 48, 45, 48, 48, 45, 48, 48, 32, 48, 48, 58, 48, 48]⟩ : ByteArray)[k].toNat : Int)) = true := by rw [beq_iff_eq]; omega
            have c2 : ((s[k].toNat : Int) != ((⟨#[48, 48, 48, 48, 45, 48, 48, 45, 48, 48, 32, 48, 48, 58, 48, 48]⟩ : ByteArray)[k].toNat : Int)) = false := by rw [bne, c1]; rfl
            have HK2 : Hid (∀ j, j < k + 1 → Cl.okAt (Cl.FL.getD j 0) (Cl.byt s.data.toList j) = true) := fun j hj => by
              rcases Nat.lt_or_ge j k with h | h
              · exact HK.out j h
              · obtain rfl : j = k := by omega
                rw [hsb]; unfold Cl.okAt; rw [if_neg hf, decide_eq_true_iff]; omega
            clear hf hc hfb hsb hn48
            go_wp2_with fail
            go_quiet (fail)
            go_wp2_with fail
            go_roundw
            case rel => exact ⟨k + 1, _, by omega, by go_num, HK2, rfl⟩
            case measure => simp [intOf]; omega
          · have c1 : ((s[k].toNat : Int) == ((⟨#[48, 48, 48, 48, 45, 48, 48, 45, 48, 48, 32, 48, 48, 58, 48, 48]⟩ : ByteArray)[k].toNat : Int)) = false := by rw [beq_eq_false_iff_ne]; omega
            have c2 : ((s[k].toNat : Int) != ((⟨#[48, 48, 48, 48, 45, 48, 48, 45, 48, 48, 32, 48, 48, 58, 48, 48]⟩ : ByteArray)[k].toNat : Int)) = true := by rw [bne, c1]; rfl
            have e1 : false = Cl.frm s.data.toList := (Cl.frm_at (L := s.data.toList) hlt (by
              rw [hsb]; unfold Cl.okAt; rw [if_neg hf, decide_eq_false_iff_not]; omega)).symm
            have E1 := Lib.hid e1
            clear hf hc hfb hsb e1 hn48
            go_wp2_with fail
            go_quiet (fail)
            go_wp2_with fail
            go_ret
            exact ⟨ret_bool E1.out, bdr2 _ _ _⟩
      · have F : Hid (true = Cl.frm s.data.toList) := (Cl.frm_iff.2 ⟨by rw [HLEN.out, H16.out], fun i hi => HK.out i (by omega)⟩).symm
        have hge : ¬ (k : Int) < 16 := by omega
        have hge2 : ¬ (k : Int) < (s.size : Int) := by omega
        clear HK
        go_wp2_with fail
        go_ret
        exact ⟨ret_bool F.out, below_drewN _ _⟩
  · have F : Hid (false = Cl.frm s.data.toList) := (Cl.frm_size (L := s.data.toList) (by omega)).symm
    have hne : ((s.size : Int) == 16) = false := by rw [beq_eq_false_iff_ne]; omega
    have hne' : ((s.size : Int) != 16) = true := by rw [bne, hne]; rfl
    clear hlen h16
    go_enter Tryd.func39, Tryd.ntmps39
    go_wp2_with fail
    go_ret
    exact ⟨ret_bool F.out, Below.refl _ _⟩
namespace Cl
/-- The number that a few decimal digits are. -/
def dgs (L : List UInt8) : Nat := L.foldl (fun a c => a * 10 + (c.toNat - 48)) 0
theorem dgs_snoc (L : List UInt8) (c : UInt8) : dgs (L ++ [c]) = dgs L * 10 + (c.toNat - 48) := by unfold dgs; rw [List.foldl_append]; rfl
theorem dgs_bd : ∀ (L : List UInt8), (∀ c ∈ L, c.toNat ≤ 57) → L.length ≤ 4 → dgs L ≤ 9999 := by
  intro L h hl
  match L, h, hl with
  | [], _, _ => exact Nat.zero_le _
  | [a], h, _ =>
    have h1 := h a (by simp)
    simp only [dgs, List.foldl]; omega
  | [a, b], h, _ =>
    have h1 := h a (by simp); have h2 := h b (by simp)
    simp only [dgs, List.foldl]; omega
  | [a, b, c], h, _ =>
    have h1 := h a (by simp); have h2 := h b (by simp); have h3 := h c (by simp)
    simp only [dgs, List.foldl]; omega
  | [a, b, c, d], h, _ =>
    have h1 := h a (by simp); have h2 := h b (by simp); have h3 := h c (by simp); have h4 := h d (by simp)
    simp only [dgs, List.foldl]; omega
  | _ :: _ :: _ :: _ :: _ :: _, _, hl => simp at hl
end Cl
theorem cal_digits (s : ByteArray) (hs : s.size ≤ 4) (hd : ∀ c ∈ s.data.toList, 48 ≤ c.toNat ∧ c.toNat ≤ 57) (w : World) : Calls Tryd.prog 40 #[.string s] w fun e w' => e = .returned (.int .i64 (Cl.dgs s.data.toList : Nat)) ∧ w = w' := by
  have HD := Lib.hid hd
  clear hd
  go_enter Tryd.func40, Tryd.ntmps40
  go_wp2_with fail
  go_loop [3, 7] (fun n i => ∃ (k a : Nat), k ≤ s.size ∧ i = .int .i64 (k : Int) ∧ n = .int .i64 (a : Int) ∧ a ≤ 9999 ∧ Hid (a = Cl.dgs (s.data.toList.take k))) (fun _ i => s.size - (intOf i).toNat)
  case atStart => exact ⟨0, 0, by omega, rfl, rfl, by omega, rfl⟩
  case round =>
    obtain ⟨k, a, hk, rfl, rfl, ha, HA⟩ := hrel
    by_cases hlt : k < s.size
    · have hlt' : (k : Int) < (s.size : Int) := by omega
      have hT := Nm.bytes_take hlt
      have hc2 : 48 ≤ s[k].toNat ∧ s[k].toNat ≤ 57 := HD.out s[k] (List.mem_of_mem_take (i := k + 1) (by rw [hT]; simp))
      have c0 := hc2.1
      have c1 := hc2.2
      have hN : a * 10 + (s[k].toNat - 48) = Cl.dgs (s.data.toList.take (k + 1)) := by
        rw [hT, Cl.dgs_snoc, ← HA.out]
      have hb : a * 10 + (s[k].toNat - 48) ≤ 9999 := by
        rw [hN]
        refine Cl.dgs_bd _ (fun c hc => (HD.out c (List.mem_of_mem_take hc)).2) ?_
        rw [List.length_take, ← Lib.size_eq]; omega
      have HN := Lib.hid hN
      obtain ⟨b, eb⟩ : ∃ b, b = a * 10 + (s[k].toNat - 48) := ⟨_, rfl⟩
      have f1 : (a : Int) * 10 + ((s[k].toNat : Int) - 48) = (b : Int) := by omega
      have HB : Hid (b = Cl.dgs (s.data.toList.take (k + 1))) := by show _ = _; rw [eb]; exact hN
      have hb2 : b ≤ 9999 := by omega
      clear hN hT eb HN hb hc2
      go_wp2_with fail
      go_round
      case rel => exact ⟨k + 1, b, by omega, by go_num, by go_num, hb2, HB⟩
      case measure => simp [intOf]; omega
    · have hge : ¬ (k : Int) < (s.size : Int) := by omega
      have F : Hid ((a : Int) = (Cl.dgs s.data.toList : Nat)) := by
        show _ = _
        rw [HA.out, List.take_of_length_le (by rw [← Lib.size_eq]; omega)]
      go_wp2_with fail
      go_ret
      exact ⟨ret_int F.out, rfl⟩
end Go.Proofs.YtjhkbgdjgiiocaaDoor
