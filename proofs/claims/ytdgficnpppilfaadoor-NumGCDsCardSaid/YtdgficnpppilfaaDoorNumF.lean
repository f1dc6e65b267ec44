/- Contract of the reference's Format: the decimal number of an int. -/
import Derived.Test.YtdgficnpppilfaaDoorNumT
import Derived.Laws.IdiomStrings
import Derived.Laws.Concat
namespace Go.Proofs.YtdgficnpppilfaaDoor
open Go.RowKit

namespace Nm
/-- What Format's loop keeps: the digits that are still to come, and those that are there. -/
def Wrote (A S : Int) (T : ByteArray) : Prop := Lib.decDigits A.toNat = (if S < 10 then [] else Lib.decDigits (S.toNat / 10)) ++ T.data.toList
def Shr (A S I : Int) : Prop := S.toNat = A.toNat / 10 ^ I.toNat
theorem Wrote.start {A : Int} (hA : 0 ≤ A) : Wrote A A ⟨#[UInt8.ofNat (48 + A % 10).toNat]⟩ := by
  unfold Wrote
  rw [Lib.decDigits]
  by_cases h : A < 10
  · rw [dif_pos (by omega), if_pos h, show (48 + A % 10).toNat = 48 + A.toNat by omega]; rfl
  · rw [dif_neg (by omega), if_neg h, show (48 + A % 10).toNat = 48 + A.toNat % 10 by omega]
theorem Wrote.step {A S : Int} {T : ByteArray} (h : Wrote A S T) (hS : 10 ≤ S) : Wrote A (S / 10) (⟨#[UInt8.ofNat (48 + S / 10 % 10).toNat]⟩ ++ T) := by
  unfold Wrote at h ⊢
  rw [if_neg (by omega)] at h
  have e : Lib.decDigits (S.toNat / 10) = if h : S.toNat / 10 < 10 then [UInt8.ofNat (48 + S.toNat / 10)] else Lib.decDigits (S.toNat / 10 / 10) ++ [UInt8.ofNat (48 + S.toNat / 10 % 10)] := by rw [Lib.decDigits]
  rw [h, e, ByteArray.data_append, Array.toList_append, ← List.append_assoc]
  congr 1
  by_cases h2 : S / 10 < 10
  · rw [dif_pos (by omega), if_pos h2, show (48 + S / 10 % 10).toNat = 48 + S.toNat / 10 by omega]; rfl
  · rw [dif_neg (by omega), if_neg h2, show (48 + S / 10 % 10).toNat = 48 + S.toNat / 10 % 10 by omega, show (S / 10).toNat / 10 = S.toNat / 10 / 10 by omega]
theorem Wrote.fin {A S : Int} {T : ByteArray} (h : Wrote A S T) (hS : S < 10) : T.data.toList = Lib.decDigits A.toNat := by
  unfold Wrote at h
  rw [if_pos hS, List.nil_append] at h
  exact h.symm
theorem Shr.step {A S I : Int} (h : Shr A S I) (hI : 0 ≤ I) : Shr A (S / 10) (I + 1) := by
  unfold Shr at h ⊢
  rw [show (I + 1).toNat = I.toNat + 1 by omega, Nat.pow_succ, ← Nat.div_div_eq_div_mul, ← h]; omega
theorem Shr.fin {A S I : Int} (h : Shr A S I) (hI : 20 ≤ I) (hA : A < 18446744073709551616) : S < 10 := by
  unfold Shr at h
  have h1 : (10 : Nat) ^ 20 ≤ 10 ^ I.toNat := Nat.pow_le_pow_right (by omega) (by omega)
  have h2 : (10 : Nat) ^ 20 = 100000000000000000000 := by decide
  rw [Nat.div_eq_of_lt (by omega)] at h
  omega
end Nm
theorem conv_byte (x : Int) (hx : 0 ≤ x ∧ x ≤ 255) (w : World) :
    (convert 47 9 (.slice (some ⟨w.heap.size, 0, none⟩) 1 1)).run Tryd.prog (w.alloc (.cells #[.int .u8 x] 5)) = .ok (.string ⟨#[UInt8.ofNat x.toNat]⟩) (w.alloc (.cells #[.int .u8 x] 5)) := by
  refine run_convert_bytes_back (P := Tryd.prog) _ 47 9 5 ⟨w.heap.size, 0, none⟩ 1 [UInt8.ofNat x.toNat] Tryd.underlying47 Tryd.underlying5 Tryd.underlying9 ?_
  intro j hj
  have : j = 0 := by simpa using hj
  subst this
  have e : ((UInt8.ofNat x.toNat).toNat : Int) = x := by rw [UInt8.toNat_ofNat']; omega
  simp only [List.getElem_cons_zero, e]
  simp [Addr.add, World.cell?_alloc_new]

theorem ret_str {a b : ByteArray} (h : a = b) : Ending.returned (.string a) = .returned (.string b) := by rw [h]

theorem ref_Format (n : Int) (h0 : -9223372036854775808 ≤ n) (h1 : n ≤ 9223372036854775807) (w : World) :
    Calls Tryd.prog 29 #[.int .i64 n] w fun e w' => e = .returned (.string ⟨(Lib.itoa n).toArray⟩) ∧ Below w.heap.size w w' := by
  obtain ⟨A, eA⟩ : ∃ A : Int, A = (n.natAbs : Int) := ⟨_, rfl⟩
  have gA := fun w => ref_Size n h0 h1 w
  rw [← eA] at gA
  have GA := Lib.hid gA
  have HA : Hid (A.toNat = n.natAbs) := by show _ = _; omega
  have a0 : 0 ≤ A := by omega
  have a1 : A < 18446744073709551616 := by omega
  clear gA eA
  have hc := conv_byte (48 + A % 10) (by omega)
  go_enter Tryd.func29, Tryd.ntmps29
  go_wp2_with fail
  refine (GA.out _).mono ?_
  rintro e w' ⟨rfl, rfl⟩
  go_wp2_with fail
  go_loopw [3, 4, 5] (fun s t i wr => ∃ (S I : Int) (T : ByteArray), s = .int .u64 S ∧ t = .string T ∧ i = .int .i64 I ∧ 0 ≤ I ∧ I ≤ 20 ∧ 0 ≤ S ∧ S < 18446744073709551616 ∧ T.size ≤ 1 + I ∧ Hid (Nm.Wrote A S T) ∧ Hid (Nm.Shr A S I) ∧ Below w.heap.size w wr) (fun _ _ i _ => (20 - intOf i).toNat)
  case atStart => exact ⟨A, 0, _, rfl, rfl, rfl, by omega, by omega, a0, a1, by show ((1 : Nat) : Int) ≤ 1 + 0; omega, Nm.Wrote.start a0, by show _ = _; simp, (Below.refl _ _).alloc (Nat.le_refl _) _⟩
  case round =>
    clear hc
    obtain ⟨S, I, T, rfl, rfl, rfl, i0, i1, s0, s1, hT, HW, HS, hb⟩ := hrel
    have hsz := hb.size
    by_cases hS : 10 ≤ S
    · have hI : I < 20 := by
        by_cases h : I < 20
        · exact h
        · have := HS.out.fin (by omega) a1; omega
      have hc := conv_byte (48 + S / 10 % 10) (by omega)
      have HW2 := Lib.hid (HW.out.step hS)
      have HS2 := Lib.hid (HS.out.step i0)
      go_wp2_with fail
      go_roundw
      case rel => exact ⟨_, _, _, rfl, rfl, rfl, by omega, by omega, by omega, by omega, by rw [ByteArray.size_append]; show ((1 + T.size : Nat) : Int) ≤ _; omega, HW2, HS2, hb.alloc hsz _⟩
      case measure => simp [intOf]; omega
    · have hT2 : (T.size : Int) ≤ 21 := by omega
      have e := HW.out.fin (by omega)
      rw [HA.out] at e
      have F : Hid ((if n < 0 then ⟨#[45]⟩ ++ T else T) = (⟨(Lib.itoa n).toArray⟩ : ByteArray)) := by
        show _ = _
        unfold Lib.itoa
        by_cases hn : n < 0
        · rw [if_pos hn, if_pos hn, ← e]
          exact ByteArray.ext (by rw [ByteArray.data_append]; simp)
        · rw [if_neg hn, if_neg hn, show n.toNat = n.natAbs by omega, ← e]
      clear e
      by_cases hn : n < 0
      · have F2 : Hid (⟨#[45]⟩ ++ T = (⟨(Lib.itoa n).toArray⟩ : ByteArray)) := by show _ = _; rw [← F.out, if_pos hn]
        by_cases hI : I < 20
        · go_wp2_with fail
          go_ret
          exact ⟨ret_str F2.out, hb⟩
        · go_wp2_with fail
          go_ret
          exact ⟨ret_str F2.out, hb⟩
      · have F2 : Hid (T = (⟨(Lib.itoa n).toArray⟩ : ByteArray)) := by show _ = _; rw [← F.out, if_neg hn]
        by_cases hI : I < 20
        · go_wp2_with fail
          go_ret
          exact ⟨ret_str F2.out, hb⟩
        · go_wp2_with fail
          go_ret
          exact ⟨ret_str F2.out, hb⟩
end Go.Proofs.YtdgficnpppilfaaDoor
