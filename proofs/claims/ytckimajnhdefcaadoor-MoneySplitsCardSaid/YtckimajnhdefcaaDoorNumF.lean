/- Contract of the reference's Format: the decimal number of an int. -/
import Derived.Test.YtckimajnhdefcaaDoorNumT
import Derived.Laws.IdiomStrings
import Derived.Laws.Concat
namespace Go.Proofs.YtckimajnhdefcaaDoor
open Go.RowKit

namespace Nm
/-- What Format's loop keeps: the digits that are still to come, and those that are there. -/
def Wrote (A S : Int) (T : ByteArray) : Prop := Lib.decDigits A.toNat = (if S < 10 then [] else Lib.decDigits (S.toNat / 10)) ++ T.data.toList
def Shr (A S I : Int) : Prop := S.toNat = A.toNat / 10 ^ I.toNat
theorem Wrote.start {A : Int} (hA : 0 ≤ A) : Wrote A A ⟨#[UInt8.ofNat (48 + A % 10).toNat]⟩ := by
  unfold Wrote
  rw [Lib.decDigits]
  by_cases h : A < 10
  · rw [dif_pos (by omega), if_pos h, show (48 + A % 10).toNat = 48 + A.toNat by omega]; rfl
  · rw [dif_neg (by omega), if_neg h, show (48 + A % 10).toNat = 48 + A.toNat % 10 by omega]
theorem Wrote.step {A S : Int} {T : ByteArray} (h : Wrote A S T) (hS : 10 ≤ S) : Wrote A (S / 10) (⟨#[UInt8.ofNat (48 + S / 10 % 10).toNat]⟩ ++ T) := by
  unfold Wrote at h ⊢
  rw [if_neg (by omega)] at h
  have e : Lib.decDigits (S.toNat / 10) = if h : S.toNat / 10 < 10 then [UInt8.ofNat (48 + S.toNat / 10)] else Lib.decDigits (S.toNat / 10 / 10) ++ [UInt8.ofNat (48 + S.toNat / 10 % 10)] := by rw [Lib.decDigits]
  rw [h, e, ByteArray.data_append, Array.toList_append, ← List.append_assoc]
  congr 1
  by_cases h2 : S / 10 < 10
  · rw [dif_pos (by omega), if_pos h2, show (48 + S / 10 % 10).toNat = 48 + S.toNat / 10 by omega]; rfl
  · rw [dif_neg (by omega), if_neg h2, show (48 + S / 10 % 10).toNat = 48 + S.toNat / 10 % 10 by omega, show (S / 10).toNat / 10 = S.toNat / 10 / 10 by omega]
theorem Wrote.fin {A S : Int} {T : ByteArray} (h : Wrote A S T) (hS : S < 10) : T.data.toList = Lib.decDigits A.toNat := by
  unfold Wrote at h
  rw [if_pos hS, List.nil_append] at h
  exact h.symm
theorem Shr.step {A S I : Int} (h : Shr A S I) (hI : 0 ≤ I) : Shr A (S / 10) (I + 1) := by
  unfold Shr at h ⊢
  rw [show (I + 1).toNat = I.toNat + 1 by omega, Nat.pow_succ, ← Nat.div_div_eq_div_mul, ← h]; omega
theorem Shr.fin {A S I : Int} (h : Shr A S I) (hI : 20 ≤ I) (hA : A < 18446744073709551616) : S < 10 := by
  unfold Shr at h
  have h1 : (10 : Nat) ^ 20 ≤ 10 ^ I.toNat := Nat.pow_le_pow_right (by omega) (by omega)
  have h2 : (10 : Nat) ^ 20 = 100000000000000000000 := by decide
  rw [Nat.div_eq_of_lt (by omega)] at h
  omega
end Nm
theorem conv_byte (x : Int) (hx : 0 ≤ x ∧ x ≤ 255) (w : World) :
    (convert 53 9 (.slice (some ⟨w.heap.size, 0, none⟩) 1 1)).run Tryd.prog (w.alloc (.cells #[.int .u8 x] 5)) = .ok (.string ⟨#[UInt8.ofNat x.toNat]⟩) (w.alloc (.cells #[.int .u8 x] 5)) := by
  refine run_convert_bytes_back (P := Tryd.prog) _ 53 9 5 ⟨w.heap.size, 0, none⟩ 1 [UInt8.ofNat x.toNat] Tryd.underlying53 Tryd.underlying5 Tryd.underlying9 ?_
  intro j hj
  have : j = 0 := by simpa using hj
  subst this
  have e : ((UInt8.ofNat x.toNat).toNat : Int) = x := by rw [UInt8.toNat_ofNat']; omega
  simp only [List.getElem_cons_zero, e]
  simp [Addr.add, World.cell?_alloc_new]

theorem ret_str {a b : ByteArray} (h : a = b) : Ending.returned (.string a) = .returned (.string b) := by rw [h]

end Go.Proofs.YtckimajnhdefcaaDoor
