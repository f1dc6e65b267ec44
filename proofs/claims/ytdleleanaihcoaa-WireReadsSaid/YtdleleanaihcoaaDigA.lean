/- Layer 7: the reference's Sum, Mix, Unmix, Keyed, Chain. -/
import Derived.Test.YtdleleanaihcoaaNumA
import Derived.Test.YtdleleanaihcoaaSeqA
import Derived.Test.YtdleleanaihcoaaDigMath
namespace Go.Proofs.Ytdleleanaihcoaa
set_option maxRecDepth 20000
open Go.RowKit
set_option linter.unusedVariables false
set_option linter.unusedSimpArgs false
theorem sum_take {s : ByteArray} {k : Nat} (h : k < s.size) : Dg.sumV (s.data.toList.take (k + 1)) = Dg.stepV (Dg.sumV (s.data.toList.take k)) s[k] := by
  have h' : k < s.data.toList.length := by rw [Array.length_toList]; exact h
  rw [List.take_succ_eq_append_getElem h', Dg.sum_snoc]; rfl
theorem ref7_Sum (s : ByteArray) (w : World) (hs : s.size ≤ 281474976710656) : Calls Try.prog 59 #[.string s] w fun e w' => e = .returned (.int .u64 (Dg.sum s.data.toList)) ∧ w = w' := by
  go_enter Try.func59, Try.ntmps59
  go_wp2_with fail
  go_loopw [3, 4] (fun x i W => ∃ (k : Nat) (X : Int), k ≤ s.size ∧ 0 ≤ X ∧ X ≤ 18446744073709551615 ∧ x = .int .u64 X ∧ i = .int .i64 (k : Int) ∧ Hid (X = Dg.I (Dg.sumV (s.data.toList.take k))) ∧ W = w) (fun _ i _ => s.size - (intOf i).toNat)
  case atStart => exact ⟨0, 14695981039346656037, by omega, by omega, by omega, rfl, rfl, rfl, rfl⟩
  case round =>
    obtain ⟨k, X, hk, X0, X1, rfl, rfl, HX, rfl⟩ := hrel
    by_cases hlt : k < s.size
    · obtain ⟨Z, eZ⟩ : ∃ Z, Z = IntKind.u64.wrap (bits .xor .u64 X (s[k].toNat : Int) * 1099511628211) := ⟨_, rfl⟩
      have hz : Z = Dg.I (Dg.sumV (s.data.toList.take (k + 1))) := by
        rw [eZ, HX.out, Dg.sum_step, sum_take hlt]
      have hb := Dg.I_bd (Dg.sumV (s.data.toList.take (k + 1)))
      rw [← hz] at hb
      obtain ⟨Z0, Z1⟩ := hb
      have HZ := Lib.hid hz
      have hcb : (s[k].toNat : Int) ≤ 255 := by have := s[k].toNat_lt; omega
      have hcw : IntKind.u64.wrap (s[k].toNat : Int) = (s[k].toNat : Int) := by rw [IntKind.wrap_u64]; omega
      have eZ' : IntKind.u64.wrap (bits .xor .u64 X (s[k].toNat : Int) * 1099511628211) = Z := eZ.symm
      clear hz eZ
      go_wp2_with fail
      go_roundw
      case rel => exact ⟨k + 1, Z, by omega, Z0, Z1, rfl, by go_num, HZ, trivial⟩
      case measure => simp [intOf]; omega
    · have F : Hid (X = Dg.sum s.data.toList) := by
        show _ = _
        rw [HX.out, List.take_of_length_le (by rw [Array.length_toList]; show s.size ≤ k; omega)]; rfl
      go_wp2_with fail
      go_ret
      exact ⟨ret_int F.out, rfl⟩
end Go.Proofs.Ytdleleanaihcoaa
