/- Contracts of layer 1's small functions (num.Add, num.Sub, num.Mul, num.magnitude and the reference's twins): each returns the checked sum, difference or product, or the absolute value; the world is as it was. -/
import Derived.Test.YtdleleanaihcoaaProg
import Derived.Test.YtdleleanaihcoaaNumMath
import Derived.WalkKit
import Derived.WalkSpells
import Derived.IntWalk
namespace Go.Proofs.Ytdleleanaihcoaa
set_option maxRecDepth 20000
open Go.RowKit

namespace Nm
theorem fits_pp {a b : Int} (h1 : 0 < a) (h2 : 0 < b) : decide (b ≤ 9223372036854775807 / a) = fits (a * b) := by
  have h := @Int.le_ediv_iff_mul_le b 9223372036854775807 a h1
  have h3 : 0 < a * b := Int.mul_pos h1 h2
  rw [Int.mul_comm b a] at h
  rw [Bool.eq_iff_iff, fits_iff, decide_eq_true_iff, h]
  omega
theorem div_bd {a : Int} (n : Int) (h1 : 0 < a) (hn : 0 ≤ n) : 0 ≤ n / a ∧ n / a ≤ n :=
  ⟨Int.ediv_nonneg hn (Int.le_of_lt h1), Int.ediv_le_self _ hn⟩
theorem fits_pn {a b : Int} (h1 : 0 < a) (h2 : b < 0) : decide (wrap64 (-Int.tdiv 9223372036854775808 a) ≤ b) = fits (a * b) := by
  have hb := div_bd 9223372036854775808 h1 (by omega)
  rw [Int.tdiv_eq_ediv_of_nonneg (by omega), IntWalk.wrap64_in _ ⟨by omega, by omega⟩]
  have h := @Int.le_ediv_iff_mul_le (-b) 9223372036854775808 a h1
  have h3 : 0 < a * (-b) := Int.mul_pos h1 (by omega)
  rw [Int.neg_mul, Int.mul_comm b a] at h
  rw [Int.mul_neg] at h3
  rw [Bool.eq_iff_iff, fits_iff, decide_eq_true_iff]
  omega
theorem fits_np {a b : Int} (h1 : a < 0) (h2 : 0 < b) : decide (wrap64 (-Int.tdiv 9223372036854775808 b) ≤ a) = fits (a * b) := by
  rw [fits_pn h2 h1, Int.mul_comm]
theorem fits_nn {a b : Int} (h1 : a < 0) (h2 : b < 0) : decide (wrap64 (Int.tdiv 9223372036854775807 a) ≤ b) = fits (a * b) := by
  have ha : 0 < -a := by omega
  have hb := div_bd 9223372036854775807 ha (by omega)
  have e : Int.tdiv 9223372036854775807 a = -(9223372036854775807 / (-a)) := by
    rw [← Int.tdiv_eq_ediv_of_nonneg (by omega), Int.tdiv_neg, Int.neg_neg]
  rw [e, IntWalk.wrap64_in _ ⟨by omega, by omega⟩]
  have h := @Int.le_ediv_iff_mul_le (-b) 9223372036854775807 (-a) ha
  have h3 : 0 < (-a) * (-b) := Int.mul_pos ha (by omega)
  rw [Int.mul_neg, Int.neg_mul, Int.neg_neg, Int.mul_comm b a] at h
  rw [Int.mul_neg, Int.neg_mul, Int.neg_neg] at h3
  rw [Bool.eq_iff_iff, fits_iff, decide_eq_true_iff]
  omega
theorem fits_zero {a b : Int} (h : ¬ 0 < a ∧ ¬ a < 0 ∨ ¬ 0 < b ∧ ¬ b < 0) : fits (a * b) = true := by
  have : a * b = 0 := by
    rcases h with ⟨h1, h2⟩ | ⟨h1, h2⟩
    · have : a = 0 := by omega
      rw [this, Int.zero_mul]
    · have : b = 0 := by omega
      rw [this, Int.mul_zero]
  rw [this]; rfl
theorem cv_wrap {n : Int} (h : fits n = true) : wrap64 n = cv n := by
  have h' := (fits_iff n).1 h
  rw [IntWalk.wrap64_in _ ⟨by omega, by omega⟩, cv_in h']
theorem ce_fits {n : Int} (h : fits n = true) : 0 = ce n := (ce_in ((fits_iff n).1 h)).symm
theorem cv_not {n : Int} (h : fits n = false) : 0 = cv n := by unfold cv; rw [h]; rfl
theorem ce_not {n : Int} (h : fits n = false) : 9 = ce n := by unfold ce; rw [h]; rfl
end Nm

theorem ret_bool {a b : Bool} (h : a = b) : Ending.returned (.bool a) = .returned (.bool b) := by rw [h]
theorem ret_int {k : IntKind} {a b : Int} (h : a = b) : Ending.returned (.int k a) = .returned (.int k b) := by rw [h]
theorem ret2_int {k1 k2 : IntKind} {a b c d : Int} (h1 : a = c) (h2 : b = d) : Ending.returned (.tuple #[.int k1 a, .int k2 b]) = .returned (.tuple #[.int k1 c, .int k2 d]) := by rw [h1, h2]
theorem ret3_int {k1 k2 k3 : IntKind} {a b c d e f : Int} (h1 : a = d) (h2 : b = e) (h3 : c = f) : Ending.returned (.tuple #[.int k1 a, .int k2 b, .int k3 c]) = .returned (.tuple #[.int k1 d, .int k2 e, .int k3 f]) := by rw [h1, h2, h3]

-- the reference's twin
-- the reference's twin
end Go.Proofs.Ytdleleanaihcoaa
