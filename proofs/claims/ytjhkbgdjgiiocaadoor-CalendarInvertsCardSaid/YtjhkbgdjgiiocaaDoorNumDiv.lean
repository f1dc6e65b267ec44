/- Contract of math/bits.Div64, the library's long division: for hi below y, the quotient and the remainder of hi * 2^64 + lo by y; of what was there nothing has turned. -/
import Derived.Test.YtjhkbgdjgiiocaaDoorSeqA
import Derived.Test.YtjhkbgdjgiiocaaDoorNumU
import Derived.Test.YtjhkbgdjgiiocaaDoorShelf
import Derived.Lib.ItoaNum
import Derived.Laws.BitsAllLaws
import Derived.Deep.QuietTactic
import Derived.BigQuiet
import Derived.Deep.CutBlock
import Derived.Deep.DeepCutAuto
namespace Go.Proofs.YtjhkbgdjgiiocaaDoor
set_option maxRecDepth 20000
open Go.RowKit

/-- One call behind another: of what was there nothing has turned. -/
theorem below_then {w w1 w2 : World} (h1 : Below w.heap.size w w1) (h2 : Below w1.heap.size w1 w2) : Below w.heap.size w w2 := h1.trans (h2.mono h1.size)

namespace Nm
theorem lz_bd (y : Nat) (h0 : y ≠ 0) (h1 : y < 18446744073709551616) :
    ∃ s : Nat, (64 - (Lib.bitLen y : Int)) = (s : Int) ∧ s ≤ 63 ∧ 9223372036854775808 ≤ y * 2 ^ s ∧ y * 2 ^ s < 18446744073709551616 := by
  obtain ⟨b1, b2, b3⟩ := Lib.bitLenAux_bounds 64 y h1 h0
  have b4 : Lib.bitLenAux 64 y ≤ 64 := Lib.bitLenAux_le 64 y 64 h1
  have e : Lib.bitLen y = Lib.bitLenAux 64 y := rfl
  rw [e]
  generalize Lib.bitLenAux 64 y = b at *
  refine ⟨64 - b, by omega, by omega, ?_, ?_⟩
  · have h : 2 ^ (b - 1) * 2 ^ (64 - b) ≤ y * 2 ^ (64 - b) := Nat.mul_le_mul_right _ b2
    rw [← Nat.pow_add, show b - 1 + (64 - b) = 63 by omega] at h
    exact h
  · have h : y * 2 ^ (64 - b) < 2 ^ b * 2 ^ (64 - b) := Nat.mul_lt_mul_of_pos_right b3 (Nat.two_pow_pos _)
    rw [← Nat.pow_add, show b + (64 - b) = 64 by omega] at h
    exact h
/-- The two words of the shifted dividend. -/
theorem shift_words (hi lo y s : Nat) (hs : s ≤ 63) (h1 : hi < y) (l1 : lo < 18446744073709551616) (hv : y * 2 ^ s < 18446744073709551616) :
    hi * 2 ^ s < 18446744073709551616 ∧ (hi * 2 ^ s) ||| (lo / 2 ^ (64 - s)) = hi * 2 ^ s + lo / 2 ^ (64 - s) ∧
    hi * 2 ^ s + lo / 2 ^ (64 - s) < y * 2 ^ s ∧
    (hi * 18446744073709551616 + lo) * 2 ^ s = (hi * 2 ^ s + lo / 2 ^ (64 - s)) * 18446744073709551616 + lo * 2 ^ s % 18446744073709551616 := by
  have hp : 0 < 2 ^ s := Nat.two_pow_pos _
  have e64 : 2 ^ (64 - s) * 2 ^ s = 18446744073709551616 := by rw [← Nat.pow_add, show 64 - s + s = 64 by omega]
  have hlt : lo / 2 ^ (64 - s) < 2 ^ s := by
    refine Nat.div_lt_of_lt_mul ?_
    rw [e64]; exact l1
  have h2 : (hi + 1) * 2 ^ s ≤ y * 2 ^ s := Nat.mul_le_mul_right _ h1
  rw [Nat.add_mul, Nat.one_mul] at h2
  have e1 : lo * 2 ^ s / 18446744073709551616 = lo / 2 ^ (64 - s) := by
    rw [← e64, Nat.mul_div_mul_right _ _ hp]
  have e2 := Nat.div_add_mod (lo * 2 ^ s) 18446744073709551616
  rw [e1] at e2
  refine ⟨by omega, nat_join s _ _ (Nat.mul_mod_left _ _) hlt, by omega, ?_⟩
  rw [Nat.add_mul, Nat.add_mul, Nat.mul_right_comm]
  omega
theorem and_mask (a : Int) (h0 : 0 ≤ a) (h1 : a < 18446744073709551616) : bits .and .u64 a 4294967295 = a % 4294967296 := by
  rw [u64_and a 4294967295 h0 h1 (by omega) (by omega), show (4294967295 : Int).toNat = 2 ^ 32 - 1 from rfl, Nat.and_two_pow_sub_one_eq_mod]
  omega
theorem two_pow_cast (s : Nat) : ((2 : Int) ^ s) = ((2 ^ s : Nat) : Int) := by simp
theorem shl_mod (lo s : Nat) : IntKind.u64.wrap ((lo : Int) * 2 ^ s) = ((lo * 2 ^ s % 18446744073709551616 : Nat) : Int) := by
  rw [two_pow_cast, ← Int.natCast_mul, IntKind.wrap_u64]; omega
theorem shl_val (y s : Nat) (h : y * 2 ^ s < 18446744073709551616) : IntKind.u64.wrap ((y : Int) * 2 ^ s) = ((y * 2 ^ s : Nat) : Int) := by
  rw [shl_mod, Nat.mod_eq_of_lt h]
theorem or_val (hi lo s : Nat) (h : hi * 2 ^ s < 18446744073709551616) (e : (hi * 2 ^ s) ||| (lo / 2 ^ (64 - s)) = hi * 2 ^ s + lo / 2 ^ (64 - s)) (hl : lo < 18446744073709551616) :
    bits .or .u64 (IntKind.u64.wrap ((hi : Int) * 2 ^ s)) ((lo : Int) / 2 ^ (64 - s)) = ((hi * 2 ^ s + lo / 2 ^ (64 - s) : Nat) : Int) := by
  rw [shl_val hi s h, two_pow_cast, ← Int.natCast_ediv, u64_or_nat _ _ h (Nat.lt_of_le_of_lt (Nat.div_le_self _ _) hl), e]
theorem start_q (u2 v1 : Nat) (h : u2 < 18446744073709551616) : IntKind.u64.wrap ((u2 : Int) / (v1 : Int)) = ((u2 / v1 : Nat) : Int) := by
  rw [← Int.natCast_ediv]; exact U.wrapN _ (Nat.lt_of_le_of_lt (Nat.div_le_self _ _) h)
theorem start_r (u2 v1 : Nat) (h : u2 < 18446744073709551616) : IntKind.u64.wrap ((u2 : Int) - IntKind.u64.wrap (IntKind.u64.wrap ((u2 : Int) / (v1 : Int)) * (v1 : Int))) = ((u2 % v1 : Nat) : Int) := by
  have e := Nat.div_add_mod' u2 v1
  rw [start_q u2 v1 h, U.mulN, U.wrapN _ (by omega), show (u2 : Int) - ((u2 / v1 * v1 : Nat) : Int) = ((u2 % v1 : Nat) : Int) by omega]
  exact U.wrapN _ (Nat.lt_of_le_of_lt (Nat.mod_le _ _) h)
theorem q_bd (u2 v1 : Nat) (h : u2 < 18446744073709551616) (hv : 2147483648 ≤ v1) : u2 / v1 ≤ 8589934592 := by
  have h1 : u2 / v1 ≤ u2 / 2147483648 := Nat.div_le_div_left hv (by omega)
  omega
theorem dig_lt {v1 v0 u1 u2 : Nat} (hu1 : u1 < 4294967296) (hu2 : u2 < v1 * 4294967296 + v0) : (u2 * 4294967296 + u1) / (v1 * 4294967296 + v0) < 4294967296 := digit_lt_base hu1 hu2
theorem dig_start {B v1 v0 u1 u2 : Nat} (hv1 : 0 < v1) (hu : u1 < B) : (u2 * B + u1) / (v1 * B + v0) ≤ u2 / v1 := by
  rcases @digit_start B v1 v0 u1 u2 hv1 with h | h
  · exact h
  · omega
/-- What a loop of Div64 keeps (v1, v0: the divisor's halves; u2, u1: the dividend's), and what it leaves: the digit. -/
def dig (v1 v0 u1 u2 : Nat) : Nat := (u2 * 4294967296 + u1) / (v1 * 4294967296 + v0)
def Inv (v1 v0 u1 u2 : Nat) (Q R : Int) : Prop := Q.toNat * v1 + R.toNat = u2 ∧ dig v1 v0 u1 u2 ≤ Q.toNat
def DigOut (d : Nat) (q r : Value) : Prop := ∃ Q R : Int, q = .int .u64 Q ∧ r = .int .u64 R ∧ 0 ≤ Q ∧ Q < 4294967296 ∧ Q.toNat = d
section
variable {v1 v0 u1 u2 : Nat} {Q R : Int}
theorem Inv.dec (h : Inv v1 v0 u1 u2 Q R) (hd : dig v1 v0 u1 u2 < Q.toNat) (hR : 0 ≤ R) : Inv v1 v0 u1 u2 (Q - 1) (R + (v1 : Int)) := by
  obtain ⟨h1, h2⟩ := h
  have e : Q.toNat = (Q - 1).toNat + 1 := by omega
  refine ⟨?_, by omega⟩
  rw [e, Nat.add_mul, Nat.one_mul] at h1
  rw [Int.toNat_add hR (by omega), Int.toNat_natCast]
  omega
theorem Inv.big (_h : Inv v1 v0 u1 u2 Q R) (hd : dig v1 v0 u1 u2 < 4294967296) (hQ : 4294967296 ≤ Q) : dig v1 v0 u1 u2 < Q.toNat := by omega
theorem prod_wrap (hv0 : v0 < 4294967296) (hQ0 : 0 ≤ Q) (hQ : Q < 4294967296) : IntKind.u64.wrap (Q * (v0 : Int)) = ((Q.toNat * v0 : Nat) : Int) := by
  obtain ⟨Q, rfl⟩ := Int.eq_ofNat_of_zero_le hQ0
  rw [U.mulN, Int.toNat_natCast]
  exact U.wrapN _ (Nat.lt_of_le_of_lt (Go.Lib.half_mul_le (a := Q) (b := v0) (by omega) (by omega)) (by omega))
theorem Inv.more (h : Inv v1 v0 u1 u2 Q R) (hv1 : 0 < v1) (hv0 : v0 < 4294967296) (hQ0 : 0 ≤ Q) (hQ : Q < 4294967296) (hR : 0 ≤ R) (ht : 4294967296 * R + (u1 : Int) < IntKind.u64.wrap (Q * (v0 : Int))) : dig v1 v0 u1 u2 < Q.toNat := by
  rw [prod_wrap hv0 hQ0 hQ] at ht
  exact digit_less (by omega) h.1 (by omega)
theorem Inv.stop (h : Inv v1 v0 u1 u2 Q R) (hv1 : 0 < v1) (hv0 : v0 < 4294967296) (hQ0 : 0 ≤ Q) (hQ : Q < 4294967296) (hR : 0 ≤ R) (ht : ¬ 4294967296 * R + (u1 : Int) < IntKind.u64.wrap (Q * (v0 : Int))) : Q.toNat = dig v1 v0 u1 u2 := by
  rw [prod_wrap hv0 hQ0 hQ] at ht
  exact (digit_stop (by omega) h.1 h.2 (by omega)).symm
theorem Inv.brk (h : Inv v1 v0 u1 u2 Q R) (_hv1 : 0 < v1) (hv0 : v0 < 4294967296) (hu2 : u2 < v1 * 4294967296 + v0) (hR : 4294967296 ≤ R) : Q.toNat = dig v1 v0 u1 u2 :=
  (digit_break (by omega) hv0 hu2 h.1 (by omega) h.2).symm
theorem Inv.start (hv1 : 0 < v1) (hu1 : u1 < 4294967296) (hQ : Q.toNat = u2 / v1) (hR : R.toNat = u2 % v1) : Inv v1 v0 u1 u2 Q R := by
  refine ⟨by rw [hQ, hR]; exact Nat.div_add_mod' u2 v1, ?_⟩
  rw [hQ]; exact dig_start hv1 hu1
end
theorem start_qI {u2 v1 : Nat} {V1 : Int} (e : V1 = (v1 : Int)) (h : u2 < 18446744073709551616) : IntKind.u64.wrap ((u2 : Int) / V1) = ((u2 / v1 : Nat) : Int) := by rw [e]; exact start_q u2 v1 h
theorem start_rI {u2 v1 : Nat} {V1 : Int} (e : V1 = (v1 : Int)) (h : u2 < 18446744073709551616) : IntKind.u64.wrap ((u2 : Int) - IntKind.u64.wrap (IntKind.u64.wrap ((u2 : Int) / V1) * V1)) = ((u2 % v1 : Nat) : Int) := by rw [e]; exact start_r u2 v1 h
/-- What is left below a digit: reckoned modulo 2^64, it is the rest. -/
theorem rest_val {u2 v v1 v0 u1 : Nat} {Q W1 : Int} (eW : W1 = (u1 : Int)) (ev : v = v1 * 4294967296 + v0) (hv : 0 < v) (hvm : v < 18446744073709551616) (hQ0 : 0 ≤ Q) (hQ : Q.toNat = dig v1 v0 u1 u2) :
    IntKind.u64.wrap (IntKind.u64.wrap (IntKind.u64.wrap ((u2 : Int) * 4294967296) + W1) - IntKind.u64.wrap (Q * (v : Int))) = (((u2 * 4294967296 + u1) % v : Nat) : Int) := by
  obtain ⟨Q, rfl⟩ := Int.eq_ofNat_of_zero_le hQ0
  have h := Nat.div_add_mod' (u2 * 4294967296 + u1) v
  rw [Int.toNat_natCast] at hQ
  unfold dig at hQ
  rw [← ev] at hQ
  rw [← hQ] at h
  have hr : (u2 * 4294967296 + u1) % v < v := Nat.mod_lt _ hv
  generalize (u2 * 4294967296 + u1) % v = r at *
  simp only [IntKind.wrap_u64, eW, U.mulN]
  generalize Q * v = x at *
  omega
theorem div_fin {X y s U2 T u1 u0 V v1 v0 R1 Q1 Q2 : Nat} (hX : X * 2 ^ s = U2 * 18446744073709551616 + T) (hy : y * 2 ^ s = V) (hV : V = v1 * 4294967296 + v0) (hT : T = u1 * 4294967296 + u0)
    (hu0 : u0 < 4294967296) (hVp : 0 < V) (hR1 : R1 = (U2 * 4294967296 + u1) % V) (hQ1 : Q1 = dig v1 v0 u1 U2) (hQ2 : Q2 = dig v1 v0 u0 R1) :
    Q1 * 4294967296 + Q2 = X / y ∧ (R1 * 4294967296 + u0) % V / 2 ^ s = X % y := by
  have hp : 0 < 2 ^ s := Nat.two_pow_pos _
  obtain ⟨t1, t2⟩ := two_digits (U2 * 4294967296 + u1) u0 V 4294967296 hVp hu0
  have e : (U2 * 4294967296 + u1) * 4294967296 + u0 = X * 2 ^ s := by rw [hX, hT]; omega
  unfold dig at hQ1 hQ2
  rw [← hV] at hQ1 hQ2
  rw [← hR1] at t1 t2
  rw [e, ← hQ1, ← hQ2] at t1
  rw [e] at t2
  rw [← t1, ← t2, ← hy, Nat.mul_div_mul_right _ _ hp, Nat.mul_mod_mul_right, Nat.mul_div_cancel _ hp]
  exact ⟨rfl, rfl⟩
end Nm

end Go.Proofs.YtjhkbgdjgiiocaaDoor
