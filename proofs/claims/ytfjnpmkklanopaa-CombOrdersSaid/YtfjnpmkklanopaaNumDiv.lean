/- Contract of math/bits.Div64, the library's long division: for hi below y, the quotient and the remainder of hi * 2^64 + lo by y; of what was there nothing has turned. -/
import Derived.Test.YtfjnpmkklanopaaNumU
import Derived.Test.YtfjnpmkklanopaaShelf
import Derived.Lib.ItoaNum
import Derived.Laws.BitsAllLaws
import Derived.Deep.QuietTactic
import Derived.BigQuiet
import Derived.Deep.CutBlock
import Derived.Deep.DeepCutAuto
namespace Go.Proofs.Ytfjnpmkklanopaa
set_option maxRecDepth 20000
open Go.RowKit

/-- One call behind another: of what was there nothing has turned. -/
theorem below_then {w w1 w2 : World} (h1 : Below w.heap.size w w1) (h2 : Below w1.heap.size w1 w2) : Below w.heap.size w w2 := h1.trans (h2.mono h1.size)
theorem below_drewN (w : World) (n : Nat) : Below w.heap.size w (w.drewN n) := ⟨rfl, rfl, rfl, Nat.le_refl _, fun _ _ => rfl⟩

namespace Nm
theorem lz_bd (y : Nat) (h0 : y ≠ 0) (h1 : y < 18446744073709551616) :
    ∃ s : Nat, (64 - (Lib.bitLen y : Int)) = (s : Int) ∧ s ≤ 63 ∧ 9223372036854775808 ≤ y * 2 ^ s ∧ y * 2 ^ s < 18446744073709551616 := by
  obtain ⟨b1, b2, b3⟩ := Lib.bitLenAux_bounds 64 y h1 h0
  have b4 : Lib.bitLenAux 64 y ≤ 64 := Lib.bitLenAux_le 64 y 64 h1
  have e : Lib.bitLen y = Lib.bitLenAux 64 y := rfl
  rw [e]
  generalize Lib.bitLenAux 64 y = b at *
  refine ⟨64 - b, by omega, by omega, ?_, ?_⟩
  · have h : 2 ^ (b - 1) * 2 ^ (64 - b) ≤ y * 2 ^ (64 - b) := Nat.mul_le_mul_right _ b2
    rw [← Nat.pow_add, show b - 1 + (64 - b) = 63 by omega] at h
    exact h
  · have h : y * 2 ^ (64 - b) < 2 ^ b * 2 ^ (64 - b) := Nat.mul_lt_mul_of_pos_right b3 (Nat.two_pow_pos _)
    rw [← Nat.pow_add, show b + (64 - b) = 64 by omega] at h
    exact h
/-- The two words of the shifted dividend. -/
theorem shift_words (hi lo y s : Nat) (hs : s ≤ 63) (h1 : hi < y) (l1 : lo < 18446744073709551616) (hv : y * 2 ^ s < 18446744073709551616) :
    hi * 2 ^ s < 18446744073709551616 ∧ (hi * 2 ^ s) ||| (lo / 2 ^ (64 - s)) = hi * 2 ^ s + lo / 2 ^ (64 - s) ∧
    hi * 2 ^ s + lo / 2 ^ (64 - s) < y * 2 ^ s ∧
    (hi * 18446744073709551616 + lo) * 2 ^ s = (hi * 2 ^ s + lo / 2 ^ (64 - s)) * 18446744073709551616 + lo * 2 ^ s % 18446744073709551616 := by
  have hp : 0 < 2 ^ s := Nat.two_pow_pos _
  have e64 : 2 ^ (64 - s) * 2 ^ s = 18446744073709551616 := by rw [← Nat.pow_add, show 64 - s + s = 64 by omega]
  have hlt : lo / 2 ^ (64 - s) < 2 ^ s := by
    refine Nat.div_lt_of_lt_mul ?_
    rw [e64]; exact l1
  have h2 : (hi + 1) * 2 ^ s ≤ y * 2 ^ s := Nat.mul_le_mul_right _ h1
  rw [Nat.add_mul, Nat.one_mul] at h2
  have e1 : lo * 2 ^ s / 18446744073709551616 = lo / 2 ^ (64 - s) := by
    rw [← e64, Nat.mul_div_mul_right _ _ hp]
  have e2 := Nat.div_add_mod (lo * 2 ^ s) 18446744073709551616
  rw [e1] at e2
  refine ⟨by omega, nat_join s _ _ (Nat.mul_mod_left _ _) hlt, by omega, ?_⟩
  rw [Nat.add_mul, Nat.add_mul, Nat.mul_right_comm]
  omega
theorem and_mask (a : Int) (h0 : 0 ≤ a) (h1 : a < 18446744073709551616) : bits .and .u64 a 4294967295 = a % 4294967296 := by
  rw [u64_and a 4294967295 h0 h1 (by omega) (by omega), show (4294967295 : Int).toNat = 2 ^ 32 - 1 from rfl, Nat.and_two_pow_sub_one_eq_mod]
  omega
theorem two_pow_cast (s : Nat) : ((2 : Int) ^ s) = ((2 ^ s : Nat) : Int) := by simp
theorem shl_mod (lo s : Nat) : IntKind.u64.wrap ((lo : Int) * 2 ^ s) = ((lo * 2 ^ s % 18446744073709551616 : Nat) : Int) := by
  rw [two_pow_cast, ← Int.natCast_mul, IntKind.wrap_u64]; omega
theorem shl_val (y s : Nat) (h : y * 2 ^ s < 18446744073709551616) : IntKind.u64.wrap ((y : Int) * 2 ^ s) = ((y * 2 ^ s : Nat) : Int) := by
  rw [shl_mod, Nat.mod_eq_of_lt h]
theorem or_val (hi lo s : Nat) (h : hi * 2 ^ s < 18446744073709551616) (e : (hi * 2 ^ s) ||| (lo / 2 ^ (64 - s)) = hi * 2 ^ s + lo / 2 ^ (64 - s)) (hl : lo < 18446744073709551616) :
    bits .or .u64 (IntKind.u64.wrap ((hi : Int) * 2 ^ s)) ((lo : Int) / 2 ^ (64 - s)) = ((hi * 2 ^ s + lo / 2 ^ (64 - s) : Nat) : Int) := by
  rw [shl_val hi s h, two_pow_cast, ← Int.natCast_ediv, u64_or_nat _ _ h (Nat.lt_of_le_of_lt (Nat.div_le_self _ _) hl), e]
theorem start_q (u2 v1 : Nat) (h : u2 < 18446744073709551616) : IntKind.u64.wrap ((u2 : Int) / (v1 : Int)) = ((u2 / v1 : Nat) : Int) := by
  rw [← Int.natCast_ediv]; exact U.wrapN _ (Nat.lt_of_le_of_lt (Nat.div_le_self _ _) h)
theorem start_r (u2 v1 : Nat) (h : u2 < 18446744073709551616) : IntKind.u64.wrap ((u2 : Int) - IntKind.u64.wrap (IntKind.u64.wrap ((u2 : Int) / (v1 : Int)) * (v1 : Int))) = ((u2 % v1 : Nat) : Int) := by
  have e := Nat.div_add_mod' u2 v1
  rw [start_q u2 v1 h, U.mulN, U.wrapN _ (by omega), show (u2 : Int) - ((u2 / v1 * v1 : Nat) : Int) = ((u2 % v1 : Nat) : Int) by omega]
  exact U.wrapN _ (Nat.lt_of_le_of_lt (Nat.mod_le _ _) h)
theorem q_bd (u2 v1 : Nat) (h : u2 < 18446744073709551616) (hv : 2147483648 ≤ v1) : u2 / v1 ≤ 8589934592 := by
  have h1 : u2 / v1 ≤ u2 / 2147483648 := Nat.div_le_div_left hv (by omega)
  omega
theorem dig_lt {v1 v0 u1 u2 : Nat} (hu1 : u1 < 4294967296) (hu2 : u2 < v1 * 4294967296 + v0) : (u2 * 4294967296 + u1) / (v1 * 4294967296 + v0) < 4294967296 := digit_lt_base hu1 hu2
theorem dig_start {B v1 v0 u1 u2 : Nat} (hv1 : 0 < v1) (hu : u1 < B) : (u2 * B + u1) / (v1 * B + v0) ≤ u2 / v1 := by
  rcases @digit_start B v1 v0 u1 u2 hv1 with h | h
  · exact h
  · omega
/-- What a loop of Div64 keeps (v1, v0: the divisor's halves; u2, u1: the dividend's), and what it leaves: the digit. -/
def dig (v1 v0 u1 u2 : Nat) : Nat := (u2 * 4294967296 + u1) / (v1 * 4294967296 + v0)
def Inv (v1 v0 u1 u2 : Nat) (Q R : Int) : Prop := Q.toNat * v1 + R.toNat = u2 ∧ dig v1 v0 u1 u2 ≤ Q.toNat
def DigOut (d : Nat) (q r : Value) : Prop := ∃ Q R : Int, q = .int .u64 Q ∧ r = .int .u64 R ∧ 0 ≤ Q ∧ Q < 4294967296 ∧ Q.toNat = d
section
variable {v1 v0 u1 u2 : Nat} {Q R : Int}
theorem Inv.dec (h : Inv v1 v0 u1 u2 Q R) (hd : dig v1 v0 u1 u2 < Q.toNat) (hR : 0 ≤ R) : Inv v1 v0 u1 u2 (Q - 1) (R + (v1 : Int)) := by
  obtain ⟨h1, h2⟩ := h
  have e : Q.toNat = (Q - 1).toNat + 1 := by omega
  refine ⟨?_, by omega⟩
  rw [e, Nat.add_mul, Nat.one_mul] at h1
  rw [Int.toNat_add hR (by omega), Int.toNat_natCast]
  omega
theorem Inv.big (_h : Inv v1 v0 u1 u2 Q R) (hd : dig v1 v0 u1 u2 < 4294967296) (hQ : 4294967296 ≤ Q) : dig v1 v0 u1 u2 < Q.toNat := by omega
theorem prod_wrap (hv0 : v0 < 4294967296) (hQ0 : 0 ≤ Q) (hQ : Q < 4294967296) : IntKind.u64.wrap (Q * (v0 : Int)) = ((Q.toNat * v0 : Nat) : Int) := by
  obtain ⟨Q, rfl⟩ := Int.eq_ofNat_of_zero_le hQ0
  rw [U.mulN, Int.toNat_natCast]
  exact U.wrapN _ (Nat.lt_of_le_of_lt (Go.Lib.half_mul_le (a := Q) (b := v0) (by omega) (by omega)) (by omega))
theorem Inv.more (h : Inv v1 v0 u1 u2 Q R) (hv1 : 0 < v1) (hv0 : v0 < 4294967296) (hQ0 : 0 ≤ Q) (hQ : Q < 4294967296) (hR : 0 ≤ R) (ht : 4294967296 * R + (u1 : Int) < IntKind.u64.wrap (Q * (v0 : Int))) : dig v1 v0 u1 u2 < Q.toNat := by
  rw [prod_wrap hv0 hQ0 hQ] at ht
  exact digit_less (by omega) h.1 (by omega)
theorem Inv.stop (h : Inv v1 v0 u1 u2 Q R) (hv1 : 0 < v1) (hv0 : v0 < 4294967296) (hQ0 : 0 ≤ Q) (hQ : Q < 4294967296) (hR : 0 ≤ R) (ht : ¬ 4294967296 * R + (u1 : Int) < IntKind.u64.wrap (Q * (v0 : Int))) : Q.toNat = dig v1 v0 u1 u2 := by
  rw [prod_wrap hv0 hQ0 hQ] at ht
  exact (digit_stop (by omega) h.1 h.2 (by omega)).symm
theorem Inv.brk (h : Inv v1 v0 u1 u2 Q R) (_hv1 : 0 < v1) (hv0 : v0 < 4294967296) (hu2 : u2 < v1 * 4294967296 + v0) (hR : 4294967296 ≤ R) : Q.toNat = dig v1 v0 u1 u2 :=
  (digit_break (by omega) hv0 hu2 h.1 (by omega) h.2).symm
theorem Inv.start (hv1 : 0 < v1) (hu1 : u1 < 4294967296) (hQ : Q.toNat = u2 / v1) (hR : R.toNat = u2 % v1) : Inv v1 v0 u1 u2 Q R := by
  refine ⟨by rw [hQ, hR]; exact Nat.div_add_mod' u2 v1, ?_⟩
  rw [hQ]; exact dig_start hv1 hu1
end
theorem start_qI {u2 v1 : Nat} {V1 : Int} (e : V1 = (v1 : Int)) (h : u2 < 18446744073709551616) : IntKind.u64.wrap ((u2 : Int) / V1) = ((u2 / v1 : Nat) : Int) := by rw [e]; exact start_q u2 v1 h
theorem start_rI {u2 v1 : Nat} {V1 : Int} (e : V1 = (v1 : Int)) (h : u2 < 18446744073709551616) : IntKind.u64.wrap ((u2 : Int) - IntKind.u64.wrap (IntKind.u64.wrap ((u2 : Int) / V1) * V1)) = ((u2 % v1 : Nat) : Int) := by rw [e]; exact start_r u2 v1 h
/-- What is left below a digit: reckoned modulo 2^64, it is the rest. -/
theorem rest_val {u2 v v1 v0 u1 : Nat} {Q W1 : Int} (eW : W1 = (u1 : Int)) (ev : v = v1 * 4294967296 + v0) (hv : 0 < v) (hvm : v < 18446744073709551616) (hQ0 : 0 ≤ Q) (hQ : Q.toNat = dig v1 v0 u1 u2) :
    IntKind.u64.wrap (IntKind.u64.wrap (IntKind.u64.wrap ((u2 : Int) * 4294967296) + W1) - IntKind.u64.wrap (Q * (v : Int))) = (((u2 * 4294967296 + u1) % v : Nat) : Int) := by
  obtain ⟨Q, rfl⟩ := Int.eq_ofNat_of_zero_le hQ0
  have h := Nat.div_add_mod' (u2 * 4294967296 + u1) v
  rw [Int.toNat_natCast] at hQ
  unfold dig at hQ
  rw [← ev] at hQ
  rw [← hQ] at h
  have hr : (u2 * 4294967296 + u1) % v < v := Nat.mod_lt _ hv
  generalize (u2 * 4294967296 + u1) % v = r at *
  simp only [IntKind.wrap_u64, eW, U.mulN]
  generalize Q * v = x at *
  omega
theorem div_fin {X y s U2 T u1 u0 V v1 v0 R1 Q1 Q2 : Nat} (hX : X * 2 ^ s = U2 * 18446744073709551616 + T) (hy : y * 2 ^ s = V) (hV : V = v1 * 4294967296 + v0) (hT : T = u1 * 4294967296 + u0)
    (hu0 : u0 < 4294967296) (hVp : 0 < V) (hR1 : R1 = (U2 * 4294967296 + u1) % V) (hQ1 : Q1 = dig v1 v0 u1 U2) (hQ2 : Q2 = dig v1 v0 u0 R1) :
    Q1 * 4294967296 + Q2 = X / y ∧ (R1 * 4294967296 + u0) % V / 2 ^ s = X % y := by
  have hp : 0 < 2 ^ s := Nat.two_pow_pos _
  obtain ⟨t1, t2⟩ := two_digits (U2 * 4294967296 + u1) u0 V 4294967296 hVp hu0
  have e : (U2 * 4294967296 + u1) * 4294967296 + u0 = X * 2 ^ s := by rw [hX, hT]; omega
  unfold dig at hQ1 hQ2
  rw [← hV] at hQ1 hQ2
  rw [← hR1] at t1 t2
  rw [e, ← hQ1, ← hQ2] at t1
  rw [e] at t2
  rw [← t1, ← t2, ← hy, Nat.mul_div_mul_right _ _ hp, Nat.mul_mod_mul_right, Nat.mul_div_cancel _ hp]
  exact ⟨rfl, rfl⟩
end Nm

theorem lz64 (y : Int) (h0 : 0 < y) (h1 : y < 18446744073709551616) (w : World) :
    Calls Try.prog 69 #[.int .u64 y] w fun e w' => ∃ s : Nat, e = .returned (.int .i64 (s : Int)) ∧ w = w' ∧ s ≤ 63 ∧ Hid (9223372036854775808 ≤ y.toNat * 2 ^ s ∧ y.toNat * 2 ^ s < 18446744073709551616) := by
  obtain ⟨s, e1, e2, e3, e4⟩ := Nm.lz_bd y.toNat (by omega) (by omega)
  refine (Try.bits_LeadingZeros64 y w (by omega) (by omega)).mono fun e w' ⟨he, hw⟩ => ⟨s, ?_, hw.symm, e2, e3, e4⟩
  rw [he, e1]

theorem div64_zero (lo y : Int) (l0 : 0 ≤ lo) (l1 : lo < 18446744073709551616) (y0 : 0 < y) (y1 : y < 18446744073709551616) (w : World) :
    Calls Try.prog 65 #[.int .u64 0, .int .u64 lo, .int .u64 y] w fun e w' => e = .returned (.tuple #[.int .u64 (lo / y), .int .u64 (lo % y)]) ∧ ∃ k, w' = w.drewN k := by
  have hb : (y == 0) = false := by simp; omega
  go_enter Try.func65, Try.ntmps65
  go_wp2
  go_quiet (fail)
  go_wp2
  go_ret2
  exact ⟨rfl, _, rfl⟩

set_option maxRecDepth 100000 in
set_option maxHeartbeats 1000000 in
theorem div64_big (hi lo y : Nat) (h0 : 0 < hi) (h1 : hi < y) (l1 : lo < 18446744073709551616) (y1 : y < 18446744073709551616) (w : World) :
    Calls Try.prog 65 #[.int .u64 hi, .int .u64 lo, .int .u64 y] w fun e w' => ∃ q r : Nat, e = .returned (.tuple #[.int .u64 q, .int .u64 r]) ∧ w = w' ∧ q = (hi * 18446744073709551616 + lo) / y ∧ r = (hi * 18446744073709551616 + lo) % y := by
  have hb : ((y : Int) == 0) = false := by simp; omega
  have hb2 : ((hi : Int) == 0) = false := by simp; omega
  go_enter Try.func65, Try.ntmps65
  go_wp2_with (go_at_call 69; refine (lz64 _ (by omega) (by omega) _).mono ?_; rintro e w' ⟨s, rfl, rfl, hs, HS⟩; refine Hid.out ?_)
  refine Lib.hid ?_
  obtain ⟨hv0, hv1⟩ := HS.out
  rw [Int.toNat_natCast] at hv0 hv1
  obtain ⟨c1, c2, c3, c4⟩ := Nm.shift_words hi lo y s hs h1 l1 hv1
  have hmin : min s 64 = s := by omega
  have hmin2 : min (64 - s) 64 = 64 - s := by omega
  have C2 := Lib.hid c2
  have C4 := Lib.hid c4
  have HV0 := Lib.hid hv0
  clear c2 c4 hv0 HS
  go_upto_region 15 with fail
  rw [Nm.shl_val y s hv1, Nm.or_val hi lo s c1 C2.out (by omega), Nm.shl_mod lo s]
  have hV0 : 9223372036854775808 ≤ y * 2 ^ s := HV0.out
  have hT1 : lo * 2 ^ s % 18446744073709551616 < 18446744073709551616 := Nat.mod_lt _ (by omega)
  generalize hV : y * 2 ^ s = V at *
  generalize hU : hi * 2 ^ s + lo / 2 ^ (64 - s) = U2 at *
  generalize hT : lo * 2 ^ s % 18446744073709551616 = T at *
  rw [Nm.and_mask _ (by omega) (by omega), Nm.and_mask _ (by omega) (by omega), U.divN, U.modN, U.divN, U.modN]
  have HVe := Lib.hid hV
  have HTe := Lib.hid hT
  have HUe := Lib.hid hU
  have eV : V = V / 4294967296 * 4294967296 + V % 4294967296 := by omega
  have eT : T = T / 4294967296 * 4294967296 + T % 4294967296 := by omega
  have bv1 : 2147483648 ≤ V / 4294967296 := by omega
  have bv1' : V / 4294967296 < 4294967296 := by omega
  have bv0 : V % 4294967296 < 4294967296 := by omega
  have bu1 : T / 4294967296 < 4294967296 := by omega
  have bu0 : T % 4294967296 < 4294967296 := by omega
  clear hV hU hT
  generalize V / 4294967296 = v1 at *
  generalize V % 4294967296 = v0 at *
  generalize T / 4294967296 = u1 at *
  generalize T % 4294967296 = u0 at *
  have EV := Lib.hid eV
  have ET := Lib.hid eT
  clear eV eT hT1 hV0 HV0 hmin hmin2 c1 C2
  go_upto_block 0 with fail
  have hN : Nm.dig v1 v0 u1 U2 < 4294967296 := Nm.dig_lt (u2 := U2) bu1 (EV.out ▸ c3)
  have HU2 : Hid (U2 < v1 * 4294967296 + v0) := EV.out ▸ c3
  rw [Nm.start_r U2 v1 (by omega), Nm.start_q U2 v1 (by omega)]
  have hI : Hid (Nm.Inv v1 v0 u1 U2 ((U2 / v1 : Nat) : Int) ((U2 % v1 : Nat) : Int)) := Nm.Inv.start (by omega) bu1 (Int.toNat_natCast _) (Int.toNat_natCast _)
  have hr0 : U2 % v1 < v1 := Nat.mod_lt _ (by omega)
  have hq1 : U2 / v1 ≤ 8589934592 := Nm.q_bd U2 v1 (by omega) bv1
  generalize U2 / v1 = n1 at *
  generalize U2 % v1 = n2 at *
  obtain ⟨q0, e0⟩ : ∃ q0 : Int, q0 = (n1 : Int) := ⟨_, rfl⟩
  obtain ⟨r0, f0⟩ : ∃ r0 : Int, r0 = (n2 : Int) := ⟨_, rfl⟩
  rw [← e0, ← f0] at hI ⊢
  have bq0 : 0 ≤ q0 ∧ q0 ≤ 8589934592 := by omega
  have br0 : 0 ≤ r0 ∧ r0 < v1 := by omega
  clear e0 f0 hr0 hq1
  obtain ⟨V1, eV1⟩ : ∃ V1 : Int, V1 = (v1 : Int) := ⟨_, rfl⟩
  obtain ⟨V0, eV0⟩ : ∃ V0 : Int, V0 = (v0 : Int) := ⟨_, rfl⟩
  obtain ⟨W1, eW1⟩ : ∃ W1 : Int, W1 = (u1 : Int) := ⟨_, rfl⟩
  rw [← eV1, ← eV0, ← eW1]
  have bV1 : 2147483648 ≤ V1 ∧ V1 < 4294967296 := by omega
  have bV0 : 0 ≤ V0 ∧ V0 < 4294967296 := by omega
  have bW1 : 0 ≤ W1 ∧ W1 < 4294967296 := by omega
  have br1 : r0 < V1 := by omega
  have EV1 := Lib.hid eV1
  have EV0 := Lib.hid eV0
  have EW1 := Lib.hid eW1
  clear eV1 eV0 eW1
  go_cut [15, 16] from 67 to 85 (fun q r wc => Nm.DigOut (Nm.dig v1 v0 u1 U2) q r ∧ w = wc)
  case first =>
    go_wp2_with fail
    go_loop [15, 16] (fun q r => ∃ Q R : Int, q = .int .u64 Q ∧ r = .int .u64 R ∧ 0 ≤ Q ∧ Q ≤ 8589934592 ∧ 0 ≤ R ∧ R < 4294967296 ∧ Hid (Nm.Inv v1 v0 u1 U2 Q R)) (fun _ r => 4294967296 - (intOf r).toNat)
    case atStart => exact ⟨q0, r0, rfl, rfl, bq0.1, bq0.2, br0.1, by omega, hI⟩
    case round =>
      obtain ⟨Q, R, rfl, rfl, hQ0, hQ, hR0, hR, HI⟩ := hrel
      by_cases hQB : 4294967296 ≤ Q
      · have hQ1 : 1 ≤ Q := by omega
        have HI2 : Hid (Nm.Inv v1 v0 u1 U2 (Q - 1) (R + V1)) := EV1.out ▸ HI.out.dec (HI.out.big hN hQB) hR0
        by_cases hRB : 4294967296 ≤ R + V1
        · have HD : Hid ((Q - 1).toNat = Nm.dig v1 v0 u1 U2) := HI2.out.brk (by omega) bv0 HU2.out hRB
          have hQ2 : Q - 1 < 4294967296 := by have := HD.out; omega
          go_wp2_with fail
          go_meet
          exact ⟨⟨_, _, rfl, rfl, by omega, hQ2, HD.out⟩, rfl⟩
        · go_wp2_with fail
          go_round
          case rel => exact ⟨_, _, rfl, rfl, by omega, by omega, by omega, by omega, HI2⟩
          case measure => simp [intOf]; omega
      · have hQ2 : Q < 4294967296 := by omega
        by_cases ht : 4294967296 * R + W1 < IntKind.u64.wrap (Q * V0)
        · have hd : Nm.dig v1 v0 u1 U2 < Q.toNat := HI.out.more (by omega) bv0 hQ0 hQ2 hR0 (by rw [EW1.out, EV0.out] at ht; exact ht)
          have hQ1 : 1 ≤ Q := by omega
          have HI2 : Hid (Nm.Inv v1 v0 u1 U2 (Q - 1) (R + V1)) := EV1.out ▸ HI.out.dec hd hR0
          by_cases hRB : 4294967296 ≤ R + V1
          · have HD : Hid ((Q - 1).toNat = Nm.dig v1 v0 u1 U2) := HI2.out.brk (by omega) bv0 HU2.out hRB
            go_wp2_with fail
            go_meet
            exact ⟨⟨_, _, rfl, rfl, by omega, by omega, HD.out⟩, rfl⟩
          · go_wp2_with fail
            go_round
            case rel => exact ⟨_, _, rfl, rfl, by omega, by omega, by omega, by omega, HI2⟩
            case measure => simp [intOf]; omega
        · have HD : Hid (Q.toNat = Nm.dig v1 v0 u1 U2) := HI.out.stop (by omega) bv0 hQ0 hQ2 hR0 (by rw [EW1.out, EV0.out] at ht; exact ht)
          go_wp2_with fail
          go_meet
          exact ⟨⟨_, _, rfl, rfl, hQ0, hQ2, HD.out⟩, rfl⟩
  case rest =>
    obtain ⟨⟨Q1, R1', rfl, rfl, hQa, hQb, HQ⟩, rfl⟩ := hcut
    go_upto_region 22 with fail
    have hVp : 0 < V := by omega
    rw [Nm.rest_val EW1.out EV.out hVp hv1 hQa HQ]
    have hR1 : (U2 * 4294967296 + u1) % V < V := Nat.mod_lt _ hVp
    obtain ⟨R1, eR1⟩ : ∃ R1 : Nat, R1 = (U2 * 4294967296 + u1) % V := ⟨_, rfl⟩
    rw [← eR1] at hR1 ⊢
    have ER1 := Lib.hid eR1
    clear eR1
    obtain ⟨W0, eW0⟩ : ∃ W0 : Int, W0 = (u0 : Int) := ⟨_, rfl⟩
    rw [← eW0]
    have bW0 : 0 ≤ W0 ∧ W0 < 4294967296 := by omega
    have EW0 := Lib.hid eW0
    clear eW0
    have HQ' := Lib.hid HQ
    clear HQ hI bq0 br0 br1 hN HU2
    go_upto_block 2 with fail
    have hN : Nm.dig v1 v0 u0 R1 < 4294967296 := Nm.dig_lt (u2 := R1) bu0 (EV.out ▸ hR1)
    have HU2 : Hid (R1 < v1 * 4294967296 + v0) := EV.out ▸ hR1
    rw [Nm.start_rI EV1.out (by omega), Nm.start_qI EV1.out (by omega)]
    have hI : Hid (Nm.Inv v1 v0 u0 R1 ((R1 / v1 : Nat) : Int) ((R1 % v1 : Nat) : Int)) := Nm.Inv.start (by omega) bu0 (Int.toNat_natCast _) (Int.toNat_natCast _)
    have hr0 : R1 % v1 < v1 := Nat.mod_lt _ (by omega)
    have hq1 : R1 / v1 ≤ 8589934592 := Nm.q_bd R1 v1 (by omega) bv1
    generalize R1 / v1 = n1 at *
    generalize R1 % v1 = n2 at *
    obtain ⟨q0, e0⟩ : ∃ q0 : Int, q0 = (n1 : Int) := ⟨_, rfl⟩
    obtain ⟨r0, f0⟩ : ∃ r0 : Int, r0 = (n2 : Int) := ⟨_, rfl⟩
    rw [← e0, ← f0] at hI ⊢
    have bq0 : 0 ≤ q0 ∧ q0 ≤ 8589934592 := by omega
    have br0 : 0 ≤ r0 ∧ r0 < v1 := by omega
    have br1 : r0 < 4294967296 := by omega
    clear e0 f0 hr0 hq1
    go_cut [18, 16] from 102 to 120 (fun q r wc => Nm.DigOut (Nm.dig v1 v0 u0 R1) q r ∧ w = wc)
    case first =>
      go_wp2_with fail
      go_loop [18, 16] (fun q r => ∃ Q R : Int, q = .int .u64 Q ∧ r = .int .u64 R ∧ 0 ≤ Q ∧ Q ≤ 8589934592 ∧ 0 ≤ R ∧ R < 4294967296 ∧ Hid (Nm.Inv v1 v0 u0 R1 Q R)) (fun _ r => 4294967296 - (intOf r).toNat)
      case atStart => exact ⟨q0, r0, rfl, rfl, bq0.1, bq0.2, br0.1, by omega, hI⟩
      case round =>
        obtain ⟨Q, R, rfl, rfl, hQ0, hQ, hR0, hR, HI⟩ := hrel
        by_cases hQB : 4294967296 ≤ Q
        · have hQ1 : 1 ≤ Q := by omega
          have HI2 : Hid (Nm.Inv v1 v0 u0 R1 (Q - 1) (R + V1)) := EV1.out ▸ HI.out.dec (HI.out.big hN hQB) hR0
          by_cases hRB : 4294967296 ≤ R + V1
          · have HD : Hid ((Q - 1).toNat = Nm.dig v1 v0 u0 R1) := HI2.out.brk (by omega) bv0 HU2.out hRB
            have hQ2 : Q - 1 < 4294967296 := by have := HD.out; omega
            go_wp2_with fail
            go_meet
            exact ⟨⟨_, _, rfl, rfl, by omega, hQ2, HD.out⟩, rfl⟩
          · go_wp2_with fail
            go_round
            case rel => exact ⟨_, _, rfl, rfl, by omega, by omega, by omega, by omega, HI2⟩
            case measure => simp [intOf]; omega
        · have hQ2 : Q < 4294967296 := by omega
          by_cases ht : 4294967296 * R + W0 < IntKind.u64.wrap (Q * V0)
          · have hd : Nm.dig v1 v0 u0 R1 < Q.toNat := HI.out.more (by omega) bv0 hQ0 hQ2 hR0 (by rw [EW0.out, EV0.out] at ht; exact ht)
            have hQ1 : 1 ≤ Q := by omega
            have HI2 : Hid (Nm.Inv v1 v0 u0 R1 (Q - 1) (R + V1)) := EV1.out ▸ HI.out.dec hd hR0
            by_cases hRB : 4294967296 ≤ R + V1
            · have HD : Hid ((Q - 1).toNat = Nm.dig v1 v0 u0 R1) := HI2.out.brk (by omega) bv0 HU2.out hRB
              go_wp2_with fail
              go_meet
              exact ⟨⟨_, _, rfl, rfl, by omega, by omega, HD.out⟩, rfl⟩
            · go_wp2_with fail
              go_round
              case rel => exact ⟨_, _, rfl, rfl, by omega, by omega, by omega, by omega, HI2⟩
              case measure => simp [intOf]; omega
          · have HD : Hid (Q.toNat = Nm.dig v1 v0 u0 R1) := HI.out.stop (by omega) bv0 hQ0 hQ2 hR0 (by rw [EW0.out, EV0.out] at ht; exact ht)
            go_wp2_with fail
            go_meet
            exact ⟨⟨_, _, rfl, rfl, hQ0, hQ2, HD.out⟩, rfl⟩
    case rest =>
      obtain ⟨⟨Q2, R2, rfl, rfl, hQc, hQd, HQ2⟩, rfl⟩ := hcut
      go_wp2_with fail
      go_ret2
      rw [Nm.rest_val EW0.out EV.out hVp hv1 hQc HQ2, Nm.two_pow_cast, ← Int.natCast_ediv]
      obtain ⟨g1, g2⟩ := Nm.div_fin C4.out HVe.out EV.out ET.out bu0 hVp ER1.out HQ'.out HQ2
      rw [g2]
      have g3 : Q1 * 4294967296 + Q2 = (((hi * 18446744073709551616 + lo) / y : Nat) : Int) := by rw [← g1]; omega
      rw [g3]
      exact ⟨_, _, rfl, rfl, rfl, rfl⟩

/-- Div64, hi below y: the quotient and the remainder. -/
theorem div64 (hi lo y : Int) (h0 : 0 ≤ hi) (h1 : hi < y) (l0 : 0 ≤ lo) (l1 : lo < 18446744073709551616) (y1 : y < 18446744073709551616) (w : World) :
    Calls Try.prog 65 #[.int .u64 hi, .int .u64 lo, .int .u64 y] w fun e w' => ∃ q r : Int, e = .returned (.tuple #[.int .u64 q, .int .u64 r]) ∧ (∃ k, w' = w.drewN k) ∧ 0 ≤ q ∧ q < 18446744073709551616 ∧ 0 ≤ r ∧ r < y ∧ Hid (q * y + r = hi * 18446744073709551616 + lo) ∧ Hid (q = (hi * 18446744073709551616 + lo) / y) := by
  obtain ⟨hi, rfl⟩ := Int.eq_ofNat_of_zero_le h0
  obtain ⟨lo, rfl⟩ := Int.eq_ofNat_of_zero_le l0
  obtain ⟨y, rfl⟩ := Int.eq_ofNat_of_zero_le (show 0 ≤ y by omega)
  have hX := Nat.div_add_mod' (hi * 18446744073709551616 + lo) y
  have hm : (hi * 18446744073709551616 + lo) % y < y := Nat.mod_lt _ (by omega)
  have hq : (hi * 18446744073709551616 + lo) / y < 18446744073709551616 := by
    refine (Nat.div_lt_iff_lt_mul (by omega)).2 ?_
    have : (hi + 1) * 18446744073709551616 ≤ y * 18446744073709551616 := Nat.mul_le_mul_right _ (by omega)
    rw [Nat.mul_comm]
    omega
  have eq1 : (((hi * 18446744073709551616 + lo) / y : Nat) : Int) = ((hi : Int) * 18446744073709551616 + (lo : Int)) / (y : Int) := by rw [Int.natCast_ediv]; rfl
  generalize hQ : (hi * 18446744073709551616 + lo) / y = Q at *
  generalize hR : (hi * 18446744073709551616 + lo) % y = R at *
  have key : (Q : Int) * (y : Int) + (R : Int) = (hi : Int) * 18446744073709551616 + (lo : Int) := by rw [U.mulN]; omega
  by_cases hz : hi = 0
  · subst hz
    refine (div64_zero (lo : Int) (y : Int) (by omega) l1 (by omega) y1 w).mono fun e w' ⟨he, hb⟩ => ⟨(Q : Int), (R : Int), ?_, hb, by omega, by omega, by omega, by omega, key, eq1⟩
    rw [Nat.zero_mul, Nat.zero_add] at hQ hR
    rw [he, ← hQ, ← hR]; rfl
  · refine (div64_big hi lo y (by omega) (by omega) (by omega) (by omega) w).mono fun e w' ⟨q, r, he, hw, eq, er⟩ => ⟨(Q : Int), (R : Int), ?_, ?_, by omega, by omega, by omega, by omega, key, eq1⟩
    · rw [he, eq, er, hQ, hR]
    · rw [hw]; exact ⟨0, rfl⟩
end Go.Proofs.Ytfjnpmkklanopaa
