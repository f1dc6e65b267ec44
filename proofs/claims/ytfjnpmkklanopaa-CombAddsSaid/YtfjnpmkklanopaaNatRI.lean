/- The reference of layer 3: GCD, by halves and differences. -/
import Derived.Test.YtfjnpmkklanopaaNatRG
namespace Go.Proofs.Ytfjnpmkklanopaa
set_option maxRecDepth 20000
open Go.RowKit
set_option linter.unusedVariables false
set_option linter.unusedSimpArgs false
namespace Nt
theorem cop2 {Y : Nat} (h : Y % 2 = 1) : Nat.Coprime 2 Y := by
  unfold Nat.Coprime
  rw [Nat.gcd_rec, h]; rfl
theorem gcd_even {X Y : Nat} (hx : X % 2 = 0) (hy : Y % 2 = 0) : Nat.gcd X Y = 2 * Nat.gcd (X / 2) (Y / 2) := by
  conv => lhs; rw [show X = 2 * (X / 2) by omega, show Y = 2 * (Y / 2) by omega]
  exact Nat.gcd_mul_left _ _ _
theorem gcd_left {X Y : Nat} (hx : X % 2 = 0) (hy : Y % 2 = 1) : Nat.gcd (X / 2) Y = Nat.gcd X Y := by
  conv => rhs; rw [show X = 2 * (X / 2) by omega]
  exact (Nat.Coprime.gcd_mul_left_cancel _ (cop2 hy)).symm
theorem gcd_right {X Y : Nat} (hx : X % 2 = 1) (hy : Y % 2 = 0) : Nat.gcd X (Y / 2) = Nat.gcd X Y := by
  rw [Nat.gcd_comm, gcd_left hy hx, Nat.gcd_comm]
theorem gcd_subl {X Y : Nat} (h : Y ≤ X) : Nat.gcd (X - Y) Y = Nat.gcd X Y := Nat.gcd_sub_self_left h
theorem gcd_subr {X Y : Nat} (h : X ≤ Y) : Nat.gcd X (Y - X) = Nat.gcd X Y := Nat.gcd_sub_self_right h
theorem gcd_bd {x y M : Nat} (hx : x < M) (hy : y < M) : Nat.gcd x y < M := by
  rcases Nat.eq_zero_or_pos x with e | e
  · subst e; rw [Nat.gcd_zero_left]; exact hy
  · exact Nat.lt_of_le_of_lt (Nat.gcd_le_left _ e) hx
theorem twos_bd {G t M k : Nat} (hG : 0 < G) (h : G * 2 ^ t < M) (hM : M = 2 ^ k) : t < k := by
  have h1 : 1 * 2 ^ t ≤ G * 2 ^ t := Nat.mul_le_mul_right _ hG
  rw [hM] at h
  exact (Nat.pow_lt_pow_iff_right (by omega)).1 (Nat.lt_of_le_of_lt (by omega) h)
theorem p16 (k : Nat) : (65536 : Nat) ^ k = 2 ^ (16 * k) := by rw [Nat.pow_mul]
end Nt
/-- What stands in GCD's variables. -/
structure GcdH (N x y X Y t : Nat) (w W : World) (v1 v2 : Value) (A1 A2 : Option Addr) (n1 n2 : Nat) : Prop where
  fr : Fr3 N w W v1 v2 (.slice none 0 0)
  a : IsH W W.heap.size A1 n1 X
  b : IsH W W.heap.size A2 n2 Y
  n1b : n1 ≤ 128
  n2b : n2 ≤ 128
  g : Nat.gcd X Y * 2 ^ t = Nat.gcd x y
theorem ln_half {x n : Nat} (h : Nt.ln 65536 x = n) {m y : Nat} (hle : y ≤ x) (hy : Nt.ln 65536 y = m) : m ≤ n := by
  rw [← h, ← hy]; exact Nt.ln_mono (by omega) hle
theorem dg0 (X : Nat) : Nt.dg 65536 X 0 % 2 = X % 2 := by
  unfold Nt.dg
  rw [Nat.pow_zero, Nat.div_one]
  omega
end Go.Proofs.Ytfjnpmkklanopaa
