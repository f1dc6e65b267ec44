/- Contracts of both powers and of both greatest common divisors. -/
import Derived.Test.YtdgficnpppilfaaDoorNumDiv
namespace Go.Proofs.YtdgficnpppilfaaDoor
open Go.RowKit

namespace Nm
/-- The power k of a, product by product: the value and the error. -/
def pw (a : Int) : Nat → Int × Int
  | 0 => (1, 0)
  | k + 1 => if (pw a k).2 = 0 then (cv ((pw a k).1 * a), ce ((pw a k).1 * a)) else (0, 9)
theorem pw_01 (a : Int) (k : Nat) : (pw a k).2 = 0 ∨ (pw a k).2 = 9 := by
  cases k with
  | zero => exact .inl rfl
  | succ k =>
    unfold pw
    split
    · exact ce_01 _
    · exact .inr rfl
theorem pw_bd (a : Int) (k : Nat) : -9223372036854775808 ≤ (pw a k).1 ∧ (pw a k).1 ≤ 9223372036854775807 := by
  cases k with
  | zero => unfold pw; omega
  | succ k =>
    unfold pw
    split
    · exact cv_bd _
    · constructor <;> simp
theorem pw_stay (a : Int) (k : Nat) (h : (pw a k).2 = 9) : ∀ j, pw a (k + 1 + j) = (0, 9)
  | 0 => by show pw a (k + 1) = _; unfold pw; rw [if_neg (by rw [h]; decide)]
  | j + 1 => by
    have e := pw_stay a k h j
    show pw a (k + 1 + j + 1) = _
    unfold pw; rw [e]; rfl
/-- If a product is no int, no later power is one. -/
theorem pw_out (a : Int) {k n : Nat} (hk : k < n) (h0 : (pw a k).2 = 0) (h : ce ((pw a k).1 * a) = 9) : pw a n = (0, 9) := by
  have e : (pw a (k + 1)).2 = 9 := by unfold pw; rw [if_pos h0]; exact h
  have ev : pw a (k + 1) = (0, 9) := by
    have hv : cv ((pw a k).1 * a) = 0 := by
      unfold ce at h; unfold cv
      split at h
      · simp at h
      · rename_i hf; rw [if_neg hf]
    unfold pw; rw [if_pos h0, h, hv]
  obtain ⟨d, rfl⟩ := Nat.exists_eq_add_of_lt hk
  cases d with
  | zero => exact ev
  | succ d => rw [show k + (d + 1) + 1 = k + 1 + 1 + d by omega]; exact pw_stay a (k + 1) e d
theorem pw_next (a : Int) (k : Nat) (h0 : (pw a k).2 = 0) (h : ce ((pw a k).1 * a) = 0) : pw a (k + 1) = (cv ((pw a k).1 * a), 0) := by
  rw [pw, if_pos h0, h]
/-- What Power returns. -/
def powV (a n : Int) : Int := if n < 0 ∨ 62 < n then 0 else (pw a n.toNat).1
def powE (a n : Int) : Int := if n < 0 ∨ 62 < n then 2 else (pw a n.toNat).2
/-- What GCD returns. -/
def gcdV (a b : Int) : Int := if 9223372036854775807 < Nat.gcd a.natAbs b.natAbs then 0 else (Nat.gcd a.natAbs b.natAbs : Int)
theorem gcd_next (x y : Nat) : Nat.gcd y (x % y) = Nat.gcd x y := by rw [Nat.gcd_comm x y, Nat.gcd_rec y x, Nat.gcd_comm]
theorem gcd_next' {X Y : Int} {g : Nat} (hX : 0 ≤ X) (hY : 0 ≤ Y) (h : Nat.gcd X.toNat Y.toNat = g) : Nat.gcd Y.toNat (X % Y).toNat = g := by
  rw [Int.toNat_emod hX hY, gcd_next, h]
/-- How far Euclid's steps have come: behind step i the product is below 2^128 / 2^(i-1). -/
def Pot (I X Y : Int) : Prop := I = 0 ∨ (1 ≤ I ∧ Y ≤ X ∧ X.toNat * Y.toNat * 2 ^ (I - 1).toNat < 2 ^ 128)
theorem Pot.next {I X Y : Int} (h : Pot I X Y) (hI : 0 ≤ I) (hX : 0 ≤ X) (hY : 0 < Y) (hX1 : X < 18446744073709551616) (hY1 : Y < 18446744073709551616) : Pot (I + 1) Y (X % Y) := by
  have hm := Int.emod_lt_of_pos X hY
  have hm0 := Int.emod_nonneg X (show Y ≠ 0 by omega)
  refine .inr ⟨by omega, by omega, ?_⟩
  rw [Int.toNat_emod hX (by omega), show I + 1 - 1 = I by omega]
  rcases h with rfl | ⟨h1, h2, h3⟩
  · rw [show (0 : Int).toNat = 0 from rfl, Nat.pow_zero, Nat.mul_one]
    have : Y.toNat * (X.toNat % Y.toNat) < 18446744073709551616 * 18446744073709551616 := Nat.mul_lt_mul'' (by omega) (Nat.lt_of_le_of_lt (Nat.mod_le _ _) (by omega))
    exact this
  · have h4 := gcd_step_prod X.toNat Y.toNat (by omega) (by omega)
    have e : I.toNat = (I - 1).toNat + 1 := by omega
    rw [e, Nat.pow_succ]
    have h5 : 2 * (Y.toNat * (X.toNat % Y.toNat)) * 2 ^ (I - 1).toNat ≤ X.toNat * Y.toNat * 2 ^ (I - 1).toNat := Nat.mul_le_mul_right _ h4
    rw [Nat.mul_comm (2 ^ (I - 1).toNat) 2, ← Nat.mul_assoc, Nat.mul_comm (Y.toNat * (X.toNat % Y.toNat)) 2]
    exact Nat.lt_of_le_of_lt h5 h3
theorem Pot.fin {I X Y : Int} (h : Pot I X Y) (hI : 200 ≤ I) (hY : 0 ≤ Y) : Y = 0 := by
  rcases h with h | ⟨h1, h2, h3⟩
  · omega
  · by_cases hz : Y = 0
    · exact hz
    · exfalso
      have h4 : 1 * 1 ≤ X.toNat * Y.toNat := Nat.mul_le_mul (by omega) (by omega)
      have h5 : 2 ^ 128 ≤ 2 ^ (I - 1).toNat := Nat.pow_le_pow_right (by omega) (by omega)
      have h6 : 1 * 1 * 2 ^ (I - 1).toNat ≤ X.toNat * Y.toNat * 2 ^ (I - 1).toNat := Nat.mul_le_mul_right _ h4
      omega
end Nm

theorem num_Mul_out (a b : Int) (ha0 : -9223372036854775808 ≤ a) (ha1 : a ≤ 9223372036854775807) (hb0 : -9223372036854775808 ≤ b) (hb1 : b ≤ 9223372036854775807) (w : World) :
    Calls Tryd.prog 14 #[.int .i64 a, .int .i64 b] w fun e w' => ∃ V E : Int, e = .returned (.tuple #[.int .i64 V, .int .i64 E]) ∧ w = w' ∧ -9223372036854775808 ≤ V ∧ V ≤ 9223372036854775807 ∧ Hid (V = Nm.cv (a * b)) ∧ Hid (E = Nm.ce (a * b)) :=
  (num_Mul a b ha0 ha1 hb0 hb1 w).mono fun _ _ ⟨he, hw⟩ => ⟨_, _, he, hw, (Nm.cv_bd _).1, (Nm.cv_bd _).2, rfl, rfl⟩
theorem num_Power (a n : Int) (ha0 : -9223372036854775808 ≤ a) (ha1 : a ≤ 9223372036854775807) (w : World) :
    Calls Tryd.prog 22 #[.int .i64 a, .int .i64 n] w fun e w' => e = .returned (.tuple #[.int .i64 (Nm.powV a n), .int .i64 (Nm.powE a n)]) ∧ w = w' := by
  by_cases hn : n < 0 ∨ 62 < n
  · have F1 : Hid (0 = Nm.powV a n) := by show _ = _; simp only [Nm.powV]; rw [if_pos hn]
    have F2 : Hid (2 = Nm.powE a n) := by show _ = _; simp only [Nm.powE]; rw [if_pos hn]
    by_cases h1 : n < 0
    · clear hn
      go_enter Tryd.func22, Tryd.ntmps22
      go_wp2
      go_ret2
      exact ⟨ret2_int F1.out F2.out, rfl⟩
    · have h2 : 62 < n := by omega
      clear hn
      go_enter Tryd.func22, Tryd.ntmps22
      go_wp2
      go_ret2
      exact ⟨ret2_int F1.out F2.out, rfl⟩
  · have F1 : Hid (Nm.powV a n = (Nm.pw a n.toNat).1) := by show _ = _; simp only [Nm.powV]; rw [if_neg hn]
    have F2 : Hid (Nm.powE a n = (Nm.pw a n.toNat).2) := by show _ = _; simp only [Nm.powE]; rw [if_neg hn]
    have h1 : 0 ≤ n := by omega
    have h2 : n ≤ 62 := by omega
    clear hn
    go_enter Tryd.func22, Tryd.ntmps22
    go_wp2
    go_loop [6, 16] (fun p i => ∃ P I : Int, p = .int .i64 P ∧ i = .int .i64 I ∧ 0 ≤ I ∧ I ≤ n ∧ -9223372036854775808 ≤ P ∧ P ≤ 9223372036854775807 ∧ Hid (Nm.pw a I.toNat = (P, 0))) (fun _ i => (n - intOf i).toNat)
    case atStart => exact ⟨1, 0, rfl, rfl, by omega, h1, by omega, by omega, rfl⟩
    case round =>
      obtain ⟨P, I, rfl, rfl, hI0, hI1, hP0, hP1, HP⟩ := hrel
      by_cases hlt : I < n
      · go_wp2_with (go_at_call 14; refine (num_Mul_out _ _ (by omega) (by omega) (by omega) (by omega) _).mono ?_; rintro e w' ⟨V, E, rfl, rfl, hV0, hV1, HV, HE⟩; refine Hid.out ?_)
        refine Lib.hid ?_
        rcases Nm.ce_01 (P * a) with hc | hc
        · obtain rfl : E = 0 := HE.out.trans hc
          go_wp2
          go_round
          case rel => exact ⟨_, _, rfl, rfl, by omega, by omega, hV0, hV1, by
            show _ = _
            rw [show (I + 1).toNat = I.toNat + 1 by omega, Nm.pw_next a I.toNat (by rw [HP.out]) (by rw [HP.out]; exact hc), HP.out, HV.out]⟩
          case measure => simp [intOf]; omega
        · obtain rfl : E = 9 := HE.out.trans hc
          have ho := Nm.pw_out a (k := I.toNat) (n := n.toNat) (by omega) (by rw [HP.out]) (by rw [HP.out]; exact hc)
          have G1 : Hid (0 = Nm.powV a n) := by show _ = _; rw [F1.out, ho]
          have G2 : Hid (9 = Nm.powE a n) := by show _ = _; rw [F2.out, ho]
          clear ho hc
          go_wp2
          go_ret2
          exact ⟨ret2_int G1.out G2.out, rfl⟩
      · have G : Hid (I.toNat = n.toNat) := by show _ = _; omega
        have G1 : Hid (P = Nm.powV a n) := by show _ = _; rw [F1.out, ← G.out, HP.out]
        have G2 : Hid (0 = Nm.powE a n) := by show _ = _; rw [F2.out, ← G.out, HP.out]
        go_wp2
        go_ret2
        exact ⟨ret2_int G1.out G2.out, rfl⟩

theorem ref_Mul_out (a b : Int) (ha0 : -9223372036854775808 ≤ a) (ha1 : a ≤ 9223372036854775807) (hb0 : -9223372036854775808 ≤ b) (hb1 : b ≤ 9223372036854775807) (w : World) :
    Calls Tryd.prog 17 #[.int .i64 a, .int .i64 b] w fun e w' => ∃ V E : Int, e = .returned (.tuple #[.int .i64 V, .int .i64 E]) ∧ w = w' ∧ -9223372036854775808 ≤ V ∧ V ≤ 9223372036854775807 ∧ Hid (V = Nm.cv (a * b)) ∧ Hid (E = Nm.ce (a * b)) :=
  (ref_Mul a b ha0 ha1 hb0 hb1 w).mono fun _ _ ⟨he, hw⟩ => ⟨_, _, he, hw, (Nm.cv_bd _).1, (Nm.cv_bd _).2, rfl, rfl⟩
theorem ref_Power (a n : Int) (ha0 : -9223372036854775808 ≤ a) (ha1 : a ≤ 9223372036854775807) (w : World) :
    Calls Tryd.prog 23 #[.int .i64 a, .int .i64 n] w fun e w' => e = .returned (.tuple #[.int .i64 (Nm.powV a n), .int .i64 (Nm.powE a n)]) ∧ w = w' := by
  by_cases hn : n < 0 ∨ 62 < n
  · have F1 : Hid (0 = Nm.powV a n) := by show _ = _; simp only [Nm.powV]; rw [if_pos hn]
    have F2 : Hid (2 = Nm.powE a n) := by show _ = _; simp only [Nm.powE]; rw [if_pos hn]
    by_cases h1 : n < 0
    · clear hn
      go_enter Tryd.func23, Tryd.ntmps23
      go_wp2
      go_ret2
      exact ⟨ret2_int F1.out F2.out, rfl⟩
    · have h2 : 62 < n := by omega
      clear hn
      go_enter Tryd.func23, Tryd.ntmps23
      go_wp2
      go_ret2
      exact ⟨ret2_int F1.out F2.out, rfl⟩
  · have F1 : Hid (Nm.powV a n = (Nm.pw a n.toNat).1) := by show _ = _; simp only [Nm.powV]; rw [if_neg hn]
    have F2 : Hid (Nm.powE a n = (Nm.pw a n.toNat).2) := by show _ = _; simp only [Nm.powE]; rw [if_neg hn]
    have h1 : 0 ≤ n := by omega
    have h2 : n ≤ 62 := by omega
    clear hn
    go_enter Tryd.func23, Tryd.ntmps23
    go_wp2
    go_loop [6, 7] (fun p i => ∃ P I : Int, p = .int .i64 P ∧ i = .int .i64 I ∧ 0 ≤ I ∧ I ≤ n ∧ -9223372036854775808 ≤ P ∧ P ≤ 9223372036854775807 ∧ Hid (Nm.pw a I.toNat = (P, 0))) (fun _ i => (n - intOf i).toNat)
    case atStart => exact ⟨1, 0, rfl, rfl, by omega, h1, by omega, by omega, rfl⟩
    case round =>
      obtain ⟨P, I, rfl, rfl, hI0, hI1, hP0, hP1, HP⟩ := hrel
      by_cases hlt : I < n
      · go_wp2_with (go_at_call 17; refine (ref_Mul_out _ _ (by omega) (by omega) (by omega) (by omega) _).mono ?_; rintro e w' ⟨V, E, rfl, rfl, hV0, hV1, HV, HE⟩; refine Hid.out ?_)
        refine Lib.hid ?_
        rcases Nm.ce_01 (P * a) with hc | hc
        · obtain rfl : E = 0 := HE.out.trans hc
          go_wp2
          go_round
          case rel => exact ⟨_, _, rfl, rfl, by omega, by omega, hV0, hV1, by
            show _ = _
            rw [show (I + 1).toNat = I.toNat + 1 by omega, Nm.pw_next a I.toNat (by rw [HP.out]) (by rw [HP.out]; exact hc), HP.out, HV.out]⟩
          case measure => simp [intOf]; omega
        · obtain rfl : E = 9 := HE.out.trans hc
          have ho := Nm.pw_out a (k := I.toNat) (n := n.toNat) (by omega) (by rw [HP.out]) (by rw [HP.out]; exact hc)
          have G1 : Hid (0 = Nm.powV a n) := by show _ = _; rw [F1.out, ho]
          have G2 : Hid (9 = Nm.powE a n) := by show _ = _; rw [F2.out, ho]
          clear ho hc
          go_wp2
          go_ret2
          exact ⟨ret2_int G1.out G2.out, rfl⟩
      · have G : Hid (I.toNat = n.toNat) := by show _ = _; omega
        have G1 : Hid (P = Nm.powV a n) := by show _ = _; rw [F1.out, ← G.out, HP.out]
        have G2 : Hid (0 = Nm.powE a n) := by show _ = _; rw [F2.out, ← G.out, HP.out]
        go_wp2
        go_ret2
        exact ⟨ret2_int G1.out G2.out, rfl⟩

theorem num_GCD (a b : Int) (ha0 : -9223372036854775808 ≤ a) (ha1 : a ≤ 9223372036854775807) (hb0 : -9223372036854775808 ≤ b) (hb1 : b ≤ 9223372036854775807) (w : World) :
    Calls Tryd.prog 24 #[.int .i64 a, .int .i64 b] w fun e w' => e = .returned (.int .i64 (Nm.gcdV a b)) ∧ Below w.heap.size w w' := by
  have a0 : 0 ≤ (a.natAbs : Int) := by omega
  have a1 : (a.natAbs : Int) < 18446744073709551616 := by omega
  have b0 : 0 ≤ (b.natAbs : Int) := by omega
  have b1 : (b.natAbs : Int) < 18446744073709551616 := by omega
  obtain ⟨A, eA⟩ : ∃ A : Int, A = (a.natAbs : Int) := ⟨_, rfl⟩
  obtain ⟨B, eB⟩ : ∃ B : Int, B = (b.natAbs : Int) := ⟨_, rfl⟩
  have H0 : Hid (Nat.gcd A.toNat B.toNat = Nat.gcd a.natAbs b.natAbs) := by show _ = _; rw [eA, eB]; rfl
  have gA := fun w => num_magnitude a ha0 ha1 w
  have gB := fun w => num_magnitude b hb0 hb1 w
  rw [← eA] at a0 a1 gA
  rw [← eB] at b0 b1 gB
  have GA := Lib.hid gA
  have GB := Lib.hid gB
  clear eA eB gA gB
  go_enter Tryd.func24, Tryd.ntmps24
  go_wp2_with fail
  refine (GA.out _).mono ?_
  rintro e w' ⟨rfl, rfl⟩
  go_wp2_with fail
  refine (GB.out _).mono ?_
  rintro e w' ⟨rfl, rfl⟩
  go_wp2_with fail
  go_loopw [5, 6] (fun x y wr => ∃ X Y : Int, x = .int .u64 X ∧ y = .int .u64 Y ∧ 0 ≤ X ∧ X < 18446744073709551616 ∧ 0 ≤ Y ∧ Y < 18446744073709551616 ∧ Hid (Nat.gcd X.toNat Y.toNat = Nat.gcd a.natAbs b.natAbs) ∧ Below w.heap.size w wr) (fun _ y _ => (intOf y).toNat)
  case atStart => exact ⟨A, B, rfl, rfl, a0, a1, b0, b1, H0, Below.refl _ _⟩
  case round =>
    obtain ⟨X, Y, rfl, rfl, x0, x1, y0, y1, HG, hb⟩ := hrel
    by_cases hy : Y = 0
    · subst hy
      have e : X.toNat = Nat.gcd a.natAbs b.natAbs := by have := HG.out; rw [show (0 : Int).toNat = 0 from rfl, Nat.gcd_zero_right] at this; exact this
      by_cases hx : 9223372036854775807 < X
      · have F : Hid (0 = Nm.gcdV a b) := by show _ = _; unfold Nm.gcdV; rw [← e, if_pos (by omega)]
        clear e
        go_wp2
        go_ret
        exact ⟨ret_int F.out, hb⟩
      · have F : Hid (X = Nm.gcdV a b) := by show _ = _; unfold Nm.gcdV; rw [← e, if_neg (by omega)]; omega
        clear e
        go_wp2
        go_ret
        exact ⟨ret_int F.out, hb⟩
    · have hyb : (Y != 0) = true := by simpa using hy
      have hyp : 0 < Y := by omega
      have hm := Int.emod_lt_of_pos X hyp
      have hm0 := Int.emod_nonneg X hy
      have HG2 : Hid (Nat.gcd Y.toNat (X % Y).toNat = Nat.gcd a.natAbs b.natAbs) := Nm.gcd_next' x0 y0 HG.out
      go_wp2_with fail
      go_quiet (fail)
      go_wp2_with fail
      go_roundw
      case rel => exact ⟨_, _, rfl, rfl, y0, y1, hm0, by omega, HG2, hb.trans ⟨rfl, rfl, rfl, Nat.le_refl _, fun _ _ => rfl⟩⟩
      case measure => simp [intOf]; omega

theorem ref_GCD (a b : Int) (ha0 : -9223372036854775808 ≤ a) (ha1 : a ≤ 9223372036854775807) (hb0 : -9223372036854775808 ≤ b) (hb1 : b ≤ 9223372036854775807) (w : World) :
    Calls Tryd.prog 25 #[.int .i64 a, .int .i64 b] w fun e w' => e = .returned (.int .i64 (Nm.gcdV a b)) ∧ w = w' := by
  have a0 : 0 ≤ (a.natAbs : Int) := by omega
  have a1 : (a.natAbs : Int) < 18446744073709551616 := by omega
  have b0 : 0 ≤ (b.natAbs : Int) := by omega
  have b1 : (b.natAbs : Int) < 18446744073709551616 := by omega
  obtain ⟨A, eA⟩ : ∃ A : Int, A = (a.natAbs : Int) := ⟨_, rfl⟩
  obtain ⟨B, eB⟩ : ∃ B : Int, B = (b.natAbs : Int) := ⟨_, rfl⟩
  have H0 : Hid (Nat.gcd A.toNat B.toNat = Nat.gcd a.natAbs b.natAbs) := by show _ = _; rw [eA, eB]; rfl
  have gA := fun w => ref_Size a ha0 ha1 w
  have gB := fun w => ref_Size b hb0 hb1 w
  rw [← eA] at a0 a1 gA
  rw [← eB] at b0 b1 gB
  have GA := Lib.hid gA
  have GB := Lib.hid gB
  clear eA eB gA gB
  go_enter Tryd.func25, Tryd.ntmps25
  go_wp2_with fail
  refine (GA.out _).mono ?_
  rintro e w' ⟨rfl, rfl⟩
  go_wp2_with fail
  refine (GB.out _).mono ?_
  rintro e w' ⟨rfl, rfl⟩
  go_wp2_with fail
  go_loop [5, 6, 7] (fun x y i => ∃ X Y I : Int, x = .int .u64 X ∧ y = .int .u64 Y ∧ i = .int .i64 I ∧ 0 ≤ I ∧ I ≤ 200 ∧ 0 ≤ X ∧ X < 18446744073709551616 ∧ 0 ≤ Y ∧ Y < 18446744073709551616 ∧ Hid (Nat.gcd X.toNat Y.toNat = Nat.gcd a.natAbs b.natAbs) ∧ Hid (Nm.Pot I X Y)) (fun _ _ i => (200 - intOf i).toNat)
  case atStart => exact ⟨A, B, 0, rfl, rfl, rfl, by omega, by omega, a0, a1, b0, b1, H0, .inl rfl⟩
  case round =>
    obtain ⟨X, Y, I, rfl, rfl, rfl, i0, i1, x0, x1, y0, y1, HG, HP⟩ := hrel
    by_cases hy : Y = 0
    · subst hy
      have e : X.toNat = Nat.gcd a.natAbs b.natAbs := by have := HG.out; rw [show (0 : Int).toNat = 0 from rfl, Nat.gcd_zero_right] at this; exact this
      have F : Hid ((if 9223372036854775807 < X then 0 else X) = Nm.gcdV a b) := by
        show _ = _
        unfold Nm.gcdV
        rw [← e]
        by_cases hx : 9223372036854775807 < X
        · rw [if_pos hx, if_pos (by omega)]
        · rw [if_neg hx, if_neg (by omega)]; omega
      clear e
      by_cases hx : 9223372036854775807 < X
      · have F2 : Hid (0 = Nm.gcdV a b) := by show _ = _; rw [← F.out, if_pos hx]
        by_cases hi : I < 200
        · go_wp2
          go_ret
          exact ⟨ret_int F2.out, rfl⟩
        · go_wp2
          go_ret
          exact ⟨ret_int F2.out, rfl⟩
      · have F2 : Hid (X = Nm.gcdV a b) := by show _ = _; rw [← F.out, if_neg hx]
        by_cases hi : I < 200
        · go_wp2
          go_ret
          exact ⟨ret_int F2.out, rfl⟩
        · go_wp2
          go_ret
          exact ⟨ret_int F2.out, rfl⟩
    · have hi : I < 200 := by
        by_cases h : I < 200
        · exact h
        · exact absurd (HP.out.fin (by omega) y0) hy
      have hyb : (Y != 0) = true := by simpa using hy
      have hyp : 0 < Y := by omega
      have hm := Int.emod_lt_of_pos X hyp
      have hm0 := Int.emod_nonneg X hy
      have HG2 : Hid (Nat.gcd Y.toNat (X % Y).toNat = Nat.gcd a.natAbs b.natAbs) := Nm.gcd_next' x0 y0 HG.out
      have HP2 : Hid (Nm.Pot (I + 1) Y (X % Y)) := HP.out.next i0 x0 hyp x1 y1
      go_wp2
      go_round
      case rel => exact ⟨_, _, _, rfl, rfl, rfl, by omega, by omega, y0, y1, hm0, by omega, HG2, HP2⟩
      case measure => simp [intOf]; omega
end Go.Proofs.YtdgficnpppilfaaDoor
