/- Layer 7, the project's package digest: the tables; Mix, unshift, Unmix, Sum, Keyed, Chain. -/
import Derived.Test.YtimcgbichnakhaaDoorDigB
import Derived.Lib.LaidTab
import Derived.Lib.AppendIntMem
namespace Go.Proofs.YtimcgbichnakhaaDoor
set_option maxRecDepth 20000
open Go.RowKit
set_option linter.unusedVariables false
set_option linter.unusedSimpArgs false
theorem g_rounds : Tryd.prog.globalNamed "lottery/digest.rounds" = some 0 := by kernel_rfl
theorem g_digits : Tryd.prog.globalNamed "lottery/digest.digits" = some 1 := by kernel_rfl
/-- The tables of rounds and of digits, cell for cell. -/
def rt : List Int := [30, 13787848793156543929, 10871156337175269513, 27, 10723151780598845931, 3573116690164977347]
def dt : List Int := [48, 49, 50, 51, 52, 53, 54, 55, 56, 57, 97, 98, 99, 100, 101, 102]
/-- The tables read as they were laid, now and behind whatever turns nothing of what is there. -/
def DEnv (w : World) : Prop := ∀ w', Below w.heap.size w w' → Lib.TabIs Tryd.prog w' "lottery/digest.rounds" .u64 rt ∧ Lib.TabIs Tryd.prog w' "lottery/digest.digits" .u8 dt
theorem DEnv.here {w : World} (h : DEnv w) : Lib.TabIs Tryd.prog w "lottery/digest.rounds" .u64 rt ∧ Lib.TabIs Tryd.prog w "lottery/digest.digits" .u8 dt := h w (Below.refl _ _)
theorem DEnv.on {w w1 : World} (h : DEnv w) (hb : Below w.heap.size w w1) : DEnv w1 := fun w' h' => h w' (bthn6 hb h')
theorem denv_mk {w : World} (ht : Lib.TabIs Tryd.prog w "lottery/digest.rounds" .u64 rt) (hd : Lib.TabIs Tryd.prog w "lottery/digest.digits" .u8 dt) : DEnv w :=
  fun w' hb => ⟨Lib.tabBelow_of_tabIs ht w' hb, Lib.tabBelow_of_tabIs hd w' hb⟩
theorem DEnv.cell {w : World} (h : DEnv w) {J : Nat} (hJ : J < 6) : w.cell? ⟨0, J, none⟩ = some (.int .u64 (rt.getD J 0)) :=
  h.here.1.cell g_rounds J (by unfold rt; simp; omega)
theorem DEnv.digit {w : World} (h : DEnv w) {J : Nat} (hJ : J < 16) : w.cell? ⟨1, J, none⟩ = some (.int .u8 (dt.getD J 0)) :=
  h.here.2.cell g_digits J (by unfold dt; simp; omega)
/-- The rounds of the mixing function. -/
def mixR (x : Dg.V) : Nat → Dg.V
  | 0 => x
  | 1 => Dg.xs 30 x * Dg.C1
  | _ => Dg.xs 27 (Dg.xs 30 x * Dg.C1) * Dg.C2
theorem mixR1 (x : Dg.V) : IntKind.u64.wrap (bits .xor .u64 (Dg.I (mixR x 0)) (Dg.I (mixR x 0) / 1073741824) * 13787848793156543929) = Dg.I (mixR x 1) := by
  have e30 : ∀ a : Dg.V, Dg.I a / (1073741824 : Int) = Dg.I (a >>> 30) := fun a => Dg.I_shr a 30
  have m1 : ∀ a : Dg.V, IntKind.u64.wrap (Dg.I a * 13787848793156543929) = Dg.I (a * Dg.C1) := fun a => Dg.I_mul a Dg.C1
  rw [e30, Dg.I_xor, m1]; rfl
theorem mixR2 (x : Dg.V) : IntKind.u64.wrap (bits .xor .u64 (Dg.I (mixR x 1)) (Dg.I (mixR x 1) / 134217728) * 10723151780598845931) = Dg.I (mixR x 2) := by
  have e27 : ∀ a : Dg.V, Dg.I a / (134217728 : Int) = Dg.I (a >>> 27) := fun a => Dg.I_shr a 27
  have m2 : ∀ a : Dg.V, IntKind.u64.wrap (Dg.I a * 10723151780598845931) = Dg.I (a * Dg.C2) := fun a => Dg.I_mul a Dg.C2
  rw [e27, Dg.I_xor, m2]; rfl
theorem mixR3 (x : Dg.V) : bits .xor .u64 (Dg.I (mixR x 2)) (Dg.I (mixR x 2) / 2147483648) = Dg.I (Dg.mixV x) := by
  have e31 : ∀ a : Dg.V, Dg.I a / (2147483648 : Int) = Dg.I (a >>> 31) := fun a => Dg.I_shr a 31
  rw [e31, Dg.I_xor]; rfl
theorem dig_Mix (x : Int) (x0 : 0 ≤ x) (x1 : x ≤ 18446744073709551615) (w : World) (hE : DEnv w) :
    Calls Tryd.prog 14 #[.int .u64 x] w fun e w' => e = .returned (.int .u64 (Dg.mix x)) ∧ Below w.heap.size w w' := by
  obtain ⟨v, rfl⟩ : ∃ v, x = Dg.I v := ⟨Dg.B x, (Dg.I_B x0 x1).symm⟩
  have E : Hid (Dg.I (Dg.mixV v) = Dg.mix (Dg.I v)) := by show _ = _; unfold Dg.mix; rw [Dg.B_I]
  have M1 := mixR1 v
  have M2 := mixR2 v
  have M3 := mixR3 v
  have B0 := Dg.I_bd (mixR v 0)
  have B1 := Dg.I_bd (mixR v 1)
  have B2 := Dg.I_bd (mixR v 2)
  have B3 := Dg.I_bd (Dg.mixV v)
  have e0 : Dg.I v = Dg.I (mixR v 0) := rfl
  obtain ⟨X1, E1⟩ : ∃ X, X = Dg.I (mixR v 1) := ⟨_, rfl⟩
  obtain ⟨X2, E2⟩ : ∃ X, X = Dg.I (mixR v 2) := ⟨_, rfl⟩
  obtain ⟨X3, E3⟩ : ∃ X, X = Dg.I (Dg.mixV v) := ⟨_, rfl⟩
  rw [← E1] at M1 M2 B1
  rw [← E2] at M2 M3 B2
  rw [← E3] at M3 B3 E
  obtain ⟨X0, E0⟩ : ∃ X, X = Dg.I v := ⟨_, rfl⟩
  rw [← e0] at M1 B0
  rw [← E0] at M1 B0 E ⊢
  clear E1 E2 E3 E0 e0 x0 x1
  obtain ⟨B00, B01⟩ := B0
  obtain ⟨B10, B11⟩ := B1
  obtain ⟨B20, B21⟩ := B2
  obtain ⟨B30, B31⟩ := B3
  have r0 : w.cell? ⟨0, 0, none⟩ = some (.int .u64 30) := hE.cell (J := 0) (by omega)
  have r1 : w.cell? ⟨0, 1, none⟩ = some (.int .u64 13787848793156543929) := hE.cell (J := 1) (by omega)
  have r2 : w.cell? ⟨0, 2, none⟩ = some (.int .u64 10871156337175269513) := hE.cell (J := 2) (by omega)
  have r3 : w.cell? ⟨0, 3, none⟩ = some (.int .u64 27) := hE.cell (J := 3) (by omega)
  have r4 : w.cell? ⟨0, 4, none⟩ = some (.int .u64 10723151780598845931) := hE.cell (J := 4) (by omega)
  have r5 : w.cell? ⟨0, 5, none⟩ = some (.int .u64 3573116690164977347) := hE.cell (J := 5) (by omega)
  have i0 : ∀ w : World, (Instr.index 41 (.agg #[.int .u64 30, .int .u64 13787848793156543929, .int .u64 10871156337175269513, .int .u64 27, .int .u64 10723151780598845931, .int .u64 3573116690164977347]) (.int .i64 0)).run Tryd.prog w = .ok (.agg #[.int .u64 30, .int .u64 13787848793156543929, .int .u64 10871156337175269513]) w := fun _ => by kernel_rfl
  have i1 : ∀ w : World, (Instr.index 41 (.agg #[.int .u64 30, .int .u64 13787848793156543929, .int .u64 10871156337175269513, .int .u64 27, .int .u64 10723151780598845931, .int .u64 3573116690164977347]) (.int .i64 1)).run Tryd.prog w = .ok (.agg #[.int .u64 27, .int .u64 10723151780598845931, .int .u64 3573116690164977347]) w := fun _ => by kernel_rfl
  go_enter Tryd.func14, Tryd.ntmps14
  go_wp2_with fail
  go_loopw [0, 6] (fun a i W => ∃ (j : Nat) (X : Int), j ≤ 2 ∧ a = .int .u64 X ∧ i = .int .i64 (j : Int) ∧ Hid (X = if j = 0 then X0 else if j = 1 then X1 else X2) ∧ Hid (Below w.heap.size w W)) (fun _ i _ => 2 - (intOf i).toNat)
  case atStart => exact ⟨0, X0, by omega, rfl, rfl, rfl, Below.refl _ _⟩
  case round =>
    obtain ⟨j, X, hj, rfl, rfl, HX, HB⟩ := hrel
    have hj3 : j = 0 ∨ j = 1 ∨ j = 2 := by omega
    rcases hj3 with rfl | rfl | rfl
    · obtain rfl : X = X0 := HX.out
      go_wp2_with fail
      go_roundw
      case rel => exact ⟨1, X1, by omega, rfl, rfl, rfl, HB.out.alloc HB.out.size _⟩
      case measure => simp [intOf]
    · obtain rfl : X = X1 := HX.out
      go_wp2_with fail
      go_roundw
      case rel => exact ⟨2, X2, by omega, rfl, rfl, rfl, HB.out.alloc HB.out.size _⟩
      case measure => simp [intOf]
    · obtain rfl : X = X2 := HX.out
      go_wp2_with fail
      go_ret
      exact ⟨ret_int E.out, HB.out⟩
theorem it_two {n : Nat} (y : Dg.V) : Dg.itV n y 2 = Dg.us n y := by
  show y ^^^ (y ^^^ y >>> n) >>> n = Dg.us n y
  unfold Dg.us
  rw [Dg.sh_xor, Dg.sh_sh, BitVec.xor_assoc]
theorem dig_unshift27 (y : Int) (w : World) (y0 : 0 ≤ y) (y1 : y ≤ 18446744073709551615) : Calls Tryd.prog 26 #[.int .u64 y, .int .u64 27] w fun e w' => e = .returned (.int .u64 (Dg.I (Dg.us 27 (Dg.B y)))) ∧ w = w' := by
  have I0 : Hid (y = Dg.I (Dg.itV 27 (Dg.B y) 0)) := (Dg.I_B y0 y1).symm
  have IY := Lib.hid (Dg.I_B y0 y1)
  have E4 := Lib.hid (it_two (n := 27) (Dg.B y))
  go_enter Tryd.func26, Tryd.ntmps26
  go_wp2_with fail
  go_loopw [5, 6] (fun x i W => ∃ (j : Nat) (X : Int), j ≤ 2 ∧ 0 ≤ X ∧ X ≤ 18446744073709551615 ∧ x = .int .u64 X ∧ i = .int .u64 (((27 * (j + 1) : Nat)) : Int) ∧ Hid (X = Dg.I (Dg.itV 27 (Dg.B y) j)) ∧ W = w) (fun _ i _ => 200 - (intOf i).toNat)
  case atStart => exact ⟨0, y, by omega, y0, y1, rfl, rfl, I0, rfl⟩
  case round =>
    obtain ⟨j, X, hj, X0, X1, rfl, rfl, HX, rfl⟩ := hrel
    by_cases hlt : j < 2
    · obtain ⟨Z, eZ⟩ : ∃ Z, Z = bits .xor .u64 y (X / 134217728) := ⟨_, rfl⟩
      have hz : Z = Dg.I (Dg.itV 27 (Dg.B y) (j + 1)) := by
        rw [eZ, HX.out]
        conv => lhs; rw [← IY.out]
        have e : ∀ a : Dg.V, Dg.I a / (134217728 : Int) = Dg.I (a >>> 27) := fun a => Dg.I_shr a 27
        rw [e, Dg.I_xor, Dg.B_I]; rfl
      have hb := Dg.I_bd (Dg.itV 27 (Dg.B y) (j + 1))
      rw [← hz] at hb
      obtain ⟨Z0, Z1⟩ := hb
      have HZ := Lib.hid hz
      have eZ' : bits .xor .u64 y (X / 134217728) = Z := eZ.symm
      obtain ⟨J, eJ⟩ : ∃ J : Int, J = ((27 * (j + 1) : Nat) : Int) := ⟨_, rfl⟩
      have hJ : J < 64 := by omega
      have hJ0 : 0 ≤ J := by omega
      have HJ : Hid (J + 27 = ((27 * (j + 1 + 1) : Nat) : Int)) := by show _ = _; omega
      rw [← eJ]
      clear hz eZ eJ
      go_wp2_with fail
      go_roundw
      case rel => exact ⟨j + 1, Z, by omega, Z0, Z1, rfl, by rw [← HJ.out], HZ, trivial⟩
      case measure => simp [intOf]; omega
    · obtain rfl : j = 2 := by omega
      have F : Hid (X = Dg.I (Dg.us 27 (Dg.B y))) := by show _ = _; rw [HX.out, E4.out]
      go_wp2_with fail
      go_ret
      exact ⟨ret_int F.out, rfl⟩
theorem dig_unshift30 (y : Int) (w : World) (y0 : 0 ≤ y) (y1 : y ≤ 18446744073709551615) : Calls Tryd.prog 26 #[.int .u64 y, .int .u64 30] w fun e w' => e = .returned (.int .u64 (Dg.I (Dg.us 30 (Dg.B y)))) ∧ w = w' := by
  have I0 : Hid (y = Dg.I (Dg.itV 30 (Dg.B y) 0)) := (Dg.I_B y0 y1).symm
  have IY := Lib.hid (Dg.I_B y0 y1)
  have E4 := Lib.hid (it_two (n := 30) (Dg.B y))
  go_enter Tryd.func26, Tryd.ntmps26
  go_wp2_with fail
  go_loopw [5, 6] (fun x i W => ∃ (j : Nat) (X : Int), j ≤ 2 ∧ 0 ≤ X ∧ X ≤ 18446744073709551615 ∧ x = .int .u64 X ∧ i = .int .u64 (((30 * (j + 1) : Nat)) : Int) ∧ Hid (X = Dg.I (Dg.itV 30 (Dg.B y) j)) ∧ W = w) (fun _ i _ => 200 - (intOf i).toNat)
  case atStart => exact ⟨0, y, by omega, y0, y1, rfl, rfl, I0, rfl⟩
  case round =>
    obtain ⟨j, X, hj, X0, X1, rfl, rfl, HX, rfl⟩ := hrel
    by_cases hlt : j < 2
    · obtain ⟨Z, eZ⟩ : ∃ Z, Z = bits .xor .u64 y (X / 1073741824) := ⟨_, rfl⟩
      have hz : Z = Dg.I (Dg.itV 30 (Dg.B y) (j + 1)) := by
        rw [eZ, HX.out]
        conv => lhs; rw [← IY.out]
        have e : ∀ a : Dg.V, Dg.I a / (1073741824 : Int) = Dg.I (a >>> 30) := fun a => Dg.I_shr a 30
        rw [e, Dg.I_xor, Dg.B_I]; rfl
      have hb := Dg.I_bd (Dg.itV 30 (Dg.B y) (j + 1))
      rw [← hz] at hb
      obtain ⟨Z0, Z1⟩ := hb
      have HZ := Lib.hid hz
      have eZ' : bits .xor .u64 y (X / 1073741824) = Z := eZ.symm
      obtain ⟨J, eJ⟩ : ∃ J : Int, J = ((30 * (j + 1) : Nat) : Int) := ⟨_, rfl⟩
      have hJ : J < 64 := by omega
      have hJ0 : 0 ≤ J := by omega
      have HJ : Hid (J + 30 = ((30 * (j + 1 + 1) : Nat) : Int)) := by show _ = _; omega
      rw [← eJ]
      clear hz eZ eJ
      go_wp2_with fail
      go_roundw
      case rel => exact ⟨j + 1, Z, by omega, Z0, Z1, rfl, by rw [← HJ.out], HZ, trivial⟩
      case measure => simp [intOf]; omega
    · obtain rfl : j = 2 := by omega
      have F : Hid (X = Dg.I (Dg.us 30 (Dg.B y))) := by show _ = _; rw [HX.out, E4.out]
      go_wp2_with fail
      go_ret
      exact ⟨ret_int F.out, rfl⟩
theorem dig_unshift31 (y : Int) (w : World) (y0 : 0 ≤ y) (y1 : y ≤ 18446744073709551615) : Calls Tryd.prog 26 #[.int .u64 y, .int .u64 31] w fun e w' => e = .returned (.int .u64 (Dg.I (Dg.us 31 (Dg.B y)))) ∧ w = w' := by
  have I0 : Hid (y = Dg.I (Dg.itV 31 (Dg.B y) 0)) := (Dg.I_B y0 y1).symm
  have IY := Lib.hid (Dg.I_B y0 y1)
  have E4 := Lib.hid (it_two (n := 31) (Dg.B y))
  go_enter Tryd.func26, Tryd.ntmps26
  go_wp2_with fail
  go_loopw [5, 6] (fun x i W => ∃ (j : Nat) (X : Int), j ≤ 2 ∧ 0 ≤ X ∧ X ≤ 18446744073709551615 ∧ x = .int .u64 X ∧ i = .int .u64 (((31 * (j + 1) : Nat)) : Int) ∧ Hid (X = Dg.I (Dg.itV 31 (Dg.B y) j)) ∧ W = w) (fun _ i _ => 200 - (intOf i).toNat)
  case atStart => exact ⟨0, y, by omega, y0, y1, rfl, rfl, I0, rfl⟩
  case round =>
    obtain ⟨j, X, hj, X0, X1, rfl, rfl, HX, rfl⟩ := hrel
    by_cases hlt : j < 2
    · obtain ⟨Z, eZ⟩ : ∃ Z, Z = bits .xor .u64 y (X / 2147483648) := ⟨_, rfl⟩
      have hz : Z = Dg.I (Dg.itV 31 (Dg.B y) (j + 1)) := by
        rw [eZ, HX.out]
        conv => lhs; rw [← IY.out]
        have e : ∀ a : Dg.V, Dg.I a / (2147483648 : Int) = Dg.I (a >>> 31) := fun a => Dg.I_shr a 31
        rw [e, Dg.I_xor, Dg.B_I]; rfl
      have hb := Dg.I_bd (Dg.itV 31 (Dg.B y) (j + 1))
      rw [← hz] at hb
      obtain ⟨Z0, Z1⟩ := hb
      have HZ := Lib.hid hz
      have eZ' : bits .xor .u64 y (X / 2147483648) = Z := eZ.symm
      obtain ⟨J, eJ⟩ : ∃ J : Int, J = ((31 * (j + 1) : Nat) : Int) := ⟨_, rfl⟩
      have hJ : J < 64 := by omega
      have hJ0 : 0 ≤ J := by omega
      have HJ : Hid (J + 31 = ((31 * (j + 1 + 1) : Nat) : Int)) := by show _ = _; omega
      rw [← eJ]
      clear hz eZ eJ
      go_wp2_with fail
      go_roundw
      case rel => exact ⟨j + 1, Z, by omega, Z0, Z1, rfl, by rw [← HJ.out], HZ, trivial⟩
      case measure => simp [intOf]; omega
    · obtain rfl : j = 2 := by omega
      have F : Hid (X = Dg.I (Dg.us 31 (Dg.B y))) := by show _ = _; rw [HX.out, E4.out]
      go_wp2_with fail
      go_ret
      exact ⟨ret_int F.out, rfl⟩
end Go.Proofs.YtimcgbichnakhaaDoor
