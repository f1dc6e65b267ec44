/- Layer 7, the project's package digest: Hex, digitOf, ParseHex. -/
import Derived.Test.YtimcgbichnakhaaDoorDigH
import Derived.Test.YtimcgbichnakhaaDoorByt
namespace Go.Proofs.YtimcgbichnakhaaDoor
set_option maxRecDepth 20000
open Go.RowKit
set_option linter.unusedVariables false
set_option linter.unusedSimpArgs false
/-- An array of 16 bytes of the call's own. -/
def Rw16 (w : World) (g : Nat) (L : List UInt8) : Prop := w.heap[g]? = some (.cells (L.map bv).toArray 43 (0, 0))
theorem Rw16.cell {w : World} {g k : Nat} {L : List UInt8} (h : Rw16 w g L) (hk : k < L.length) : w.cell? ⟨g, k, none⟩ = some (bv L[k]) := by
  rw [cell_of_row w g k _ _ _ h]
  simp [hk]
theorem Rw16.froz {w : World} {g : Nat} {L : List UInt8} (h : Rw16 w g L) (k : Nat) : w.frozen? ⟨g, k, none⟩ = false := by
  unfold Rw16 at h
  simp [World.frozen?, h]
theorem Rw16.set {w : World} {g k : Nat} {L : List UInt8} (h : Rw16 w g L) (hk : k < L.length) (c : UInt8) {x : Int} (hx : x = ((c.toNat : Nat) : Int)) : Rw16 (w.setCell ⟨g, k, none⟩ (.int .u8 x)) g (L.set k c) := by
  unfold Rw16 at h ⊢
  subst hx
  simp [World.setCell, Array.getElem?_modify, h, List.map_set, bv]
theorem Rw16.bytes {w : World} {g n : Nat} {L : List UInt8} (h : Rw16 w g L) (hn : L.length = n) : Byts w (g + 1) (some ⟨g, 0, none⟩) n L :=
  ⟨hn, fun _ => ⟨_, rfl, by show g < g + 1; omega, fun j c hj => by
    have hjl : j < L.length := (List.getElem?_eq_some_iff.1 hj).1
    obtain rfl : L[j] = c := (List.getElem?_eq_some_iff.1 hj).2
    rw [add0, show 0 + j = j by omega]
    exact h.cell hjl⟩⟩
theorem dt_hex : ∀ d, d < 16 → dt.getD d 0 = (((Dg.hexd d).toNat : Nat) : Int) := by decide
set_option maxHeartbeats 1000000 in
theorem dig_Hex (x : Int) (x0 : 0 ≤ x) (x1 : x ≤ 18446744073709551615) (w : World) (hE : DEnv w) : Calls Tryd.prog 22 #[.int .u64 x] w fun e w' => e = .returned (.string (Dg.hexS x)) ∧ Below w.heap.size w w' := by
  obtain ⟨N, eN⟩ : ∃ N : Nat, N = x.toNat := ⟨_, rfl⟩
  have hx : x = (N : Int) := by omega
  have E : Hid (∀ L : List UInt8, L = Dg.hexL 16 N → (⟨L.toArray⟩ : ByteArray) = Dg.hexS x) := fun L h => by
    unfold Dg.hexS
    rw [← eN, ← h]
  have HE := Lib.hid hE
  clear eN hE
  go_enter Tryd.func22, Tryd.ntmps22
  go_wp2_with fail
  go_loopw [0, 4] (fun a i W => ∃ (k Y : Nat) (L : List UInt8), k ≤ 16 ∧ Y ≤ 18446744073709551615 ∧ a = .int .u64 (Y : Int) ∧ i = .int .i64 ((k : Int) - 1) ∧ Hid (Y = N / 16 ^ (16 - k)) ∧ Hid (L.length = 16 ∧ L.drop k = Dg.hexL (16 - k) N) ∧ Hid (Rw16 W w.heap.size L) ∧ Hid (Below w.heap.size w W)) (fun _ i _ => (1 + intOf i).toNat)
  case atStart => exact ⟨16, N, List.replicate 16 0, by omega, by omega, by rw [hx], rfl, by show _ = _; rw [Nat.sub_self, Nat.pow_zero, Nat.div_one], ⟨rfl, rfl⟩, heap_alloc_new _ _, (Below.refl _ _).alloc (Nat.le_refl _) _⟩
  case round =>
    obtain ⟨k, Y, L, hk, hY, rfl, rfl, HY, HL, HR, HB⟩ := hrel
    rcases k with _ | k
    · have F := Lib.hid (E.out L (by have := HL.out.2; simpa using this))
      have hcv : (convert 26 9 (.slice (some ⟨w.heap.size, 0, none⟩) 16 16)).run Tryd.prog wr = .ok (.string ⟨L.toArray⟩) wr := conv_bytes (HR.out.bytes HL.out.1)
      go_wp2_with fail
      go_ret
      exact ⟨ret_sg F.out, HB.out⟩
    · have hlen := HL.out.1
      have hd0 := HL.out.2
      obtain ⟨d, ed⟩ : ∃ d : Nat, d = Y % 16 := ⟨_, rfl⟩
      have hd : (Y : Int) % 16 = (d : Int) := by omega
      have hd' : (Y : Int).tmod 16 = (d : Int) := by rw [Int.tmod_eq_emod_of_nonneg (by omega)]; omega
      have d16 : d ≤ 15 := by omega
      have dc := (HE.out.on HB.out).digit (J := d) (by omega)
      rw [dt_hex d (by omega)] at dc
      have kc := HR.out.cell (k := k) (by omega)
      have kf := HR.out.froz k
      obtain ⟨u, eu⟩ : ∃ u : Int, u = (((Dg.hexd d).toNat : Nat) : Int) := ⟨_, rfl⟩
      rw [← eu] at dc
      have HR2 := Lib.hid (HR.out.set (k := k) (by omega) (Dg.hexd d) eu)
      have HL2 : Hid ((L.set k (Dg.hexd d)).length = 16 ∧ (L.set k (Dg.hexd d)).drop k = Dg.hexL (16 - k) N) := by
        refine ⟨by rw [List.length_set]; exact hlen, ?_⟩
        have hkl : k < (L.set k (Dg.hexd d)).length := by rw [List.length_set]; omega
        rw [List.drop_eq_getElem_cons hkl, List.getElem_set_self, List.drop_set_of_lt (by omega), hd0, show 16 - k = 16 - (k + 1) + 1 by omega, Dg.hexL_high, ← HY.out, ← ed]
      have eu1 : u ≤ 255 := by rw [eu]; have := (Dg.hexd d).toNat_lt; omega
      have eu0 : 0 ≤ u := by rw [eu]; omega
      obtain ⟨Z, eZ⟩ : ∃ Z : Nat, Z = Y / 16 := ⟨_, rfl⟩
      have hz : (Y : Int) / 16 = (Z : Int) := by omega
      have Z1 : Z ≤ 18446744073709551615 := by omega
      have HZ : Hid (Z = N / 16 ^ (16 - k)) := by show _ = _; rw [eZ, HY.out, Nat.div_div_eq_div_mul, ← Nat.pow_succ, show (16 - (k + 1)).succ = 16 - k by omega]
      have ek : (((k + 1 : Nat) : Int) - 1) = (k : Int) := by omega
      have k1 : (k : Int) ≤ 15 := by omega
      have k0 : (0 : Int) ≤ (k : Int) := by omega
      rw [ek]
      clear ed eZ hd0 eu ek
      go_wp2_with fail
      go_roundw
      case rel => exact ⟨k, Z, _, by omega, Z1, rfl, by go_num, HZ, HL2, HR2, HB.out.setCell (Nat.le_refl _) _⟩
      case measure => simp [intOf]; omega
theorem digits_at (w : World) : ∀ (j : Nat), j < 16 → (Instr.index 43 (.agg #[.int .u8 48, .int .u8 49, .int .u8 50, .int .u8 51, .int .u8 52, .int .u8 53, .int .u8 54, .int .u8 55, .int .u8 56, .int .u8 57, .int .u8 97, .int .u8 98, .int .u8 99, .int .u8 100, .int .u8 101, .int .u8 102]) (.int .i64 (j : Int))).run Tryd.prog w = .ok (.int .u8 (dt.getD j 0)) w
  | 0, _ => by kernel_rfl
  | 1, _ => by kernel_rfl
  | 2, _ => by kernel_rfl
  | 3, _ => by kernel_rfl
  | 4, _ => by kernel_rfl
  | 5, _ => by kernel_rfl
  | 6, _ => by kernel_rfl
  | 7, _ => by kernel_rfl
  | 8, _ => by kernel_rfl
  | 9, _ => by kernel_rfl
  | 10, _ => by kernel_rfl
  | 11, _ => by kernel_rfl
  | 12, _ => by kernel_rfl
  | 13, _ => by kernel_rfl
  | 14, _ => by kernel_rfl
  | 15, _ => by kernel_rfl
  | n + 16, h => absurd h (by omega)
/-- The digit's number, if c is one. -/
theorem okh_at {c : UInt8} {j : Nat} (hj : j < 16) (h : ((c.toNat : Nat) : Int) = dt.getD j 0) : Dg.okh c = true ∧ Dg.hv c = j := by
  rw [dt_hex j hj] at h
  have hc : c = Dg.hexd j := UInt8.toNat_inj.1 (by omega)
  rw [hc]
  exact Dg.hexd_ok hj
theorem not_okh {c : UInt8} (h : ∀ j, j < 16 → ((c.toNat : Nat) : Int) ≠ dt.getD j 0) : Dg.okh c = false := by
  rw [Bool.eq_false_iff]
  intro ho
  have h1 := Dg.hv_lt ho
  refine h (Dg.hv c) h1 ?_
  rw [dt_hex _ h1, Dg.hexd_hv ho]
/-- What digitOf answers. -/
def dgv (c : UInt8) : Int := if Dg.okh c = true then (Dg.hv c : Nat) else 0
theorem dgv_ok {c : UInt8} (h : Dg.okh c = true) : dgv c = (Dg.hv c : Nat) := by unfold dgv; rw [if_pos h]
theorem dgv_no {c : UInt8} (h : Dg.okh c = false) : dgv c = 0 := by unfold dgv; rw [if_neg (by rw [h]; simp)]
theorem ret2_ib {x x' : Int} {b b' : Bool} (h : x = x') (g : b = b') : Ending.returned (.tuple #[.int .u64 x, .bool b]) = .returned (.tuple #[.int .u64 x', .bool b']) := by rw [h, g]
theorem dt_bd : ∀ j, j < 16 → 0 ≤ dt.getD j 0 ∧ dt.getD j 0 ≤ 255 := by decide
set_option maxHeartbeats 1000000 in
theorem dig_digitOf (c : UInt8) (w : World) (hE : DEnv w) : Calls Tryd.prog 29 #[.int .u8 ((c.toNat : Nat) : Int)] w fun e w' => e = .returned (.tuple #[.int .u64 (dgv c), .bool (Dg.okh c)]) ∧ w = w' := by
  have r0 : w.cell? ⟨1, 0, none⟩ = some (.int .u8 48) := hE.digit (J := 0) (by omega)
  have r1 : w.cell? ⟨1, 1, none⟩ = some (.int .u8 49) := hE.digit (J := 1) (by omega)
  have r2 : w.cell? ⟨1, 2, none⟩ = some (.int .u8 50) := hE.digit (J := 2) (by omega)
  have r3 : w.cell? ⟨1, 3, none⟩ = some (.int .u8 51) := hE.digit (J := 3) (by omega)
  have r4 : w.cell? ⟨1, 4, none⟩ = some (.int .u8 52) := hE.digit (J := 4) (by omega)
  have r5 : w.cell? ⟨1, 5, none⟩ = some (.int .u8 53) := hE.digit (J := 5) (by omega)
  have r6 : w.cell? ⟨1, 6, none⟩ = some (.int .u8 54) := hE.digit (J := 6) (by omega)
  have r7 : w.cell? ⟨1, 7, none⟩ = some (.int .u8 55) := hE.digit (J := 7) (by omega)
  have r8 : w.cell? ⟨1, 8, none⟩ = some (.int .u8 56) := hE.digit (J := 8) (by omega)
  have r9 : w.cell? ⟨1, 9, none⟩ = some (.int .u8 57) := hE.digit (J := 9) (by omega)
  have r10 : w.cell? ⟨1, 10, none⟩ = some (.int .u8 97) := hE.digit (J := 10) (by omega)
  have r11 : w.cell? ⟨1, 11, none⟩ = some (.int .u8 98) := hE.digit (J := 11) (by omega)
  have r12 : w.cell? ⟨1, 12, none⟩ = some (.int .u8 99) := hE.digit (J := 12) (by omega)
  have r13 : w.cell? ⟨1, 13, none⟩ = some (.int .u8 100) := hE.digit (J := 13) (by omega)
  have r14 : w.cell? ⟨1, 14, none⟩ = some (.int .u8 101) := hE.digit (J := 14) (by omega)
  have r15 : w.cell? ⟨1, 15, none⟩ = some (.int .u8 102) := hE.digit (J := 15) (by omega)
  have IX := Lib.hid fun j (h : j < 16) (W : World) => digits_at W j h
  have hc0 : (0 : Int) ≤ ((c.toNat : Nat) : Int) := by omega
  have hc1 : ((c.toNat : Nat) : Int) ≤ 255 := by have := c.toNat_lt; omega
  obtain ⟨C, eC⟩ : ∃ C : Int, C = ((c.toNat : Nat) : Int) := ⟨_, rfl⟩
  rw [← eC] at hc0 hc1 ⊢
  have HC := Lib.hid eC
  clear eC
  go_enter Tryd.func29, Tryd.ntmps29
  go_wp2_with fail
  go_loopw [7] (fun i W => ∃ j : Nat, j ≤ 16 ∧ i = .int .i64 (j : Int) ∧ Hid (∀ k, k < j → C ≠ dt.getD k 0) ∧ W = w) (fun i _ => 16 - (intOf i).toNat)
  case atStart => exact ⟨0, by omega, rfl, fun k hk => absurd hk (by omega), rfl⟩
  case round =>
    obtain ⟨j, hj, rfl, HN, rfl⟩ := hrel
    by_cases hlt : j < 16
    · have ix := IX.out j hlt
      have db := dt_bd j hlt
      obtain ⟨D, eD⟩ : ∃ D : Int, D = dt.getD j 0 := ⟨_, rfl⟩
      rw [← eD] at ix db
      have HD := Lib.hid eD
      obtain ⟨d0, d1⟩ := db
      have hlt' : (j : Int) < 16 := by omega
      clear eD
      by_cases hcd : C = D
      · have hcd' : (C == D) = true := by rw [beq_iff_eq]; exact hcd
        have F := Lib.hid (okh_at (c := c) hlt (by rw [← HC.out, hcd, HD.out]))
        have F1 : Hid (((j : Nat) : Int) = dgv c) := by show _ = _; rw [dgv_ok F.out.1, F.out.2]
        go_wp2_with fail
        go_ret2
        exact ⟨ret2_ib F1.out F.out.1.symm, rfl⟩
      · have hcd' : (C == D) = false := by rw [beq_eq_false_iff_ne]; exact hcd
        have HN2 : Hid (∀ k, k < j + 1 → C ≠ dt.getD k 0) := fun k hk => by
          by_cases hkj : k = j
          · subst hkj; rw [← HD.out]; exact hcd
          · exact HN.out k (by omega)
        go_wp2_with fail
        go_roundw
        case rel => exact ⟨j + 1, by omega, by go_num, HN2, trivial⟩
        case measure => simp [intOf]; omega
    · obtain rfl : j = 16 := by omega
      have F := Lib.hid (not_okh (c := c) fun k hk => by rw [← HC.out]; exact HN.out k hk)
      go_wp2_with fail
      go_ret2
      exact ⟨ret2_ib (dgv_no F.out).symm F.out.symm, rfl⟩
set_option maxHeartbeats 1000000 in
theorem dig_ParseHex (s : ByteArray) (hs : s.size ≤ 281474976710656) (w : World) (hE : DEnv w) : Calls Tryd.prog 23 #[.string s] w fun e w' => e = .returned (.tuple #[.int .u64 (Dg.phV s.data.toList), .int .i64 (Dg.phE s.data.toList)]) ∧ Below w.heap.size w w' := by
  by_cases h16 : s.size = 16
  · have hz1 : 16 ≤ s.size := by omega
    have hz2 : s.size ≤ 16 := by omega
    have hne : ((s.size : Int) == 16) = true := by rw [beq_iff_eq]; omega
    have hne' : ((s.size : Int) != 16) = false := by rw [bne, hne]; rfl
    have H16 := Lib.hid h16
    have HE := Lib.hid hE
    clear h16 hs hE
    go_enter Tryd.func23, Tryd.ntmps23
    go_wp2_with fail
    go_loopw [4, 13] (fun x i W => ∃ (k X : Nat), k ≤ 16 ∧ x = .int .u64 (X : Int) ∧ i = .int .i64 (k : Int) ∧ Hid (X = Dg.pv (s.data.toList.take k)) ∧ Hid ((s.data.toList.take k).all Dg.okh = true) ∧ W = w) (fun _ i _ => 16 - (intOf i).toNat)
    case atStart => exact ⟨0, 0, by omega, rfl, rfl, rfl, rfl, rfl⟩
    case round =>
      obtain ⟨k, X, hk, rfl, rfl, HX, HK, rfl⟩ := hrel
      by_cases hlt : k < 16
      · have hks : k < s.size := by omega
        have hks' : (k : Int) < (s.size : Int) := by omega
        have hX : X ≤ 1152921504606846975 := by rw [HX.out]; exact ph_bd hlt (by omega) HK.out
        have hX' : (X : Int) ≤ 1152921504606846975 := by omega
        have C := Lib.hid (dig_digitOf s[k] wr HE.out)
        cases ho : Dg.okh s[k]
        · rw [ho, dgv_no ho] at C
          obtain ⟨e1, e2⟩ := ph_bad hks (fun e => by rw [Dg.okh_iff.2 e] at ho; cases ho)
          have E1 := Lib.hid e1
          have E2 := Lib.hid e2
          clear e1 e2 ho
          go_wp2_with fail
          refine C.out.mono ?_
          rintro e w' ⟨rfl, rfl⟩
          go_wp2_with fail
          go_ret2
          exact ⟨ret2_int E1.out.symm E2.out.symm, Below.refl _ _⟩
        · rw [ho, dgv_ok ho] at C
          obtain ⟨n1, n2⟩ := ph_step hks HK.out ho
          have hh := Dg.hv_lt ho
          obtain ⟨h, eh⟩ : ∃ h : Nat, h = Dg.hv s[k] := ⟨_, rfl⟩
          rw [← eh] at C n2 hh
          obtain ⟨Z, eZ⟩ : ∃ Z : Nat, Z = 16 * X + h := ⟨_, rfl⟩
          have hz : (X : Int) * 16 + (h : Int) = (Z : Int) := by omega
          have hh' : (h : Int) < 16 := by omega
          have HZ : Hid (Z = Dg.pv (s.data.toList.take (k + 1))) := by
            show _ = _
            rw [n2, ← HX.out, eZ]
          have HK2 := Lib.hid n1
          clear ho n1 n2 eZ eh
          go_wp2_with fail
          refine C.out.mono ?_
          rintro e w' ⟨rfl, rfl⟩
          go_wp2_with fail
          go_roundw
          case rel => exact ⟨k + 1, Z, by omega, by rw [← hz], by go_num, HZ, HK2, trivial⟩
          case measure => simp [intOf]; omega
      · have hall : s.data.toList.take k = s.data.toList := List.take_of_length_le (by rw [Array.length_toList]; show s.size ≤ k; omega)
        rw [hall] at HX HK
        obtain ⟨e1, e2⟩ := Dg.ph_ok (L := s.data.toList) (by unfold Dg.phO; rw [HK.out, Bool.and_true, decide_eq_true_iff, Array.length_toList]; exact H16.out)
        have E1 : Hid ((X : Int) = Dg.phV s.data.toList) := by show _ = _; rw [e1, HX.out]
        have E2 := Lib.hid e2
        have hks' : ¬ (k : Int) < (s.size : Int) := by omega
        clear e1 e2 hall
        go_wp2_with fail
        go_ret2
        exact ⟨ret2_int E1.out E2.out.symm, Below.refl _ _⟩
  · obtain ⟨e1, e2⟩ := Dg.ph_no (L := s.data.toList) (by
      unfold Dg.phO
      rw [show decide (s.data.toList.length = 16) = false by rw [decide_eq_false_iff_not, Array.length_toList]; exact h16, Bool.false_and])
    have E1 := Lib.hid e1
    have E2 := Lib.hid e2
    have hne : ((s.size : Int) == 16) = false := by rw [beq_eq_false_iff_ne]; omega
    have hne' : ((s.size : Int) != 16) = true := by rw [bne, hne]; rfl
    clear e1 e2 h16
    go_enter Tryd.func23, Tryd.ntmps23
    go_wp2_with fail
    go_ret2
    exact ⟨ret2_int E1.out.symm E2.out.symm, Below.refl _ _⟩
end Go.Proofs.YtimcgbichnakhaaDoor
