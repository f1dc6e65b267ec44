/- The reference's product, of any length, and limb. -/
import Derived.Test.YtclejcijnfpgaaaGreatDoorFracR
import Derived.IntWalk
namespace Go.Proofs.YtclejcijnfpgaaaGreatDoor
set_option maxRecDepth 20000
open Go.RowKit
set_option linter.unusedVariables false
set_option linter.unusedSimpArgs false
theorem ref4_limb {B n c : Nat} {A : Option Addr} {f : Nat → Nat} (i : Int) (k : Nat) (w : World) (h : Digs w B .u32 A n f) (hz : ∀ j, n ≤ j → f j = 0) (hn : n ≤ 9223372036854775807) (hi : i = (k : Int)) :
    Calls Tryz.prog 48 #[.slice A n c, .int .i64 i] w fun e w' => e = .returned (.int .u32 (f k : Nat)) ∧ w = w' := by
  subst hi
  have H := Lib.hid h
  have HZ := Lib.hid hz
  clear h hz
  by_cases hk : k < n
  · obtain ⟨ad, x, rfl, hb, hc, HX, -, -⟩ := H.out.at_ hk (Nat.lt_succ_self _)
    go_enter Tryz.func48, Tryz.ntmps48
    go_wp2
    go_ret
    exact ⟨ret_val (by rw [HX.out]; rfl), rfl⟩
  · have F : Hid (0 = ((f k : Nat) : Int)) := by show _ = _; rw [HZ.out k (by omega)]; rfl
    go_enter Tryz.func48, Tryz.ntmps48
    go_wp2
    go_ret
    exact ⟨ret_val (by rw [F.out]; rfl), rfl⟩
/-- What product leaves: the limbs of a product. -/
def Prod (l z : Nat) (w : World) (e : Ending) (w' : World) : Prop :=
  ∃ A G, e = .returned (.slice A l l) ∧ Below w.heap.size w w' ∧ Digs w' w'.heap.size .u32 A l G ∧ (∀ i, G i < 4294967296) ∧ (∀ i, l ≤ i → G i = 0) ∧ Nt.vl 4294967296 G l = z
theorem AddInv.to_so {g i m t fc car : Nat} {b F G : Nat → Nat} {w wr : World} (h : AddInv g i m m t fc b F car w wr G) : AddInv g (Nt.so i m) m m t fc b F car w wr G := by
  by_cases h0 : m = 0
  · subst h0
    exact ⟨h.row, fun j hj => h.same j (by omega), h.lt, by simpa [Nt.vl_zero] using h.val, h.gr⟩
  · rw [Nt.so, if_neg h0]; exact h
theorem prod_wraps {y a b c : Int} (y0 : 0 ≤ y) (y1 : y < 4294967296) (a0 : 0 ≤ a) (a1 : a < 4294967296) (b0 : 0 ≤ b) (b1 : b < 4294967296) (c0 : 0 ≤ c) (c1 : c < 4294967296) :
    IntKind.u64.wrap (IntKind.u64.wrap (y + IntKind.u64.wrap (a * b)) + c) = a * b + y + c := by
  obtain ⟨p0, p1⟩ := Nt.prod_bd a0 a1 b0 b1
  rw [Nt.w64 p0 (by omega), Nt.w64 (x := y + a * b) (by omega) (by omega), Nt.w64 (by omega) (by omega)]
  omega
theorem prod_ends {t T : Int} (h : t = T) (t0 : 0 ≤ T) (t1 : T < 18446744073709551616) : t.tmod 4294967296 % 4294967296 = T % 4294967296 ∧ IntKind.u64.wrap (t.tdiv 4294967296) = T / 4294967296 := by
  subst h
  rw [Int.tmod_eq_emod_of_nonneg t0, Int.tdiv_eq_ediv_of_nonneg t0, Nt.w64 (by omega) (by omega)]
  exact ⟨by omega, rfl⟩
set_option maxHeartbeats 1000000 in
theorem ref4_product {n c m j x y : Nat} {A A' : Option Addr} (w : World) (h : IsN w w.heap.size A n x) (h' : IsN w w.heap.size A' m y) (hn : n ≤ 64) (hm : m ≤ 64) :
    Calls Tryz.prog 47 #[.slice A n c, .slice A' m j] w (Prod (n + m) (x * y) w) := by
  have hmk := make_u32s (n + m) (by omega)
  simp only [Int.natCast_add] at hmk
  have r0 := Rw.made w (n + m) 43 .u32
  have hb := (Below.refl w.heap.size w).alloc (Nat.le_refl _) (.cells (madeCells #[.int .u32 0] (n + m)) 43)
  have H1 := Lib.hid (h.below hb)
  have H2 := Lib.hid (h'.below hb)
  have R0 := Lib.hid r0
  have HB := Lib.hid hb
  have HY2 := Lib.hid ((Nt.ln_le_iff (B := 4294967296) (by omega)).1 (by rw [h'.l]; exact Nat.le_refl _) : y < 4294967296 ^ m)
  clear r0 hb h h'
  go_enter Tryz.func47, Tryz.ntmps47
  go_wp2_with fail
  clear hmk
  obtain ⟨w3, ew3⟩ : ∃ w3, w3 = w.alloc (.cells (madeCells #[.int .u32 0] (n + m)) 43) := ⟨_, rfl⟩
  obtain ⟨g, eg⟩ : ∃ g, g = w.heap.size := ⟨_, rfl⟩
  rw [← ew3] at HB
  rw [← ew3, ← eg] at H1 H2 R0
  rw [← ew3, ← eg]
  rw [← eg] at HB
  have hg3 : g < w3.heap.size := R0.out.lt
  have EG := Lib.hid eg
  clear ew3 eg
  go_loopw [6] (fun i W => ∃ (k : Nat) (G : Nat → Nat), k ≤ n ∧ i = .int .i64 k ∧ Hid (MulInv g n m k x y w3 W G) ∧ g < W.heap.size) (fun i _ => n - (intOf i).toNat)
  case atStart => exact ⟨0, fun _ => 0, by omega, rfl, ⟨R0.out, fun _ => by omega, fun _ _ => rfl, by
      rw [Nt.vl_zero, Nat.zero_mul, Nt.vl_more (n := 0) (by omega) (fun _ _ _ => rfl), Nt.vl_zero], Below.refl _ _⟩, hg3⟩
  case round =>
    obtain ⟨i, G, hi, rfl, HI, hgW⟩ := hrel
    by_cases hlt : i < n
    · obtain ⟨ad, v, rfl, hbl, hcell, HX, v0, v1⟩ := (H1.out.below HI.out.bel).d.at_ hlt (Nt.dg_lt (B := 4294967296) (by omega) x i)
      have K1 := Lib.hid (H1.out.below HI.out.bel)
      have K2 := Lib.hid (H2.out.below HI.out.bel)
      have i0 : (0 : Int) ≤ (i : Int) := by omega
      have i1 : (i : Int) < (n : Int) := by omega
      clear hcell
      go_wp2_with fail
      go_loopw [7, 8] (fun cr kk W => ∃ (k : Nat) (cv : Int) (cn : Nat) (G' : Nat → Nat), k ≤ m ∧ kk = .int .i64 k ∧ cr = .int .u64 cv ∧ 0 ≤ cv ∧ cv < 4294967296 ∧ Hid (cv = (cn : Nat)) ∧ Hid (AddInv g i m k (n + m) (Nt.dg 4294967296 x i) (Nt.dg 4294967296 y) G cn wr W G')) (fun _ kk _ => m - (intOf kk).toNat)
      case atStart => exact ⟨0, 0, 0, G, by omega, rfl, rfl, by omega, by omega, rfl, HI.out.row, fun _ _ => rfl, HI.out.lt, by simp [Nt.vl_zero], World.grownBy.refl _ _⟩
      case round =>
        obtain ⟨k, cv, cn, G', hk, rfl, rfl, c0, c1, HC, HA⟩ := hrel
        by_cases hlk : k < m
        · obtain ⟨_, X, he, -, hcx, HXX, x0, x1⟩ := (K1.out.d.grown HA.out.gr (Nat.le_of_lt hgW) (Nat.le_refl _)).at_ hlt (Nt.dg_lt (B := 4294967296) (by omega) x i)
          cases he
          obtain ⟨ad', Y, rfl, -, hcy, HY, y0, y1⟩ := (K2.out.d.grown HA.out.gr (Nat.le_of_lt hgW) (Nat.le_refl _)).at_ hlk (Nt.dg_lt (B := 4294967296) (by omega) y k)
          have x1' : X < 4294967296 := x1
          have y1' : Y < 4294967296 := y1
          have hcl := HA.out.row.cell (i := i + k) (by omega)
          have hfl := HA.out.row.free (i + k)
          have hGl := HA.out.lt (i + k)
          obtain ⟨Z, eZ⟩ : ∃ Z : Int, Z = (G' (i + k) : Nat) := ⟨_, rfl⟩
          rw [← eZ] at hcl
          have z0 : 0 ≤ Z := by omega
          have z1 : Z < 4294967296 := by omega
          obtain ⟨p0, p1⟩ := Nt.prod_bd x0 x1' y0 y1'
          have TW := prod_wraps z0 z1 x0 x1' y0 y1' c0 c1
          obtain ⟨T, eT⟩ : ∃ T, T = X * Y + Z + cv := ⟨_, rfl⟩
          rw [← eT] at TW
          have t0 : 0 ≤ T := by omega
          have t1 : T < 18446744073709551616 := by omega
          have hs : Nt.dg 4294967296 x i * Nt.dg 4294967296 y k + G' (i + k) + cn = T.toNat / 4294967296 * 4294967296 + T.toNat % 4294967296 := by
            have e1 : T = ((Nt.dg 4294967296 x i * Nt.dg 4294967296 y k + G' (i + k) + cn : Nat) : Int) := by
              rw [eT, HXX.out, HY.out, eZ, HC.out]; simp
            have e2 : T.toNat = Nt.dg 4294967296 x i * Nt.dg 4294967296 y k + G' (i + k) + cn := by rw [e1, Int.toNat_natCast]
            rw [← e2]; exact (Nat.div_add_mod' _ _).symm
          have HN := Lib.hid (fun d => HA.out.step (d := d) (x := T % 4294967296) hs (Nat.mod_lt _ (by omega)) (by omega))
          have ET := Lib.hid eT
          obtain ⟨E1, E2⟩ := prod_ends TW t0 t1
          have j0 : (0 : Int) ≤ (i : Int) + (k : Int) := by omega
          have j1 : (i : Int) + (k : Int) < (n : Int) + (m : Int) := by omega
          have j2 : (0 : Int) ≤ (k : Int) := by omega
          have j3 : (k : Int) < (m : Int) := by omega
          clear TW eZ eT hs hGl x1 y1 p0 p1
          go_wp2_with fail
          go_quiet (fail)
          go_wp2_with fail
          refine ⟨⟨k + 1, T / 4294967296, T.toNat / 4294967296, _, by omega, by go_num, rfl, by omega, by omega, by show _ = _; omega, HN.out _⟩, ?_⟩
          simp [intOf]; omega
        · obtain rfl : m = k := by omega
          have hcl := HA.out.row.cell (i := i + m) (by omega)
          have hfl := HA.out.row.free (i + m)
          have j0 : (0 : Int) ≤ (i : Int) + (m : Int) := by omega
          have j1 : (i : Int) + (m : Int) < (n : Int) + (m : Int) := by omega
          have hN : MulInv g n m (i + 1) x y w3 (wr.setCell ⟨g, i + m, none⟩ (.int .u32 cv)) (upd G' (i + m) cn) := by
            have := HI.out.step (car := cn) HY2.out hlt 0 (HA.out.to_so) (by have := HC.out; omega) (by omega)
            rw [HC.out]; exact this
          have HN := Lib.hid hN
          clear hN
          go_wp2_with fail
          refine ⟨⟨i + 1, _, by omega, by go_num, HN, HN.out.row.lt⟩, ?_⟩
          simp [intOf]; omega
    · obtain rfl : n = i := by omega
      have hd := HI.out.row.digs (B := wr.heap.size) (off := 0) (n := n + m) HI.out.row.lt (by omega)
      have e0 : (fun j => G (0 + j)) = G := by funext j; rw [Nat.zero_add]
      rw [e0] at hd
      have hv := HI.out.val
      rw [H1.out.val] at hv
      have hb2 : Below w.heap.size w wr := by rw [← EG.out]; exact HB.out.trans HI.out.bel
      have HD := Lib.hid hd
      have HV := Lib.hid hv
      have HB2 := Lib.hid hb2
      clear hd hv hb2 e0
      go_wp2_with fail
      go_ret
      exact ⟨_, G, rfl, HB2.out, HD.out, HI.out.lt, HI.out.z, HV.out⟩
end Go.Proofs.YtclejcijnfpgaaaGreatDoor
