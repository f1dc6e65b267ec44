/- The reference of layer 3: mul, half. -/
import Derived.Test.YtfjnpmkklanopaaNatRB
namespace Go.Proofs.Ytfjnpmkklanopaa
set_option maxRecDepth 20000
open Go.RowKit
set_option linter.unusedVariables false
set_option linter.unusedSimpArgs false
namespace Nt
theorem mulh_next {V c P a x y r q A B : Nat} (h : V + c * P = A + a * B) (hs : x + a * y + c = q * 65536 + r) : V + r * P + q * (P * 65536) = (A + x * P) + a * (B + y * P) := by
  have h2 : (x + a * y + c) * P = (q * 65536 + r) * P := by rw [hs]
  grind
/-- What an inner round of the school's product adds to a row. -/
theorem mulh_row {G G0 b : Nat → Nat} {i k m a y : Nat} (hm : i + k ≤ m) (hsame : ∀ j, j < i ∨ i + k ≤ j → G j = G0 j) (hval : vl 65536 (fun j => G (i + j)) k = vl 65536 (fun j => G0 (i + j)) k + a * vl 65536 b k) (hy : vl 65536 b k = y) :
    vl 65536 G m = vl 65536 G0 m + 65536 ^ i * (a * y) := by
  obtain ⟨r, rfl⟩ := Nat.le.dest hm
  rw [vl_split (i + k) r, vl_split (f := G0) (i + k) r, vl_split i k, vl_split (f := G0) i k, hval, hy,
    vl_congr (f := fun j => G (i + k + j)) (g := fun j => G0 (i + k + j)) (fun j _ => hsame _ (by omega)),
    vl_congr (f := G) (g := G0) (n := i) (fun j hj => hsame _ (by omega)), Nat.mul_add]
  omega
/-- What is carried beyond the second number's digits is carried no farther. -/
theorem mulh_last {G0 b : Nat → Nat} {i n' m a y c V : Nat} (hm : i + (n' + 1) ≤ m) (hG : ∀ j, G0 j < 65536) (h0 : vl 65536 G0 m < 65536 ^ (i + n')) (ha : a < 65536) (hy : y < 65536 ^ n') (hb : vl 65536 b (n' + 1) = y)
    (hval : V + c * 65536 ^ (n' + 1) = vl 65536 (fun j => G0 (i + j)) (n' + 1) + a * vl 65536 b (n' + 1)) : c = 0 := by
  obtain ⟨h1, -⟩ := vl_cut (B := 65536) (f := G0) (j := i + n') (m := m) (by omega) h0 (by omega)
  have hz : G0 (i + n') = 0 := by
    rcases Nat.eq_zero_or_pos (G0 (i + n')) with e | e
    · exact e
    · exfalso
      have h2 : 65536 ^ (i + n') ≤ vl 65536 G0 (i + n' + 1) := vl_top (by omega)
      have h3 : vl 65536 G0 (i + n' + 1) ≤ vl 65536 G0 m := vl_mono (by omega)
      omega
  rw [vl_drop (f := fun j => G0 (i + j)) hz, hb] at hval
  have h4 : vl 65536 (fun j => G0 (i + j)) n' < 65536 ^ n' := vl_lt fun j _ => hG _
  have h5 : a * y ≤ 65535 * 65536 ^ n' := Nat.mul_le_mul (by omega) (Nat.le_of_lt hy)
  rcases Nat.eq_zero_or_pos c with e | e
  · exact e
  · have h6 : 1 * 65536 ^ (n' + 1) ≤ c * 65536 ^ (n' + 1) := Nat.mul_le_mul_right _ e
    rw [Nat.pow_succ] at h6 hval
    omega
theorem mulh_bd {x i y n' : Nat} (hy : y < 65536 ^ n') : vl 65536 (dg 65536 x) i * y < 65536 ^ (i + n') := by
  have h1 : vl 65536 (dg 65536 x) i < 65536 ^ i := vl_lt fun j _ => dg_lt (by omega) x j
  rw [Nat.pow_add]
  exact Nat.mul_lt_mul'' h1 hy
end Nt
theorem make_ints (n : Nat) (h : n ≤ 35184372088832) (W : World) : (Instr.makeSlice 37 (.int .i64 (n : Int)) (.int .i64 (n : Int))).run Try.prog W = .ok (.slice (some ⟨W.heap.size, 0, none⟩) n n) (W.alloc (.cells (madeCells #[.int .i64 0] n) 3)) :=
  run_make_row' (P := Try.prog) 37 3 (.int .i64 0) 8 Try.underlying37 info_i64 rfl .i64 .i64 n (by omega) (by omega) W
/-- What stands in the product's row when i digits of the first number are done. -/
structure MulH (g m i x y : Nat) (w W : World) (G : Nat → Nat) : Prop where
  row : Rw W g 3 .i64 m G
  lt : ∀ j, G j < 65536
  val : Nt.vl 65536 G m = Nt.vl 65536 (Nt.dg 65536 x) i * y
  bel : Below g w W
/-- And when k digits of an inner round are done. -/
structure MulK (g m i k a c : Nat) (b G0 : Nat → Nat) (w W : World) (G : Nat → Nat) : Prop where
  row : Rw W g 3 .i64 m G
  lt : ∀ j, G j < 65536
  same : ∀ j, j < i ∨ i + k ≤ j → G j = G0 j
  val : Nt.vl 65536 (fun j => G (i + j)) k + c * 65536 ^ k = Nt.vl 65536 (fun j => G0 (i + j)) k + a * Nt.vl 65536 b k
  bel : Below g w W
theorem MulK.step {g m i k a c q r d : Nat} {b G0 G : Nat → Nat} {w W : World} {X : Int} (h : MulK g m i k a c b G0 w W G) (hs : G (i + k) + a * b k + c = q * 65536 + r) (hr : r < 65536) (hX : X = (r : Nat)) :
    MulK g m i (k + 1) a q b G0 w ((W.drewN d).setCell ⟨g, i + k, none⟩ (.int .i64 X)) (upd G (i + k) r) :=
  ⟨(h.row.drewN d).set hX, upd_lt h.lt hr _, fun j hj => by rw [upd_ne _ _ (by omega)]; exact h.same j (by omega), by
    have e := h.same (i + k) (by omega)
    rw [Nt.upd_off, Nt.vl_succ, Nt.vl_upd, upd_same, Nt.vl_succ, Nt.vl_succ, Nat.pow_succ, ← e]
    exact Nt.mulh_next h.val hs, (h.bel.trans (below_dr _ _ d)).setCell (Nat.le_refl _) _⟩
set_option maxHeartbeats 800000 in
theorem ref3_mul {n c n' c' x y : Nat} {A A' : Option Addr} (w : World) (h : IsH w w.heap.size A n x) (h' : IsH w w.heap.size A' n' y) (hn : n ≤ 1000) (hn' : n' ≤ 1000) :
    Calls Try.prog 48 #[.slice A n c, .slice A' n' c'] w (HRes (x * y) w) := by
  have H := Lib.hid h
  have H' := Lib.hid h'
  have hyl : y < 65536 ^ n' := (Nt.ln_le_iff (by omega)).1 (by rw [h'.l]; exact Nat.le_refl _)
  have HYL := Lib.hid hyl
  have hmk := make_ints (n + n' + 1) (by omega)
  simp only [Int.natCast_add, Int.cast_ofNat_Int] at hmk
  have R0 := Lib.hid (Rw.made w (n + n' + 1) 3 .i64)
  have B0 := Lib.hid ((Below.refl w.heap.size w).alloc (Nat.le_refl _) (.cells (madeCells #[.int .i64 0] (n + n' + 1)) 3))
  clear h h' hyl
  go_enter Try.func48, Try.ntmps48
  go_wp2_with fail
  clear hmk
  go_loopw [6] (fun s W => ∃ (i : Nat) (G : Nat → Nat), i ≤ n ∧ s = .int .i64 i ∧ Hid (MulH w.heap.size (n + n' + 1) i x y w W G)) (fun s _ => n - (intOf s).toNat)
  case atStart => exact ⟨0, fun _ => 0, by omega, rfl, R0.out, fun _ => by omega, by rw [Nt.vl_zero, Nat.zero_mul, Nt.vl_more (n := 0) (by omega) (fun _ _ _ => rfl), Nt.vl_zero], B0.out⟩
  case round =>
    obtain ⟨i, G0, hi, rfl, HO⟩ := hrel
    obtain ⟨wo, rfl⟩ : ∃ wo : World, wo = wr := ⟨_, rfl⟩
    by_cases hlt : i < n
    · have hal := Nt.dg_lt (B := 65536) (by omega) x i
      go_wp2_with fail
      go_loopw [7, 8] (fun s t W => ∃ (k : Nat) (cr : Int) (cn : Nat) (G : Nat → Nat), k ≤ n' + 1 ∧ t = .int .i64 k ∧ s = .int .i64 cr ∧ 0 ≤ cr ∧ cr < 65536 ∧ Hid (cr = (cn : Nat)) ∧ Hid (n' < k → cn = 0) ∧ Hid (MulK w.heap.size (n + n' + 1) i k (Nt.dg 65536 x i) cn (Nt.dg 65536 y) G0 w W G)) (fun _ t _ => n' + 2 - (intOf t).toNat)
      case atStart => exact ⟨0, 0, 0, G0, by omega, rfl, rfl, by omega, by omega, rfl, fun _ => rfl, HO.out.row, HO.out.lt, fun _ _ => rfl, by simp [Nt.vl_zero], HO.out.bel⟩
      case round =>
        obtain ⟨k, cr, cn, G, hk, rfl, rfl, c0, c1, HC, HZ, HI⟩ := hrel
        by_cases hgo : k < n' ∨ 0 < cr
        · have hkn : k ≤ n' := by
            rcases hgo with h | h
            · omega
            · rcases Nat.lt_or_ge n' k with h2 | h2
              · have := HZ.out h2; have := HC.out; omega
              · exact h2
          obtain ⟨ad, X, rfl, hb, hcell, HX, x0, x1⟩ := (H.out.below HI.out.bel).d.at_ hlt hal
          have x1' : X < 65536 := by omega
          have hyd := Nt.dg_lt (B := 65536) (by omega) y k
          obtain ⟨Y, eY⟩ : ∃ Y : Int, Y = (Nt.dg 65536 y k : Nat) := ⟨_, rfl⟩
          have y0 : 0 ≤ Y := by omega
          have y1 : Y < 65536 := by omega
          have hcl := HI.out.row.cell (i := i + k) (by omega)
          have hfl := HI.out.row.free (i + k)
          have hGl := HI.out.lt (i + k)
          obtain ⟨Z, eZ⟩ : ∃ Z : Int, Z = (G (i + k) : Nat) := ⟨_, rfl⟩
          rw [← eZ] at hcl
          have z0 : 0 ≤ Z := by omega
          have z1 : Z < 65536 := by omega
          have p0 : 0 ≤ X * Y := Int.mul_nonneg x0 y0
          have p1 : X * Y ≤ 4294836225 := by
            have := Int.mul_le_mul (show X ≤ 65535 by omega) (show Y ≤ 65535 by omega) y0 (by omega)
            omega
          have cd2 := fun W (h : Digs W w.heap.size .i64 A' n' (Nt.dg 65536 y)) => ref3_digit (c := c') Y k W h (fun hh => H'.out.out hh) (by omega) eY
          have CD2 := Lib.hid cd2
          have HD2 := Lib.hid (H'.out.d.below HI.out.bel)
          obtain ⟨T, eT⟩ : ∃ T, T = Z + X * Y + cr := ⟨_, rfl⟩
          have t0 : 0 ≤ T := by omega
          have t1 : T < 5000000000 := by omega
          have hs : G (i + k) + Nt.dg 65536 x i * Nt.dg 65536 y k + cn = T.toNat / 65536 * 65536 + T.toNat % 65536 := by
            have e1 : T = ((G (i + k) + Nt.dg 65536 x i * Nt.dg 65536 y k + cn : Nat) : Int) := by
              rw [eT, HX.out, eY, eZ, HC.out]; simp
            have e2 : T.toNat = G (i + k) + Nt.dg 65536 x i * Nt.dg 65536 y k + cn := by rw [e1, Int.toNat_natCast]
            rw [← e2]; exact (Nat.div_add_mod' _ _).symm
          have HN := Lib.hid (fun d => HI.out.step (d := d) (X := T % 65536) hs (Nat.mod_lt _ (by omega)) (by omega))
          have HZ2 : Hid (n' < k + 1 → T.toNat / 65536 = 0) := fun hk2 => by
            obtain rfl : k = n' := by omega
            have := (HN.out 0).val
            exact Nt.mulh_last (m := n + k + 1) (by omega) HO.out.lt (by rw [HO.out.val]; exact Nt.mulh_bd HYL.out) hal HYL.out (Nt.vl_dg_all (Nat.lt_of_lt_of_le HYL.out (Nat.pow_le_pow_right (by omega) (by omega)))) this
          have ET := Lib.hid eT
          have j0 : (0 : Int) ≤ (i : Int) + (k : Int) := by omega
          have j1 : (i : Int) + (k : Int) < (n : Int) + (n' : Int) + 1 := by omega
          have j2 : (0 : Int) ≤ (i : Int) := by omega
          have j3 : (i : Int) < (n : Int) := by omega
          have hT : Z + X * Y + cr = T := eT.symm
          clear eY eZ eT hs cd2 hyd hGl x1
          by_cases hg : k < n'
          · clear hgo
            go_wp2_with fail
            go_quiet ((go_at_call 60; exact quiet_l (CD2.out _ (HD2.out.drewN _))))
            go_wp2_with fail
            refine ⟨⟨k + 1, T / 65536, T.toNat / 65536, _, by omega, by go_num, rfl, by omega, by omega, by show _ = _; omega, HZ2, HN.out _⟩, ?_⟩
            simp [intOf]; omega
          · have hg2 : 0 < cr := by
              rcases hgo with h | h
              · exact absurd h hg
              · exact h
            clear hgo
            go_wp2_with fail
            go_quiet ((go_at_call 60; exact quiet_l (CD2.out _ (HD2.out.drewN _))))
            go_wp2_with fail
            refine ⟨⟨k + 1, T / 65536, T.toNat / 65536, _, by omega, by go_num, rfl, by omega, by omega, by show _ = _; omega, HZ2, HN.out _⟩, ?_⟩
            simp [intOf]; omega
        · have hk2 : ¬ k < n' := fun h => hgo (.inl h)
          have hc2 : ¬ 0 < cr := fun h => hgo (.inr h)
          have hcn : cn = 0 := by have := HC.out; omega
          have hN : MulH w.heap.size (n + n' + 1) (i + 1) x y w wr G := by
            have hI := HI.out
            refine ⟨hI.row, hI.lt, ?_, hI.bel⟩
            have hv := hI.val
            rw [hcn, Nat.zero_mul, Nat.add_zero] at hv
            rw [Nt.mulh_row (k := k) (by omega) hI.same hv (Nt.vl_dg_all (Nat.lt_of_lt_of_le HYL.out (Nat.pow_le_pow_right (by omega) (by omega)))), HO.out.val, Nt.vl_succ, Nat.add_mul]
            congr 1
            rw [← Nat.mul_assoc, Nat.mul_comm (65536 ^ i)]
          have HN := Lib.hid hN
          clear hgo hcn hN
          go_wp2_with fail
          refine ⟨⟨i + 1, G, by omega, by go_num, HN⟩, ?_⟩
          simp [intOf]; omega
    · obtain rfl : i = n := by omega
      have hd := HO.out.row.digs (B := wo.heap.size) (off := 0) (n := i + n' + 1) HO.out.row.lt (by omega)
      have e0 : (fun j => G0 (0 + j)) = G0 := by funext j; rw [Nat.zero_add]
      rw [e0] at hd
      have hr := hd.isH_tl (fun j _ => HO.out.lt j)
      rw [HO.out.val, H.out.val] at hr
      have ct := ref3_trim (c := i + n' + 1) wo hd (Nat.le_refl _) (by omega)
      have HTL := Lib.hid (Nt.tl_le G0 (i + n' + 1))
      have CT := Lib.hid ct
      have HR := Lib.hid hr
      clear hd e0 hr ct
      go_wp2_with fail
      refine CT.out.mono ?_
      rintro e w' ⟨rfl, rfl⟩
      go_wp2_with fail
      go_ret
      exact ⟨_, _, _, rfl, HO.out.bel, HR.out, ⟨HTL.out, by omega⟩, fun _ ad e => fresh_at e⟩

/-! ### Halves of numbers -/
structure HalfH (g n k x r : Nat) (w W : World) (G : Nat → Nat) : Prop where
  row : Rw W g 3 .i64 n G
  lt : ∀ j, G j < 65536
  val : x / 65536 ^ k = 2 * Nt.vl 65536 (fun j => G (k + j)) (n - k) + r
  bel : Below g w W
theorem HalfH.step {g n k x r : Nat} {w W : World} {G : Nat → Nat} {X : Int} (h : HalfH g n (k + 1) x r w W G) (hk : k + 1 ≤ n) (hr : r < 2) {q r' : Nat} (hq : 65536 * r + Nt.dg 65536 x k = 2 * q + r') (hX : X = (q : Nat)) (hr' : r' < 2) :
    HalfH g n k x r' w (W.setCell ⟨g, k, none⟩ (.int .i64 X)) (upd G k q) := by
  have hd := Nt.dg_lt (B := 65536) (by omega) x k
  refine ⟨h.row.set hX, upd_lt h.lt (by omega) _, ?_, h.bel.setCell (Nat.le_refl _) _⟩
  have e1 : Nt.vl 65536 (fun j => upd G k q (k + j)) (n - k) = q + 65536 * Nt.vl 65536 (fun j => G (k + 1 + j)) (n - (k + 1)) := by
    rw [show n - k = 1 + (n - (k + 1)) by omega, Nt.vl_split 1]
    have a1 : Nt.vl 65536 (fun j => upd G k q (k + j)) 1 = q := by simp [Nt.vl_succ, Nt.vl_zero, upd]
    rw [a1, Nat.pow_one]
    congr 2
    refine Nt.vl_congr fun j _ => ?_
    show upd G k q (k + (1 + j)) = _
    rw [upd_ne _ _ (by omega), show k + (1 + j) = k + 1 + j by omega]
  rw [e1, Nt.div_split, h.val]
  omega
end Go.Proofs.Ytfjnpmkklanopaa
