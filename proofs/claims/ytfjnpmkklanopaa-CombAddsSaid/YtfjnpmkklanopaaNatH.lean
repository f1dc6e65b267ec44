/- Contracts of nat.divide, nat.DivMod, nat.GCD. -/
import Derived.Test.YtfjnpmkklanopaaNatG
namespace Go.Proofs.Ytfjnpmkklanopaa
set_option maxRecDepth 20000
open Go.RowKit
set_option linter.unusedVariables false
set_option linter.unusedSimpArgs false
namespace Nt
theorem vl_cut {B : Nat} {f : Nat → Nat} {j m : Nat} (hj : j ≤ m) (h : vl B f m < B ^ j) (hB : 0 < B) : B ^ j * vl B (fun i => f (j + i)) (m - j) = 0 ∧ vl B f m = vl B f j := by
  obtain ⟨k, rfl⟩ := Nat.le.dest hj
  rw [Nat.add_sub_cancel_left]
  rw [vl_split] at h ⊢
  have hp : 0 < B ^ j := Nat.pow_pos hB
  have : vl B (fun i => f (j + i)) k = 0 := by
    rcases Nat.eq_zero_or_pos (vl B (fun i => f (j + i)) k) with e | e
    · exact e
    · have := Nat.mul_le_mul_left (B ^ j) e
      omega
  rw [this]; simp
theorem div_part {B : Nat} {R : Nat → Nat} {y k n' m L : Nat} (hB : 0 < B) (hy : y < B ^ n') (hm : k + (n' + 1) ≤ m) (hlt : vl B R m < y * B ^ (k + 1)) (hL : L = vl B (fun i => R (k + i)) (n' + 1)) :
    L < y * B ∧ vl B R m = vl B R k + B ^ k * L ∧ B ^ (k + (n' + 1)) * vl B (fun i => R (k + (n' + 1) + i)) (m - (k + (n' + 1))) = 0 := by
  have h1 : y * B ^ (k + 1) ≤ B ^ n' * B ^ (k + 1) := Nat.mul_le_mul_right _ (Nat.le_of_lt hy)
  rw [← Nat.pow_add, show n' + (k + 1) = k + (n' + 1) by omega] at h1
  obtain ⟨h2, h3⟩ := vl_cut hm (Nat.lt_of_lt_of_le hlt h1) hB
  rw [vl_split k (n' + 1), ← hL] at h3
  refine ⟨?_, h3, h2⟩
  have h4 : L * B ^ k < y * B * B ^ k := by
    have e : y * B ^ (k + 1) = y * B * B ^ k := by rw [Nat.pow_succ, Nat.mul_comm (B ^ k), ← Nat.mul_assoc]
    rw [← e]
    have : L * B ^ k = B ^ k * L := Nat.mul_comm _ _
    omega
  exact Nat.lt_of_mul_lt_mul_right h4
theorem div_next {B : Nat} {R R' Q : Nat → Nat} {x y k n' m mq L : Nat} (hB : 0 < B) (hR : ∀ i, R i < B) (y0 : 0 < y) (hm : k + (n' + 1) ≤ m) (hk : k + 1 ≤ mq)
    (hval : vl B R m + y * B ^ (k + 1) * vl B (fun i => Q (k + 1 + i)) (mq - (k + 1)) = x)
    (h3 : vl B R m = vl B R k + B ^ k * L) (h2 : B ^ (k + (n' + 1)) * vl B (fun i => R (k + (n' + 1) + i)) (m - (k + (n' + 1))) = 0)
    (hsame : ∀ i, i < k ∨ k + n' < i → R' i = R i) (htop : R' (k + n') = 0) (hrem : vl B (fun i => R' (k + i)) n' = L % y) :
    vl B R' m + y * B ^ k * vl B (fun i => upd Q k (L / y) (k + i)) (mq - k) = x ∧ vl B R' m < y * B ^ k := by
  have e1 : vl B R' m = vl B R k + B ^ k * (L % y) := by
    have e := vl_split (B := B) (f := R') (k + (n' + 1)) (m - (k + (n' + 1)))
    rw [show k + (n' + 1) + (m - (k + (n' + 1))) = m by omega] at e
    rw [e, vl_congr (f := fun i => R' (k + (n' + 1) + i)) (g := fun i => R (k + (n' + 1) + i)) (fun i _ => hsame _ (by omega)), h2, Nat.add_zero,
      vl_split k (n' + 1), vl_succ, hrem, htop, Nat.zero_mul, Nat.add_zero, vl_congr (f := R') (g := R) (fun i hi => hsame _ (by omega))]
  have e2 : vl B (fun i => upd Q k (L / y) (k + i)) (mq - k) = L / y + B * vl B (fun i => Q (k + 1 + i)) (mq - (k + 1)) := by
    rw [show mq - k = 1 + (mq - (k + 1)) by omega, vl_split 1]
    have a1 : vl B (fun i => upd Q k (L / y) (k + i)) 1 = L / y := by simp [vl_succ, vl_zero, upd]
    rw [a1, Nat.pow_one]
    congr 2
    refine vl_congr fun i _ => ?_
    show upd Q k (L / y) (k + (1 + i)) = _
    rw [upd_ne _ _ (by omega), show k + (1 + i) = k + 1 + i by omega]
  have e3 := Nat.div_add_mod' L y
  constructor
  · rw [e1, e2, ← hval, h3, Nat.pow_succ]
    generalize vl B R k = a
    generalize vl B (fun i => Q (k + 1 + i)) (mq - (k + 1)) = q
    generalize B ^ k = P
    generalize L / y = d at *
    generalize L % y = r at *
    rw [← e3]
    clear hsame hrem h2 h3 hval e1 e2 hR
    grind
  · rw [e1]
    have h5 : vl B R k < B ^ k := vl_lt fun i _ => hR i
    have h6 : L % y + 1 ≤ y := Nat.mod_lt _ y0
    have h7 : B ^ k * (L % y + 1) ≤ B ^ k * y := Nat.mul_le_mul_left _ h6
    rw [Nat.mul_add, Nat.mul_one, Nat.mul_comm (B ^ k) y] at h7
    omega
theorem div_start {B : Nat} (hB : 1 < B) {x y n n' mq : Nat} (hx : ln B x = n) (hy : ln B y = n') (y0 : 0 < y) (hmq : mq = n + 1 - n') : x < y * B ^ mq := by
  have h1 := ln_lt hB x
  rw [hx] at h1
  obtain ⟨p, hp⟩ : ∃ p, n' = p + 1 := ⟨n' - 1, by have := ln_pos hB (x := y) (by omega); omega⟩
  have h2 := ln_top hB (x := y) (n := p) (by omega)
  have h3 : B ^ p * B ^ mq ≤ y * B ^ mq := Nat.mul_le_mul_right _ h2
  rw [← Nat.pow_add] at h3
  have h4 : B ^ n ≤ B ^ (p + mq) := Nat.pow_le_pow_right (by omega) (by omega)
  omega
theorem div_end {R Q x y : Nat} (h : R + y * Q = x) (hR : R < y) : R = x % y ∧ Q = x / y := by
  subst h
  have hy : 0 < y := by omega
  rw [Nat.add_mul_mod_self_left, Nat.mod_eq_of_lt hR, Nat.add_mul_div_left _ _ hy, Nat.div_eq_of_lt hR, Nat.zero_add]
  exact ⟨rfl, rfl⟩
end Nt
theorem run_slice3e (g m l n : Nat) (h : l + n ≤ m) (hn : n ≠ 0) {e : Int} (he : e = ((l + n : Nat) : Int)) (W : World) :
    (Instr.slice 22 (.slice (some ⟨g, 0, none⟩) m m) (some (.int .i64 (l : Int))) (some (.int .i64 e)) (some (.int .i64 e))).run Try.prog W = .ok (.slice (some ⟨g, l, none⟩) n n) W := by
  subst he
  have := run_slice3 g m l n h W
  rw [Nt.so, if_neg hn] at this
  exact this
/-- What stands in divide's two rows when the digits from k on are done. -/
structure DivInv (g1 g2 n mq x y k : Nat) (w W : World) (R Q : Nat → Nat) : Prop where
  rr : Rw W g1 58 .u32 (n + 1) R
  rl : ∀ i, R i < 4294967296
  qq : Rw W g2 58 .u32 mq Q
  ql : ∀ i, Q i < 4294967296
  val : Nt.vl 4294967296 R (n + 1) + y * 4294967296 ^ k * Nt.vl 4294967296 (fun i => Q (k + i)) (mq - k) = x
  lt : Nt.vl 4294967296 R (n + 1) < y * 4294967296 ^ k
  bel : Below g1 w W
/-- What a division leaves: the quotient's limbs and the remainder's. -/
def Divided (x y : Nat) (w : World) (e : Ending) (w' : World) : Prop :=
  ∃ A q A' r, e = .returned (.tuple #[.slice A q q, .slice A' r r]) ∧ Below w.heap.size w w' ∧ IsN w' w'.heap.size A q (x / y) ∧ IsN w' w'.heap.size A' r (x % y)
set_option maxHeartbeats 1000000 in
theorem nat_divide {n c n' c' x y : Nat} {A A' : Option Addr} (w : World) (h : IsN w w.heap.size A n x) (h' : IsN w w.heap.size A' n' y) (hn : n ≤ 80) (hn' : n' ≤ 80) (hnc : n ≤ c) (y0 : 0 < y) :
    Calls Try.prog 61 #[.slice A n c, .slice A' n' c'] w (Divided x y w) := by
  have HX := Lib.hid h
  have HY := Lib.hid h'
  have n1 : 1 ≤ n' := by rw [← h'.l]; exact Nt.ln_pos (by omega) (by omega)
  obtain ⟨mq, emq⟩ : ∃ mq, mq = n + 1 - n' := ⟨_, rfl⟩
  have hst := Nt.div_start (B := 4294967296) (by omega) h.l h'.l y0 emq
  have HST := Lib.hid hst
  have hmax : max 0 ((n : Int) - (n' : Int) + 1) = (mq : Int) := by omega
  have m1 : mq ≤ 81 := by omega
  have m2 : mq ≤ n := by omega
  have m3 : mq = 0 ∨ mq + n' = n + 1 := by omega
  have M3 := Lib.hid m3
  have hmk := make_u32s (n + 1) (by omega)
  simp only [Int.natCast_add, Int.cast_ofNat_Int] at hmk
  have hmk2 := make_u32s mq (by omega)
  have r0 := row_made w (n + 1) 58 .u32
  have hb0 := (Below.refl w.heap.size w).alloc (Nat.le_refl _) (.cells (madeCells #[.int .u32 0] (n + 1)) 58)
  have R0 := Lib.hid r0
  have D1 := Lib.hid (h.below hb0)
  have HB0 := Lib.hid hb0
  clear emq h h' hst m3 r0 hb0
  go_enter Try.func61, Try.ntmps61
  go_wp2_with (with_reducible refine copy_stop ?_)
  refine Lib.hid (wpList_copy_row rfl (.tmp 15) (.tmp 16) 22 rfl 58 .u32 Try.underlying22 size_u32 w.heap.size (n + 1) w.heap.size A n c (n + 1) (fun _ => 0) (Nt.dg 4294967296 x) rfl rfl R0.out D1.out.d (by omega) ?_)
  intro w3 hR3 hb3
  have hB3 := HB0.out.trans hb3
  have hz3 := hR3.lt
  have R3 := Lib.hid (hR3.alloc (.cells (madeCells #[.int .u32 0] mq) 58))
  have Q3 := Lib.hid (Rw.made w3 mq 58 .u32)
  have B3 := Lib.hid (hB3.alloc (by omega) (.cells (madeCells #[.int .u32 0] mq) 58))
  clear hR3 hb3 hB3
  go_wp2_with fail
  clear hmk hmk2 hmax
  obtain ⟨w4, ew4⟩ : ∃ w4, w4 = w3.alloc (.cells (madeCells #[.int .u32 0] mq) 58) := ⟨_, rfl⟩
  obtain ⟨g2, eg2⟩ : ∃ g2, g2 = w3.heap.size := ⟨_, rfl⟩
  obtain ⟨g1, eg1⟩ : ∃ g1, g1 = w.heap.size := ⟨_, rfl⟩
  rw [← ew4, ← eg1] at R3 B3
  rw [← ew4, ← eg2] at Q3
  rw [← ew4, ← eg2, ← eg1]
  have hg12 : g1 < g2 := by rw [eg1, eg2]; exact hz3
  have hg2 : g2 < w4.heap.size := Q3.out.lt
  have HYD := HY.out
  rw [← eg1] at HYD
  have HY1 := Lib.hid HYD
  have EG1 := Lib.hid eg1
  clear ew4 eg2 eg1 HYD R0 D1 HB0
  go_loopw [7] (fun i W => ∃ (k : Nat) (v : Int) (Rf Qf : Nat → Nat), k ≤ mq ∧ i = .int .i64 v ∧ v < k ∧ (k : Int) ≤ v + 1 ∧ Hid (DivInv g1 g2 n mq x y k w W Rf Qf) ∧ g2 < W.heap.size) (fun i _ => (intOf i + 1).toNat)
  case atStart =>
    refine ⟨mq, (mq : Int) - 1, over (Nt.dg 4294967296 x) n (fun _ => 0), fun _ => 0, Nat.le_refl _, rfl, by omega, by omega, ?_, hg2⟩
    have hv : Nt.vl 4294967296 (over (Nt.dg 4294967296 x) n (fun _ => 0)) (n + 1) = x := by
      rw [Nt.vl_drop (by simp [over]), Nt.vl_congr (g := Nt.dg 4294967296 x) (fun i hi => by simp [over, hi])]
      exact HX.out.val
    refine ⟨R3.out, over_lt (fun i => Nt.dg_lt (by omega) x i) (fun _ => by omega), Q3.out, fun _ => by omega, ?_, by rw [hv]; exact HST.out, B3.out⟩
    rw [hv, Nat.sub_self, Nt.vl_zero]; omega
  case round =>
    obtain ⟨k, v, Rf, Qf, hk, rfl, hv1, hv2, HD, hgW⟩ := hrel
    rcases k with _ | k
    · obtain rfl : v = -1 := by omega
      have hd := HD.out
      have hval := hd.val
      have hlt := hd.lt
      rw [Nat.pow_zero, Nat.mul_one] at hval hlt
      have e0 : (fun i => Qf (0 + i)) = Qf := by funext i; rw [Nat.zero_add]
      rw [e0, Nat.sub_zero] at hval
      obtain ⟨e1, e2⟩ := Nt.div_end hval hlt
      have dq := hd.qq.digs (B := wr.heap.size) (off := 0) (n := mq) hd.qq.lt (by omega)
      have dr := hd.rr.digs (B := wr.heap.size) (off := 0) (n := n + 1) hd.rr.lt (by omega)
      have e3 : (fun i => Rf (0 + i)) = Rf := by funext i; rw [Nat.zero_add]
      rw [e0] at dq
      rw [e3] at dr
      have nq := dq.isN_tl (fun i _ => hd.ql i)
      have nr := dr.isN_tl (fun i _ => hd.rl i)
      rw [e2] at nq
      rw [e1] at nr
      have cq := fun c W (h : Digs W wr.heap.size .u32 (some ⟨g2, 0, none⟩) mq Qf) (hc : mq ≤ c) (hc2 : c ≤ 9223372036854775807) => nat_trim (c := c) W h hc hc2
      have cr := fun c W (h : Digs W wr.heap.size .u32 (some ⟨g1, 0, none⟩) (n + 1) Rf) (hc : n + 1 ≤ c) (hc2 : c ≤ 9223372036854775807) => nat_trim (c := c) W h hc hc2
      obtain ⟨q, eq⟩ : ∃ q, q = Nt.tl Qf mq := ⟨_, rfl⟩
      obtain ⟨r, er⟩ : ∃ r, r = Nt.tl Rf (n + 1) := ⟨_, rfl⟩
      rw [← eq] at cq nq
      rw [← er] at cr nr
      have CQ := Lib.hid cq
      have CR := Lib.hid cr
      have NQ := Lib.hid nq
      have NR := Lib.hid nr
      have DQ := Lib.hid dq
      have DR := Lib.hid dr
      have HBL := Lib.hid hd.bel
      clear hd hval hlt e0 e1 e2 e3 dq dr nq nr cq cr eq er
      go_wp2_with fail
      refine (CQ.out _ _ DQ.out (by omega) (by omega)).mono ?_
      rintro e w' ⟨rfl, rfl⟩
      go_wp2_with fail
      refine (CR.out _ _ DR.out (by omega) (by omega)).mono ?_
      rintro e w' ⟨rfl, rfl⟩
      go_wp2_with fail
      go_ret2
      exact ⟨_, q, _, r, rfl, by rw [← EG1.out]; exact HBL.out, NQ.out, NR.out⟩
    · obtain rfl : v = (k : Int) := by omega
      have hm : k + (n' + 1) ≤ n + 1 := by
        rcases M3.out with h | h <;> omega
      have hd := HD.out
      have hyl : y < 4294967296 ^ n' := (Nt.ln_le_iff (by omega)).1 (by rw [HY.out.l]; exact Nat.le_refl _)
      obtain ⟨L, eL⟩ : ∃ L, L = Nt.vl 4294967296 (fun i => Rf (k + i)) (n' + 1) := ⟨_, rfl⟩
      obtain ⟨p1, p2, p3⟩ := Nt.div_part (by omega) hyl hm hd.lt eL
      have hyv : Nt.vl 4294967296 (Nt.dg 4294967296 y) n' = y := HY.out.val
      have hyt : Nt.dg 4294967296 y (n' - 1) ≠ 0 := Nt.dg_top (by omega) (by rw [HY.out.l]; omega)
      have cr := nat_reduce (c := n' + 1) (cb := c') (B := g1) (g := g1) (off := k) (n := n') (m := n + 1) (F := Rf) (b := Nt.dg 4294967296 y) wr hd.rr hd.rl hm n1 (by omega) (by omega) (Nat.le_refl _)
        (HY1.out.d.below hd.bel) (fun i => Nt.dg_lt (by omega) y i) (fun i hi => HY.out.out hi) hyt (Nat.le_refl _) (by rw [hyv, ← eL]; exact p1)
      rw [hyv, ← eL] at cr
      have CR := Lib.hid cr
      have hsl := run_slice3e g1 (n + 1) k (n' + 1) hm (by omega) (e := (k : Int) + (n' : Int) + 1) (by omega)
      have P2 := Lib.hid p2
      have P3 := Lib.hid p3
      have hcq := hd.qq.cell (i := k) (by omega)
      clear hd hyl eL p1 p2 p3 hyv hyt cr hcq
      have j0 : (0 : Int) ≤ (k : Int) := by omega
      have j1 : (k : Int) < (mq : Int) := by omega
      go_wp2_with fail
      refine CR.out.mono ?_
      rintro e w5 ⟨d, G, rfl, hd1, hd2, hA⟩
      have hd := HD.out
      have hbg : Below g1 wr w5 := below_of_grown hA.gr (Nat.le_refl _) (by omega)
      have hQ5 : Rw w5 g2 58 .u32 mq Qf := hd.qq.of_block (hA.gr.block g2 hgW (fun e => by injection e; omega))
      have hcq := hQ5.cell (i := k) (by omega)
      have hfq := hQ5.free k
      obtain ⟨v1, v2⟩ := Nt.div_next (B := 4294967296) (by omega) hd.rl y0 hm hk hd.val P2.out P3.out hA.same hA.top hA.val
      rw [← hd1] at v1
      have hN : DivInv g1 g2 n mq x y k w (w5.setCell ⟨g2, k, none⟩ (.int .u32 (d : Nat))) G (upd Qf k d) :=
        ⟨hA.row.far (by simp; omega) _, hA.lt, hQ5.set rfl, upd_lt hd.ql hd2 _, v1, v2, (hd.bel.trans hbg).setCell (by simp; omega) _⟩
      have hz5 : g2 < (w5.setCell ⟨g2, k, none⟩ (.int .u32 (d : Nat))).heap.size := hN.qq.lt
      have HN := Lib.hid hN
      clear hd hA hbg hQ5 v1 v2 hN hsl hd1
      go_wp2_with fail
      go_roundw
      case rel => exact ⟨k, (k : Int) - 1, G, _, by omega, rfl, by omega, by omega, HN, hz5⟩
      case measure => simp [intOf]
end Go.Proofs.Ytfjnpmkklanopaa
