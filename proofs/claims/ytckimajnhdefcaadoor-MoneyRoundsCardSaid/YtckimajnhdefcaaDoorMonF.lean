/- Contract of money.Split: its error, or the parts. -/
import Derived.Test.YtckimajnhdefcaaDoorMonE
import Derived.Test.YtckimajnhdefcaaDoorNumM
import Derived.Deep.RegionHeld3
namespace Go.Proofs.YtckimajnhdefcaaDoor
open Go.RowKit

theorem money_Split_no {n c : Nat} {A : Option Addr} {zs : List Int} (m : Int) (w : World) (h : Ints w w.heap.size A n zs) (hn : n ≤ 9223372036854775807) (hE : Mn.twE m zs ≠ 0) :
    Calls Tryd.prog 22 #[.int .i64 m, .slice A n c] w fun e w' => e = .returned (.tuple #[.slice none 0 0, .int .i64 (Mn.twE m zs)]) ∧ w = w' := by
  have H := Lib.hid h
  clear h
  have c1 := fun w (h : Ints w w.heap.size A n zs) => money_totalWeight (c := c) m w h hn
  obtain ⟨E, eE⟩ : ∃ E, E = Mn.twE m zs := ⟨_, rfl⟩
  obtain ⟨V, eV⟩ : ∃ V, V = Mn.twV m zs := ⟨_, rfl⟩
  rw [← eE, ← eV] at c1
  rw [← eE] at hE ⊢
  have C1 := Lib.hid c1
  have hb : (E != 0) = true := by simpa using hE
  clear c1 eE eV hE
  go_enter Tryd.func22, Tryd.ntmps22
  go_wp2_with (go_at_call 32; refine (C1.out _ H.out).mono ?_; rintro e w' ⟨rfl, rfl⟩)
  go_ret2
  exact ⟨rfl, rfl⟩

theorem cell_far (W : World) (v : Value) {a b : Addr} (h : b.block ≠ a.block) : (W.setCell a v).cell? b = W.cell? b := World.cell?_of_block (w := W) (Below.heap_setCell W a v b.block h)
/-- The two rows and the two variables of a split, N the first block of the call's own. -/
structure St (N n : Nat) (w wr : World) (P R : List Int) : Prop where
  rp : Row wr N P
  rr : Row wr (N + 1 + 1) R
  xp : Box wr (N + 1) (.slice (some ⟨N, 0, none⟩) n n)
  xr : Box wr (N + 1 + 1 + 1) (.slice (some ⟨N + 1 + 1, 0, none⟩) n n)
  bel : Below N w wr
theorem st_start (w : World) (n : Nat) : St w.heap.size n w ((((w.alloc (.cells (madeCells #[.int .i64 0] n) 3)).alloc (.cells #[.slice (some ⟨w.heap.size, 0, none⟩) n n] 22)).alloc (.cells (madeCells #[.int .i64 0] n) 3)).alloc (.cells #[.slice (some ⟨w.heap.size + 1 + 1, 0, none⟩) n n] 22)) (List.replicate n 0) (List.replicate n 0) := by
  have z1 : (w.alloc (.cells (madeCells #[.int .i64 0] n) 3)).heap.size = w.heap.size + 1 := by simp
  have z2 : ((w.alloc (.cells (madeCells #[.int .i64 0] n) 3)).alloc (.cells #[.slice (some ⟨w.heap.size, 0, none⟩) n n] 22)).heap.size = w.heap.size + 1 + 1 := by simp
  have z3 : (((w.alloc (.cells (madeCells #[.int .i64 0] n) 3)).alloc (.cells #[.slice (some ⟨w.heap.size, 0, none⟩) n n] 22)).alloc (.cells (madeCells #[.int .i64 0] n) 3)).heap.size = w.heap.size + 1 + 1 + 1 := by simp
  have x1 := Box.new (w.alloc (.cells (madeCells #[.int .i64 0] n) 3)) (.slice (some ⟨w.heap.size, 0, none⟩) n n)
  have r2 := Row.made ((w.alloc (.cells (madeCells #[.int .i64 0] n) 3)).alloc (.cells #[.slice (some ⟨w.heap.size, 0, none⟩) n n] 22)) n
  have x2 := Box.new (((w.alloc (.cells (madeCells #[.int .i64 0] n) 3)).alloc (.cells #[.slice (some ⟨w.heap.size, 0, none⟩) n n] 22)).alloc (.cells (madeCells #[.int .i64 0] n) 3)) (.slice (some ⟨w.heap.size + 1 + 1, 0, none⟩) n n)
  rw [z1] at x1
  rw [z2] at r2
  rw [z3] at x2
  exact ⟨(((Row.made w n).alloc _).alloc _).alloc _, r2.alloc _, (x1.alloc _).alloc _, x2,
    ((((Below.refl _ _).alloc (Nat.le_refl _) _).alloc (by rw [z1]; omega) _).alloc (by rw [z2]; omega) _).alloc (by rw [z3]; omega) _⟩

/-- What Split leaves: the parts in a new row; of what was there nothing has turned. -/
def Parted (m : Int) (zs : List Int) (n : Nat) (w : World) (e : Ending) (w' : World) : Prop :=
  e = .returned (.tuple #[.slice (some ⟨w.heap.size, 0, none⟩) n n, .int .i64 0]) ∧ Below w.heap.size w w' ∧ Row w' w.heap.size (Mn.parts m zs)

set_option maxHeartbeats 1000000 in
theorem money_Split_yes {n c : Nat} {A : Option Addr} {zs : List Int} (m : Int) (w : World) (h : Ints w w.heap.size A n zs) (hE : Mn.twE m zs = 0) :
    Calls Tryd.prog 22 #[.int .i64 m, .slice A n c] w (Parted m zs n w) := by
  have H := Lib.hid h
  have HL := Lib.hid h.len
  clear h
  obtain ⟨hg, hV⟩ := Mn.tw_good hE
  have n0 : 0 < n := by have := hg.n0; have := HL.out; omega
  have n1 : n ≤ 64 := by have := hg.n1; have := HL.out; omega
  have c1 := fun w (h : Ints w w.heap.size A n zs) => money_totalWeight (c := c) m w h (by omega)
  obtain ⟨T, eT⟩ : ∃ T, T = Mn.lsum zs := ⟨_, rfl⟩
  rw [hV, hE, ← eT] at c1
  have C1 := Lib.hid c1
  have G := Lib.hid hg
  have t0 := hg.t
  have t1 := hg.tmax
  rw [← eT] at t0 t1
  have HT := Lib.hid eT
  have m0 := hg.m0
  have m1 := hg.m1
  clear c1 eT hV hE hg
  have hmk := fun W => run_make_row' (P := Tryd.prog) 22 3 (.int .i64 0) 8 Tryd.underlying22 info_int rfl .i64 .i64 n (by omega) (by omega) W
  go_enter Tryd.func22, Tryd.ntmps22
  go_wp2_with (go_at_call 32; refine (C1.out _ H.out).mono ?_; rintro e w' ⟨rfl, rfl⟩)
  clear hmk
  go_loopw [32, 10] (fun i l wr => ∃ (k : Nat) (t : Int), k ≤ n ∧ i = .int .i64 k ∧ l = .int .i64 t ∧ 0 ≤ t ∧ t ≤ 1000000000000 ∧ Hid (t = Mn.lft m zs k) ∧ Hid (St w.heap.size n w wr (Mn.pk (Mn.qs m T zs) k) (Mn.pk (Mn.rs m T zs) k))) (fun i _ _ => n - (intOf i).toNat)
  case atStart =>
    have hs := st_start w n
    refine ⟨0, m, by omega, rfl, rfl, m0, m1, Mn.lft_zero.symm, ?_⟩
    show St _ _ _ _ _ _
    rw [Mn.pk_zero, Mn.pk_zero, Mn.qs_len, Mn.rs_len, HL.out]
    exact hs
  case round =>
    obtain ⟨k, t, hk, rfl, rfl, t0', t1', HK, HS⟩ := hrel
    by_cases hlt : k < n
    · obtain ⟨ad, x, rfl, hb, hc, HX⟩ := (H.out.below HS.out.bel).at_ hlt
      have hq := G.out.quo k (by rw [HL.out]; exact hlt)
      have hx0 := G.out.w0 k (by rw [HL.out]; exact hlt)
      have hx1 := G.out.w1 k (by rw [HL.out]; exact hlt)
      rw [← HX.out] at hq hx0 hx1
      rw [← HT.out] at hq
      obtain ⟨em1, em2, em3⟩ := Nm.md_ok (a := m) (b := x) t0 m0 hx0 (by omega)
      have cm := fun W => num_MulDivQ m x T (by omega) (by omega) (by omega) (by omega) (by omega) (by omega) W
      obtain ⟨q, eq⟩ : ∃ q, q = m * x / T := ⟨_, rfl⟩
      obtain ⟨r, er⟩ : ∃ r, r = m * x % T := ⟨_, rfl⟩
      rw [em1, em2, em3, ← eq, ← er] at cm
      rw [← eq, ← er] at hq
      obtain ⟨q0, q1, r0, r1⟩ := hq
      have CM := Lib.hid cm
      have EQ := Lib.hid eq
      have ER := Lib.hid er
      have lp := Mn.pk_len (Mn.qs m T zs) k (by rw [Mn.qs_len, HL.out]; omega)
      have lr := Mn.pk_len (Mn.rs m T zs) k (by rw [Mn.rs_len, HL.out]; omega)
      rw [Mn.qs_len, HL.out] at lp
      rw [Mn.rs_len, HL.out] at lr
      have b1 := HS.out.xp.cell
      have b2 := HS.out.xr.cell
      have cp := HS.out.rp.cell (i := k) (by rw [lp]; exact hlt)
      have cr := HS.out.rr.cell (i := k) (by rw [lr]; exact hlt)
      have fp := HS.out.rp.free k
      have fr := HS.out.rr.free k
      obtain ⟨y1, ey1⟩ : ∃ y, y = (Mn.pk (Mn.qs m T zs) k).getD k 0 := ⟨_, rfl⟩
      obtain ⟨y2, ey2⟩ : ∃ y, y = (Mn.pk (Mn.rs m T zs) k).getD k 0 := ⟨_, rfl⟩
      rw [← ey1] at cp
      rw [← ey2] at cr
      have LP := Lib.hid lp
      have LR := Lib.hid lr
      clear em1 em2 em3 cm eq er lp lr ey1 ey2
      have hk2 : (k : Int) < (n : Int) := by omega
      have k1 : ∀ (W : World) (v : Value), (W.setCell ⟨w.heap.size, k, none⟩ v).cell? ⟨w.heap.size + 1 + 1 + 1, 0, none⟩ = W.cell? ⟨w.heap.size + 1 + 1 + 1, 0, none⟩ := fun W v => cell_far W v (by simp; omega)
      have k2 : ∀ (W : World) (v : Value), (W.setCell ⟨w.heap.size + 1 + 1, k, none⟩ v).cell? ⟨w.heap.size + 1, 0, none⟩ = W.cell? ⟨w.heap.size + 1, 0, none⟩ := fun W v => cell_far W v (by simp)
      have k3 : ∀ (W : World) (v : Value), (W.setCell ⟨w.heap.size, k, none⟩ v).cell? ⟨w.heap.size + 1 + 1, k, none⟩ = W.cell? ⟨w.heap.size + 1 + 1, k, none⟩ := fun W v => cell_far W v (by simp; omega)
      have k4 : ∀ (W : World) (v : Value), (W.setCell ⟨w.heap.size + 1 + 1, k, none⟩ v).cell? ⟨w.heap.size, k, none⟩ = W.cell? ⟨w.heap.size, k, none⟩ := fun W v => cell_far W v (by simp; omega)
      go_wp2_with fail
      go_region_held3 (fun w' => w'.cell? ⟨w.heap.size + 1, 0, none⟩ = some (.slice (some ⟨w.heap.size, 0, none⟩) n n) ∧ w'.cell? ⟨w.heap.size + 1 + 1 + 1, 0, none⟩ = some (.slice (some ⟨w.heap.size + 1 + 1, 0, none⟩) n n)) (go_keep)
        ((go_at_call 33; refine (CM.out _).mono ?_; rintro e w' ⟨rfl, dk, rfl⟩))
      have hs : St w.heap.size n w (((wr.drewN (1 + dk)).setCell ⟨w.heap.size, k, none⟩ (.int .i64 q)).setCell ⟨w.heap.size + 1 + 1, k, none⟩ (.int .i64 r)) (Mn.pk (Mn.qs m T zs) (k + 1)) (Mn.pk (Mn.rs m T zs) (k + 1)) := by
        have e1 := Mn.pk_set (Mn.qs m T zs) k (by rw [Mn.qs_len, HL.out]; exact hlt)
        have e2 := Mn.pk_set (Mn.rs m T zs) k (by rw [Mn.rs_len, HL.out]; exact hlt)
        rw [Mn.qs_getD _ _ _ _ (by rw [HL.out]; exact hlt), ← HX.out, ← EQ.out] at e1
        rw [Mn.rs_getD _ _ _ _ (by rw [HL.out]; exact hlt), ← HX.out, ← ER.out] at e2
        rw [← e1, ← e2]
        have ht := HS.out
        exact ⟨((ht.rp.drewN _).set (by rw [LP.out]; exact hlt) q).far (by simp; omega) _, ((ht.rr.drewN _).far (by simp; omega) _).set (by rw [LR.out]; exact hlt) r,
          ((ht.xp.drewN _).far (by simp) _).far (by simp) _, ((ht.xr.drewN _).far (by simp; omega) _).far (by simp) _,
          ((ht.bel.trans (below_draws _ _ _)).setCell (by simp) _).setCell (by simp; omega) _⟩
      have HS2 := Lib.hid hs
      have ht2 : Hid (t - q = Mn.lft m zs (k + 1)) := by
        show _ = _
        rw [Mn.lft_step _ (by rw [HL.out]; exact hlt), ← HK.out, ← HX.out, ← HT.out, ← EQ.out]
      have hl0 := G.out.lft0 (k + 1)
      rw [← ht2.out] at hl0
      obtain ⟨l0, l1⟩ := hl0
      clear hs
      go_wp2
      go_roundw
      case rel => exact ⟨k + 1, t - q, by omega, by go_num, rfl, l0, l1, ht2, HS2⟩
      case measure => simp [intOf]; omega
    · obtain rfl : k = n := by omega
      have ht : t = Mn.left m zs := by rw [HK.out, ← HL.out, Mn.lft_full]
      have hq : Mn.pk (Mn.qs m T zs) k = Mn.qs m T zs := by have := Mn.pk_full (Mn.qs m T zs); rwa [Mn.qs_len, HL.out] at this
      have hr : Mn.pk (Mn.rs m T zs) k = Mn.rs m T zs := by have := Mn.pk_full (Mn.rs m T zs); rwa [Mn.rs_len, HL.out] at this
      have hs := HS.out
      rw [hq, hr] at hs
      have HS1 := Lib.hid hs
      have HTT := Lib.hid ht
      clear ht hq hr hs HK HS
      go_wp2_with fail
      go_loopw [60] (fun i wx => ∃ g : Nat, i = .int .i64 g ∧ (g : Int) ≤ t ∧ Hid (St w.heap.size k w wx (Mn.giv 0 (Mn.qs m T zs, Mn.rs m T zs) g).1 (Mn.giv 0 (Mn.qs m T zs, Mn.rs m T zs) g).2)) (fun i _ => t.toNat - (intOf i).toNat)
      case atStart => exact ⟨0, rfl, by omega, HS1⟩
      case round =>
        obtain ⟨g, rfl, hgt, HG⟩ := hrel
        by_cases hlt2 : (g : Int) < t
        · have hlen := Mn.giv_len 0 (Mn.qs m T zs, Mn.rs m T zs) g
          have hbd := G.out.giv_bd g (by rw [← HTT.out]; omega)
          rw [← HT.out, HL.out] at hbd
          rw [Mn.qs_len, Mn.rs_len, HL.out] at hlen
          have s := HG.out
          have cg := money_giveUnit (B := w.heap.size) wr s.rp s.rr s.xp s.xr hlen.1 hlen.2 n0 n1 hbd (by simp; omega) (by simp) (by simp) (by simp; omega) (by simp) (Nat.le_refl _) (by omega)
          have CG := Lib.hid cg
          clear hlen hbd s cg
          go_wp2_with fail
          refine CG.out.mono ?_
          rintro e w' ⟨rfl, hgave⟩
          have HG2 : Hid (St w.heap.size k w w' (Mn.giv 0 (Mn.qs m T zs, Mn.rs m T zs) (g + 1)).1 (Mn.giv 0 (Mn.qs m T zs, Mn.rs m T zs) (g + 1)).2) :=
            ⟨hgave.rp, hgave.rr, hgave.xp, hgave.xr, HG.out.bel.trans hgave.bel⟩
          clear hgave
          go_wp2
          go_roundw
          case rel => exact ⟨g + 1, by go_num, by omega, HG2⟩
          case measure => simp [intOf]; omega
        · have e : (Mn.giv 0 (Mn.qs m T zs, Mn.rs m T zs) g).1 = Mn.parts m zs := by
            rw [Mn.parts, ← HT.out, ← HTT.out, show t.toNat = g by omega]
          have s := HG.out
          have c8 := s.xp.cell
          have hr := s.rp
          rw [e] at hr
          have HR := Lib.hid hr
          have HB := Lib.hid s.bel
          clear e s hr
          go_wp2
          go_ret2
          exact ⟨rfl, HB.out, HR.out⟩
end Go.Proofs.YtckimajnhdefcaaDoor
