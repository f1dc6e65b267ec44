/- The reference of layer 3: Halves, Whole. -/
import Derived.Test.YtfjnpmkklanopaaNatRA
namespace Go.Proofs.Ytfjnpmkklanopaa
set_option maxRecDepth 20000
open Go.RowKit
set_option linter.unusedVariables false
set_option linter.unusedSimpArgs false

/-- What stands in Halves when the digits of k limbs are done. -/
structure HalfInv (N k x : Nat) (w W : World) (b : Value) (v : Value) : Prop where
  own : OwnD W (N + 1) 3 .i64 v k (Nt.dg 65536 x)
  box : NBox W N b
  bel : Below N w W
  bel1 : N + 1 ≤ W.heap.size
theorem HalfInv.step {N k x y : Nat} {w W W' : World} {b v v' : Value} (h : HalfInv N k x w W b v) (hy : y = Nt.dg 65536 x k) (ho : OwnD W' (N + 1) 3 .i64 v' (k + 1) (upd (Nt.dg 65536 x) k y)) (hb : Below (N + 1) W W') : HalfInv N (k + 1) x w W' b v' :=
  ⟨ho.congr fun i _ => by
    by_cases e : i = k
    · rw [e, upd_same, hy]
    · rw [upd_ne _ _ e], h.box.below hb (by omega), h.bel.trans (hb.mono (by omega)), Nat.le_trans h.bel1 hb.size⟩
theorem Nt.tl_dg {x m : Nat} (h : Nt.ln 65536 x ≤ m) : Nt.tl (Nt.dg 65536 x) m = Nt.ln 65536 x := by
  rw [← Nt.tl_ln (B := 65536) (by omega) (fun i _ => Nt.dg_lt (by omega) x i), Nt.vl_dg_all ((Nt.ln_le_iff (by omega)).1 h)]
set_option maxHeartbeats 400000 in
theorem ref3_Halves {n c x : Nat} {A : Option Addr} (w : World) (h : IsN w w.heap.size A n x) (hn : n ≤ 100) :
    Calls Try.prog 44 #[.agg #[.slice A n c]] w (HRes x w) := by
  have hb0 := (Below.refl w.heap.size w).alloc (Nat.le_refl _) (.cells #[.slice A n c] 24)
  have H := Lib.hid h
  have D1 := Lib.hid (h.below hb0)
  have HB0 := Lib.hid hb0
  have BX := Lib.hid (NBox.new w (.slice A n c))
  have hz0 : w.heap.size + 1 ≤ (w.alloc (.cells #[.slice A n c] 24)).heap.size := by simp
  have HZ0 := Lib.hid hz0
  clear h hb0 hz0
  go_enter Try.func44, Try.ntmps44
  go_wp2_with fail
  go_loopw [3, 4] (fun l i W => ∃ (k : Nat) (v : Value), k ≤ n ∧ l = v ∧ i = .int .i64 k ∧ Hid (HalfInv w.heap.size (2 * k) x w W (.slice A n c) v)) (fun _ i _ => n - (intOf i).toNat)
  case atStart => exact ⟨0, _, by omega, rfl, rfl, OwnD.nil _ _ _ _ _, BX.out, HB0.out, HZ0.out⟩
  case round =>
    obtain ⟨k, v, hk, rfl, rfl, HI⟩ := hrel
    have xb := HI.out.box.cell
    by_cases hlt : k < n
    · obtain ⟨ad, X, rfl, hb, hcell, HX, x0, x1⟩ := (H.out.below HI.out.bel).d.at_ hlt (Nt.dg_lt (B := 4294967296) (by omega) x k)
      have x1' : X < 4294967296 := by omega
      clear x1
      go_wp2_with (at_builtin; refine Hid.out ?_)
      refine Lib.hid (wpList_app rfl (.tmp 12) (.tmp 20) 37 3 .i64 8 rfl Try.underlying37 info_i64 (by omega) (w.heap.size + 1) u3 (2 * k) (Nt.dg 65536 x) (X.toNat % 65536) _ (by omega) rfl HI.out.own rfl (by omega) HI.out.bel1 ?_)
      intro v' w2 hown hb2 hloc hgr
      have HI2 := Lib.hid (HI.out.step (by have := HX.out; rw [← Nt.dg_even]; omega) hown hb2)
      clear hown hb2 hloc hgr
      have xb2 := HI2.out.box.cell
      have hcell2 := hcell
      obtain ⟨ad', X', he, hb', hcell', HX', -, -⟩ := (H.out.below HI2.out.bel).d.at_ hlt (Nt.dg_lt (B := 4294967296) (by omega) x k)
      obtain rfl : ad = ad' := by injection he
      obtain rfl : X = X' := by have := HX.out; have := HX'.out; omega
      clear he hcell hcell2 xb
      go_wp2_with (at_builtin; refine Hid.out ?_)
      refine Lib.hid (wpList_app rfl (.tmp 22) (.tmp 30) 37 3 .i64 8 rfl Try.underlying37 info_i64 (by omega) (w.heap.size + 1) v' (2 * k + 1) (Nt.dg 65536 x) (X.toNat / 65536) _ (by omega) rfl HI2.out.own rfl (by omega) HI2.out.bel1 ?_)
      intro v'' w3 hown hb2 hloc hgr
      have HI3 := Lib.hid (HI2.out.step (by have := HX.out; rw [← Nt.dg_odd]; omega) hown hb2)
      clear hown hb2 hloc hgr xb2 hcell'
      go_wp2
      go_roundw
      case rel => exact ⟨k + 1, v'', by omega, rfl, by go_num, HI3⟩
      case measure => simp [intOf]; omega
    · obtain rfl : k = n := by omega
      obtain ⟨A3, c3, hv3, hnc, hcm, hdig, hfr⟩ := HI.out.own.form
      subst hv3
      have HFR := Lib.hid hfr
      clear hfr
      have hl : Nt.ln 65536 x ≤ 2 * k := Nt.ln_two H.out.l
      have hr := hdig.isH_tl (fun i _ => Nt.dg_lt (by omega) x i)
      have ct := ref3_trim (c := c3) wr hdig hnc hcm
      rw [Nt.tl_dg hl] at ct hr
      rw [Nt.vl_dg_all ((Nt.ln_le_iff (by omega)).1 hl)] at hr
      have CT := Lib.hid ct
      have HR := Lib.hid hr
      have HL := Lib.hid hl
      clear hr ct hdig hl
      go_wp2_with fail
      refine CT.out.mono ?_
      rintro e w' ⟨rfl, rfl⟩
      go_wp2_with fail
      go_ret
      exact ⟨_, _, _, rfl, HI.out.bel, HR.out, ⟨Nat.le_trans HL.out hnc, hcm⟩, fresh_of HFR.out HL.out (by omega)⟩

/-- What Whole answers: the number, and whether it has not too many limbs. -/
def WRes (x : Nat) (ok : Bool) (w : World) (e : Ending) (w' : World) : Prop :=
  ∃ A n c, e = .returned (.tuple #[.agg #[.slice A n c], .bool ok]) ∧ Below w.heap.size w w' ∧ IsN w' w'.heap.size A n x ∧ n ≤ 64 ∧ n ≤ c
theorem ref3_Whole_no {n c : Nat} {A : Option Addr} {f : Nat → Nat} (w : World) (h : Digs w w.heap.size .i64 A n f) (hn : n ≤ c) (hc : c ≤ 9223372036854775807) (hf : ∀ i, i < n → f i < 65536) (hbig : Nt.fits (Nt.vl 65536 f n) = false) :
    Calls Try.prog 42 #[.slice A n c] w (WRes 0 false w) := by
  have hb0 := (Below.refl w.heap.size w).alloc (Nat.le_refl _) (.cells #[.slice none 0 0] 24)
  have D1 := Lib.hid (h.below hb0)
  have HB0 := Lib.hid hb0
  have hl := Nt.tl_ln (B := 65536) (by omega) hf
  have ct := fun W h => ref3_trim (B := w.heap.size) (A := A) (f := f) (n := n) (c := c) W h hn hc
  obtain ⟨t, et⟩ : ∃ t, t = Nt.tl f n := ⟨_, rfl⟩
  rw [← et] at ct hl
  have ht : 128 < t := by
    rw [← hl]
    rcases Nat.lt_or_ge 128 (Nt.ln 65536 (Nt.vl 65536 f n)) with h | h
    · exact h
    · have := Nt.fits_iff.2 (Nt.ln_128.1 h)
      rw [hbig] at this; cases this
  have CT := Lib.hid ct
  clear h hb0 hl ct et hf hbig
  go_enter Try.func42, Try.ntmps42
  go_wp2_with fail
  refine (CT.out _ D1.out).mono ?_
  rintro e w' ⟨rfl, rfl⟩
  go_wp2_with fail
  refine bodyPost_ret (v := .tuple #[.agg #[.slice none 0 0], .bool false]) (by simp [results, Try.results42, go_sem]) rfl ?_
  exact ⟨none, 0, 0, rfl, HB0.out, IsN.zero, by omega, by omega⟩
/-- What stands in Whole when k limbs are done. -/
structure WholeInv (N k x : Nat) (w W : World) (v : Value) : Prop where
  own : OwnD W (N + 1 + 1) 58 .u32 v k (Nt.dg 4294967296 x)
  res : NBox W N (.slice none 0 0)
  box : NBox W (N + 1) v
  bel : Below N w W
  bel1 : N + 1 + 1 ≤ W.heap.size

theorem OwnD.far {w : World} {N n : Nat} {E : TypeId} {K : IntKind} {v : Value} {f : Nat → Nat} (h : OwnD w N E K v n f) {p : Addr} (hp : p.block < N) (u : Value) : OwnD (w.setCell p u) N E K v n f :=
  ownsRow_setCell_other h (fun e => by have := (h.lt _ e).1; omega) u
theorem NBox.set {w : World} {b : Nat} {v : Value} (h : NBox w b v) (u : Value) : NBox (w.setCell ⟨b, 0, none⟩ u) b u := one_setCell h
theorem NBox.far {w : World} {b : Nat} {v : Value} (h : NBox w b v) {p : Addr} (hp : b ≠ p.block) (u : Value) : NBox (w.setCell p u) b v := (Below.heap_setCell w p u b hp).trans h
theorem WholeInv.step {N k x y : Nat} {w W W' : World} {v v' : Value} (h : WholeInv N k x w W v) (hy : y = Nt.dg 4294967296 x k) (ho : OwnD W' (N + 1 + 1) 58 .u32 v' (k + 1) (upd (Nt.dg 4294967296 x) k y)) (hb : Below (N + 1 + 1) W W') :
    WholeInv N (k + 1) x w (W'.setCell ⟨N + 1, 0, none⟩ v') v' :=
  ⟨(ho.congr fun i _ => by
    by_cases e : i = k
    · rw [e, upd_same, hy]
    · rw [upd_ne _ _ e]).far (by simp) _, (h.res.below hb (by omega)).far (by simp) _, (h.box.below hb (by omega)).set _, (h.bel.trans (hb.mono (by omega))).setCell (by simp) _, by rw [size_setCell]; exact Nat.le_trans h.bel1 hb.size⟩
set_option maxHeartbeats 400000 in
theorem ref3_Whole_yes {n c : Nat} {A : Option Addr} {f : Nat → Nat} (w : World) (h : Digs w w.heap.size .i64 A n f) (hn : n ≤ c) (hc : c ≤ 9223372036854775807) (hf : ∀ i, i < n → f i < 65536) (hfit : Nt.fits (Nt.vl 65536 f n) = true) :
    Calls Try.prog 42 #[.slice A n c] w (WRes (Nt.vl 65536 f n) true w) := by
  have hb0 := (Below.refl w.heap.size w).alloc (Nat.le_refl _) (.cells #[.slice none 0 0] 24)
  have D1 := Lib.hid (h.below hb0)
  have hH := h.isH_tl hf
  have ct := fun W h => ref3_trim (B := w.heap.size) (A := A) (f := f) (n := n) (c := c) W h hn hc
  obtain ⟨x, ex⟩ : ∃ x, x = Nt.vl 65536 f n := ⟨_, rfl⟩
  obtain ⟨t, et⟩ : ∃ t, t = Nt.tl f n := ⟨_, rfl⟩
  rw [← et] at ct hH
  rw [← ex] at hH hfit ⊢
  have ht : t ≤ 128 := by rw [← hH.l]; exact Nt.ln_128.2 (Nt.fits_iff.1 hfit)
  have CT := Lib.hid ct
  have HH := Lib.hid hH
  have f0 : WholeInv w.heap.size 0 x w ((w.alloc (.cells #[.slice none 0 0] 24)).alloc (.cells #[.slice none 0 0] 24)) (.slice none 0 0) := by
    have h2 := Fr2.start w (.slice none 0 0) (.slice none 0 0)
    exact ⟨OwnD.nil _ _ _ _ _, h2.n1, h2.n2, h2.bel, h2.sz⟩
  have F0 := Lib.hid f0
  clear h hb0 ct et hf hH f0 ex hfit hn
  go_enter Try.func42, Try.ntmps42
  go_wp2_with fail
  refine (CT.out _ D1.out).mono ?_
  rintro e w' ⟨rfl, rfl⟩
  go_wp2_with fail
  go_loopw [5] (fun i W => ∃ (k m : Nat) (v : Value), m ≤ t + 1 ∧ i = .int .i64 m ∧ Hid (m = 2 * k) ∧ Hid (WholeInv w.heap.size k x w W v)) (fun i _ => t + 2 - (intOf i).toNat)
  case atStart => exact ⟨0, 0, _, by omega, rfl, rfl, F0.out⟩
  case round =>
    obtain ⟨k, m, v, hm, rfl, HM, HI⟩ := hrel
    have xb := HI.out.box.cell
    have zb := HI.out.box.free
    by_cases hlt : m < t
    · have HD := HH.out.d.below HI.out.bel
      obtain ⟨ad, X, rfl, hb, hcell, HX, x0, x1⟩ := HD.at_ hlt (Nt.dg_lt (B := 65536) (by omega) x m)
      have x1' : X < 65536 := by omega
      clear x1
      by_cases hlt2 : m + 1 < t
      · obtain ⟨ad', Y, he, hb', hcell', HY, y0, y1⟩ := HD.at_ hlt2 (Nt.dg_lt (B := 65536) (by omega) x (m + 1))
        obtain rfl : ad = ad' := by injection he
        have y1' : Y < 65536 := by omega
        have hsum : Hid ((X + 65536 * Y).toNat = Nt.dg 4294967296 x k) := by
          show _ = _
          have h1 := HX.out
          have h2 := HY.out
          rw [← Nt.dg_two, ← HM.out]; omega
        have j0 : (m : Int) + 1 < (t : Int) := by omega
        rw [show ad.add (m + 1) = ⟨ad.block, ad.off + (m + 1), none⟩ by unfold Addr.add; rw [if_neg (by omega)]] at hcell'
        clear he y1 hb'
        go_wp2_with (at_builtin; refine Hid.out ?_)
        refine Lib.hid (wpList_app rfl (.tmp 37) (.tmp 40) 22 58 .u32 4 rfl Try.underlying22 info_u32 (by omega) (w.heap.size + 1 + 1) v k (Nt.dg 4294967296 x) ((X + 65536 * Y).toNat) _ (by first | omega | (rw [IntKind.wrap_u32]; omega)) rfl HI.out.own rfl (by have := HM.out; omega) HI.out.bel1 ?_)
        intro v' w2 hown hb2 hloc hgr
        obtain ⟨A2, c2, hv2, -⟩ := hown.form
        subst hv2
        have hN := HI.out.step hsum.out hown hb2
        have xb2 := (HI.out.box.below hb2 (by omega)).cell
        have zb2 := (HI.out.box.below hb2 (by omega)).free
        have HN := Lib.hid hN
        clear hown hb2 hloc hgr hN hcell hcell' xb zb
        go_wp2
        go_roundw
        case rel => exact ⟨k + 1, m + 2, _, by omega, by go_num, by have := HM.out; show _ = _; omega, HN⟩
        case measure => simp [intOf]; omega
      · have hsum : Hid (X.toNat = Nt.dg 4294967296 x k) := by
          show _ = _
          have h1 := HX.out
          rw [← Nt.dg_two, ← HM.out, HH.out.out (i := m + 1) (by omega)]; omega
        go_wp2_with (at_builtin; refine Hid.out ?_)
        refine Lib.hid (wpList_app rfl (.tmp 37) (.tmp 40) 22 58 .u32 4 rfl Try.underlying22 info_u32 (by omega) (w.heap.size + 1 + 1) v k (Nt.dg 4294967296 x) (X.toNat) _ (by first | omega | (rw [IntKind.wrap_u32]; omega)) rfl HI.out.own rfl (by have := HM.out; omega) HI.out.bel1 ?_)
        intro v' w2 hown hb2 hloc hgr
        obtain ⟨A2, c2, hv2, -⟩ := hown.form
        subst hv2
        have hN := HI.out.step hsum.out hown hb2
        have xb2 := (HI.out.box.below hb2 (by omega)).cell
        have zb2 := (HI.out.box.below hb2 (by omega)).free
        have HN := Lib.hid hN
        clear hown hb2 hloc hgr hN hcell xb zb
        go_wp2
        go_roundw
        case rel => exact ⟨k + 1, m + 2, _, by omega, by go_num, by have := HM.out; show _ = _; omega, HN⟩
        case measure => simp [intOf]; omega
    · obtain ⟨A3, c3, hv3, hnc, hcm, hdig, -⟩ := HI.out.own.form
      have hl : Nt.ln 4294967296 x = k := Nt.ln_two' HH.out.l (by have := HM.out; omega) (by have := HM.out; omega)
      subst hv3
      have xr := HI.out.res.cell
      have zr := HI.out.res.free
      have HN := Lib.hid ((IsN.mk hdig hl).setBox xr (.slice A3 k c3))
      clear hl hdig
      go_wp2_with fail
      refine bodyPost_ret (v := .tuple #[.agg #[.slice A3 k c3], .bool true]) (by simp [results, Try.results42, go_sem, xr]) rfl ?_
      exact ⟨A3, k, c3, rfl, HI.out.bel.setCell (by simp) _, HN.out.more (by rw [size_setCell]; exact Nat.le_refl _), by have := HM.out; omega, hnc⟩
end Go.Proofs.Ytfjnpmkklanopaa
