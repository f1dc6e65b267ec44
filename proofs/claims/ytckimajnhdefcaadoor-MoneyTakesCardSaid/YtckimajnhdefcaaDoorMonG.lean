/- Contract of the reference's Split: its error, or the parts. -/
import Derived.Test.YtckimajnhdefcaaDoorMonF
import Derived.Test.YtckimajnhdefcaaDoorNumR
import Derived.Maps.AppendAt
import Derived.OwnWalk
import Derived.Deep.AppendLies
namespace Go.Proofs.YtckimajnhdefcaaDoor
open Go.RowKit

theorem ref2_Split_no {n c : Nat} {A : Option Addr} {zs : List Int} (m : Int) (w : World) (h : Ints w w.heap.size A n zs) (hn : n ≤ 9223372036854775807) (hE : Mn.twE m zs ≠ 0) :
    Calls Tryd.prog 23 #[.int .i64 m, .slice A n c] w fun e w' => e = .returned (.tuple #[.slice none 0 0, .int .i64 (Mn.twE m zs)]) ∧ w = w' := by
  have H := Lib.hid h
  clear h
  have c1 := fun w (h : Ints w w.heap.size A n zs) => ref2_checkSplit (c := c) m w h hn
  obtain ⟨E, eE⟩ : ∃ E, E = Mn.twE m zs := ⟨_, rfl⟩
  obtain ⟨V, eV⟩ : ∃ V, V = Mn.twV m zs := ⟨_, rfl⟩
  rw [← eE, ← eV] at c1
  rw [← eE] at hE ⊢
  have C1 := Lib.hid c1
  have hb : (E != 0) = true := by simpa using hE
  clear c1 eE eV hE
  go_enter Tryd.func23, Tryd.ntmps23
  go_wp2_with (go_at_call 37; refine (C1.out _ H.out).mono ?_; rintro e w' ⟨rfl, rfl⟩)
  go_ret2
  exact ⟨rfl, rfl⟩

/-- Two rows of the call's own that lie apart. -/
structure Two (N : Nat) (w : World) (vp vr : Value) (k : Nat) (P R : List Int) : Prop where
  p : w.ownsRow N 3 1 vp k (P.map (Value.int .i64))
  r : w.ownsRow N 3 1 vr k (R.map (Value.int .i64))
  d : ∀ g, vp.ownBlock = some g → vr.ownBlock ≠ some g
theorem two_start (N : Nat) (w : World) : Two N w (.slice none 0 0) (.slice none 0 0) 0 [] [] :=
  ⟨World.ownsRow_nil w N _ 1, World.ownsRow_nil w N _ 1, fun g h => by simp [Value.ownBlock] at h⟩
theorem own_apart {v u : Value} (h : ∀ g, v.ownBlock = some g → u.ownBlock ≠ some g) : u.ownBlock = none ∨ u.ownBlock ≠ v.ownBlock := by
  rcases hu : u.ownBlock with _ | g
  · exact .inl rfl
  · exact .inr fun e => h g e.symm hu
theorem own_apart' {v u : Value} (h : ∀ g, v.ownBlock = some g → u.ownBlock ≠ some g) : v.ownBlock = none ∨ v.ownBlock ≠ u.ownBlock := by
  rcases hv : v.ownBlock with _ | g
  · exact .inl rfl
  · exact .inr fun e => h g hv e.symm
/-- Behind the first append. -/
theorem Two.left {N : Nat} {w w1 : World} {vp vr vp' : Value} {k : Nat} {P R : List Int} {o : Obj} {q : Int} (h : Two N w vp vr k P R)
    (hown : w1.ownsRow N 3 1 vp' (k + 1) (P.map (Value.int .i64) ++ [.int .i64 q])) (hg : (w.alloc o).grownBy w1 vp.ownBlock) (hl : vp'.ownBlock = vp.ownBlock ∨ vp'.ownBlock = some (w.alloc o).heap.size) :
    w1.ownsRow N 3 1 vp' (k + 1) ((P ++ [q]).map (Value.int .i64)) ∧ w1.ownsRow N 3 1 vr k (R.map (Value.int .i64)) ∧ ∀ g, vp'.ownBlock = some g → vr.ownBlock ≠ some g := by
  refine ⟨by rw [List.map_append]; exact hown, (h.r.alloc o).kept hg (own_apart h.d), fun g hgp => ?_⟩
  rcases hl with hl | hl
  · exact h.d g (by rw [← hl]; exact hgp)
  · intro e
    have h1 := (h.r.lt g e).2
    rw [hl] at hgp
    have h2 := Option.some.inj hgp
    simp at h2
    omega
theorem two_right {N : Nat} {w w1 : World} {vp vr vr' : Value} {k : Nat} {P R : List Int} {o : Obj} {r : Int} (hp : w.ownsRow N 3 1 vp (k + 1) (P.map (Value.int .i64)))
    (hd : ∀ g, vp.ownBlock = some g → vr.ownBlock ≠ some g)
    (hown : w1.ownsRow N 3 1 vr' (k + 1) (R.map (Value.int .i64) ++ [.int .i64 r])) (hg : (w.alloc o).grownBy w1 vr.ownBlock) (hl : vr'.ownBlock = vr.ownBlock ∨ vr'.ownBlock = some (w.alloc o).heap.size) :
    Two N w1 vp vr' (k + 1) P (R ++ [r]) := by
  refine ⟨(hp.alloc o).kept hg (own_apart' hd), by rw [List.map_append]; exact hown, fun g hgp => ?_⟩
  rcases hl with hl | hl
  · rw [hl]; exact hd g hgp
  · rw [hl]
    intro e
    have h1 := (hp.lt g hgp).2
    have h2 := Option.some.inj e
    simp at h2
    omega
theorem below_app {N : Nat} {w0 w w1 : World} {v : Value} {k : Nat} {xs : List Value} {o : Obj} (h : Below N w0 w) (hN : N ≤ w.heap.size) (hown : w.ownsRow N 3 1 v k xs) (hg : (w.alloc o).grownBy w1 v.ownBlock) : Below N w0 w1 :=
  (h.alloc hN o).grown hg (by simp; omega) fun g e => (hown.lt g e).1

/-- A row of the call's own, as ints. -/
def Own (w : World) (N g n cap : Nat) (xs : List Int) : Prop := w.ownsRow N 3 1 (.slice (some ⟨g, 0, none⟩) n cap) n (xs.map (Value.int .i64))
section
variable {w w' : World} {N g n cap : Nat} {xs : List Int}
theorem Own.len (h : Own w N g n cap xs) : xs.length = n := by have := h.1; simpa using this
theorem Own.cell (h : Own w N g n cap xs) {i : Nat} (hi : i < n) : w.cell? ⟨g, i, none⟩ = some (.int .i64 (xs.getD i 0)) := by
  rw [World.ownsRow.cellAt h i (by omega)]
  have := h.len
  simp [List.getD, show i < xs.length by omega]
theorem Own.free (h : Own w N g n cap xs) (i : Nat) : w.frozen? ⟨g, i, none⟩ = false := World.ownsRow.frozenAt h i
theorem Own.drewN (h : Own w N g n cap xs) (k : Nat) : Own (w.drewN k) N g n cap xs := h
theorem Own.set (h : Own w N g n cap xs) (i : Nat) (v : Int) : Own (w.setCell ⟨g, i, none⟩ (.int .i64 v)) N g n cap (xs.set i v) := by
  have := (World.ownsRow.stored h i (.int .i64 v)).1
  unfold Own
  rw [List.map_set]
  exact this
theorem Own.far (h : Own w N g n cap xs) {a : Addr} (ha : g ≠ a.block) (u : Value) : Own (w.setCell a u) N g n cap xs :=
  ownsRow_setCell_other h (by simpa [Value.ownBlock] using ha) u
theorem Own.lt (h : Own w N g n cap xs) : N ≤ g ∧ g < w.heap.size := World.ownsRow.lt h g rfl
theorem Own.ints (h : Own w N g n cap xs) : Ints w w.heap.size (some ⟨g, 0, none⟩) n xs :=
  ⟨h.len, fun _ => ⟨_, rfl, h.lt.2, fun j hj => by
    have : (⟨g, 0, none⟩ : Addr).add j = ⟨g, j, none⟩ := by unfold Addr.add; split <;> simp_all
    rw [this]; exact h.cell hj⟩⟩
end

/-- What the reference's Split leaves. -/
def Parted2 (m : Int) (zs : List Int) (n : Nat) (w : World) (e : Ending) (w' : World) : Prop :=
  ∃ g cap, e = .returned (.tuple #[.slice (some ⟨g, 0, none⟩) n cap, .int .i64 0]) ∧ Below w.heap.size w w' ∧ Own w' w.heap.size g n cap (Mn.parts m zs)

set_option maxRecDepth 100000 in
set_option maxHeartbeats 1000000 in
theorem ref2_Split_yes {n c : Nat} {A : Option Addr} {zs : List Int} (m : Int) (w : World) (h : Ints w w.heap.size A n zs) (hE : Mn.twE m zs = 0) :
    Calls Tryd.prog 23 #[.int .i64 m, .slice A n c] w (Parted2 m zs n w) := by
  have H := Lib.hid h
  have HL := Lib.hid h.len
  clear h
  obtain ⟨hg, hV⟩ := Mn.tw_good hE
  have n0 : 0 < n := by have := hg.n0; have := HL.out; omega
  have n1 : n ≤ 64 := by have := hg.n1; have := HL.out; omega
  have c1 := fun w (h : Ints w w.heap.size A n zs) => ref2_checkSplit (c := c) m w h (by omega)
  obtain ⟨T, eT⟩ : ∃ T, T = Mn.lsum zs := ⟨_, rfl⟩
  rw [hV, hE, ← eT] at c1
  have C1 := Lib.hid c1
  have G := Lib.hid hg
  have t0 := hg.t
  have t1 := hg.tmax
  rw [← eT] at t0 t1
  have HT := Lib.hid eT
  have m0 := hg.m0
  have m1 := hg.m1
  clear c1 eT hV hE hg
  obtain ⟨i0, hi, hz0, hz1, hz2⟩ := info_parts info_int
  have HI := Lib.hid hi
  have HZ0 := Lib.hid hz0
  have HZ1 := Lib.hid hz1
  have HZ2 := Lib.hid hz2
  clear hi hz0 hz1 hz2
  go_enter Tryd.func23, Tryd.ntmps23
  go_wp2_with (go_at_call 37; refine (C1.out _ H.out).mono ?_; rintro e w' ⟨rfl, rfl⟩)
  go_loopw [11, 10, 8, 9] (fun i l p r wr => ∃ (k : Nat) (t : Int) (vp vr : Value), k ≤ n ∧ i = .int .i64 k ∧ l = .int .i64 t ∧ p = vp ∧ r = vr ∧ 0 ≤ t ∧ t ≤ 1000000000000 ∧ Hid (t = Mn.lft m zs k) ∧ Hid (Two w.heap.size wr vp vr k ((Mn.qs m T zs).take k) ((Mn.rs m T zs).take k)) ∧ Hid (Below w.heap.size w wr)) (fun i _ _ _ _ => n - (intOf i).toNat)
  case atStart => exact ⟨0, m, _, _, by omega, rfl, rfl, rfl, rfl, m0, m1, Mn.lft_zero.symm, two_start _ _, Below.refl _ _⟩
  case round =>
    obtain ⟨k, t, vp, vr, hk, rfl, rfl, rfl, rfl, t0', t1', HK, HS, HB⟩ := hrel
    by_cases hlt : k < n
    · obtain ⟨ad, x, rfl, hb, hc, HX⟩ := (H.out.below HB.out).at_ hlt
      have hq := G.out.quo k (by rw [HL.out]; exact hlt)
      have hx0 := G.out.w0 k (by rw [HL.out]; exact hlt)
      have hx1 := G.out.w1 k (by rw [HL.out]; exact hlt)
      rw [← HX.out] at hq hx0 hx1
      rw [← HT.out] at hq
      obtain ⟨em1, em2, em3⟩ := Nm.md_ok (a := m) (b := x) t0 m0 hx0 (by omega)
      have cm := fun W => ref_MulDiv m x T (by omega) (by omega) (by omega) (by omega) (by omega) (by omega) W
      obtain ⟨q, eq⟩ : ∃ q, q = m * x / T := ⟨_, rfl⟩
      obtain ⟨r, er⟩ : ∃ r, r = m * x % T := ⟨_, rfl⟩
      rw [em1, em2, em3, ← eq, ← er] at cm
      rw [← eq, ← er] at hq
      obtain ⟨q0, q1, r0, r1⟩ := hq
      have CM := Lib.hid cm
      have EQ := Lib.hid eq
      have ER := Lib.hid er
      clear em1 em2 em3 cm eq er
      have hsz := HB.out.size
      go_wp2_with (first
        | (go_at_call 25; refine (CM.out _).mono ?_; rintro e w' ⟨rfl, rfl⟩)
        | (at_builtin; refine wpList_append_own_at _ rfl _ _ 22 rfl w.heap.size 3 i0 (.int .i64 0) 1 8 Tryd.underlying22 HI.out HZ0.out HZ1.out HZ2.out rfl (by decide) u8 k _ rfl (HS.out.p.alloc _) ⟨wr.heap.size, 0, none⟩ 1 1 [.int .i64 q] rfl rfl (cell_one_new _ _ _) (by simp [Value.oneCell']) (by unfold maxLen; omega) (by omega) (by simp; omega) ?_; intro vp' w1 hown1 hgrow1 _ hloc1; refine Hid.out ?_))
      refine Lib.hid ?_
      have tq := Mn.qs_getD m T zs k (by rw [HL.out]; exact hlt)
      have tr := Mn.rs_getD m T zs k (by rw [HL.out]; exact hlt)
      rw [← HX.out, ← EQ.out] at tq
      rw [← HX.out, ← ER.out] at tr
      have hB1 := below_app HB.out hsz HS.out.p hgrow1
      obtain ⟨p1, r2, d1⟩ := HS.out.left hown1 hgrow1 hloc1
      have HP1 := Lib.hid p1
      have HR1 := Lib.hid r2
      have HD1 := Lib.hid d1
      have HB1 := Lib.hid hB1
      have TQ := Lib.hid tq
      have TR := Lib.hid tr
      have hsz1 := hB1.size
      clear hown1 hgrow1 hloc1 p1 r2 d1 hB1 tq tr
      go_wp2_with (first
        | (at_builtin; refine wpList_append_own_at _ rfl _ _ 22 rfl w.heap.size 3 i0 (.int .i64 0) 1 8 Tryd.underlying22 HI.out HZ0.out HZ1.out HZ2.out rfl (by decide) u9 k _ rfl (HR1.out.alloc _) ⟨w1.heap.size, 0, none⟩ 1 1 [.int .i64 r] rfl rfl (cell_one_new _ _ _) (by simp [Value.oneCell']) (by unfold maxLen; omega) (by omega) (by simp; omega) ?_; intro vr' w2 hown2 hgrow2 _ hloc2; refine Hid.out ?_))
      refine Lib.hid ?_
      have hB2 := below_app HB1.out hsz1 HR1.out hgrow2
      have hT := two_right HP1.out HD1.out hown2 hgrow2 hloc2
      have eq1 : (Mn.qs m T zs).take k ++ [q] = (Mn.qs m T zs).take (k + 1) := by
        rw [List.take_succ_eq_append_getElem (by rw [Mn.qs_len, HL.out]; exact hlt)]
        have := TQ.out
        simp only [List.getD, List.getElem?_eq_getElem (show k < (Mn.qs m T zs).length by rw [Mn.qs_len, HL.out]; exact hlt), Option.getD_some] at this
        rw [this]
      have er1 : (Mn.rs m T zs).take k ++ [r] = (Mn.rs m T zs).take (k + 1) := by
        rw [List.take_succ_eq_append_getElem (by rw [Mn.rs_len, HL.out]; exact hlt)]
        have := TR.out
        simp only [List.getD, List.getElem?_eq_getElem (show k < (Mn.rs m T zs).length by rw [Mn.rs_len, HL.out]; exact hlt), Option.getD_some] at this
        rw [this]
      rw [eq1, er1] at hT
      have HT2 := Lib.hid hT
      have HB2 := Lib.hid hB2
      have ht2 : Hid (t - q = Mn.lft m zs (k + 1)) := by
        show _ = _
        rw [Mn.lft_step _ (by rw [HL.out]; exact hlt), ← HK.out, ← HX.out, ← HT.out, ← EQ.out]
      have hl0 := G.out.lft0 (k + 1)
      rw [← ht2.out] at hl0
      obtain ⟨l0, l1⟩ := hl0
      clear hown2 hgrow2 hloc2 hT hB2 eq1 er1
      go_wp2
      go_roundw
      case rel => exact ⟨k + 1, t - q, _, _, by omega, by go_num, rfl, rfl, rfl, l0, l1, ht2, HT2, HB2⟩
      case measure => simp [intOf]; omega
    · obtain rfl : k = n := by omega
      have ht : t = Mn.left m zs := by rw [HK.out, ← HL.out, Mn.lft_full]
      have hq : (Mn.qs m T zs).take k = Mn.qs m T zs := List.take_of_length_le (by rw [Mn.qs_len, HL.out]; exact Nat.le_refl _)
      have hr : (Mn.rs m T zs).take k = Mn.rs m T zs := List.take_of_length_le (by rw [Mn.rs_len, HL.out]; exact Nat.le_refl _)
      have hs := HS.out
      rw [hq, hr] at hs
      obtain ⟨gp, capp, rfl, -, -⟩ := World.ownsRow.form hs.p n0
      obtain ⟨gr, capr, rfl, -, -⟩ := World.ownsRow.form hs.r n0
      have hne : gp ≠ gr := fun e => hs.d gp rfl (by rw [e]; rfl)
      have op : Own wr w.heap.size gp k capp (Mn.giv (-1) (Mn.qs m T zs, Mn.rs m T zs) 0).1 := hs.p
      have or' : Own wr w.heap.size gr k capr (Mn.giv (-1) (Mn.qs m T zs, Mn.rs m T zs) 0).2 := hs.r
      have OP := Lib.hid op
      have OR := Lib.hid or'
      have HTT := Lib.hid ht
      clear ht hq hr hs HK HS op or'
      go_wp2_with fail
      go_loopw [10] (fun l wx => ∃ (g : Nat) (s : Int), l = .int .i64 s ∧ 0 ≤ s ∧ s ≤ t ∧ Hid (s = t - g) ∧ Hid (Own wx w.heap.size gp k capp (Mn.giv (-1) (Mn.qs m T zs, Mn.rs m T zs) g).1) ∧ Hid (Own wx w.heap.size gr k capr (Mn.giv (-1) (Mn.qs m T zs, Mn.rs m T zs) g).2) ∧ Hid (Below w.heap.size w wx)) (fun l _ => (intOf l).toNat)
      case atStart => exact ⟨0, t, rfl, t0', Int.le_refl _, by show _ = _; simp, OP, OR, HB⟩
      case round =>
        obtain ⟨g, s, rfl, s0, s1, HSG, OG, QG, HBX⟩ := hrel
        by_cases hlt2 : 0 < s
        · have hg1 : (g : Int) < t := by have := HSG.out; omega
          have hlen := Mn.giv_len (-1) (Mn.qs m T zs, Mn.rs m T zs) g
          rw [Mn.qs_len, Mn.rs_len, HL.out] at hlen
          have htw := G.out.twin g (by rw [← HTT.out]; omega)
          have hbd := G.out.giv_bd g (by rw [← HTT.out]; omega)
          rw [← HT.out] at htw
          rw [← HT.out, ← htw, HL.out] at hbd
          obtain ⟨P, eP⟩ : ∃ P, P = (Mn.giv (-1) (Mn.qs m T zs, Mn.rs m T zs) g).1 := ⟨_, rfl⟩
          obtain ⟨R, eR⟩ : ∃ R, R = (Mn.giv (-1) (Mn.qs m T zs, Mn.rs m T zs) g).2 := ⟨_, rfl⟩
          have og := OG.out
          have qg := QG.out
          rw [← eP] at og hbd hlen
          rw [← eR] at qg hlen
          have ha := Mn.amax_lt (R := R) (by rw [hlen.2]; exact n0)
          rw [hlen.2] at ha
          have cg := ref2_greatest (c := capr) wr qg.ints (by omega) n0
          obtain ⟨a, ea⟩ : ∃ a, a = Mn.amax R := ⟨_, rfl⟩
          rw [← ea] at cg ha
          have cp := og.cell ha
          have cr := qg.cell ha
          have fp := og.free a
          have fr := qg.free a
          have hva := hbd a ha
          obtain ⟨y, ey⟩ : ∃ y, y = P.getD a 0 := ⟨_, rfl⟩
          obtain ⟨z, ez⟩ : ∃ z, z = R.getD a 0 := ⟨_, rfl⟩
          rw [← ey] at cp hva
          rw [← ez] at cr
          obtain ⟨v0, v1⟩ := hva
          have CG := Lib.hid cg
          have EP := Lib.hid eP
          have ER := Lib.hid eR
          have EA := Lib.hid ea
          have EY := Lib.hid ey
          have OGG := Lib.hid og
          have QGG := Lib.hid qg
          have k3 : ∀ (W : World) (v : Value), (W.setCell ⟨gp, a, none⟩ v).cell? ⟨gr, a, none⟩ = W.cell? ⟨gr, a, none⟩ := fun W v => cell_far W v (Ne.symm hne)
          have ha2 : (a : Int) < (k : Int) := by omega
          clear hlen htw hbd og qg cg eP eR ea ey ez
          go_wp2_with fail
          refine CG.out.mono ?_
          rintro e w' ⟨rfl, dk, rfl⟩
          go_wp2_with fail
          have o2 := ((OGG.out.drewN dk).set a (y + 1)).far (a := ⟨gr, a, none⟩) hne (.int .i64 (-1))
          have q2 := ((QGG.out.drewN dk).far (a := ⟨gp, a, none⟩) (Ne.symm hne) (.int .i64 (y + 1))).set a (-1)
          have hb2 := ((HBX.out.trans (below_draws _ _ dk)).setCell (p := ⟨gp, a, none⟩) OGG.out.lt.1 (.int .i64 (y + 1))).setCell (p := ⟨gr, a, none⟩) QGG.out.lt.1 (.int .i64 (-1))
          have e1 : P.set a (y + 1) = (Mn.giv (-1) (Mn.qs m T zs, Mn.rs m T zs) (g + 1)).1 := by
            rw [Mn.giv, Mn.step, ← EP.out, ← ER.out, ← EA.out, ← EY.out]
          have e2 : R.set a (-1) = (Mn.giv (-1) (Mn.qs m T zs, Mn.rs m T zs) (g + 1)).2 := by
            rw [Mn.giv, Mn.step, ← EP.out, ← ER.out, ← EA.out]
          rw [e1] at o2
          rw [e2] at q2
          have hsg : Hid (s - 1 = t - ((g + 1 : Nat) : Int)) := by show _ = _; have := HSG.out; omega
          have O2 := Lib.hid o2
          have Q2 := Lib.hid q2
          have B2 := Lib.hid hb2
          clear o2 q2 hb2 e1 e2
          go_roundw
          case rel => exact ⟨g + 1, s - 1, rfl, by omega, by omega, hsg, O2, Q2, B2⟩
          case measure => simp [intOf]; omega
        · have e : (Mn.giv (-1) (Mn.qs m T zs, Mn.rs m T zs) g).1 = Mn.parts m zs := by
            have h1 := HSG.out
            have htw := G.out.twin g (by rw [← HTT.out]; omega)
            rw [← HT.out] at htw
            rw [htw, Mn.parts, ← HT.out, ← HTT.out, show t.toNat = g by omega]
          have og := OG.out
          rw [e] at og
          have OGG := Lib.hid og
          clear e og
          go_wp2
          go_ret2
          exact ⟨gp, capp, rfl, HBX.out, OGG.out⟩
end Go.Proofs.YtckimajnhdefcaaDoor
