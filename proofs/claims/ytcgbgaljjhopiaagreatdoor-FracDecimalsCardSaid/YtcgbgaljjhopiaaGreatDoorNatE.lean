/- Contracts of nat.Cmp, slices.Clone at []uint32 and nat.Sub. -/
import Derived.Test.YtcgbgaljjhopiaaGreatDoorNatD
import Derived.Maps.AppendAt
import Derived.WalkSpells
namespace Go.Proofs.YtcgbgaljjhopiaaGreatDoor
set_option maxRecDepth 20000
open Go.RowKit
set_option linter.unusedVariables false
set_option linter.unusedSimpArgs false

/-- The variables of a call that takes two numbers. -/
structure Fr2 (N : Nat) (w W : World) (v1 v2 : Value) : Prop where
  n1 : NBox W N v1
  n2 : NBox W (N + 1) v2
  bel : Below N w W
theorem Fr2.sz {N : Nat} {w W : World} {v1 v2 : Value} (h : Fr2 N w W v1 v2) : N + 1 < W.heap.size := h.n2.lt
theorem Fr2.start (w : World) (v1 v2 : Value) : Fr2 w.heap.size w ((w.alloc (.cells #[v1] 24)).alloc (.cells #[v2] 24)) v1 v2 := by
  have z1 : (w.alloc (.cells #[v1] 24)).heap.size = w.heap.size + 1 := by simp
  have x2 := NBox.new (w.alloc (.cells #[v1] 24)) v2
  rw [z1] at x2
  exact ⟨(NBox.new w v1).alloc _, x2, ((Below.refl _ _).alloc (Nat.le_refl _) _).alloc (by rw [z1]; omega) _⟩
theorem Fr2.below {N B : Nat} {w W W' : World} {v1 v2 : Value} (h : Fr2 N w W v1 v2) (hb : Below B W W') (hB : N + 1 < B) : Fr2 N w W' v1 v2 :=
  ⟨h.n1.below hb (by omega), h.n2.below hb hB, h.bel.trans (hb.mono (by omega))⟩
theorem Fr2.next {N : Nat} {w W W' : World} {v1 v2 : Value} (h : Fr2 N w W v1 v2) (hb : Below W.heap.size W W') : Fr2 N w W' v1 v2 := h.below hb h.sz
theorem Fr2.drewN {N : Nat} {w W : World} {v1 v2 : Value} (h : Fr2 N w W v1 v2) (k : Nat) : Fr2 N w (W.drewN k) v1 v2 := ⟨h.n1, h.n2, h.bel.trans (below_dr _ _ k)⟩

theorem nat_Cmp_bad {n c n' c' : Nat} {A A' : Option Addr} {f f' : Nat → Nat} (w : World) (h : Digs w w.heap.size .u32 A n f) (h' : Digs w w.heap.size .u32 A' n' f') (hn : n ≤ 9223372036854775807) (hn' : n' ≤ 9223372036854775807)
    (hv : (Nt.vd f n && Nt.vd f' n') = false) :
    Calls Tryz.prog 40 #[.agg #[.slice A n c], .agg #[.slice A' n' c']] w fun e w' => e = .returned (.int .i64 0) ∧ Below w.heap.size w w' := by
  have f0 := Fr2.start w (.slice A n c) (.slice A' n' c')
  have F0 := Lib.hid f0
  have D1 := Lib.hid ((h.below f0.bel).more f0.bel.size)
  have D2 := Lib.hid ((h'.below f0.bel).more f0.bel.size)
  clear f0 h h'
  cases hv1 : Nt.vd f n
  · have c1 := fun W (h : Digs W W.heap.size .u32 A n f) => nat_Valid (c := c) W h hn
    rw [hv1] at c1
    have C1 := Lib.hid c1
    clear c1 hv hv1
    go_enter Tryz.func40, Tryz.ntmps40
    go_wp2_with fail
    refine (C1.out _ D1.out).mono ?_
    rintro e w1 ⟨rfl, hb1⟩
    have F1 := Lib.hid (F0.out.next hb1)
    go_wp2_with fail
    go_ret
    exact ⟨rfl, F1.out.bel⟩
  · have hv2 : Nt.vd f' n' = false := by rw [hv1] at hv; simpa using hv
    have c1 := fun W (h : Digs W W.heap.size .u32 A n f) => nat_Valid (c := c) W h hn
    rw [hv1] at c1
    have C1 := Lib.hid c1
    have c2 := fun W (h : Digs W W.heap.size .u32 A' n' f') => nat_Valid (c := c') W h hn'
    rw [hv2] at c2
    have C2 := Lib.hid c2
    clear c1 c2 hv hv1 hv2
    go_enter Tryz.func40, Tryz.ntmps40
    go_wp2_with fail
    refine (C1.out _ D1.out).mono ?_
    rintro e w1 ⟨rfl, hb1⟩
    have F1 := Lib.hid (F0.out.next hb1)
    have E2 := Lib.hid ((D2.out.below hb1).more hb1.size)
    have x2 := F1.out.n2.cell
    clear hb1
    go_wp2_with fail
    refine (C2.out _ E2.out).mono ?_
    rintro e w2 ⟨rfl, hb2⟩
    have F2 := Lib.hid (F1.out.next hb2)
    go_wp2_with fail
    go_ret
    exact ⟨rfl, F2.out.bel⟩
theorem quiet_d {P : Program} {f : FuncId} {args : Array Value} {w : World} {a n : Nat} {v : Value} (h : Calls P f args (w.drewN (a + n)) fun e w' => e = .returned v ∧ w.drewN (a + n) = w') :
    Calls P f args (w.drewN (a + n)) fun e w'' => e = .returned v ∧ ∃ m, w'' = w.drewN (a + m) := h.mono fun _ _ ⟨he, hw⟩ => ⟨he, n, hw.symm⟩
namespace Nt
/-- Where the comparison stands when the digits from k on have been looked at. -/
def CmpSt (x y k : Nat) (o : Int) : Prop := (o = 0 ∧ x / 4294967296 ^ k = y / 4294967296 ^ k) ∨ (o ≠ 0 ∧ o = cmpI x y)
theorem cmpI_lt {a b : Int} (h : a < b) : cmpI a b = -1 := by rw [cmpI, if_pos h]
theorem cmpI_gt {a b : Int} (h : b < a) : cmpI a b = 1 := by rw [cmpI, if_neg (by omega), if_pos h]
theorem cmpI_eq (a : Int) : cmpI a a = 0 := by rw [cmpI, if_neg (by omega), if_neg (by omega)]
theorem cmpSt_start {x y n n' : Nat} (hx : ln 4294967296 x = n) (hy : ln 4294967296 y = n') : CmpSt x y n (cmpI n n') := by
  rcases Nat.lt_trichotomy n n' with h | h | h
  · have := lt_of_ln (B := 4294967296) (by omega) (x := x) (y := y) (by omega)
    exact .inr ⟨by rw [cmpI_lt (by omega)]; omega, by rw [cmpI_lt (by omega), cmpI_lt (by omega)]⟩
  · subst h
    refine .inl ⟨cmpI_eq _, ?_⟩
    rw [Nat.div_eq_of_lt (by rw [← hx]; exact ln_lt (by omega) x), Nat.div_eq_of_lt (by rw [← hy]; exact ln_lt (by omega) y)]
  · have := lt_of_ln (B := 4294967296) (by omega) (x := y) (y := x) (by omega)
    exact .inr ⟨by rw [cmpI_gt (by omega)]; omega, by rw [cmpI_gt (by omega), cmpI_gt (by omega)]⟩
theorem cmpSt_step {x y k : Nat} (h : x / 4294967296 ^ (k + 1) = y / 4294967296 ^ (k + 1)) : CmpSt x y k (cmpI (dg 4294967296 x k : Nat) (dg 4294967296 y k : Nat)) := by
  rcases Nat.lt_trichotomy (dg 4294967296 x k) (dg 4294967296 y k) with hd | hd | hd
  · have := lt_of_dg h hd
    exact .inr ⟨by rw [cmpI_lt (by omega)]; omega, by rw [cmpI_lt (by omega), cmpI_lt (by omega)]⟩
  · rw [hd]; exact .inl ⟨cmpI_eq _, div_step h hd⟩
  · have := lt_of_dg h.symm hd
    exact .inr ⟨by rw [cmpI_gt (by omega)]; omega, by rw [cmpI_gt (by omega), cmpI_gt (by omega)]⟩
theorem cmpSt_zero {x y : Nat} (h : CmpSt x y 0 0) : 0 = cmpI x y := by
  rcases h with ⟨-, h⟩ | ⟨h, -⟩
  · simp at h; rw [h]; exact (cmpI_eq _).symm
  · exact absurd rfl h
end Nt
set_option maxHeartbeats 400000 in
theorem nat_Cmp_ok {n c n' c' x y : Nat} {A A' : Option Addr} (w : World) (h : IsN w w.heap.size A n x) (h' : IsN w w.heap.size A' n' y) (hn : n ≤ 64) (hn' : n' ≤ 64) :
    Calls Tryz.prog 40 #[.agg #[.slice A n c], .agg #[.slice A' n' c']] w fun e w' => e = .returned (.int .i64 (Nt.cmpI (x : Nat) (y : Nat))) ∧ Below w.heap.size w w' := by
  have f0 := Fr2.start w (.slice A n c) (.slice A' n' c')
  have F0 := Lib.hid f0
  have D1 := Lib.hid ((h.below f0.bel).more f0.bel.size)
  have D2 := Lib.hid ((h'.below f0.bel).more f0.bel.size)
  have c1 := fun W (h : IsN W W.heap.size A n x) => nat_Valid (c := c) W h.d (by omega)
  rw [h.vd, decide_eq_true hn] at c1
  have c2 := fun W (h : IsN W W.heap.size A' n' y) => nat_Valid (c := c') W h.d (by omega)
  rw [h'.vd, decide_eq_true hn'] at c2
  have C1 := Lib.hid c1
  have C2 := Lib.hid c2
  clear f0 h h' c1 c2
  obtain ⟨R, eR⟩ : ∃ R, R = Nt.cmpI (x : Nat) (y : Nat) := ⟨_, rfl⟩
  rw [← eR]
  have ER := Lib.hid eR
  have he0 : Nt.cmpI (n : Nat) (n' : Nat) = 0 → n = n' := fun h => by
    rcases Nat.lt_trichotomy n n' with h1 | h1 | h1
    · rw [Nt.cmpI_lt (by omega)] at h; omega
    · exact h1
    · rw [Nt.cmpI_gt (by omega)] at h; omega
  have HST := Lib.hid (Nt.cmpSt_start D1.out.l D2.out.l)
  obtain ⟨o0, eo⟩ : ∃ o, o = Nt.cmpI (n : Nat) (n' : Nat) := ⟨_, rfl⟩
  rw [← eo] at HST he0
  have HE0 := Lib.hid he0
  have ci := fun W => cmp_int (n : Int) (n' : Int) W
  rw [← eo] at ci
  have CI := Lib.hid ci
  clear eR eo ci he0
  go_enter Tryz.func40, Tryz.ntmps40
  go_wp2_with fail
  refine (C1.out _ D1.out).mono ?_
  rintro e w1 ⟨rfl, hb1⟩
  have F1 := Lib.hid (F0.out.next hb1)
  have E1 := Lib.hid ((D1.out.below hb1).more hb1.size)
  have E2 := Lib.hid ((D2.out.below hb1).more hb1.size)
  have x2 := F1.out.n2.cell
  clear hb1
  go_wp2_with fail
  refine (C2.out _ E2.out).mono ?_
  rintro e w2 ⟨rfl, hb2⟩
  have F2 := Lib.hid (F1.out.next hb2)
  have G1 := Lib.hid ((E1.out.below hb2).more hb2.size)
  have G2 := Lib.hid ((E2.out.below hb2).more hb2.size)
  clear x2 hb2
  have x1 := F2.out.n1.cell
  have x2 := F2.out.n2.cell
  go_wp2_with fail
  refine (CI.out _).mono ?_
  rintro e w' ⟨rfl, rfl⟩
  go_wp2_with fail
  go_loopw [5, 6] (fun s i W => ∃ (k : Nat) (o v : Int) (d : Nat), k ≤ n ∧ i = .int .i64 v ∧ v < k ∧ (k : Int) ≤ v + 1 ∧ s = .int .i64 o ∧ Hid (Nt.CmpSt x y k o) ∧ (o ≠ 0 → R = o) ∧ Hid (o = 0 → n = n') ∧ W = w2.drewN d) (fun _ i _ => (intOf i + 1).toNat)
  case atStart => exact ⟨n, o0, (n : Int) - 1, 0, Nat.le_refl _, rfl, by omega, by omega, rfl, HST, fun h => by
    rcases HST.out with h1 | h1
    · exact absurd h1.1 h
    · rw [ER.out]; exact h1.2.symm, HE0, rfl⟩
  case round =>
    obtain ⟨k, o, v, d, hk, rfl, hv1, hv2, rfl, HO, hR, HE, rfl⟩ := hrel
    by_cases h0 : o = 0
    · subst h0
      rcases k with _ | k
      · obtain rfl : v = -1 := by omega
        have F : Hid (0 = R) := by show _ = _; rw [ER.out]; exact Nt.cmpSt_zero HO.out
        clear hR
        go_wp2
        go_ret
        exact ⟨ret_int F.out, F2.out.bel.trans (below_dr _ _ _)⟩
      · obtain rfl : v = (k : Int) := by omega
        have hlt' : k < n := by omega
        have hx := Nt.dg_lt (B := 4294967296) (by omega) x k
        have hy := Nt.dg_lt (B := 4294967296) (by omega) y k
        obtain ⟨ad, u, rfl, hb, hcell, HX, u0, u1⟩ := G1.out.d.at_ hlt' hx
        have hnn := HE.out rfl
        have hlt2 : k < n' := by omega
        have HE2 : ∀ o', Hid (o' = (0 : Int) → n = n') := fun _ _ => hnn
        clear hnn
        obtain ⟨ad', u', rfl, hb', hcell', HX', u0', u1'⟩ := G2.out.d.at_ hlt2 hy
        have ci := fun W => cmp_u32 u u' W
        obtain ⟨o', eo⟩ : ∃ o', o' = Nt.cmpI u u' := ⟨_, rfl⟩
        have hst := Nt.cmpSt_step (x := x) (y := y) (k := k) (by
          rcases HO.out with h1 | h1
          · exact h1.2
          · exact absurd rfl h1.1)
        rw [← HX.out, ← HX'.out, ← eo] at hst
        rw [← eo] at ci
        have CI2 := Lib.hid ci
        have HST2 := Lib.hid hst
        clear ci eo hst hR hx hy
        have j0 : (0 : Int) ≤ (k : Int) := by omega
        have j1 : (k : Int) < (n : Int) := by omega
        have j2 : (k : Int) < (n' : Int) := by omega
        go_wp2_with fail
        go_quiet ((go_at_call 70; first | exact quiet_l (CI2.out _) | exact quiet_d (CI2.out _)))
        go_wp2_with fail
        go_roundw
        case rel => exact ⟨k, o', (k : Int) - 1, _, by omega, rfl, by omega, by omega, rfl, HST2, fun h => by
          rcases HST2.out with h1 | h1
          · exact absurd h1.1 h
          · rw [ER.out]; exact h1.2.symm, HE2 _, rfl⟩
        case measure => simp [intOf]
    · have F : Hid (o = R) := (hR h0).symm
      have hx : (o == 0) = false := by simpa using h0
      clear hR h0
      by_cases hv3 : 0 ≤ v
      · go_wp2
        go_ret
        exact ⟨ret_int F.out, F2.out.bel.trans (below_dr _ _ _)⟩
      · go_wp2
        go_ret
        exact ⟨ret_int F.out, F2.out.bel.trans (below_dr _ _ _)⟩

/-! ### A copy of a number's limbs -/
theorem Rw.of_own {w : World} {N E n : Nat} {K : IntKind} {g c : Nat} {f : Nat → Nat} {xs : List Value} (h : w.ownsRow N E 1 (.slice (some ⟨g, 0, none⟩) n c) n xs) (hx : ∀ i, i < n → xs[i]? = some (.int K (f i : Nat))) : Rw w g E K n f := by
  obtain ⟨hl, hr⟩ := h
  rcases hr with ⟨hv, -⟩ | ⟨g', cap, cur, hv, hb, hg, hnc, hcap, hsz, htake⟩
  · cases hv
  · injection hv with h1 h2 h3
    injection h1 with h1
    injection h1 with h1
    subst h1
    refine ⟨cur, hg, by omega, fun i hi => ?_⟩
    have h4 := hx i hi
    rw [← htake, List.getElem?_take, if_pos (by omega)] at h4
    simpa using h4
/-- What Clone leaves: the same digits, in a row of the call's own if there are any. -/
def Cloned (n : Nat) (f : Nat → Nat) (w : World) (e : Ending) (w' : World) : Prop :=
  ∃ A c, e = .returned (.slice A n c) ∧ Below w.heap.size w w' ∧ n ≤ c ∧ c ≤ 9223372036854775807 ∧ (0 < n → ∃ g, A = some ⟨g, 0, none⟩ ∧ w.heap.size ≤ g ∧ Rw w' g 37 .u32 n f)
theorem clone_u32 {n c : Nat} {A : Option Addr} {f : Nat → Nat} (w : World) (h : Digs w w.heap.size .u32 A n f) (hn : n ≤ 64) (hc : n ≤ c) :
    Calls Tryz.prog 66 #[.slice A n c] w (Cloned n f w) := by
  rcases A with _ | ad
  · have h0 : n = 0 := by
      rcases Nat.eq_zero_or_pos n with e | e
      · exact e
      · obtain ⟨ad, he, -⟩ := h e
        cases he
    subst h0
    have q := fun (w : World) (a : Option Addr) (n c n' c' : Nat) => Lib.run_eql_slice_nil w _ _ a n c n' c' Tryz.underlying22
    go_enter Tryz.func66, Tryz.ntmps66
    go_wp2_with fail
    go_ret
    exact ⟨none, 0, rfl, Below.refl _ _, Nat.le_refl _, by omega, fun h => absurd h (by omega)⟩
  · obtain ⟨i0, hi, hz0, hz1, hz2⟩ := info_parts info_u32
    have HI := Lib.hid hi
    have HZ0 := Lib.hid hz0
    have HZ1 := Lib.hid hz1
    have HZ2 := Lib.hid hz2
    have H := Lib.hid h
    clear hi hz0 hz1 hz2 h
    have q := fun (w : World) (a : Option Addr) (n c n' c' : Nat) => Lib.run_eql_slice_nil w _ _ a n c n' c' Tryz.underlying22
    go_enter Tryz.func66, Tryz.ntmps66
    have hcells : ∀ j u, ((List.range n).map (fun i => Value.int .u32 (f i : Nat)))[j]? = some u → (w.alloc (.cells #[] 37)).cell? (ad.add j) = some u := fun j u hj => by
      by_cases hjn : j < n
      · obtain ⟨ad', he, hb', hc'⟩ := H.out (by omega)
        injection he with he
        subst he
        rw [World.cell?_alloc_lt w _ (ad.add j) (by rw [block_of_add]; exact hb')]
        rw [hc' j hjn, ← hj]
        simp [hjn]
      · simp [hjn] at hj
    have HC := Lib.hid hcells
    clear hcells
    go_wp2_with (at_builtin; refine Hid.out ?_)
    refine Lib.hid (wpList_append_own_at _ rfl (.tmp 5) (.tmp 6) 22 rfl w.heap.size 37 i0 (.int .u32 0) 1 4 Tryz.underlying22 HI.out HZ0.out HZ1.out HZ2.out rfl (by decide) (.slice (some ⟨w.heap.size, 0, none⟩) 0 0) 0 [] rfl (World.ownsRow_made w #[] 0 (Nat.le_refl _) (by unfold maxLen; omega) rfl) ad n c _ rfl (by simp) HC.out ?_ (by unfold maxLen; omega) (by omega) (by simp) ?_)
    · intro u hu
      simp only [List.mem_map, List.mem_range] at hu
      obtain ⟨i, -, rfl⟩ := hu
      rfl
    intro v' w1 hown hgrow _ hloc
    have hb1 : Below w.heap.size w w1 := ((Below.refl _ _).alloc (Nat.le_refl _) _).grown hgrow (by simp) fun g e => by simp [Value.ownBlock] at e; omega
    rw [Nat.zero_add, List.nil_append] at hown
    have hfin : ∃ A c, v' = .slice A n c ∧ n ≤ c ∧ c ≤ 9223372036854775807 ∧ (0 < n → ∃ g, A = some ⟨g, 0, none⟩ ∧ w.heap.size ≤ g ∧ Rw w1 g 37 .u32 n f) := by
      rcases hown.2 with ⟨hv, h0⟩ | ⟨g, cap, cur, hv, hbg, hg, hnc, hcap, -, -⟩
      · exact ⟨none, 0, by rw [hv, h0], by omega, by omega, fun h => absurd h (by omega)⟩
      · subst hv
        unfold maxLen at hcap
        exact ⟨_, cap, rfl, hnc, hcap, fun _ => ⟨g, rfl, hbg, Rw.of_own hown fun i hi => by simp [hi]⟩⟩
    obtain ⟨A, c2, rfl, h1, h2, h3⟩ := hfin
    have H3 := Lib.hid h3
    have HB := Lib.hid hb1
    clear hown hgrow hloc hb1 h3
    go_wp2_with fail
    go_ret
    exact ⟨A, c2, rfl, HB.out, h1, h2, H3.out⟩

/-! ### Differences -/
theorem nat_Sub_bad {n c n' c' : Nat} {A A' : Option Addr} {f f' : Nat → Nat} (w : World) (h : Digs w w.heap.size .u32 A n f) (h' : Digs w w.heap.size .u32 A' n' f') (hn : n ≤ 9223372036854775807) (hn' : n' ≤ 9223372036854775807)
    (hv : (Nt.vd f n && Nt.vd f' n') = false) :
    Calls Tryz.prog 34 #[.agg #[.slice A n c], .agg #[.slice A' n' c']] w (NRes 0 2 w) := by
  have f0 := Fr3.start w (.slice A n c) (.slice A' n' c') (.slice none 0 0)
  have d1 := (h.below f0.bel).more f0.bel.size
  have d2 := (h'.below f0.bel).more f0.bel.size
  have F0 := Lib.hid f0
  have D1 := Lib.hid d1
  have D2 := Lib.hid d2
  clear f0 d1 d2 h h'
  cases hv1 : Nt.vd f n
  · have c1 := fun W (h : Digs W W.heap.size .u32 A n f) => nat_Valid (c := c) W h hn
    rw [hv1] at c1
    have C1 := Lib.hid c1
    clear c1 hv hv1
    go_enter Tryz.func34, Tryz.ntmps34
    go_wp2_with fail
    refine (C1.out _ D1.out).mono ?_
    rintro e w1 ⟨rfl, hb1⟩
    have F1 := Lib.hid (F0.out.next hb1)
    have x3 := F1.out.n3.cell
    have z3 := F1.out.n3.free
    go_wp2_with fail
    refine bodyPost_ret (v := .tuple #[.agg #[.slice none 0 0], .int .i64 2]) (by simp [results, Tryz.results34, go_sem, x3]) rfl ?_
    exact ⟨none, 0, 0, rfl, F1.out.bel.setCell (by simp; omega) _, IsN.zero, by omega, by omega⟩
  · have hv2 : Nt.vd f' n' = false := by rw [hv1] at hv; simpa using hv
    have c1 := fun W (h : Digs W W.heap.size .u32 A n f) => nat_Valid (c := c) W h hn
    rw [hv1] at c1
    have C1 := Lib.hid c1
    have c2 := fun W (h : Digs W W.heap.size .u32 A' n' f') => nat_Valid (c := c') W h hn'
    rw [hv2] at c2
    have C2 := Lib.hid c2
    clear c1 c2 hv hv1 hv2
    go_enter Tryz.func34, Tryz.ntmps34
    go_wp2_with fail
    refine (C1.out _ D1.out).mono ?_
    rintro e w1 ⟨rfl, hb1⟩
    have F1 := Lib.hid (F0.out.next hb1)
    have E2 := Lib.hid ((D2.out.below hb1).more hb1.size)
    have x2 := F1.out.n2.cell
    clear hb1
    go_wp2_with fail
    refine (C2.out _ E2.out).mono ?_
    rintro e w2 ⟨rfl, hb2⟩
    have F2 := Lib.hid (F1.out.next hb2)
    have x3 := F2.out.n3.cell
    have z3 := F2.out.n3.free
    go_wp2_with fail
    refine bodyPost_ret (v := .tuple #[.agg #[.slice none 0 0], .int .i64 2]) (by simp [results, Tryz.results34, go_sem, x3]) rfl ?_
    exact ⟨none, 0, 0, rfl, F2.out.bel.setCell (by simp; omega) _, IsN.zero, by omega, by omega⟩


theorem nat_Sub_less {n c n' c' x y : Nat} {A A' : Option Addr} (w : World) (h : IsN w w.heap.size A n x) (h' : IsN w w.heap.size A' n' y) (hn : n ≤ 64) (hn' : n' ≤ 64) (hlt : x < y) :
    Calls Tryz.prog 34 #[.agg #[.slice A n c], .agg #[.slice A' n' c']] w (NRes 0 2 w) := by
  have f0 := Fr3.start w (.slice A n c) (.slice A' n' c') (.slice none 0 0)
  have F0 := Lib.hid f0
  have D1 := Lib.hid ((h.below f0.bel).more f0.bel.size)
  have D2 := Lib.hid ((h'.below f0.bel).more f0.bel.size)
  have c1 := fun W (h : IsN W W.heap.size A n x) => nat_Valid (c := c) W h.d (by omega)
  rw [h.vd, decide_eq_true hn] at c1
  have c2 := fun W (h : IsN W W.heap.size A' n' y) => nat_Valid (c := c') W h.d (by omega)
  rw [h'.vd, decide_eq_true hn'] at c2
  have c3 := fun W (h : IsN W W.heap.size A n x) (h' : IsN W W.heap.size A' n' y) => nat_Cmp_ok (c := c) (c' := c') W h h' hn hn'
  rw [Nt.cmpI_lt (by omega)] at c3
  have C1 := Lib.hid c1
  have C2 := Lib.hid c2
  have C3 := Lib.hid c3
  clear f0 h h' c1 c2 c3
  go_enter Tryz.func34, Tryz.ntmps34
  go_wp2_with fail
  refine (C1.out _ D1.out).mono ?_
  rintro e w1 ⟨rfl, hb1⟩
  have F1 := Lib.hid (F0.out.next hb1)
  have E1 := Lib.hid ((D1.out.below hb1).more hb1.size)
  have E2 := Lib.hid ((D2.out.below hb1).more hb1.size)
  have x2 := F1.out.n2.cell
  clear hb1
  go_wp2_with fail
  refine (C2.out _ E2.out).mono ?_
  rintro e w2 ⟨rfl, hb2⟩
  have F2 := Lib.hid (F1.out.next hb2)
  have G1 := Lib.hid ((E1.out.below hb2).more hb2.size)
  have G2 := Lib.hid ((E2.out.below hb2).more hb2.size)
  clear x2 hb2
  have x1 := F2.out.n1.cell
  have x2 := F2.out.n2.cell
  go_wp2_with fail
  refine (C3.out _ G1.out G2.out).mono ?_
  rintro e w3 ⟨rfl, hb3⟩
  have F3 := Lib.hid (F2.out.next hb3)
  clear x1 x2 hb3
  have x3 := F3.out.n3.cell
  have z3 := F3.out.n3.free
  go_wp2_with fail
  refine bodyPost_ret (v := .tuple #[.agg #[.slice none 0 0], .int .i64 2]) (by simp [results, Tryz.results34, go_sem, x3]) rfl ?_
  exact ⟨none, 0, 0, rfl, F3.out.bel.setCell (by simp; omega) _, IsN.zero, by omega, by omega⟩

theorem nat_subtractProduct_nil {nb c cb : Nat} {A A' : Option Addr} (fac : Int) (w : World) :
    Calls Tryz.prog 67 #[.slice A' 0 c, .slice A nb cb, .int .u32 fac] w fun e w' => e = .returned (.int .u32 0) ∧ w = w' := by
  go_enter Tryz.func67, Tryz.ntmps67
  go_wp2_with fail
  go_loop [7, 15] (fun s i => s = .int .u32 0 ∧ i = .int .i64 0) (fun _ _ => 0)
  case atStart => exact ⟨rfl, rfl⟩
  case round =>
    obtain ⟨rfl, rfl⟩ := hrel
    go_wp2
    go_ret
    exact ⟨rfl, rfl⟩
set_option maxHeartbeats 400000 in
theorem nat_Sub_ok {n c n' c' x y : Nat} {A A' : Option Addr} (w : World) (h : IsN w w.heap.size A n x) (h' : IsN w w.heap.size A' n' y) (hn : n ≤ 64) (hn' : n' ≤ 64) (hnc : n ≤ c) (hle : y ≤ x) :
    Calls Tryz.prog 34 #[.agg #[.slice A n c], .agg #[.slice A' n' c']] w (NRes (x - y) 0 w) := by
  have f0 := Fr3.start w (.slice A n c) (.slice A' n' c') (.slice none 0 0)
  have F0 := Lib.hid f0
  have D1 := Lib.hid ((h.below f0.bel).more f0.bel.size)
  have D2 := Lib.hid ((h'.below f0.bel).more f0.bel.size)
  have c1 := fun W (h : IsN W W.heap.size A n x) => nat_Valid (c := c) W h.d (by omega)
  rw [h.vd, decide_eq_true hn] at c1
  have c2 := fun W (h : IsN W W.heap.size A' n' y) => nat_Valid (c := c') W h.d (by omega)
  rw [h'.vd, decide_eq_true hn'] at c2
  have c3 := fun W (h : IsN W W.heap.size A n x) (h' : IsN W W.heap.size A' n' y) => nat_Cmp_ok (c := c) (c' := c') W h h' hn hn'
  obtain ⟨o, eo⟩ : ∃ o, o = Nt.cmpI (x : Nat) (y : Nat) := ⟨_, rfl⟩
  have o0 : 0 ≤ o := by
    rw [eo, Nt.cmpI, if_neg (by omega)]; split <;> omega
  rw [← eo] at c3
  have C1 := Lib.hid c1
  have C2 := Lib.hid c2
  have C3 := Lib.hid c3
  clear f0 h h' c1 c2 c3 eo
  go_enter Tryz.func34, Tryz.ntmps34
  go_wp2_with fail
  refine (C1.out _ D1.out).mono ?_
  rintro e w1 ⟨rfl, hb1⟩
  have F1 := Lib.hid (F0.out.next hb1)
  have E1 := Lib.hid ((D1.out.below hb1).more hb1.size)
  have E2 := Lib.hid ((D2.out.below hb1).more hb1.size)
  have x2 := F1.out.n2.cell
  clear hb1
  go_wp2_with fail
  refine (C2.out _ E2.out).mono ?_
  rintro e w2 ⟨rfl, hb2⟩
  have F2 := Lib.hid (F1.out.next hb2)
  have G1 := Lib.hid ((E1.out.below hb2).more hb2.size)
  have G2 := Lib.hid ((E2.out.below hb2).more hb2.size)
  clear x2 hb2
  have x1 := F2.out.n1.cell
  have x2 := F2.out.n2.cell
  go_wp2_with fail
  refine (C3.out _ G1.out G2.out).mono ?_
  rintro e w3 ⟨rfl, hb3⟩
  have F3 := Lib.hid (F2.out.next hb3)
  have H1 := Lib.hid ((G1.out.below hb3).more hb3.size)
  have H2 := Lib.hid ((G2.out.below hb3).more hb3.size)
  clear x1 x2 hb3
  have x1 := F3.out.n1.cell
  go_wp2_with fail
  refine (clone_u32 _ H1.out.d hn hnc).mono ?_
  rintro e w4 ⟨A4, c4, rfl, hb4, h4c, h4m, h4⟩
  have F4 := Lib.hid (F3.out.next hb4)
  have K2 := Lib.hid ((H2.out.below hb4))
  have S3 := hb4.size
  clear x1 hb4
  have x2 := F4.out.n2.cell
  rcases n with _ | n
  · have hx : x = 0 := (Nt.ln_zero_iff (by omega)).1 D1.out.l
    have HX := Lib.hid hx
    clear h4 hx
    have ct := nat_trim (B := 0) (A := A4) (f := fun _ => 0) (n := 0) (c := c4) w4 Digs.zero (by omega) h4m
    have CT := Lib.hid ct
    clear ct
    go_wp2_with fail
    refine (nat_subtractProduct_nil 1 _).mono ?_
    rintro e w' ⟨rfl, rfl⟩
    go_wp2_with fail
    refine CT.out.mono ?_
    rintro e w' ⟨rfl, rfl⟩
    have t3 := F4.out.n3.cell
    have z3 := F4.out.n3.free
    go_wp2_with fail
    refine bodyPost_ret (v := .tuple #[.agg #[.slice A4 0 0], .int .i64 0]) (by simp [results, Tryz.results34, go_sem, t3, Nt.tl]) rfl ?_
    have e0 : x - y = 0 := by have := HX.out; omega
    rw [e0]
    exact ⟨A4, 0, 0, rfl, F4.out.bel.setCell (by simp; omega) _, IsN.zero, by omega, by omega⟩
  · obtain ⟨g, rfl, hg, hR⟩ := h4 (by omega)
    have R4 := Lib.hid hR
    have bz := Lib.hid (fun i (hi : n' ≤ i) => D2.out.out hi)
    clear h4 hR
    go_wp2_with fail
    refine (nat_subtractProduct (B := w3.heap.size) (g := g) (off := 0) (n := n + 1) (m := n + 1) (nb := n') (F := Nt.dg 4294967296 x) (b := Nt.dg 4294967296 y) (fc := 1) 1 _ R4.out (fun i => Nt.dg_lt (by omega) x i) (by omega) (by omega) K2.out.d (fun i => Nt.dg_lt (by omega) y i) bz.out (by omega) hg rfl (by omega)).mono ?_
    rintro e w5 ⟨car, G, rfl, hcar, hA⟩
    have hval : Nt.vl 4294967296 G (n + 1) = x - y := by
      have h1 := hA.val
      have e0 : (fun i => G (0 + i)) = G := by funext i; rw [Nat.zero_add]
      have e2 : (fun i => Nt.dg 4294967296 x (0 + i)) = Nt.dg 4294967296 x := by funext i; rw [Nat.zero_add]
      have hx : x < 4294967296 ^ (n + 1) := (Nt.ln_le_iff (by omega)).1 (by rw [D1.out.l]; exact Nat.le_refl _)
      rw [e0, e2, Nt.vl_dg_all hx, Nt.vl_dg_all (show y < 4294967296 ^ (n + 1) by omega), Nat.one_mul] at h1
      have hG : Nt.vl 4294967296 G (n + 1) < 4294967296 ^ (n + 1) := Nt.vl_lt fun i _ => hA.lt i
      rcases Nat.eq_zero_or_pos car with e | e
      · subst e; omega
      · have : 1 * 4294967296 ^ (n + 1) ≤ car * 4294967296 ^ (n + 1) := Nat.mul_le_mul_right _ e
        omega
    have F5 := Lib.hid (F4.out.below (below_of_grown hA.gr (B := w3.heap.size) hg S3) (by have := F3.out.sz; omega))
    have hd5 := hA.row.digs (B := w5.heap.size) (off := 0) (n := n + 1) hA.row.lt (by omega)
    have e6 : (fun i => G (0 + i)) = G := by funext i; rw [Nat.zero_add]
    rw [e6] at hd5
    have hr5 := hd5.isN_tl (fun i _ => hA.lt i)
    rw [hval] at hr5
    have ct := nat_trim (c := c4) w5 hd5 h4c h4m
    obtain ⟨t, et⟩ : ∃ t, t = Nt.tl G (n + 1) := ⟨_, rfl⟩
    have ht : t ≤ n + 1 := by rw [et]; exact Nt.tl_le _ _
    rw [← et] at ct hr5
    have CT := Lib.hid ct
    have R5 := Lib.hid hr5
    clear hval hA hd5 e6 hr5 ct et
    have t3 := F5.out.n3.cell
    have z3 := F5.out.n3.free
    have HN := Lib.hid (R5.out.setBox t3 (.slice (some ⟨g, 0, none⟩) t t))
    go_wp2_with fail
    refine CT.out.mono ?_
    rintro e w' ⟨rfl, rfl⟩
    go_wp2_with fail
    refine bodyPost_ret (v := .tuple #[.agg #[.slice (some ⟨g, 0, none⟩) t t], .int .i64 0]) (by simp [results, Tryz.results34, go_sem, t3]) rfl ?_
    exact ⟨_, t, t, rfl, F5.out.bel.setCell (by simp; omega) _, HN.out.more (by rw [size_setCell]; exact Nat.le_refl _), by omega, Nat.le_refl _⟩
end Go.Proofs.YtcgbgaljjhopiaaGreatDoor
