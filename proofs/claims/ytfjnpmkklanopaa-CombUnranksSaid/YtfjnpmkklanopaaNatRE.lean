/- The reference of layer 3: Add, Mul, Sub. -/
import Derived.Test.YtfjnpmkklanopaaNatRD
namespace Go.Proofs.Ytfjnpmkklanopaa
set_option maxRecDepth 20000
open Go.RowKit
set_option linter.unusedVariables false
set_option linter.unusedSimpArgs false

theorem ref3_Whole_H {n c x : Nat} {A : Option Addr} (w : World) (h : IsH w w.heap.size A n x) (hn : n ≤ c ∧ c ≤ 9223372036854775807) :
    Calls Try.prog 42 #[.slice A n c] w (WRes (Nt.bv x) (Nt.fits x) w) := by
  have hv := h.val
  cases hf : Nt.fits x
  · have := ref3_Whole_no w h.d hn.1 hn.2 (fun i _ => Nt.dg_lt (by omega) x i) (by rw [hv]; exact hf)
    rw [show Nt.bv x = 0 by rw [Nt.bv, hf]; rfl]
    exact this
  · have := ref3_Whole_yes w h.d hn.1 hn.2 (fun i _ => Nt.dg_lt (by omega) x i) (by rw [hv]; exact hf)
    rw [hv] at this
    rw [show Nt.bv x = x by rw [Nt.bv, hf]; rfl]
    exact this
theorem Fr3.alloc {N : Nat} {w W : World} {v1 v2 v3 : Value} (h : Fr3 N w W v1 v2 v3) (o : Obj) : Fr3 N w (W.alloc o) v1 v2 v3 := h.next ((Below.refl _ _).alloc (Nat.le_refl _) _)
theorem Fr3.drewN {N : Nat} {w W : World} {v1 v2 v3 : Value} (h : Fr3 N w W v1 v2 v3) (k : Nat) : Fr3 N w (W.drewN k) v1 v2 v3 := h.next (below_dr _ _ _)
theorem Fr3.far {N : Nat} {w W : World} {v1 v2 v3 : Value} (h : Fr3 N w W v1 v2 v3) {p : Addr} (hp : N + 1 + 1 < p.block) (u : Value) : Fr3 N w (W.setCell p u) v1 v2 v3 :=
  ⟨h.n1.far (by omega) _, h.n2.far (by omega) _, h.n3.far (by omega) _, h.bel.setCell (by omega) _⟩
theorem IsN.alloc {w : World} {A : Option Addr} {n x : Nat} (h : IsN w w.heap.size A n x) (o : Obj) : IsN (w.alloc o) (w.alloc o).heap.size A n x := (h.below ((Below.refl _ _).alloc (Nat.le_refl _) _)).more (by simp)
theorem IsH.alloc {w : World} {A : Option Addr} {n x : Nat} (h : IsH w w.heap.size A n x) (o : Obj) : IsH (w.alloc o) (w.alloc o).heap.size A n x := (h.below ((Below.refl _ _).alloc (Nat.le_refl _) _)).more (by simp)
theorem IsN.next {w w' : World} {A : Option Addr} {n x : Nat} (h : IsN w w.heap.size A n x) (hb : Below w.heap.size w w') : IsN w' w'.heap.size A n x := (h.below hb).more hb.size
theorem IsH.next {w w' : World} {A : Option Addr} {n x : Nat} (h : IsH w w.heap.size A n x) (hb : Below w.heap.size w w') : IsH w' w'.heap.size A n x := (h.below hb).more hb.size
section
variable {N : Nat} {w W : World} {v1 v2 v3 : Value}
theorem kS (h : Hid (Fr3 N w W v1 v2 v3)) : W.cell? ⟨N, 0, none⟩ = some v1 ∧ W.cell? ⟨N + 1, 0, none⟩ = some v2 := ⟨h.out.n1.cell, h.out.n2.cell⟩
theorem kS_alloc (h : Hid (Fr3 N w W v1 v2 v3)) (o : Obj) : (W.alloc o).cell? ⟨N, 0, none⟩ = some v1 ∧ (W.alloc o).cell? ⟨N + 1, 0, none⟩ = some v2 := ⟨(h.out.alloc o).n1.cell, (h.out.alloc o).n2.cell⟩
theorem kS_set (h : Hid (Fr3 N w W v1 v2 v3)) {p : Addr} (hp : N + 1 + 1 < p.block) (u : Value) : (W.setCell p u).cell? ⟨N, 0, none⟩ = some v1 ∧ (W.setCell p u).cell? ⟨N + 1, 0, none⟩ = some v2 := ⟨(h.out.far hp u).n1.cell, (h.out.far hp u).n2.cell⟩
theorem kS_alloc_set (h : Hid (Fr3 N w W v1 v2 v3)) (o : Obj) {p : Addr} (hp : N + 1 + 1 < p.block) (u : Value) : ((W.alloc o).setCell p u).cell? ⟨N, 0, none⟩ = some v1 ∧ ((W.alloc o).setCell p u).cell? ⟨N + 1, 0, none⟩ = some v2 := kS_set (h.out.alloc o) hp u
end
/-- What stands when Whole's answer has been stored in its variable. -/
def Fin (N : Nat) (w : World) (v1 v2 : Value) (A : Option Addr) (n x : Nat) (W : World) : Prop := Fr3 N w W v1 v2 (.slice none 0 0) ∧ IsN W W.heap.size A n x
theorem fin_set {N cb : Nat} {w W : World} {v1 v2 : Value} {A : Option Addr} {n x c : Nat} (h : Fr3 N w W v1 v2 (.slice none 0 0)) (hb : NBox W cb (.slice none 0 0)) (hc : N + 1 + 1 < cb) (hn : IsN W W.heap.size A n x) :
    Fin N w v1 v2 A n x (W.setCell ⟨cb, 0, none⟩ (.slice A n c)) := ⟨h.far hc _, (hn.setBox hb.cell _).more (by rw [size_setCell]; exact Nat.le_refl _)⟩
theorem fin_alloc {N : Nat} {w W : World} {v1 v2 : Value} {A : Option Addr} {n x : Nat} (h : Fr3 N w W v1 v2 (.slice none 0 0)) (hn : IsN W W.heap.size A n x) (o : Obj) : Fin N w v1 v2 A n x (W.alloc o) := ⟨h.alloc o, hn.alloc o⟩
theorem ref3_Add_bad {n c n' c' : Nat} {A A' : Option Addr} {f f' : Nat → Nat} (w : World) (h : Digs w w.heap.size .u32 A n f) (h' : Digs w w.heap.size .u32 A' n' f') (hn : n ≤ 9223372036854775807) (hn' : n' ≤ 9223372036854775807)
    (hv : (Nt.vd f n && Nt.vd f' n') = false) :
    Calls Try.prog 25 #[.agg #[.slice A n c], .agg #[.slice A' n' c']] w (NRes 0 2 w) := by
  have f0 := Fr3.start w (.slice A n c) (.slice A' n' c') (.slice none 0 0)
  have d1 := (h.below f0.bel).more f0.bel.size
  have d2 := (h'.below f0.bel).more f0.bel.size
  have F0 := Lib.hid f0
  have D1 := Lib.hid d1
  have D2 := Lib.hid d2
  clear f0 d1 d2 h h'
  cases hv1 : Nt.vd f n
  · have c1 := fun W (h : Digs W W.heap.size .u32 A n f) => ref3_Valid (c := c) W h hn
    rw [hv1] at c1
    have C1 := Lib.hid c1
    clear c1 hv hv1
    go_enter Try.func25, Try.ntmps25
    go_wp2_with fail
    refine (C1.out _ D1.out).mono ?_
    rintro e w1 ⟨rfl, hb1⟩
    have F1 := Lib.hid (F0.out.next hb1)
    have x3 := F1.out.n3.cell
    have z3 := F1.out.n3.free
    go_wp2_with fail
    refine bodyPost_ret (v := .tuple #[.agg #[.slice none 0 0], .int .i64 2]) (by simp [results, Try.results25, go_sem, x3]) rfl ?_
    exact ⟨none, 0, 0, rfl, F1.out.bel.setCell (by simp; omega) _, IsN.zero, by omega, by omega⟩
  · have hv2 : Nt.vd f' n' = false := by rw [hv1] at hv; simpa using hv
    have c1 := fun W (h : Digs W W.heap.size .u32 A n f) => ref3_Valid (c := c) W h hn
    rw [hv1] at c1
    have C1 := Lib.hid c1
    have c2 := fun W (h : Digs W W.heap.size .u32 A' n' f') => ref3_Valid (c := c') W h hn'
    rw [hv2] at c2
    have C2 := Lib.hid c2
    clear c1 c2 hv hv1 hv2
    go_enter Try.func25, Try.ntmps25
    go_wp2_with fail
    refine (C1.out _ D1.out).mono ?_
    rintro e w1 ⟨rfl, hb1⟩
    have F1 := Lib.hid (F0.out.next hb1)
    have E2 := Lib.hid ((D2.out.below hb1).more hb1.size)
    have x2 := F1.out.n2.cell
    clear hb1
    go_wp2_with fail
    refine (C2.out _ E2.out).mono ?_
    rintro e w2 ⟨rfl, hb2⟩
    have F2 := Lib.hid (F1.out.next hb2)
    have x3 := F2.out.n3.cell
    have z3 := F2.out.n3.free
    go_wp2_with fail
    refine bodyPost_ret (v := .tuple #[.agg #[.slice none 0 0], .int .i64 2]) (by simp [results, Try.results25, go_sem, x3]) rfl ?_
    exact ⟨none, 0, 0, rfl, F2.out.bel.setCell (by simp; omega) _, IsN.zero, by omega, by omega⟩


set_option maxHeartbeats 1000000 in
theorem ref3_Add_fit {n c n' c' x y : Nat} {A A' : Option Addr} (w : World) (h : IsN w w.heap.size A n x) (h' : IsN w w.heap.size A' n' y) (hn : n ≤ 64) (hn' : n' ≤ 64) (hf : Nt.fits (x + y) = true) :
    Calls Try.prog 25 #[.agg #[.slice A n c], .agg #[.slice A' n' c']] w (NRes (x + y) 0 w) := by
  have f0 := Fr3.start w (.slice A n c) (.slice A' n' c') (.slice none 0 0)
  have d1 := (h.below f0.bel).more f0.bel.size
  have d2 := (h'.below f0.bel).more f0.bel.size
  have F0 := Lib.hid f0
  have D1 := Lib.hid d1
  have D2 := Lib.hid d2
  have c1 := fun W (h : IsN W W.heap.size A n x) => ref3_Valid (c := c) W h.d (by omega)
  rw [h.vd, decide_eq_true hn] at c1
  have c2 := fun W (h : IsN W W.heap.size A' n' y) => ref3_Valid (c := c') W h.d (by omega)
  rw [h'.vd, decide_eq_true hn'] at c2
  have C1 := Lib.hid c1
  have C2 := Lib.hid c2
  have hl1 : Nt.ln 65536 x ≤ 128 := Nat.le_trans (Nt.ln_two h.l) (by omega)
  have hl2 : Nt.ln 65536 y ≤ 128 := Nat.le_trans (Nt.ln_two h'.l) (by omega)
  have hw := fun W {A : Option Addr} {n c : Nat} (h : IsH W W.heap.size A n (x + y)) (hc : n ≤ c ∧ c ≤ 9223372036854775807) => ref3_Whole_H W h hc
  rw [hf, show Nt.bv (x + y) = (x + y) by rw [Nt.bv, hf]; rfl] at hw
  have HW := Lib.hid hw
  clear f0 d1 d2 h h' c1 c2 hw hf
  go_enter Try.func25, Try.ntmps25
  go_wp2_with fail
  refine (C1.out _ D1.out).mono ?_
  rintro e w1 ⟨rfl, hb1⟩
  have F1 := Lib.hid (F0.out.next hb1)
  have E1 := Lib.hid ((D1.out.below hb1).more hb1.size)
  have E2 := Lib.hid ((D2.out.below hb1).more hb1.size)
  have x2 := F1.out.n2.cell
  clear hb1
  go_wp2_with fail
  refine (C2.out _ E2.out).mono ?_
  rintro e w2 ⟨rfl, hb2⟩
  have F2 : Hid (Fr3 w.heap.size w w2.drew (.slice A n c) (.slice A' n' c') (.slice none 0 0)) := (F1.out.next hb2).drewN 1
  have G1 : Hid (IsN w2.drew w2.drew.heap.size A n x) := ((E1.out.below hb2).more hb2.size).drewN 1
  have G2 : Hid (IsN w2.drew w2.drew.heap.size A' n' y) := ((E2.out.below hb2).more hb2.size).drewN 1
  have F2a : Hid (∀ o, Fr3 w.heap.size w (w2.alloc o).drew (.slice A n c) (.slice A' n' c') (.slice none 0 0)) := fun o => ((F1.out.next hb2).alloc o).drewN 1
  have G1a : Hid (∀ o, IsN (w2.alloc o).drew (w2.alloc o).drew.heap.size A n x) := fun o => (((E1.out.below hb2).more hb2.size).alloc o).drewN 1
  have G2a : Hid (∀ o, IsN (w2.alloc o).drew (w2.alloc o).drew.heap.size A' n' y) := fun o => (((E2.out.below hb2).more hb2.size).alloc o).drewN 1
  have NBX : Hid (NBox (w2.alloc (.cells #[.slice none 0 0] 24)).drew w2.heap.size (.slice none 0 0)) := NBox.new w2 (.slice none 0 0)
  clear x2 hb2
  have x1 := F2.out.n1.cell
  have x2 := F2.out.n2.cell
  go_wp2_with fail
  go_region_held3 (fun W => W.cell? ⟨w.heap.size, 0, none⟩ = some (.slice A n c) ∧ W.cell? ⟨w.heap.size + 1, 0, none⟩ = some (.slice A' n' c'))
    (first | (with_reducible exact kS (by assumption)) | (exact ⟨(F2a.out _).n1.cell, (F2a.out _).n2.cell⟩) | (with_reducible exact kS_alloc (by assumption) _) | (exact kS_set (by assumption) (by first | exact F2.out.sz | exact F3.out.sz | exact F4.out.sz | exact F5.out.sz | exact F6.out.sz) _) | (exact kS_alloc_set (by assumption) _ (by exact F6.out.sz) _))
    (first
      | (go_at_call 44; (with_reducible refine (ref3_Halves (A := A) (n := n) (c := c) (x := x) _ (by first | exact G1.out | exact G1a.out _) (by omega)).mono ?_); rintro e w3 ⟨A3, n3, c3, rfl, hb3, hH3, hc3, hf3⟩; have F3 : Hid (Fr3 w.heap.size w w3 (.slice A n c) (.slice A' n' c') (.slice none 0 0)) := (by first | exact F2.out.next hb3 | exact (F2a.out _).next hb3); have K2 : Hid (IsN w3 w3.heap.size A' n' y) := (by first | exact G2.out.next hb3 | exact (G2a.out _).next hb3); (first | (have bx := NBX.out.below hb3 (by simp); have bc := bx.cell; have bf := bx.free; have BX := Lib.hid bx; clear bx) | skip); have HH3 := Lib.hid hH3; have HC3 := Lib.hid hc3; have HB3 := Lib.hid hb3; clear hH3 hf3 hc3 hb3)
      | (go_at_call 44; (with_reducible refine (ref3_Halves (A := A') (n := n') (c := c') (x := y) _ (by first | exact K2.out | exact K2.out.alloc _) (by omega)).mono ?_); rintro e w4 ⟨A4, n4, c4, rfl, hb4, hH4, hc4, hf4⟩; have F4 : Hid (Fr3 w.heap.size w w4 (.slice A n c) (.slice A' n' c') (.slice none 0 0)) := (by first | exact F3.out.next hb4 | exact (F3.out.alloc _).next hb4); have K3 : Hid (IsH w4 w4.heap.size A3 n3 x) := (by first | exact HH3.out.next hb4 | exact (HH3.out.alloc _).next hb4); (first | (have bx := (NBox.new w3 (.slice none 0 0)).below hb4 (by simp); have bc := bx.cell; have bf := bx.free; have BX := Lib.hid bx; clear bx) | (have bx := BX.out.below hb4 BX.out.lt; have bc := bx.cell; have bf := bx.free; have BX := Lib.hid bx; clear bx) | skip); have HH4 := Lib.hid hH4; have HC4 := Lib.hid hc4; have HB4 := Lib.hid hb4; clear hH4 hf4 hc4 hb4)
      | (go_at_call 43; refine (ref3_add _ (by first | exact K3.out | exact K3.out.alloc _) (by first | exact HH4.out | exact HH4.out.alloc _) (by rw [← K3.out.l]; omega) (by rw [← HH4.out.l]; omega)).mono ?_; rintro e w5 ⟨A5, n5, c5, rfl, hb5, hH5, hc5, hf5⟩; have F5 : Hid (Fr3 w.heap.size w w5 (.slice A n c) (.slice A' n' c') (.slice none 0 0)) := (by first | exact F4.out.next hb5 | exact (F4.out.alloc _).next hb5); (first | (have bx := (NBox.new w4 (.slice none 0 0)).below hb5 (by simp); have bc := bx.cell; have bf := bx.free; have BX := Lib.hid bx; clear bx) | (have bx := BX.out.below hb5 BX.out.lt; have bc := bx.cell; have bf := bx.free; have BX := Lib.hid bx; clear bx) | skip); have HH5 := Lib.hid hH5; have HC5 := Lib.hid hc5; clear hH5 hf5 hc5 hb5)
      | (go_at_call 42; refine (HW.out _ (by first | exact HH5.out | exact HH5.out.alloc _) HC5.out).mono ?_; rintro e w6 ⟨A6, n6, c6, rfl, hb6, hN6, h64, hc6⟩; have F6 : Hid (Fr3 w.heap.size w w6 (.slice A n c) (.slice A' n' c') (.slice none 0 0)) := (by first | exact F5.out.next hb6 | exact (F5.out.alloc _).next hb6); (first | (have bx := (NBox.new w5 (.slice none 0 0)).below hb6 (by simp); have bc := bx.cell; have bf := bx.free; have BX := Lib.hid bx; clear bx) | (have bx := BX.out.below hb6 BX.out.lt; have bc := bx.cell; have bf := bx.free; have BX := Lib.hid bx; clear bx) | skip); have HN6 := Lib.hid hN6; clear hN6 hb6))
  all_goals (
    first
      | (have hfin := fin_set (c := c6) F6.out BX.out (by first | exact F2.out.sz | exact F3.out.sz | exact F4.out.sz | exact F5.out.sz) HN6.out)
      | (have hfin := fin_alloc F6.out HN6.out (.cells #[.slice A6 n6 c6] 24))
    have x3 := hfin.1.n3.cell
    have z3 := hfin.1.n3.free
    have HFIN := Lib.hid hfin
    clear hfin x1 x2
    go_wp2_with fail
    refine bodyPost_ret (v := .tuple #[.agg #[.slice A6 n6 c6], .int .i64 0]) (by simp [results, Try.results25, go_sem, x3]) rfl ?_
    exact ⟨A6, n6, c6, rfl, HFIN.out.1.bel.setCell (by simp; omega) _, (HFIN.out.2.setBox x3 _).more (Nat.le_of_eq (by simp only [size_setCell])), h64, hc6⟩)
set_option maxHeartbeats 1000000 in
theorem ref3_Add_over {n c n' c' x y : Nat} {A A' : Option Addr} (w : World) (h : IsN w w.heap.size A n x) (h' : IsN w w.heap.size A' n' y) (hn : n ≤ 64) (hn' : n' ≤ 64) (hf : Nt.fits (x + y) = false) :
    Calls Try.prog 25 #[.agg #[.slice A n c], .agg #[.slice A' n' c']] w (NRes 0 9 w) := by
  have f0 := Fr3.start w (.slice A n c) (.slice A' n' c') (.slice none 0 0)
  have d1 := (h.below f0.bel).more f0.bel.size
  have d2 := (h'.below f0.bel).more f0.bel.size
  have F0 := Lib.hid f0
  have D1 := Lib.hid d1
  have D2 := Lib.hid d2
  have c1 := fun W (h : IsN W W.heap.size A n x) => ref3_Valid (c := c) W h.d (by omega)
  rw [h.vd, decide_eq_true hn] at c1
  have c2 := fun W (h : IsN W W.heap.size A' n' y) => ref3_Valid (c := c') W h.d (by omega)
  rw [h'.vd, decide_eq_true hn'] at c2
  have C1 := Lib.hid c1
  have C2 := Lib.hid c2
  have hl1 : Nt.ln 65536 x ≤ 128 := Nat.le_trans (Nt.ln_two h.l) (by omega)
  have hl2 : Nt.ln 65536 y ≤ 128 := Nat.le_trans (Nt.ln_two h'.l) (by omega)
  have hw := fun W {A : Option Addr} {n c : Nat} (h : IsH W W.heap.size A n (x + y)) (hc : n ≤ c ∧ c ≤ 9223372036854775807) => ref3_Whole_H W h hc
  rw [hf, show Nt.bv (x + y) = 0 by rw [Nt.bv, hf]; rfl] at hw
  have HW := Lib.hid hw
  clear f0 d1 d2 h h' c1 c2 hw hf
  go_enter Try.func25, Try.ntmps25
  go_wp2_with fail
  refine (C1.out _ D1.out).mono ?_
  rintro e w1 ⟨rfl, hb1⟩
  have F1 := Lib.hid (F0.out.next hb1)
  have E1 := Lib.hid ((D1.out.below hb1).more hb1.size)
  have E2 := Lib.hid ((D2.out.below hb1).more hb1.size)
  have x2 := F1.out.n2.cell
  clear hb1
  go_wp2_with fail
  refine (C2.out _ E2.out).mono ?_
  rintro e w2 ⟨rfl, hb2⟩
  have F2 : Hid (Fr3 w.heap.size w w2.drew (.slice A n c) (.slice A' n' c') (.slice none 0 0)) := (F1.out.next hb2).drewN 1
  have G1 : Hid (IsN w2.drew w2.drew.heap.size A n x) := ((E1.out.below hb2).more hb2.size).drewN 1
  have G2 : Hid (IsN w2.drew w2.drew.heap.size A' n' y) := ((E2.out.below hb2).more hb2.size).drewN 1
  have F2a : Hid (∀ o, Fr3 w.heap.size w (w2.alloc o).drew (.slice A n c) (.slice A' n' c') (.slice none 0 0)) := fun o => ((F1.out.next hb2).alloc o).drewN 1
  have G1a : Hid (∀ o, IsN (w2.alloc o).drew (w2.alloc o).drew.heap.size A n x) := fun o => (((E1.out.below hb2).more hb2.size).alloc o).drewN 1
  have G2a : Hid (∀ o, IsN (w2.alloc o).drew (w2.alloc o).drew.heap.size A' n' y) := fun o => (((E2.out.below hb2).more hb2.size).alloc o).drewN 1
  have NBX : Hid (NBox (w2.alloc (.cells #[.slice none 0 0] 24)).drew w2.heap.size (.slice none 0 0)) := NBox.new w2 (.slice none 0 0)
  clear x2 hb2
  have x1 := F2.out.n1.cell
  have x2 := F2.out.n2.cell
  go_wp2_with fail
  go_region_held3 (fun W => W.cell? ⟨w.heap.size, 0, none⟩ = some (.slice A n c) ∧ W.cell? ⟨w.heap.size + 1, 0, none⟩ = some (.slice A' n' c'))
    (first | (with_reducible exact kS (by assumption)) | (exact ⟨(F2a.out _).n1.cell, (F2a.out _).n2.cell⟩) | (with_reducible exact kS_alloc (by assumption) _) | (exact kS_set (by assumption) (by first | exact F2.out.sz | exact F3.out.sz | exact F4.out.sz | exact F5.out.sz | exact F6.out.sz) _) | (exact kS_alloc_set (by assumption) _ (by exact F6.out.sz) _))
    (first
      | (go_at_call 44; (with_reducible refine (ref3_Halves (A := A) (n := n) (c := c) (x := x) _ (by first | exact G1.out | exact G1a.out _) (by omega)).mono ?_); rintro e w3 ⟨A3, n3, c3, rfl, hb3, hH3, hc3, hf3⟩; have F3 : Hid (Fr3 w.heap.size w w3 (.slice A n c) (.slice A' n' c') (.slice none 0 0)) := (by first | exact F2.out.next hb3 | exact (F2a.out _).next hb3); have K2 : Hid (IsN w3 w3.heap.size A' n' y) := (by first | exact G2.out.next hb3 | exact (G2a.out _).next hb3); (first | (have bx := NBX.out.below hb3 (by simp); have bc := bx.cell; have bf := bx.free; have BX := Lib.hid bx; clear bx) | skip); have HH3 := Lib.hid hH3; have HC3 := Lib.hid hc3; have HB3 := Lib.hid hb3; clear hH3 hf3 hc3 hb3)
      | (go_at_call 44; (with_reducible refine (ref3_Halves (A := A') (n := n') (c := c') (x := y) _ (by first | exact K2.out | exact K2.out.alloc _) (by omega)).mono ?_); rintro e w4 ⟨A4, n4, c4, rfl, hb4, hH4, hc4, hf4⟩; have F4 : Hid (Fr3 w.heap.size w w4 (.slice A n c) (.slice A' n' c') (.slice none 0 0)) := (by first | exact F3.out.next hb4 | exact (F3.out.alloc _).next hb4); have K3 : Hid (IsH w4 w4.heap.size A3 n3 x) := (by first | exact HH3.out.next hb4 | exact (HH3.out.alloc _).next hb4); (first | (have bx := (NBox.new w3 (.slice none 0 0)).below hb4 (by simp); have bc := bx.cell; have bf := bx.free; have BX := Lib.hid bx; clear bx) | (have bx := BX.out.below hb4 BX.out.lt; have bc := bx.cell; have bf := bx.free; have BX := Lib.hid bx; clear bx) | skip); have HH4 := Lib.hid hH4; have HC4 := Lib.hid hc4; have HB4 := Lib.hid hb4; clear hH4 hf4 hc4 hb4)
      | (go_at_call 43; refine (ref3_add _ (by first | exact K3.out | exact K3.out.alloc _) (by first | exact HH4.out | exact HH4.out.alloc _) (by rw [← K3.out.l]; omega) (by rw [← HH4.out.l]; omega)).mono ?_; rintro e w5 ⟨A5, n5, c5, rfl, hb5, hH5, hc5, hf5⟩; have F5 : Hid (Fr3 w.heap.size w w5 (.slice A n c) (.slice A' n' c') (.slice none 0 0)) := (by first | exact F4.out.next hb5 | exact (F4.out.alloc _).next hb5); (first | (have bx := (NBox.new w4 (.slice none 0 0)).below hb5 (by simp); have bc := bx.cell; have bf := bx.free; have BX := Lib.hid bx; clear bx) | (have bx := BX.out.below hb5 BX.out.lt; have bc := bx.cell; have bf := bx.free; have BX := Lib.hid bx; clear bx) | skip); have HH5 := Lib.hid hH5; have HC5 := Lib.hid hc5; clear hH5 hf5 hc5 hb5)
      | (go_at_call 42; refine (HW.out _ (by first | exact HH5.out | exact HH5.out.alloc _) HC5.out).mono ?_; rintro e w6 ⟨A6, n6, c6, rfl, hb6, hN6, h64, hc6⟩; have F6 : Hid (Fr3 w.heap.size w w6 (.slice A n c) (.slice A' n' c') (.slice none 0 0)) := (by first | exact F5.out.next hb6 | exact (F5.out.alloc _).next hb6); (first | (have bx := (NBox.new w5 (.slice none 0 0)).below hb6 (by simp); have bc := bx.cell; have bf := bx.free; have BX := Lib.hid bx; clear bx) | (have bx := BX.out.below hb6 BX.out.lt; have bc := bx.cell; have bf := bx.free; have BX := Lib.hid bx; clear bx) | skip); have HN6 := Lib.hid hN6; clear hN6 hb6))
  all_goals (
    first
      | (have hfin := fin_set (c := c6) F6.out BX.out (by first | exact F2.out.sz | exact F3.out.sz | exact F4.out.sz | exact F5.out.sz) HN6.out)
      | (have hfin := fin_alloc F6.out HN6.out (.cells #[.slice A6 n6 c6] 24))
    have x3 := hfin.1.n3.cell
    have z3 := hfin.1.n3.free
    have HFIN := Lib.hid hfin
    clear hfin x1 x2
    go_wp2_with fail
    refine bodyPost_ret (v := .tuple #[.agg #[.slice none 0 0], .int .i64 9]) (by simp [results, Try.results25, go_sem, x3]) rfl ?_
    exact ⟨none, 0, 0, rfl, HFIN.out.1.bel.setCell (by simp; omega) _, IsN.zero, by omega, by omega⟩)
theorem ref3_Add_ok {n c n' c' x y : Nat} {A A' : Option Addr} (w : World) (h : IsN w w.heap.size A n x) (h' : IsN w w.heap.size A' n' y) (hn : n ≤ 64) (hn' : n' ≤ 64) :
    Calls Try.prog 25 #[.agg #[.slice A n c], .agg #[.slice A' n' c']] w (NRes (Nt.bv (x + y)) (Nt.be (x + y)) w) := by
  cases hf : Nt.fits (x + y)
  · rw [show Nt.bv (x + y) = 0 by rw [Nt.bv, hf]; rfl, show Nt.be (x + y) = 9 by rw [Nt.be, hf]; rfl]
    exact ref3_Add_over w h h' hn hn' hf
  · rw [show Nt.bv (x + y) = x + y by rw [Nt.bv, hf]; rfl, show Nt.be (x + y) = 0 by rw [Nt.be, hf]; rfl]
    exact ref3_Add_fit w h h' hn hn' hf
end Go.Proofs.Ytfjnpmkklanopaa
