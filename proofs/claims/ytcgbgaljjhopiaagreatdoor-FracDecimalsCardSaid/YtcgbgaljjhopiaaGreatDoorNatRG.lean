/- The reference of layer 3: Cmp, Sub. -/
import Derived.Test.YtcgbgaljjhopiaaGreatDoorNatRE
namespace Go.Proofs.YtcgbgaljjhopiaaGreatDoor
set_option maxRecDepth 20000
open Go.RowKit
set_option linter.unusedVariables false
set_option linter.unusedSimpArgs false

theorem ref3_Cmp_bad {n c n' c' : Nat} {A A' : Option Addr} {f f' : Nat → Nat} (w : World) (h : Digs w w.heap.size .u32 A n f) (h' : Digs w w.heap.size .u32 A' n' f') (hn : n ≤ 9223372036854775807) (hn' : n' ≤ 9223372036854775807)
    (hv : (Nt.vd f n && Nt.vd f' n') = false) :
    Calls Tryz.prog 57 #[.agg #[.slice A n c], .agg #[.slice A' n' c']] w fun e w' => e = .returned (.int .i64 0) ∧ Below w.heap.size w w' := by
  have f0 := Fr2.start w (.slice A n c) (.slice A' n' c')
  have F0 := Lib.hid f0
  have D1 := Lib.hid ((h.below f0.bel).more f0.bel.size)
  have D2 := Lib.hid ((h'.below f0.bel).more f0.bel.size)
  clear f0 h h'
  cases hv1 : Nt.vd f n
  · have c1 := fun W (h : Digs W W.heap.size .u32 A n f) => ref3_Valid (c := c) W h hn
    rw [hv1] at c1
    have C1 := Lib.hid c1
    clear c1 hv hv1
    go_enter Tryz.func57, Tryz.ntmps57
    go_wp2_with fail
    refine (C1.out _ D1.out).mono ?_
    rintro e w1 ⟨rfl, hb1⟩
    have F1 := Lib.hid (F0.out.next hb1)
    go_wp2_with fail
    go_ret
    exact ⟨rfl, F1.out.bel⟩
  · have hv2 : Nt.vd f' n' = false := by rw [hv1] at hv; simpa using hv
    have c1 := fun W (h : Digs W W.heap.size .u32 A n f) => ref3_Valid (c := c) W h hn
    rw [hv1] at c1
    have C1 := Lib.hid c1
    have c2 := fun W (h : Digs W W.heap.size .u32 A' n' f') => ref3_Valid (c := c') W h hn'
    rw [hv2] at c2
    have C2 := Lib.hid c2
    clear c1 c2 hv hv1 hv2
    go_enter Tryz.func57, Tryz.ntmps57
    go_wp2_with fail
    refine (C1.out _ D1.out).mono ?_
    rintro e w1 ⟨rfl, hb1⟩
    have F1 := Lib.hid (F0.out.next hb1)
    have E2 := Lib.hid ((D2.out.below hb1).more hb1.size)
    have x2 := F1.out.n2.cell
    clear hb1
    go_wp2_with fail
    refine (C2.out _ E2.out).mono ?_
    rintro e w2 ⟨rfl, hb2⟩
    have F2 := Lib.hid (F1.out.next hb2)
    go_wp2_with fail
    go_ret
    exact ⟨rfl, F2.out.bel⟩

theorem Fr2.alloc {N : Nat} {w W : World} {v1 v2 : Value} (h : Fr2 N w W v1 v2) (o : Obj) : Fr2 N w (W.alloc o) v1 v2 := h.next ((Below.refl _ _).alloc (Nat.le_refl _) _)
theorem kS2 {N : Nat} {w W : World} {v1 v2 : Value} (h : Hid (Fr2 N w W v1 v2)) : W.cell? ⟨N, 0, none⟩ = some v1 ∧ W.cell? ⟨N + 1, 0, none⟩ = some v2 := ⟨h.out.n1.cell, h.out.n2.cell⟩
set_option maxHeartbeats 400000 in
theorem ref3_Cmp_ok {n c n' c' x y : Nat} {A A' : Option Addr} (w : World) (h : IsN w w.heap.size A n x) (h' : IsN w w.heap.size A' n' y) (hn : n ≤ 64) (hn' : n' ≤ 64) :
    Calls Tryz.prog 57 #[.agg #[.slice A n c], .agg #[.slice A' n' c']] w fun e w' => e = .returned (.int .i64 (Nt.cmpI (x : Nat) (y : Nat))) ∧ Below w.heap.size w w' := by
  have f0 := Fr2.start w (.slice A n c) (.slice A' n' c')
  have F0 := Lib.hid f0
  have D1 := Lib.hid ((h.below f0.bel).more f0.bel.size)
  have D2 := Lib.hid ((h'.below f0.bel).more f0.bel.size)
  have c1 := fun W (h : IsN W W.heap.size A n x) => ref3_Valid (c := c) W h.d (by omega)
  rw [h.vd, decide_eq_true hn] at c1
  have c2 := fun W (h : IsN W W.heap.size A' n' y) => ref3_Valid (c := c') W h.d (by omega)
  rw [h'.vd, decide_eq_true hn'] at c2
  have C1 := Lib.hid c1
  have C2 := Lib.hid c2
  have hl1 : Nt.ln 65536 x ≤ 128 := Nat.le_trans (Nt.ln_two h.l) (by omega)
  have hl2 : Nt.ln 65536 y ≤ 128 := Nat.le_trans (Nt.ln_two h'.l) (by omega)
  clear f0 h h' c1 c2
  go_enter Tryz.func57, Tryz.ntmps57
  go_wp2_with fail
  refine (C1.out _ D1.out).mono ?_
  rintro e w1 ⟨rfl, hb1⟩
  have F1 := Lib.hid (F0.out.next hb1)
  have E1 := Lib.hid ((D1.out.below hb1).more hb1.size)
  have E2 := Lib.hid ((D2.out.below hb1).more hb1.size)
  have x2 := F1.out.n2.cell
  clear hb1
  go_wp2_with fail
  refine (C2.out _ E2.out).mono ?_
  rintro e w2 ⟨rfl, hb2⟩
  have F2 : Hid (Fr2 w.heap.size w w2.drew (.slice A n c) (.slice A' n' c')) := (F1.out.next hb2).drewN 1
  have G1 : Hid (IsN w2.drew w2.drew.heap.size A n x) := ((E1.out.below hb2).more hb2.size).drewN 1
  have G2 : Hid (IsN w2.drew w2.drew.heap.size A' n' y) := ((E2.out.below hb2).more hb2.size).drewN 1
  clear x2 hb2
  have x1 := F2.out.n1.cell
  have x2 := F2.out.n2.cell
  go_wp2_with fail
  go_region_held3 (fun W => W.cell? ⟨w.heap.size, 0, none⟩ = some (.slice A n c) ∧ W.cell? ⟨w.heap.size + 1, 0, none⟩ = some (.slice A' n' c'))
    (first | (with_reducible exact kS2 (by assumption)))
    (first
      | (go_at_call 60; (with_reducible refine (ref3_Halves (A := A) (n := n) (c := c) (x := x) _ G1.out (by omega)).mono ?_); rintro e w3 ⟨A3, n3, c3, rfl, hb3, hH3, hc3, hf3⟩; have F3 : Hid (Fr2 w.heap.size w w3 (.slice A n c) (.slice A' n' c')) := F2.out.next hb3; have K2 : Hid (IsN w3 w3.heap.size A' n' y) := G2.out.next hb3; have HH3 := Lib.hid hH3; have HC3 := Lib.hid hc3; clear hH3 hf3 hc3 hb3)
      | (go_at_call 60; (with_reducible refine (ref3_Halves (A := A') (n := n') (c := c') (x := y) _ K2.out (by omega)).mono ?_); rintro e w4 ⟨A4, n4, c4, rfl, hb4, hH4, hc4, hf4⟩; have F4 : Hid (Fr2 w.heap.size w w4 (.slice A n c) (.slice A' n' c')) := F3.out.next hb4; have K3 : Hid (IsH w4 w4.heap.size A3 n3 x) := HH3.out.next hb4; have HH4 := Lib.hid hH4; clear hH4 hf4 hc4 hb4)
      | (go_at_call 81; refine (ref3_cmp _ K3.out HH4.out (by rw [← K3.out.l]; omega) (by rw [← HH4.out.l]; omega)).mono ?_; rintro e w5 ⟨rfl, d5, rfl⟩; have F5 : Hid (Fr2 w.heap.size w (w4.drewN d5) (.slice A n c) (.slice A' n' c')) := F4.out.drewN _))
  go_wp2_with fail
  go_ret
  exact ⟨rfl, F5.out.bel⟩
end Go.Proofs.YtcgbgaljjhopiaaGreatDoor
