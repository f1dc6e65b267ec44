/- The reference of layer 3: DivMod, GCD. -/
import Derived.Test.YtfjnpmkklanopaaNatRG
namespace Go.Proofs.Ytfjnpmkklanopaa
set_option maxRecDepth 20000
open Go.RowKit
set_option linter.unusedVariables false
set_option linter.unusedSimpArgs false

theorem ref3_DivMod_bad {n c n' c' : Nat} {A A' : Option Addr} {f f' : Nat → Nat} (w : World) (h : Digs w w.heap.size .u32 A n f) (h' : Digs w w.heap.size .u32 A' n' f') (hn : n ≤ 9223372036854775807) (hn' : n' ≤ 9223372036854775807)
    (hv : (Nt.vd f n && Nt.vd f' n') = false) :
    Calls Try.prog 32 #[.agg #[.slice A n c], .agg #[.slice A' n' c']] w (NRes2 0 0 2 w) := by
  have f0 := Fr4.start w (.slice A n c) (.slice A' n' c') (.slice none 0 0) (.slice none 0 0)
  have d1 := (h.below f0.bel).more f0.bel.size
  have d2 := (h'.below f0.bel).more f0.bel.size
  have F0 := Lib.hid f0
  have D1 := Lib.hid d1
  have D2 := Lib.hid d2
  clear f0 d1 d2 h h'
  cases hv1 : Nt.vd f n
  · have c1 := fun W (h : Digs W W.heap.size .u32 A n f) => ref3_Valid (c := c) W h hn
    rw [hv1] at c1
    have C1 := Lib.hid c1
    clear c1 hv hv1
    go_enter Try.func32, Try.ntmps32
    go_wp2_with fail
    refine (C1.out _ D1.out).mono ?_
    rintro e w1 ⟨rfl, hb1⟩
    have F1 := Lib.hid (F0.out.next hb1)
    have x3 := F1.out.n3.cell
    have z3 := F1.out.n3.free
    have x4 := F1.out.n4.cell
    have z4 := F1.out.n4.free
    have k4 : ∀ (W : World) (v : Value), (W.setCell ⟨w.heap.size + 1 + 1, 0, none⟩ v).cell? ⟨w.heap.size + 1 + 1 + 1, 0, none⟩ = W.cell? ⟨w.heap.size + 1 + 1 + 1, 0, none⟩ := fun W v => cell_far W v (by simp)
    have k5 : ∀ (W : World) (v : Value), (W.setCell ⟨w.heap.size + 1 + 1 + 1, 0, none⟩ v).cell? ⟨w.heap.size + 1 + 1, 0, none⟩ = W.cell? ⟨w.heap.size + 1 + 1, 0, none⟩ := fun W v => cell_far W v (by simp)
    go_wp2_with fail
    refine bodyPost_ret (v := .tuple #[.agg #[.slice none 0 0], .agg #[.slice none 0 0], .int .i64 2]) (by simp [results, Try.results32, go_sem, x3, x4, k4, k5]) rfl ?_
    exact ⟨none, 0, 0, none, 0, 0, rfl, (F1.out.bel.setCell (by simp; omega) _).setCell (by simp; omega) _, IsN.zero, IsN.zero, by omega, by omega, by omega, by omega⟩
  · have hv2 : Nt.vd f' n' = false := by rw [hv1] at hv; simpa using hv
    have c1 := fun W (h : Digs W W.heap.size .u32 A n f) => ref3_Valid (c := c) W h hn
    rw [hv1] at c1
    have C1 := Lib.hid c1
    have c2 := fun W (h : Digs W W.heap.size .u32 A' n' f') => ref3_Valid (c := c') W h hn'
    rw [hv2] at c2
    have C2 := Lib.hid c2
    clear c1 c2 hv hv1 hv2
    go_enter Try.func32, Try.ntmps32
    go_wp2_with fail
    refine (C1.out _ D1.out).mono ?_
    rintro e w1 ⟨rfl, hb1⟩
    have F1 := Lib.hid (F0.out.next hb1)
    have E2 := Lib.hid ((D2.out.below hb1).more hb1.size)
    have x2 := F1.out.n2.cell
    clear hb1
    go_wp2_with fail
    refine (C2.out _ E2.out).mono ?_
    rintro e w2 ⟨rfl, hb2⟩
    have F2 := Lib.hid (F1.out.next hb2)
    have x3 := F2.out.n3.cell
    have z3 := F2.out.n3.free
    have x4 := F2.out.n4.cell
    have z4 := F2.out.n4.free
    have k4 : ∀ (W : World) (v : Value), (W.setCell ⟨w.heap.size + 1 + 1, 0, none⟩ v).cell? ⟨w.heap.size + 1 + 1 + 1, 0, none⟩ = W.cell? ⟨w.heap.size + 1 + 1 + 1, 0, none⟩ := fun W v => cell_far W v (by simp)
    have k5 : ∀ (W : World) (v : Value), (W.setCell ⟨w.heap.size + 1 + 1 + 1, 0, none⟩ v).cell? ⟨w.heap.size + 1 + 1, 0, none⟩ = W.cell? ⟨w.heap.size + 1 + 1, 0, none⟩ := fun W v => cell_far W v (by simp)
    go_wp2_with fail
    refine bodyPost_ret (v := .tuple #[.agg #[.slice none 0 0], .agg #[.slice none 0 0], .int .i64 2]) (by simp [results, Try.results32, go_sem, x3, x4, k4, k5]) rfl ?_
    exact ⟨none, 0, 0, none, 0, 0, rfl, (F2.out.bel.setCell (by simp; omega) _).setCell (by simp; omega) _, IsN.zero, IsN.zero, by omega, by omega, by omega, by omega⟩


theorem ref3_DivMod_zero {n c n' c' x y : Nat} {A A' : Option Addr} (w : World) (h : IsN w w.heap.size A n x) (h' : IsN w w.heap.size A' n' y) (hn : n ≤ 64) (hn' : n' ≤ 64) (hy : y = 0) :
    Calls Try.prog 32 #[.agg #[.slice A n c], .agg #[.slice A' n' c']] w (NRes2 0 0 10 w) := by
  obtain rfl : n' = 0 := by rw [← h'.l, hy]; exact Nt.ln_zero
  have f0 := Fr4.start w (.slice A n c) (.slice A' 0 c') (.slice none 0 0) (.slice none 0 0)
  have F0 := Lib.hid f0
  have D1 := Lib.hid ((h.below f0.bel).more f0.bel.size)
  have D2 := Lib.hid ((h'.below f0.bel).more f0.bel.size)
  have c1 := fun W (h : IsN W W.heap.size A n x) => ref3_Valid (c := c) W h.d (by omega)
  rw [h.vd, decide_eq_true hn] at c1
  have c2 := fun W (h : IsN W W.heap.size A' 0 y) => ref3_Valid (c := c') W h.d (by omega)
  rw [h'.vd, decide_eq_true hn'] at c2
  have C1 := Lib.hid c1
  have C2 := Lib.hid c2
  clear f0 h h' c1 c2 hy
  go_enter Try.func32, Try.ntmps32
  go_wp2_with fail
  refine (C1.out _ D1.out).mono ?_
  rintro e w1 ⟨rfl, hb1⟩
  have F1 := Lib.hid (F0.out.next hb1)
  have E2 := Lib.hid ((D2.out.below hb1).more hb1.size)
  have x2 := F1.out.n2.cell
  clear hb1
  go_wp2_with fail
  refine (C2.out _ E2.out).mono ?_
  rintro e w2 ⟨rfl, hb2⟩
  have F2 := Lib.hid (F1.out.next hb2)
  clear x2 hb2
  have x2 := F2.out.n2.cell
  have x3 := F2.out.n3.cell
  have z3 := F2.out.n3.free
  have x4 := F2.out.n4.cell
  have z4 := F2.out.n4.free
  have k4 : ∀ (W : World) (v : Value), (W.setCell ⟨w.heap.size + 1 + 1, 0, none⟩ v).cell? ⟨w.heap.size + 1 + 1 + 1, 0, none⟩ = W.cell? ⟨w.heap.size + 1 + 1 + 1, 0, none⟩ := fun W v => cell_far W v (by simp)
  have k5 : ∀ (W : World) (v : Value), (W.setCell ⟨w.heap.size + 1 + 1 + 1, 0, none⟩ v).cell? ⟨w.heap.size + 1 + 1, 0, none⟩ = W.cell? ⟨w.heap.size + 1 + 1, 0, none⟩ := fun W v => cell_far W v (by simp)
  go_wp2_with fail
  refine bodyPost_ret (v := .tuple #[.agg #[.slice none 0 0], .agg #[.slice none 0 0], .int .i64 10]) (by simp [results, Try.results32, go_sem, x3, x4, k4, k5]) rfl ?_
  exact ⟨none, 0, 0, none, 0, 0, rfl, (F2.out.bel.setCell (by simp; omega) _).setCell (by simp; omega) _, IsN.zero, IsN.zero, by omega, by omega, by omega, by omega⟩


theorem Fr4.alloc {N : Nat} {w W : World} {v1 v2 v3 v4 : Value} (h : Fr4 N w W v1 v2 v3 v4) (o : Obj) : Fr4 N w (W.alloc o) v1 v2 v3 v4 := h.next ((Below.refl _ _).alloc (Nat.le_refl _) _)
theorem kS4 {N : Nat} {w W : World} {v1 v2 v3 v4 : Value} (h : Hid (Fr4 N w W v1 v2 v3 v4)) : W.cell? ⟨N, 0, none⟩ = some v1 ∧ W.cell? ⟨N + 1, 0, none⟩ = some v2 := ⟨h.out.n1.cell, h.out.n2.cell⟩
theorem fits_of_le {x y : Nat} (h : Nt.ln 4294967296 y ≤ 64) (hle : x ≤ y) : Nt.fits x = true := Nt.fits_iff.2 (Nat.le_trans (Nt.ln_mono (by omega) hle) h)
set_option maxHeartbeats 1000000 in
theorem ref3_DivMod_ok {n c n' c' x y : Nat} {A A' : Option Addr} (w : World) (h : IsN w w.heap.size A n x) (h' : IsN w w.heap.size A' n' y) (hn : n ≤ 64) (hn' : n' ≤ 64) (hy : 0 < y) :
    Calls Try.prog 32 #[.agg #[.slice A n c], .agg #[.slice A' n' c']] w (NRes2 (x / y) (x % y) 0 w) := by
  have n1 : 0 < n' := by rw [← h'.l]; exact Nt.ln_pos (by omega) (by omega)
  have f0 := Fr4.start w (.slice A n c) (.slice A' n' c') (.slice none 0 0) (.slice none 0 0)
  have F0 := Lib.hid f0
  have D1 := Lib.hid ((h.below f0.bel).more f0.bel.size)
  have D2 := Lib.hid ((h'.below f0.bel).more f0.bel.size)
  have c1 := fun W (h : IsN W W.heap.size A n x) => ref3_Valid (c := c) W h.d (by omega)
  rw [h.vd, decide_eq_true hn] at c1
  have c2 := fun W (h : IsN W W.heap.size A' n' y) => ref3_Valid (c := c') W h.d (by omega)
  rw [h'.vd, decide_eq_true hn'] at c2
  have C1 := Lib.hid c1
  have C2 := Lib.hid c2
  have hl1 : Nt.ln 65536 x ≤ 128 := Nat.le_trans (Nt.ln_two h.l) (by omega)
  have hl2 : Nt.ln 65536 y ≤ 128 := Nat.le_trans (Nt.ln_two h'.l) (by omega)
  have hfq := fits_of_le (x := x / y) (y := x) (by rw [h.l]; exact hn) (Nat.div_le_self _ _)
  have hfr := fits_of_le (x := x % y) (y := y) (by rw [h'.l]; exact hn') (Nat.le_of_lt (Nat.mod_lt _ hy))
  have hwq := fun W {A : Option Addr} {n c : Nat} (h : IsH W W.heap.size A n (x / y)) (hc : n ≤ c ∧ c ≤ 9223372036854775807) => ref3_Whole_H W h hc
  have hwr := fun W {A : Option Addr} {n c : Nat} (h : IsH W W.heap.size A n (x % y)) (hc : n ≤ c ∧ c ≤ 9223372036854775807) => ref3_Whole_H W h hc
  rw [hfq, show Nt.bv (x / y) = x / y by rw [Nt.bv, hfq]; rfl] at hwq
  rw [hfr, show Nt.bv (x % y) = x % y by rw [Nt.bv, hfr]; rfl] at hwr
  have HWQ := Lib.hid hwq
  have HWR := Lib.hid hwr
  clear f0 h h' c1 c2 hfq hfr hwq hwr
  have nz : ((n' : Int) == 0) = false := by simp; omega
  go_enter Try.func32, Try.ntmps32
  go_wp2_with fail
  refine (C1.out _ D1.out).mono ?_
  rintro e w1 ⟨rfl, hb1⟩
  have F1 := Lib.hid (F0.out.next hb1)
  have E1 := Lib.hid ((D1.out.below hb1).more hb1.size)
  have E2 := Lib.hid ((D2.out.below hb1).more hb1.size)
  have x2 := F1.out.n2.cell
  clear hb1
  go_wp2_with fail
  refine (C2.out _ E2.out).mono ?_
  rintro e w2 ⟨rfl, hb2⟩
  have F2 : Hid (Fr4 w.heap.size w w2.drew (.slice A n c) (.slice A' n' c') (.slice none 0 0) (.slice none 0 0)) := (F1.out.next hb2).next (below_dr _ _ 1)
  have G1 : Hid (IsN w2.drew w2.drew.heap.size A n x) := ((E1.out.below hb2).more hb2.size).drewN 1
  have G2 : Hid (IsN w2.drew w2.drew.heap.size A' n' y) := ((E2.out.below hb2).more hb2.size).drewN 1
  clear x2 hb2
  have x1 := F2.out.n1.cell
  have x2 := F2.out.n2.cell
  have y2 : w2.cell? ⟨w.heap.size + 1, 0, none⟩ = some (.slice A' n' c') := x2
  go_wp2_with fail
  go_region_held3 (fun W => W.cell? ⟨w.heap.size, 0, none⟩ = some (.slice A n c) ∧ W.cell? ⟨w.heap.size + 1, 0, none⟩ = some (.slice A' n' c'))
    (first | (with_reducible exact kS4 (by assumption)))
    (first
      | (go_at_call 44; (with_reducible refine (ref3_Halves (A := A) (n := n) (c := c) (x := x) _ G1.out (by omega)).mono ?_); rintro e w3 ⟨A3, n3, c3, rfl, hb3, hH3, hc3, hf3⟩; have F3 : Hid (Fr4 w.heap.size w w3 (.slice A n c) (.slice A' n' c') (.slice none 0 0) (.slice none 0 0)) := F2.out.next hb3; have K2 : Hid (IsN w3 w3.heap.size A' n' y) := G2.out.next hb3; have HH3 := Lib.hid hH3; clear hH3 hf3 hc3 hb3)
      | (go_at_call 44; (with_reducible refine (ref3_Halves (A := A') (n := n') (c := c') (x := y) _ K2.out (by omega)).mono ?_); rintro e w4 ⟨A4, n4, c4, rfl, hb4, hH4, hc4, hf4⟩; have F4 : Hid (Fr4 w.heap.size w w4 (.slice A n c) (.slice A' n' c') (.slice none 0 0) (.slice none 0 0)) := F3.out.next hb4; have K3 : Hid (IsH w4 w4.heap.size A3 n3 x) := HH3.out.next hb4; have HH4 := Lib.hid hH4; clear hH4 hf4 hc4 hb4)
      | (go_at_call 49; refine (ref3_divide _ K3.out HH4.out (by rw [← K3.out.l]; omega) (by rw [← HH4.out.l]; omega) hy).mono ?_; rintro e w5 ⟨A5, n5, c5, A5', n5', c5', rfl, hb5, hq5, hr5, hcq5, hcr5⟩; have F5 : Hid (Fr4 w.heap.size w w5 (.slice A n c) (.slice A' n' c') (.slice none 0 0) (.slice none 0 0)) := F4.out.next hb5; have HQ5 := Lib.hid hq5; have HR5 := Lib.hid hr5; have HCQ := Lib.hid hcq5; have HCR := Lib.hid hcr5; clear hq5 hr5 hcq5 hcr5 hb5))
  clear x1 x2
  go_wp2_with fail
  refine (HWQ.out _ HQ5.out HCQ.out).mono ?_
  rintro e w6 ⟨A6, n6, c6, rfl, hb6, hN6, h64, hc6⟩
  have F6 := Lib.hid ((F5.out.next hb6).alloc (.cells #[.slice A6 n6 c6] 24))
  have X6 := Lib.hid (NBox.new w6 (.slice A6 n6 c6))
  have NQ6 := Lib.hid (hN6.alloc (.cells #[.slice A6 n6 c6] 24))
  have HR6 := Lib.hid ((HR5.out.next hb6).alloc (.cells #[.slice A6 n6 c6] 24))
  have S6 : w.heap.size + 1 + 1 + 1 < w6.heap.size := (F5.out.next hb6).sz
  clear hb6 hN6
  go_wp2_with fail
  refine (HWR.out _ HR6.out HCR.out).mono ?_
  rintro e w7 ⟨A7, n7, c7, rfl, hb7, hN7, h647, hc7⟩
  have F7 := Lib.hid ((F6.out.next hb7).alloc (.cells #[.slice A7 n7 c7] 24))
  have X7 := Lib.hid (NBox.new w7 (.slice A7 n7 c7))
  have X67 := Lib.hid ((X6.out.below hb7 X6.out.lt).alloc (.cells #[.slice A7 n7 c7] 24))
  have NQ7 := Lib.hid ((NQ6.out.next hb7).alloc (.cells #[.slice A7 n7 c7] 24))
  have NR7 := Lib.hid (hN7.alloc (.cells #[.slice A7 n7 c7] 24))
  have S7 : w6.heap.size < w7.heap.size := by have := hb7.size; simp at this; omega
  clear hb7 hN7
  go_wp2_with fail
  obtain ⟨w8, ew8⟩ : ∃ W, W = w7.alloc (.cells #[.slice A7 n7 c7] 24) := ⟨_, rfl⟩
  obtain ⟨b6, eb6⟩ : ∃ b, b = w6.heap.size := ⟨_, rfl⟩
  obtain ⟨b7, eb7⟩ : ∃ b, b = w7.heap.size := ⟨_, rfl⟩
  rw [← ew8] at F7 NQ7 NR7
  rw [← ew8, ← eb7] at X7
  rw [← ew8, ← eb6] at X67
  rw [← eb6] at S6 S7
  rw [← eb7] at S7
  rw [← ew8, ← eb6, ← eb7]
  clear ew8 eb6 eb7
  have k6 : ∀ (W : World) (v : Value), (W.setCell ⟨w.heap.size + 1 + 1, 0, none⟩ v).cell? ⟨b6, 0, none⟩ = W.cell? ⟨b6, 0, none⟩ := fun W v => cell_far W v (by simp; omega)
  have k7 : ∀ (W : World) (v : Value), (W.setCell ⟨w.heap.size + 1 + 1, 0, none⟩ v).cell? ⟨b7, 0, none⟩ = W.cell? ⟨b7, 0, none⟩ := fun W v => cell_far W v (by simp; omega)
  have l6 : ∀ (W : World) (v : Value), (W.setCell ⟨w.heap.size + 1 + 1 + 1, 0, none⟩ v).cell? ⟨b6, 0, none⟩ = W.cell? ⟨b6, 0, none⟩ := fun W v => cell_far W v (by simp; omega)
  have l7 : ∀ (W : World) (v : Value), (W.setCell ⟨w.heap.size + 1 + 1 + 1, 0, none⟩ v).cell? ⟨b7, 0, none⟩ = W.cell? ⟨b7, 0, none⟩ := fun W v => cell_far W v (by simp; omega)
  have k4 : ∀ (W : World) (v : Value), (W.setCell ⟨w.heap.size + 1 + 1, 0, none⟩ v).cell? ⟨w.heap.size + 1 + 1 + 1, 0, none⟩ = W.cell? ⟨w.heap.size + 1 + 1 + 1, 0, none⟩ := fun W v => cell_far W v (by simp)
  have k5 : ∀ (W : World) (v : Value), (W.setCell ⟨w.heap.size + 1 + 1 + 1, 0, none⟩ v).cell? ⟨w.heap.size + 1 + 1, 0, none⟩ = W.cell? ⟨w.heap.size + 1 + 1, 0, none⟩ := fun W v => cell_far W v (by simp)
  have m6 := X67.out.cell
  have m7 := X7.out.cell
  have x3 := F7.out.n3.cell
  have z3 := F7.out.n3.free
  have x4 := F7.out.n4.cell
  have z4 := F7.out.n4.free
  go_region_held3 (fun W => W.cell? ⟨b6, 0, none⟩ = some (.slice A6 n6 c6) ∧ W.cell? ⟨b7, 0, none⟩ = some (.slice A7 n7 c7)) (go_keep) (fail)
  all_goals (
    go_wp2_with fail
    refine bodyPost_ret (v := .tuple #[.agg #[.slice A6 n6 c6], .agg #[.slice A7 n7 c7], .int .i64 0]) (by simp [results, Try.results32, go_sem, x3, x4, k4, k5]) rfl ?_
    have y4 : (w8.setCell ⟨w.heap.size + 1 + 1, 0, none⟩ (.slice A6 n6 c6)).cell? ⟨w.heap.size + 1 + 1 + 1, 0, none⟩ = some (.slice none 0 0) := by rw [k4]; exact x4
    have hq := (NQ7.out.setBox x3 (.slice A6 n6 c6)).setBox y4 (.slice A7 n7 c7)
    have hr := (NR7.out.setBox x3 (.slice A6 n6 c6)).setBox y4 (.slice A7 n7 c7)
    exact ⟨A6, n6, c6, A7, n7, c7, rfl, ((F7.out.bel.setCell (by simp; omega) _).setCell (by simp; omega) _).trans (below_dr _ _ _), (hq.drewN _).more (Nat.le_of_eq (by simp [size_setCell])), (hr.drewN _).more (Nat.le_of_eq (by simp [size_setCell])), h64, h647, hc6, hc7⟩)
end Go.Proofs.Ytfjnpmkklanopaa
