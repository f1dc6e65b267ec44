/- Contracts of nat.DivMod, nat.GCD, nat.Of, nat.Uint. -/
import Derived.Test.YtfjnpmkklanopaaNatH
import Derived.Deep.LoopGhost
namespace Go.Proofs.Ytfjnpmkklanopaa
set_option maxRecDepth 20000
open Go.RowKit
set_option linter.unusedVariables false
set_option linter.unusedSimpArgs false

/-! ### Quotient and remainder -/
structure Fr4 (N : Nat) (w W : World) (v1 v2 v3 v4 : Value) : Prop where
  n1 : NBox W N v1
  n2 : NBox W (N + 1) v2
  n3 : NBox W (N + 1 + 1) v3
  n4 : NBox W (N + 1 + 1 + 1) v4
  bel : Below N w W
theorem Fr4.sz {N : Nat} {w W : World} {v1 v2 v3 v4 : Value} (h : Fr4 N w W v1 v2 v3 v4) : N + 1 + 1 + 1 < W.heap.size := h.n4.lt
theorem Fr4.start (w : World) (v1 v2 v3 v4 : Value) : Fr4 w.heap.size w ((((w.alloc (.cells #[v1] 24)).alloc (.cells #[v2] 24)).alloc (.cells #[v3] 24)).alloc (.cells #[v4] 24)) v1 v2 v3 v4 := by
  have h := Fr3.start w v1 v2 v3
  have z : (((w.alloc (.cells #[v1] 24)).alloc (.cells #[v2] 24)).alloc (.cells #[v3] 24)).heap.size = w.heap.size + 1 + 1 + 1 := by simp
  have x4 := NBox.new (((w.alloc (.cells #[v1] 24)).alloc (.cells #[v2] 24)).alloc (.cells #[v3] 24)) v4
  rw [z] at x4
  exact ⟨h.n1.alloc _, h.n2.alloc _, h.n3.alloc _, x4, h.bel.alloc (by rw [z]; omega) _⟩
theorem Fr4.below {N B : Nat} {w W W' : World} {v1 v2 v3 v4 : Value} (h : Fr4 N w W v1 v2 v3 v4) (hb : Below B W W') (hB : N + 1 + 1 + 1 < B) : Fr4 N w W' v1 v2 v3 v4 :=
  ⟨h.n1.below hb (by omega), h.n2.below hb (by omega), h.n3.below hb (by omega), h.n4.below hb hB, h.bel.trans (hb.mono (by omega))⟩
theorem Fr4.next {N : Nat} {w W W' : World} {v1 v2 v3 v4 : Value} (h : Fr4 N w W v1 v2 v3 v4) (hb : Below W.heap.size W W') : Fr4 N w W' v1 v2 v3 v4 := h.below hb h.sz
/-- What a call that answers two numbers and an error leaves. -/
def NRes2 (q r : Nat) (er : Int) (w : World) (e : Ending) (w' : World) : Prop :=
  ∃ A n c A' n' c', e = .returned (.tuple #[.agg #[.slice A n c], .agg #[.slice A' n' c'], .int .i64 er]) ∧ Below w.heap.size w w' ∧ IsN w' w'.heap.size A n q ∧ IsN w' w'.heap.size A' n' r ∧ n ≤ 64 ∧ n' ≤ 64 ∧ n ≤ c ∧ n' ≤ c'
theorem cell_far (W : World) (v : Value) {a b : Addr} (h : b.block ≠ a.block) : (W.setCell a v).cell? b = W.cell? b := World.cell?_of_block (w := W) (Below.heap_setCell W a v b.block h)
theorem nat_DivMod_bad {n c n' c' : Nat} {A A' : Option Addr} {f f' : Nat → Nat} (w : World) (h : Digs w w.heap.size .u32 A n f) (h' : Digs w w.heap.size .u32 A' n' f') (hn : n ≤ 9223372036854775807) (hn' : n' ≤ 9223372036854775807)
    (hv : (Nt.vd f n && Nt.vd f' n') = false) :
    Calls Try.prog 47 #[.agg #[.slice A n c], .agg #[.slice A' n' c']] w (NRes2 0 0 2 w) := by
  have f0 := Fr4.start w (.slice A n c) (.slice A' n' c') (.slice none 0 0) (.slice none 0 0)
  have d1 := (h.below f0.bel).more f0.bel.size
  have d2 := (h'.below f0.bel).more f0.bel.size
  have F0 := Lib.hid f0
  have D1 := Lib.hid d1
  have D2 := Lib.hid d2
  clear f0 d1 d2 h h'
  cases hv1 : Nt.vd f n
  · have c1 := fun W (h : Digs W W.heap.size .u32 A n f) => nat_Valid (c := c) W h hn
    rw [hv1] at c1
    have C1 := Lib.hid c1
    clear c1 hv hv1
    go_enter Try.func47, Try.ntmps47
    go_wp2_with fail
    refine (C1.out _ D1.out).mono ?_
    rintro e w1 ⟨rfl, hb1⟩
    have F1 := Lib.hid (F0.out.next hb1)
    have x3 := F1.out.n3.cell
    have z3 := F1.out.n3.free
    have x4 := F1.out.n4.cell
    have z4 := F1.out.n4.free
    have k4 : ∀ (W : World) (v : Value), (W.setCell ⟨w.heap.size + 1 + 1, 0, none⟩ v).cell? ⟨w.heap.size + 1 + 1 + 1, 0, none⟩ = W.cell? ⟨w.heap.size + 1 + 1 + 1, 0, none⟩ := fun W v => cell_far W v (by simp)
    have k5 : ∀ (W : World) (v : Value), (W.setCell ⟨w.heap.size + 1 + 1 + 1, 0, none⟩ v).cell? ⟨w.heap.size + 1 + 1, 0, none⟩ = W.cell? ⟨w.heap.size + 1 + 1, 0, none⟩ := fun W v => cell_far W v (by simp)
    go_wp2_with fail
    refine bodyPost_ret (v := .tuple #[.agg #[.slice none 0 0], .agg #[.slice none 0 0], .int .i64 2]) (by simp [results, Try.results47, go_sem, x3, x4, k4, k5]) rfl ?_
    exact ⟨none, 0, 0, none, 0, 0, rfl, (F1.out.bel.setCell (by simp; omega) _).setCell (by simp; omega) _, IsN.zero, IsN.zero, by omega, by omega, by omega, by omega⟩
  · have hv2 : Nt.vd f' n' = false := by rw [hv1] at hv; simpa using hv
    have c1 := fun W (h : Digs W W.heap.size .u32 A n f) => nat_Valid (c := c) W h hn
    rw [hv1] at c1
    have C1 := Lib.hid c1
    have c2 := fun W (h : Digs W W.heap.size .u32 A' n' f') => nat_Valid (c := c') W h hn'
    rw [hv2] at c2
    have C2 := Lib.hid c2
    clear c1 c2 hv hv1 hv2
    go_enter Try.func47, Try.ntmps47
    go_wp2_with fail
    refine (C1.out _ D1.out).mono ?_
    rintro e w1 ⟨rfl, hb1⟩
    have F1 := Lib.hid (F0.out.next hb1)
    have E2 := Lib.hid ((D2.out.below hb1).more hb1.size)
    have x2 := F1.out.n2.cell
    clear hb1
    go_wp2_with fail
    refine (C2.out _ E2.out).mono ?_
    rintro e w2 ⟨rfl, hb2⟩
    have F2 := Lib.hid (F1.out.next hb2)
    have x3 := F2.out.n3.cell
    have z3 := F2.out.n3.free
    have x4 := F2.out.n4.cell
    have z4 := F2.out.n4.free
    have k4 : ∀ (W : World) (v : Value), (W.setCell ⟨w.heap.size + 1 + 1, 0, none⟩ v).cell? ⟨w.heap.size + 1 + 1 + 1, 0, none⟩ = W.cell? ⟨w.heap.size + 1 + 1 + 1, 0, none⟩ := fun W v => cell_far W v (by simp)
    have k5 : ∀ (W : World) (v : Value), (W.setCell ⟨w.heap.size + 1 + 1 + 1, 0, none⟩ v).cell? ⟨w.heap.size + 1 + 1, 0, none⟩ = W.cell? ⟨w.heap.size + 1 + 1, 0, none⟩ := fun W v => cell_far W v (by simp)
    go_wp2_with fail
    refine bodyPost_ret (v := .tuple #[.agg #[.slice none 0 0], .agg #[.slice none 0 0], .int .i64 2]) (by simp [results, Try.results47, go_sem, x3, x4, k4, k5]) rfl ?_
    exact ⟨none, 0, 0, none, 0, 0, rfl, (F2.out.bel.setCell (by simp; omega) _).setCell (by simp; omega) _, IsN.zero, IsN.zero, by omega, by omega, by omega, by omega⟩


theorem nat_DivMod_zero {n c n' c' x y : Nat} {A A' : Option Addr} (w : World) (h : IsN w w.heap.size A n x) (h' : IsN w w.heap.size A' n' y) (hn : n ≤ 64) (hn' : n' ≤ 64) (hy : y = 0) :
    Calls Try.prog 47 #[.agg #[.slice A n c], .agg #[.slice A' n' c']] w (NRes2 0 0 10 w) := by
  obtain rfl : n' = 0 := by rw [← h'.l, hy]; exact Nt.ln_zero
  have f0 := Fr4.start w (.slice A n c) (.slice A' 0 c') (.slice none 0 0) (.slice none 0 0)
  have F0 := Lib.hid f0
  have D1 := Lib.hid ((h.below f0.bel).more f0.bel.size)
  have D2 := Lib.hid ((h'.below f0.bel).more f0.bel.size)
  have c1 := fun W (h : IsN W W.heap.size A n x) => nat_Valid (c := c) W h.d (by omega)
  rw [h.vd, decide_eq_true hn] at c1
  have c2 := fun W (h : IsN W W.heap.size A' 0 y) => nat_Valid (c := c') W h.d (by omega)
  rw [h'.vd, decide_eq_true hn'] at c2
  have C1 := Lib.hid c1
  have C2 := Lib.hid c2
  clear f0 h h' c1 c2 hy
  go_enter Try.func47, Try.ntmps47
  go_wp2_with fail
  refine (C1.out _ D1.out).mono ?_
  rintro e w1 ⟨rfl, hb1⟩
  have F1 := Lib.hid (F0.out.next hb1)
  have E2 := Lib.hid ((D2.out.below hb1).more hb1.size)
  have x2 := F1.out.n2.cell
  clear hb1
  go_wp2_with fail
  refine (C2.out _ E2.out).mono ?_
  rintro e w2 ⟨rfl, hb2⟩
  have F2 := Lib.hid (F1.out.next hb2)
  clear x2 hb2
  have x2 := F2.out.n2.cell
  have x3 := F2.out.n3.cell
  have z3 := F2.out.n3.free
  have x4 := F2.out.n4.cell
  have z4 := F2.out.n4.free
  have k4 : ∀ (W : World) (v : Value), (W.setCell ⟨w.heap.size + 1 + 1, 0, none⟩ v).cell? ⟨w.heap.size + 1 + 1 + 1, 0, none⟩ = W.cell? ⟨w.heap.size + 1 + 1 + 1, 0, none⟩ := fun W v => cell_far W v (by simp)
  have k5 : ∀ (W : World) (v : Value), (W.setCell ⟨w.heap.size + 1 + 1 + 1, 0, none⟩ v).cell? ⟨w.heap.size + 1 + 1, 0, none⟩ = W.cell? ⟨w.heap.size + 1 + 1, 0, none⟩ := fun W v => cell_far W v (by simp)
  go_wp2_with fail
  refine bodyPost_ret (v := .tuple #[.agg #[.slice none 0 0], .agg #[.slice none 0 0], .int .i64 10]) (by simp [results, Try.results47, go_sem, x3, x4, k4, k5]) rfl ?_
  exact ⟨none, 0, 0, none, 0, 0, rfl, (F2.out.bel.setCell (by simp; omega) _).setCell (by simp; omega) _, IsN.zero, IsN.zero, by omega, by omega, by omega, by omega⟩

theorem nat_DivMod_ok {n c n' c' x y : Nat} {A A' : Option Addr} (w : World) (h : IsN w w.heap.size A n x) (h' : IsN w w.heap.size A' n' y) (hn : n ≤ 64) (hn' : n' ≤ 64) (hnc : n ≤ c) (hy : 0 < y) :
    Calls Try.prog 47 #[.agg #[.slice A n c], .agg #[.slice A' n' c']] w (NRes2 (x / y) (x % y) 0 w) := by
  have hq : Nt.ln 4294967296 (x / y) ≤ 64 := by
    have := Nt.ln_mono (B := 4294967296) (by omega) (Nat.div_le_self x y)
    rw [h.l] at this; omega
  have hr : Nt.ln 4294967296 (x % y) ≤ 64 := by
    have := Nt.ln_mono (B := 4294967296) (by omega) (Nat.le_of_lt (Nat.mod_lt x hy))
    rw [h'.l] at this; omega
  have n1 : 0 < n' := by rw [← h'.l]; exact Nt.ln_pos (by omega) (by omega)
  have f0 := Fr4.start w (.slice A n c) (.slice A' n' c') (.slice none 0 0) (.slice none 0 0)
  have F0 := Lib.hid f0
  have D1 := Lib.hid ((h.below f0.bel).more f0.bel.size)
  have D2 := Lib.hid ((h'.below f0.bel).more f0.bel.size)
  have c1 := fun W (h : IsN W W.heap.size A n x) => nat_Valid (c := c) W h.d (by omega)
  rw [h.vd, decide_eq_true hn] at c1
  have c2 := fun W (h : IsN W W.heap.size A' n' y) => nat_Valid (c := c') W h.d (by omega)
  rw [h'.vd, decide_eq_true hn'] at c2
  have c3 := fun W (h : IsN W W.heap.size A n x) (h' : IsN W W.heap.size A' n' y) => nat_divide (c := c) (c' := c') W h h' (by omega) (by omega) hnc hy
  have C1 := Lib.hid c1
  have C2 := Lib.hid c2
  have C3 := Lib.hid c3
  have HQ := Lib.hid hq
  have HR := Lib.hid hr
  clear f0 h h' c1 c2 c3 hq hr
  have nz : ((n' : Int) == 0) = false := by simp; omega
  go_enter Try.func47, Try.ntmps47
  go_wp2_with fail
  refine (C1.out _ D1.out).mono ?_
  rintro e w1 ⟨rfl, hb1⟩
  have F1 := Lib.hid (F0.out.next hb1)
  have E1 := Lib.hid ((D1.out.below hb1).more hb1.size)
  have E2 := Lib.hid ((D2.out.below hb1).more hb1.size)
  have x2 := F1.out.n2.cell
  clear hb1
  go_wp2_with fail
  refine (C2.out _ E2.out).mono ?_
  rintro e w2 ⟨rfl, hb2⟩
  have F2 := Lib.hid (F1.out.next hb2)
  have G1 := Lib.hid ((E1.out.below hb2).more hb2.size)
  have G2 := Lib.hid ((E2.out.below hb2).more hb2.size)
  clear x2 hb2
  have x1 := F2.out.n1.cell
  have x2 := F2.out.n2.cell
  go_wp2_with fail
  refine (C3.out _ G1.out G2.out).mono ?_
  rintro e w3 ⟨Aq, q, Ar, r, rfl, hb3, hnq, hnr⟩
  have F3 := Lib.hid (F2.out.next hb3)
  clear x1 x2 hb3
  have x3 := F3.out.n3.cell
  have z3 := F3.out.n3.free
  have x4 := F3.out.n4.cell
  have z4 := F3.out.n4.free
  have k4 : ∀ (W : World) (v : Value), (W.setCell ⟨w.heap.size + 1 + 1, 0, none⟩ v).cell? ⟨w.heap.size + 1 + 1 + 1, 0, none⟩ = W.cell? ⟨w.heap.size + 1 + 1 + 1, 0, none⟩ := fun W v => cell_far W v (by simp)
  have k5 : ∀ (W : World) (v : Value), (W.setCell ⟨w.heap.size + 1 + 1 + 1, 0, none⟩ v).cell? ⟨w.heap.size + 1 + 1, 0, none⟩ = W.cell? ⟨w.heap.size + 1 + 1, 0, none⟩ := fun W v => cell_far W v (by simp)
  have y4 : (w3.setCell ⟨w.heap.size + 1 + 1, 0, none⟩ (.slice Aq q q)).cell? ⟨w.heap.size + 1 + 1 + 1, 0, none⟩ = some (.slice none 0 0) := by rw [k4]; exact x4
  have NQ := Lib.hid ((hnq.setBox x3 (.slice Aq q q)).setBox y4 (.slice Ar r r))
  have NR := Lib.hid ((hnr.setBox x3 (.slice Aq q q)).setBox y4 (.slice Ar r r))
  have q64 : q ≤ 64 := by rw [← hnq.l]; exact HQ.out
  have r64 : r ≤ 64 := by rw [← hnr.l]; exact HR.out
  clear hnq hnr y4
  go_wp2_with fail
  refine bodyPost_ret (v := .tuple #[.agg #[.slice Aq q q], .agg #[.slice Ar r r], .int .i64 0]) (by simp [results, Try.results47, go_sem, x3, x4, k4, k5]) rfl ?_
  have hz : ((w3.setCell ⟨w.heap.size + 1 + 1, 0, none⟩ (.slice Aq q q)).setCell ⟨w.heap.size + 1 + 1 + 1, 0, none⟩ (.slice Ar r r)).heap.size = w3.heap.size := by rw [size_setCell, size_setCell]
  exact ⟨Aq, q, q, Ar, r, r, rfl, (F3.out.bel.setCell (by simp; omega) _).setCell (by simp; omega) _, NQ.out.more (by rw [hz]; exact Nat.le_refl _), NR.out.more (by rw [hz]; exact Nat.le_refl _), q64, r64, Nat.le_refl _, Nat.le_refl _⟩

/-! ### Common divisors -/
/-- What stands in GCD's two variables. -/
structure GcdInv (N x y X Y : Nat) (w W : World) (v1 v2 : Value) (A A' : Option Addr) (n c n' c' : Nat) : Prop where
  fr : Fr3 N w W v1 v2 (.slice none 0 0)
  a : IsN W W.heap.size A n X
  b : IsN W W.heap.size A' n' Y
  n64 : n ≤ 64
  m64 : n' ≤ 64
  nc : n ≤ c
  mc : n' ≤ c'
  g : Nat.gcd X Y = Nat.gcd x y
end Go.Proofs.Ytfjnpmkklanopaa
