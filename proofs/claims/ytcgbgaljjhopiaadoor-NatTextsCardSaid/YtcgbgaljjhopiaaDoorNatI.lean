/- Contracts of nat.DivMod, nat.GCD, nat.Of, nat.Uint. -/
import Derived.Test.YtcgbgaljjhopiaaDoorNatH
import Derived.Deep.LoopGhost
namespace Go.Proofs.YtcgbgaljjhopiaaDoor
set_option maxRecDepth 20000
open Go.RowKit
set_option linter.unusedVariables false
set_option linter.unusedSimpArgs false

/-! ### Quotient and remainder -/
structure Fr4 (N : Nat) (w W : World) (v1 v2 v3 v4 : Value) : Prop where
  n1 : NBox W N v1
  n2 : NBox W (N + 1) v2
  n3 : NBox W (N + 1 + 1) v3
  n4 : NBox W (N + 1 + 1 + 1) v4
  bel : Below N w W
theorem Fr4.sz {N : Nat} {w W : World} {v1 v2 v3 v4 : Value} (h : Fr4 N w W v1 v2 v3 v4) : N + 1 + 1 + 1 < W.heap.size := h.n4.lt
theorem Fr4.start (w : World) (v1 v2 v3 v4 : Value) : Fr4 w.heap.size w ((((w.alloc (.cells #[v1] 24)).alloc (.cells #[v2] 24)).alloc (.cells #[v3] 24)).alloc (.cells #[v4] 24)) v1 v2 v3 v4 := by
  have h := Fr3.start w v1 v2 v3
  have z : (((w.alloc (.cells #[v1] 24)).alloc (.cells #[v2] 24)).alloc (.cells #[v3] 24)).heap.size = w.heap.size + 1 + 1 + 1 := by simp
  have x4 := NBox.new (((w.alloc (.cells #[v1] 24)).alloc (.cells #[v2] 24)).alloc (.cells #[v3] 24)) v4
  rw [z] at x4
  exact ⟨h.n1.alloc _, h.n2.alloc _, h.n3.alloc _, x4, h.bel.alloc (by rw [z]; omega) _⟩
theorem Fr4.below {N B : Nat} {w W W' : World} {v1 v2 v3 v4 : Value} (h : Fr4 N w W v1 v2 v3 v4) (hb : Below B W W') (hB : N + 1 + 1 + 1 < B) : Fr4 N w W' v1 v2 v3 v4 :=
  ⟨h.n1.below hb (by omega), h.n2.below hb (by omega), h.n3.below hb (by omega), h.n4.below hb hB, h.bel.trans (hb.mono (by omega))⟩
theorem Fr4.next {N : Nat} {w W W' : World} {v1 v2 v3 v4 : Value} (h : Fr4 N w W v1 v2 v3 v4) (hb : Below W.heap.size W W') : Fr4 N w W' v1 v2 v3 v4 := h.below hb h.sz
/-- What a call that answers two numbers and an error leaves. -/
def NRes2 (q r : Nat) (er : Int) (w : World) (e : Ending) (w' : World) : Prop :=
  ∃ A n c A' n' c', e = .returned (.tuple #[.agg #[.slice A n c], .agg #[.slice A' n' c'], .int .i64 er]) ∧ Below w.heap.size w w' ∧ IsN w' w'.heap.size A n q ∧ IsN w' w'.heap.size A' n' r ∧ n ≤ 64 ∧ n' ≤ 64 ∧ n ≤ c ∧ n' ≤ c'
theorem cell_far (W : World) (v : Value) {a b : Addr} (h : b.block ≠ a.block) : (W.setCell a v).cell? b = W.cell? b := World.cell?_of_block (w := W) (Below.heap_setCell W a v b.block h)
/-! ### Common divisors -/
/-- What stands in GCD's two variables. -/
structure GcdInv (N x y X Y : Nat) (w W : World) (v1 v2 : Value) (A A' : Option Addr) (n c n' c' : Nat) : Prop where
  fr : Fr3 N w W v1 v2 (.slice none 0 0)
  a : IsN W W.heap.size A n X
  b : IsN W W.heap.size A' n' Y
  n64 : n ≤ 64
  m64 : n' ≤ 64
  nc : n ≤ c
  mc : n' ≤ c'
  g : Nat.gcd X Y = Nat.gcd x y
end Go.Proofs.YtcgbgaljjhopiaaDoor
