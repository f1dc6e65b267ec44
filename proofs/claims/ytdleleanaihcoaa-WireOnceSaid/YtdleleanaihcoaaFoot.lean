/- Footprints: what a call that changes an object of its own leaves as it was. -/
import Derived.Test.YtdleleanaihcoaaSeqA
namespace Go.Proofs.Ytdleleanaihcoaa
set_option maxRecDepth 20000
open Go.RowKit
set_option linter.unusedVariables false
set_option linter.unusedSimpArgs false
/-- From W to W' no block that was there has changed but those of fp. -/
structure Turns (fp : Nat → Prop) (W W' : World) : Prop where
  os : W'.os = W.os
  tape : W'.tape = W.tape
  output : W'.output = W.output
  size : W.heap.size ≤ W'.heap.size
  block : ∀ b, b < W.heap.size → ¬ fp b → W'.heap[b]? = W.heap[b]?
/-- No block. -/
def noB : Nat → Prop := fun _ => False
section
variable {fp fp' fq : Nat → Prop} {W W' W'' : World} {N : Nat}
theorem Turns.refl (W : World) : Turns fp W W := ⟨rfl, rfl, rfl, Nat.le_refl _, fun _ _ _ => rfl⟩
theorem Turns.trans (h : Turns fp W W') (h' : Turns fp' W' W'') (hs : ∀ b, b < W.heap.size → fp' b → fp b) : Turns fp W W'' :=
  ⟨h'.os.trans h.os, h'.tape.trans h.tape, h'.output.trans h.output, Nat.le_trans h.size h'.size, fun b hb hn => (h'.block b (Nat.lt_of_lt_of_le hb h.size) fun e => hn (hs b hb e)).trans (h.block b hb hn)⟩
theorem Turns.more (h : Turns fp W W') (hs : ∀ b, b < W.heap.size → fp b → fp' b) : Turns fp' W W' :=
  ⟨h.os, h.tape, h.output, h.size, fun b hb hn => h.block b hb fun e => hn (hs b hb e)⟩
theorem Turns.of_below (h : Below W.heap.size W W') : Turns fp W W' := ⟨h.os, h.tape, h.output, h.size, fun b hb _ => h.block b hb⟩
theorem Turns.below (h : Turns fp W W') (hN : N ≤ W.heap.size) (hf : ∀ b, b < W.heap.size → fp b → N ≤ b) : Below N W W' :=
  ⟨h.os, h.tape, h.output, h.size, fun b hb => h.block b (Nat.lt_of_lt_of_le hb hN) fun e => absurd (hf b (Nat.lt_of_lt_of_le hb hN) e) (by omega)⟩
theorem Turns.quiet (h : Turns noB W W') : Below W.heap.size W W' := h.below (Nat.le_refl _) fun _ _ e => e.elim
/-- What lies below N, and changed no block below N. -/
theorem Turns.on_below {w : World} (hb : Below N w W) (h : Turns fp W W') (hN : N ≤ W.heap.size) (hf : ∀ b, b < W.heap.size → fp b → N ≤ b) : Below N w W' := hb.trans (h.below hN hf)
theorem Turns.alloc (h : Turns fp W W') (o : Obj) : Turns fp W (W'.alloc o) :=
  h.trans (Turns.of_below (fp := noB) ((Below.refl _ _).alloc (Nat.le_refl _) o)) fun _ _ e => e.elim
theorem Turns.drewN (h : Turns fp W W') (k : Nat) : Turns fp W (W'.drewN k) := ⟨h.os, h.tape, h.output, h.size, h.block⟩
theorem Turns.drew (h : Turns fp W W') : Turns fp W W'.drew := ⟨h.os, h.tape, h.output, h.size, h.block⟩
theorem Turns.set (h : Turns fp W W') {a : Addr} (ha : fp a.block ∨ W.heap.size ≤ a.block) (v : Value) : Turns fp W (W'.setCell a v) :=
  ⟨h.os, h.tape, h.output, by rw [size_setCell]; exact h.size, fun b hb hn => (Below.heap_setCell W' a v b (by
    rintro rfl
    rcases ha with ha | ha
    · exact hn ha
    · omega)).trans (h.block b hb hn)⟩
theorem Turns.grown (h : Turns fp W W') {g : Option Nat} (hg : W'.grownBy W'' g) (hs : ∀ b, g = some b → fp b ∨ W.heap.size ≤ b) : Turns fp W W'' :=
  ⟨hg.os.trans h.os, hg.tape.trans h.tape, hg.output.trans h.output, Nat.le_trans h.size hg.size, fun b hb hn => (hg.block b (Nat.lt_of_lt_of_le hb h.size) (by
    intro e
    rcases hs b e.symm with h1 | h1
    · exact hn h1
    · omega)).trans (h.block b hb hn)⟩
theorem Turns.cell (h : Turns fp W W') {p : Addr} (hb : p.block < W.heap.size) (hn : ¬ fp p.block) : W'.cell? p = W.cell? p := World.cell?_of_block (h.block _ hb hn)
theorem Turns.frozen (h : Turns fp W W') {p : Addr} (hb : p.block < W.heap.size) (hn : ¬ fp p.block) : W'.frozen? p = W.frozen? p := by
  unfold World.frozen?; rw [h.block _ hb hn]
end
/-- What holds of a few blocks holds further when these have not changed. -/
def Held (R : World → (Nat → Prop) → Prop) : Prop := ∀ W W' fp fq, R W fp → Turns fq W W' → (∀ b, fp b → ¬ fq b) → R W' fp
/-- A new footprint lies within the old one and the new blocks. -/
def Grows (W : World) (fp fp' : Nat → Prop) : Prop := ∀ b, fp' b → fp b ∨ W.heap.size ≤ b
theorem Grows.apart {W W' : World} {fp fp' fq fr : Nat → Prop} (h : Grows W fp fp') (ha : ∀ b, fq b → ¬ fp b) (hq : ∀ b, fq b → b < W.heap.size) : ∀ b, fq b → ¬ fp' b := fun b hb e => by
  rcases h b e with h1 | h1
  · exact ha b hb h1
  · have := hq b hb; omega
theorem Grows.trans {W W' : World} {fp fp' fp'' : Nat → Prop} (h : Grows W fp fp') (h' : Grows W' fp' fp'') (hs : W.heap.size ≤ W'.heap.size) : Grows W fp fp'' := fun b hb => by
  rcases h' b hb with h1 | h1
  · exact h b h1
  · exact .inr (Nat.le_trans hs h1)
end Go.Proofs.Ytdleleanaihcoaa
