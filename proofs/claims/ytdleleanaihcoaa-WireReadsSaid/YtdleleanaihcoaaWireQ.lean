/- Layer 8, the laws: a reader of the project beside one of the reference. -/
import Derived.Test.YtdleleanaihcoaaWireO
import Derived.Test.YtdleleanaihcoaaWireG
namespace Go.Proofs.Ytdleleanaihcoaa
set_option maxRecDepth 20000
open Go.RowKit
set_option linter.unusedVariables false
set_option linter.unusedSimpArgs false
/-- Both readers, made since w0, in the states s and t; nothing that was there then has turned. -/
def JJ (w0 : World) (T : TypeId) (p q : Nat) (v : Value) (L : List UInt8) (W : World) (s t : Wr.St) : Prop :=
  Below w0.heap.size w0 W ∧ ∃ fp at', RdP W p s fp ∧ RRv W T q v L at' t ∧ (∀ b, fp b → ¬ fpv q v b) ∧ (∀ b, fp b → w0.heap.size ≤ b) ∧ (∀ b, fpv q v b → w0.heap.size ≤ b)
section
variable {w0 W W' : World} {T : TypeId} {p q f : Nat} {v : Value} {L : List UInt8} {s s' t t' : Wr.St} {r : Value} {args : Array Value} {l : List Int}
theorem JJ.on (h : JJ w0 T p q v L W s t) (hb : Below W.heap.size W W') : JJ w0 T p q v L W' s t := by
  obtain ⟨h0, fp, a, h1, h2, h3, h4, h5⟩ := h
  exact ⟨bel8 h0 hb, fp, a, h1.on hb, h2.keep (fq := noB) (Turns.of_below hb) fun _ _ e => e.elim, h3, h4, h5⟩
theorem JJ.dr (h : JJ w0 T p q v L W s t) : JJ w0 T p q v L W.drew s t := h.on (below_dr1 (Below.refl _ _))
theorem JJ.drN (h : JJ w0 T p q v L W s t) (k : Nat) : JJ w0 T p q v L (W.drewN k) s t := h.on (below_dr2 (Below.refl _ _) k)
theorem JJ.prog (h : JJ w0 T p q v L W s t) (hs : ∀ fp, RdP W p s fp → Calls Try.prog f args W (RSt RdP W p fp r s')) :
    Calls Try.prog f args W fun e w' => e = .returned r ∧ JJ w0 T p q v L w' s' t := by
  obtain ⟨h0, fp, a, h1, h2, h3, h4, h5⟩ := h
  refine (hs fp h1).mono ?_
  rintro e w' ⟨rfl, fp', q1, q2, q3⟩
  exact ⟨rfl, q2.on_below h0 h0.size fun b _ hb => h4 b hb, fp', a, q1, h2.keep q2 fun b hb e => h3 b e hb, fun b hb e => (q3 b hb).elim (fun h => h3 b h e) fun h => by have := h2.fp_lt b e; omega, fun b hb => (q3 b hb).elim (h4 b) fun h => Nat.le_trans h0.size h, h5⟩
theorem JJ.ref (h : JJ w0 T p q v L W s t) (hs : ∀ a, RRv W T q v L a t → Calls Try.prog f args W (RStep W T q v L r t')) :
    Calls Try.prog f args W fun e w' => e = .returned r ∧ JJ w0 T p q v L w' s t' := by
  obtain ⟨h0, fp, a, h1, h2, h3, h4, h5⟩ := h
  refine (hs a h2).mono ?_
  rintro e w' ⟨rfl, ⟨a', q1⟩, q2⟩
  exact ⟨rfl, q2.on_below h0 h0.size fun b _ hb => h5 b hb, fp, a', h1.keep q2 h3, q1, h3, h4, h5⟩
theorem JJ.progL (h : JJ w0 T p q v L W s t) (hs : ∀ fp, RdP W p s fp → Calls Try.prog f args W (RLSt RdP W p fp l s')) :
    Calls Try.prog f args W fun e w' => ∃ A c, e = .returned (.slice A l.length c) ∧ l.length ≤ 9223372036854775807 ∧ Ints w' w'.heap.size A l.length l ∧ (∀ ad, A = some ad → 0 < l.length → ¬ fpv q v ad.block) ∧ JJ w0 T p q v L w' s' t := by
  obtain ⟨h0, fp, a, h1, h2, h3, h4, h5⟩ := h
  refine (hs fp h1).mono ?_
  rintro e w' ⟨A, c, fp', rfl, k1, k2, k3, k4, q1, q2, q3⟩
  exact ⟨A, c, rfl, by omega, k3, fun ad e hn e2 => by have := h2.fp_lt _ e2; have := (k4 ad e hn).1; omega, q2.on_below h0 h0.size fun b _ hb => h4 b hb, fp', a, q1, h2.keep q2 fun b hb e => h3 b e hb, fun b hb e => (q3 b hb).elim (fun h => h3 b h e) fun h => by have := h2.fp_lt b e; omega, fun b hb => (q3 b hb).elim (h4 b) fun h => Nat.le_trans h0.size h, h5⟩
theorem JJ.refL (h : JJ w0 T p q v L W s t) (hs : ∀ a, RRv W T q v L a t → Calls Try.prog f args W (RLStep W T q v L l t')) :
    Calls Try.prog f args W fun e w' => ∃ A c, e = .returned (.slice A l.length c) ∧ l.length ≤ 9223372036854775807 ∧ Ints w' w'.heap.size A l.length l ∧ Turns (fpv q v) W w' ∧ JJ w0 T p q v L w' s t' := by
  obtain ⟨h0, fp, a, h1, h2, h3, h4, h5⟩ := h
  refine (hs a h2).mono ?_
  rintro e w' ⟨A, c, rfl, k1, k2, k3, -, ⟨a', q1⟩, q2⟩
  exact ⟨A, c, rfl, by omega, k3, q2, q2.on_below h0 h0.size fun b _ hb => h5 b hb, fp, a', h1.keep q2 h3, q1, h3, h4, h5⟩
theorem JJ.one {P : Ending → World → Prop} (h : JJ w0 T p q v L W s t) (hs : ∀ fp, RdP W p s fp → Calls Try.prog f args W P) : Calls Try.prog f args W P := by
  obtain ⟨h0, fp, a, h1, h2, h3, h4, h5⟩ := h
  exact hs fp h1
theorem JJ.two {P : Ending → World → Prop} (h : JJ w0 T p q v L W s t) (hs : ∀ a, RRv W T q v L a t → Calls Try.prog f args W P) : Calls Try.prog f args W P := by
  obtain ⟨h0, fp, a, h1, h2, h3, h4, h5⟩ := h
  exact hs a h2
end
end Go.Proofs.Ytdleleanaihcoaa
