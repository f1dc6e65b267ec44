/- Layer 8, the laws: a reader and a writer of the project side by side, and an item that is filled by the reader. -/
import Derived.Test.YtdleleanaihcoaaWireO
import Derived.Test.YtdleleanaihcoaaWireG
namespace Go.Proofs.Ytdleleanaihcoaa
set_option maxRecDepth 20000
open Go.RowKit
set_option linter.unusedVariables false
set_option linter.unusedSimpArgs false
/-- Reader and writer, made since w0; the writer's blocks lie below N; nothing that was there at w0 has turned. -/
def KK (w0 : World) (p q N : Nat) (W : World) (s : Wr.St) (M : List UInt8) : Prop :=
  Below w0.heap.size w0 W ∧ N ≤ W.heap.size ∧ ∃ fp fq, RdP W p s fp ∧ WrP W q M fq ∧ (∀ b, fp b → ¬ fq b) ∧ (∀ b, fp b → w0.heap.size ≤ b) ∧ (∀ b, fq b → w0.heap.size ≤ b) ∧ (∀ b, fq b → b < N)
section
variable {w0 W W' W1 : World} {p q N f : Nat} {s s' : Wr.St} {M M' : List UInt8} {r : Value} {args : Array Value} {l : List Int}
theorem KK.on (h : KK w0 p q N W s M) (hb : Below W.heap.size W W') : KK w0 p q N W' s M := by
  obtain ⟨h0, hN, fp, fq, h1, h2, h3, h4, h5, h6⟩ := h
  exact ⟨bel8 h0 hb, Nat.le_trans hN hb.size, fp, fq, h1.on hb, h2.keep (fq := noB) (Turns.of_below hb) fun _ _ e => e.elim, h3, h4, h5, h6⟩
/-- What is known of the blocks that were made between W and W1, and of a store to one of them. -/
def Mid (w0 : World) (p q N : Nat) (W W1 w' : World) (s' : Wr.St) (M : List UInt8) : Prop :=
  W1.heap.size ≤ w'.heap.size ∧ (∀ b, W.heap.size ≤ b → b < W1.heap.size → w'.heap[b]? = W1.heap[b]?) ∧ (∀ b i u, W.heap.size ≤ b → b < W1.heap.size → KK w0 p q N (w'.setCell ⟨b, i, none⟩ u) s' M)
theorem KK.mid (h : KK w0 p q N W s M) (hb : Below W.heap.size W W1) {fp fp' : Nat → Prop} (hfp : ∀ b, fp b → b < W.heap.size) {fq : Nat → Prop} (h2 : WrP W1 q M fq) (h3 : ∀ b, fp b → ¬ fq b) (h4 : ∀ b, fp b → w0.heap.size ≤ b) (h5 : ∀ b, fq b → w0.heap.size ≤ b) (h6 : ∀ b, fq b → b < N) {w' : World} (q1 : RdP w' p s' fp') (q2 : Turns fp W1 w') (q3 : Grows W1 fp fp') : Mid w0 p q N W W1 w' s' M := by
  have hN := h.2.1
  have b0 := bel8 h.1 hb
  have hsz := hb.size
  have hw : WrP w' q M fq := h2.keep q2 fun b hb e => h3 b e hb
  refine ⟨q2.size, fun b hb0 hb1 => q2.block b hb1 fun e => by have := hfp b e; omega, fun b i u hb0 hb1 => ?_⟩
  have ht : Turns (fun x => x = b) w' (w'.setCell ⟨b, i, none⟩ u) := Turns.set (fp := fun x => x = b) (a := ⟨b, i, none⟩) (Turns.refl w') (.inl rfl) u
  have hnp : ∀ x, fp' x → ¬ x = b := fun x hx e => by
    rcases q3 x hx with h | h
    · have := hfp x h; omega
    · omega
  have hnq : ∀ x, fq x → ¬ x = b := fun x hx e => by have := h6 x hx; omega
  refine ⟨?_, by rw [size_setCell]; exact Nat.le_trans hN (Nat.le_trans hsz q2.size), fp', fq, q1.keep ht hnp, hw.keep ht hnq, fun x hx e => ?_, fun x hx => ?_, h5, h6⟩
  · have hx := q2.on_below b0 b0.size fun b _ hb => h4 b hb
    exact hx.trans ((Below.refl _ _).setCell (by have := h.1.size; show _ ≤ b; omega) _)
  · rcases q3 x hx with h | h
    · exact h3 x h e
    · have := h6 x e; omega
  · rcases q3 x hx with h | h
    · exact h4 x h
    · have := b0.size; omega
theorem KK.read (h : KK w0 p q N W s M) (hb : Below W.heap.size W W1) (hs : ∀ fp, RdP W1 p s fp → Calls Try.prog f args W1 (RSt RdP W1 p fp r s')) :
    Calls Try.prog f args W1 fun e w' => e = .returned r ∧ Mid w0 p q N W W1 w' s' M := by
  obtain ⟨h0, hN, fp, fq, h1, h2, h3, h4, h5, h6⟩ := id h
  refine (hs fp (h1.on hb)).mono ?_
  rintro e w' ⟨rfl, fp', q1, q2, q3⟩
  exact ⟨rfl, h.mid hb h1.lt (h2.keep (fq := noB) (Turns.of_below hb) fun _ _ e => e.elim) h3 h4 h5 h6 q1 q2 q3⟩
theorem KK.readL (h : KK w0 p q N W s M) (hb : Below W.heap.size W W1) (hs : ∀ fp, RdP W1 p s fp → Calls Try.prog f args W1 (RLSt RdP W1 p fp l s')) :
    Calls Try.prog f args W1 fun e w' => ∃ A c, e = .returned (.slice A l.length c) ∧ l.length ≤ c ∧ c ≤ 9223372036854775807 ∧ Ints w' w'.heap.size A l.length l ∧ (∀ ad, A = some ad → 0 < l.length → W1.heap.size ≤ ad.block) ∧ Mid w0 p q N W W1 w' s' M := by
  obtain ⟨h0, hN, fp, fq, h1, h2, h3, h4, h5, h6⟩ := id h
  refine (hs fp (h1.on hb)).mono ?_
  rintro e w' ⟨A, c, fp', rfl, k1, k2, k3, k4, q1, q2, q3⟩
  exact ⟨A, c, rfl, k1, k2, k3, fun ad e hn => (k4 ad e hn).1, h.mid hb h1.lt (h2.keep (fq := noB) (Turns.of_below hb) fun _ _ e => e.elim) h3 h4 h5 h6 q1 q2 q3⟩
theorem KK.write (h : KK w0 p q N W s M) (hs : ∀ fq, WrP W q M fq → (∀ b, fq b → b < N) → Calls Try.prog f args W (WSt WrP W q fq M')) :
    Calls Try.prog f args W fun e w' => e = .returned (.tuple #[]) ∧ KK w0 p q w'.heap.size w' s M' := by
  obtain ⟨h0, hN, fp, fq, h1, h2, h3, h4, h5, h6⟩ := h
  refine (hs fq h2 h6).mono ?_
  rintro e w' ⟨rfl, fq', q1, q2, q3⟩
  exact ⟨rfl, q2.on_below h0 h0.size fun b _ hb => h5 b hb, Nat.le_refl _, fp, fq', h1.keep q2 h3, q1, fun b hb e => (q3 b e).elim (h3 b hb) fun h => by have := h1.lt b hb; omega, h4, fun b hb => (q3 b hb).elim (h5 b) fun h => Nat.le_trans h0.size h, q1.lt⟩
theorem KK.one {P : Ending → World → Prop} (h : KK w0 p q N W s M) (hs : ∀ fp, RdP W p s fp → Calls Try.prog f args W P) : Calls Try.prog f args W P := by
  obtain ⟨h0, hN, fp, fq, h1, -⟩ := h
  exact hs fp h1
theorem KK.two {P : Ending → World → Prop} (h : KK w0 p q N W s M) (hs : ∀ fq, WrP W q M fq → Calls Try.prog f args W P) : Calls Try.prog f args W P := by
  obtain ⟨h0, hN, fp, fq, h1, h2, -⟩ := h
  exact hs fq h2
end
theorem Its.bound {W : World} {P : Nat → Prop} {fq : Nat → Prop} {A : Option Addr} {n : Nat} {L : List It} (h : Its W P A n L) (hq : ∀ b, P b → ¬ fq b) : Its W (fun b => b < W.heap.size ∧ ¬ fq b) A n L :=
  ⟨h.1, fun hn => by
    obtain ⟨ad, e, hb, hp, hc⟩ := h.2 hn
    exact ⟨ad, e, hb, ⟨hb, hq _ hp⟩, fun j x hx => ⟨(hc j x hx).1, ⟨(hc j x hx).2.k0, (hc j x hx).2.k1, (hc j x hx).2.n0, (hc j x hx).2.n1, (hc j x hx).2.u1, (hc j x hx).2.z, (hc j x hx).2.s1, (hc j x hx).2.c0, (hc j x hx).2.c1, (hc j x hx).2.i, fun ad e hn => ⟨by
      obtain ⟨ad2, e2, hb2, -⟩ := (hc j x hx).2.i.2 hn
      rw [e] at e2
      injection e2 with e2
      rw [e2]; exact hb2, hq _ ((hc j x hx).2.a ad e hn)⟩⟩⟩⟩⟩
theorem KK.dr {w0 W : World} {p q N : Nat} {s : Wr.St} {M : List UInt8} (h : KK w0 p q N W s M) : KK w0 p q N W.drew s M := h.on (below_dr1 (Below.refl _ _))
/-- The beginning of a row of bytes. -/
theorem Byts.head {W : World} {B n : Nat} {A : Option Addr} {L X Z : List UInt8} (h : Byts W B A n L) (e : L = X ++ Z) : Byts W B A X.length X :=
  ⟨rfl, fun h0 => by
    have hn : X.length ≤ n := by rw [← h.1, e, List.length_append]; omega
    obtain ⟨ad, ea, hb, hc⟩ := h.2 (by omega)
    refine ⟨ad, ea, hb, fun j d hj => hc j d ?_⟩
    rw [e, List.getElem?_append_left (List.getElem?_eq_some_iff.1 hj).1]; exact hj⟩
theorem rdE_bd : ∀ (n : Nat) (s : Wr.St), ∀ y, y ∈ (Wr.rdE n s).1 → -9223372036854775808 ≤ y ∧ y ≤ 9223372036854775807
  | 0, s, y, hy => by simp [Wr.rdE] at hy
  | n + 1, s, y, hy => by
    by_cases h : s.err = 0
    · rw [Wr.rdE_more h] at hy
      rcases List.mem_cons.1 hy with rfl | hy
      · exact Wr.rdI_bd s
      · exact rdE_bd n _ y hy
    · rw [Wr.rdE_stop h] at hy; simp at hy
theorem rdL_bd (m : Int) (s : Wr.St) : ∀ y, y ∈ (Wr.rdL m s).1 → -9223372036854775808 ≤ y ∧ y ≤ 9223372036854775807 := by
  unfold Wr.rdL
  split
  · exact rdE_bd _ _
  · intro y hy; simp at hy
theorem ItOk.plain {W : World} {P : Nat → Prop} {kd a : Int} {u : Nat} {s : ByteArray} (k0 : -9223372036854775808 ≤ kd) (k1 : kd ≤ 9223372036854775807) (n0 : -9223372036854775808 ≤ a) (n1 : a ≤ 9223372036854775807) (u1 : u < 18446744073709551616) (s1 : s.size ≤ 9223372036854775807) : ItOk W P ⟨kd, a, u, s, [], none, 0⟩ :=
  ⟨k0, k1, n0, n1, u1, (fun y hy => by cases hy), s1, Nat.le_refl _, (by show (0 : Nat) ≤ _; omega), Ints.none_, (fun ad e => by cases e)⟩
theorem encAll_ge : ∀ l : List Int, l.length ≤ (Wr.encAll l).length
  | [] => Nat.le_refl _
  | x :: l => by
    have h1 := encAll_ge l
    have h2 : 0 < (Wr.encI x).length := Wr.enc_pos _
    show _ ≤ (Wr.encI x ++ Wr.encAll l).length
    rw [List.length_append, List.length_cons]; omega
/-- A block of five cells, one of them written. -/
theorem set5 {W : World} {b i : Nat} {T : TypeId} {cs : Array Value} {u : Value} (h : W.heap[b]? = some (.cells cs T (0, 0))) : (W.setCell ⟨b, i, none⟩ u).heap[b]? = some (.cells (cs.setIfInBounds i u) T (0, 0)) := by
  simp [World.setCell, Array.getElem?_modify, h]
theorem cell5 {W : World} {b i : Nat} {T : TypeId} {cs : Array Value} {v : Value} (h : W.heap[b]? = some (.cells cs T (0, 0))) (hv : cs[i]? = some v) : W.cell? ⟨b, i, none⟩ = some v := by
  simp [World.cell?, h, hv]
theorem free5 {W : World} {b i : Nat} {T : TypeId} {cs : Array Value} (h : W.heap[b]? = some (.cells cs T (0, 0))) : W.frozen? ⟨b, i, none⟩ = false := by simp [World.frozen?, h]
end Go.Proofs.Ytdleleanaihcoaa
