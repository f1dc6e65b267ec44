/- Layer 8, the project's package wire: the Reader. -/
import Derived.Test.YtdleleanaihcoaaWireV
import Derived.Test.YtdleleanaihcoaaWireL
namespace Go.Proofs.Ytdleleanaihcoaa
set_option maxRecDepth 20000
open Go.RowKit
set_option linter.unusedVariables false
set_option linter.unusedSimpArgs false
namespace Wr
theorem tk_le (L : List UInt8) : (tk 0 L).2.1 ≤ L.length := by
  rcases tk_err 0 L with h | ⟨h, -⟩
  · exact (tk_once 0 L (tk 0 L).1 (tk 0 L).2.1 (by omega) (by rw [← h])).2.2.1
  · rw [h]; exact Nat.zero_le _
theorem rdU_any {R : List UInt8} {X N : Nat} {e : Int} (hT : tk 0 R = (X, N, e)) : rdU ⟨R, 0⟩ = (X, ⟨R.drop N, e⟩) := by
  by_cases he : e = 0
  · subst he; exact rdU_ok hT
  · have h0 := (tk_err 0 R).resolve_left (by rw [hT]; exact he)
    rw [hT] at h0
    obtain ⟨h1, -⟩ := h0
    injection h1 with hX h1
    injection h1 with hN _
    subst hX hN
    rw [rdU_no hT he, List.drop_zero]
end Wr
/-- The blocks of a reader. -/
def fpr (p : Nat) (A : Option Addr) : Nat → Prop := fun b => b = p ∨ ∃ ad, A = some ad ∧ ad.block = b
/-- Block p is a reader of the project: the bytes (A, c) are left of what it was made of. -/
structure RPv (W : World) (T : TypeId) (p : Nat) (A : Option Addr) (c : Nat) (s : Wr.St) : Prop where
  blk : W.heap[p]? = some (.cells #[.slice A s.rest.length c, .int .i64 s.err] T (0, 0))
  byt : Byts W W.heap.size A s.rest.length s.rest
  lts : ∀ ad, A = some ad → ad.block < W.heap.size
  ne : ∀ ad, A = some ad → ad.block ≠ p
  nc : s.rest.length ≤ c
  cm : c ≤ 9223372036854775807
  small : s.rest.length ≤ 900000000000
section
variable {W W' : World} {T : TypeId} {p c : Nat} {A : Option Addr} {s : Wr.St} {fq : Nat → Prop}
theorem RPv.lt (h : RPv W T p A c s) : p < W.heap.size := lt_of_block h.blk
theorem RPv.c0 (h : RPv W T p A c s) : W.cell? ⟨p, 0, none⟩ = some (.slice A s.rest.length c) := by simp [World.cell?, h.blk]
theorem RPv.c1 (h : RPv W T p A c s) : W.cell? ⟨p, 1, none⟩ = some (.int .i64 s.err) := by simp [World.cell?, h.blk]
theorem RPv.free (h : RPv W T p A c s) (i : Nat) : W.frozen? ⟨p, i, none⟩ = false := by simp [World.frozen?, h.blk]
theorem RPv.fp_lt (h : RPv W T p A c s) : ∀ b, fpr p A b → b < W.heap.size := fun b hb => by
  rcases hb with rfl | ⟨ad, e, rfl⟩
  · exact h.lt
  · exact h.lts ad e
theorem RPv.keep (h : RPv W T p A c s) (ht : Turns fq W W') (ha : ∀ b, fpr p A b → ¬ fq b) : RPv W' T p A c s :=
  ⟨(ht.block p h.lt (ha p (.inl rfl))).trans h.blk, ⟨h.byt.1, fun h0 => by
    obtain ⟨ad, e, hb, hc⟩ := h.byt.2 h0
    exact ⟨ad, e, Nat.lt_of_lt_of_le hb ht.size, fun j x hj => (ht.cell (by rw [block_of_add]; exact hb) (by rw [block_of_add]; exact ha _ (.inr ⟨ad, e, rfl⟩))).trans (hc j x hj)⟩⟩,
    fun ad e => Nat.lt_of_lt_of_le (h.lts ad e) ht.size, h.ne, h.nc, h.cm, h.small⟩
theorem RPv.on (h : RPv W T p A c s) (hb : Below W.heap.size W W') : RPv W' T p A c s := h.keep (fq := noB) (Turns.of_below hb) fun _ _ e => e
theorem RPv.al (h : RPv W T p A c s) (o : Obj) : RPv (W.alloc o) T p A c s := h.keep (fq := noB) ((Turns.refl W).alloc o) fun _ _ e => e
theorem RPv.drewN (h : RPv W T p A c s) (k : Nat) : RPv (W.drewN k) T p A c s := h.keep (fq := noB) ((Turns.refl W).drewN k) fun _ _ e => e
theorem set2_0 {x y u : Value} {t : TypeId} {b : Nat} (h : W.heap[b]? = some (.cells #[x, y] t (0, 0))) : (W.setCell ⟨b, 0, none⟩ u).heap[b]? = some (.cells #[u, y] t (0, 0)) := by
  have hlt := lt_of_block h
  have h' : W.heap[b] = .cells #[x, y] t (0, 0) := by simpa [Array.getElem?_eq_getElem hlt] using h
  show (W.heap.modify b _)[b]? = _
  rw [Array.getElem?_eq_getElem (by simpa using hlt), Array.getElem_modify_self, h']
  rfl
theorem set2_1 {x y u : Value} {t : TypeId} {b : Nat} (h : W.heap[b]? = some (.cells #[x, y] t (0, 0))) : (W.setCell ⟨b, 1, none⟩ u).heap[b]? = some (.cells #[x, u] t (0, 0)) := by
  have hlt := lt_of_block h
  have h' : W.heap[b] = .cells #[x, y] t (0, 0) := by simpa [Array.getElem?_eq_getElem hlt] using h
  show (W.heap.modify b _)[b]? = _
  rw [Array.getElem?_eq_getElem (by simpa using hlt), Array.getElem_modify_self, h']
  rfl
theorem byts_set {B n : Nat} {M : List UInt8} {i : Nat} {u : Value} (h : Byts W B A n M) (hn : ∀ ad, A = some ad → ad.block ≠ p) : Byts (W.setCell ⟨p, i, none⟩ u) B A n M :=
  ⟨h.1, fun h0 => by
    obtain ⟨ad, e, hb, hc⟩ := h.2 h0
    exact ⟨ad, e, hb, fun j x hj => (World.cell?_of_block (Below.heap_setCell W ⟨p, i, none⟩ u _ (by rw [block_of_add]; exact hn ad e))).trans (hc j x hj)⟩⟩
/-- The error that is kept. -/
theorem RPv.fail (h : RPv W T p A c s) (e : Int) : RPv (W.setCell ⟨p, 1, none⟩ (.int .i64 e)) T p A c ⟨s.rest, e⟩ :=
  ⟨set2_1 h.blk, by rw [size_setCell]; exact byts_set h.byt h.ne, fun ad e => by rw [size_setCell]; exact h.lts ad e, h.ne, h.nc, h.cm, h.small⟩
/-- Bytes of a slice from one on. -/
theorem byts_from {B n l : Nat} {M : List UInt8} (h : Byts W B A n M) (hl : l ≤ n) (hc : n ≤ c) : Byts W B (if c = l then A else A.map (·.add l)) (n - l) (M.drop l) := by
  refine ⟨by rw [List.length_drop, h.1], fun h0 => ?_⟩
  rw [if_neg (by omega)]
  obtain ⟨ad, e, hb, hcell⟩ := h.2 (by omega)
  subst e
  refine ⟨_, rfl, by rw [block_of_add]; exact hb, fun j d hj => ?_⟩
  rw [List.getElem?_drop] at hj
  rw [addr_addN]
  exact hcell _ d hj
theorem block_from {l : Nat} {ad : Addr} (h : (if c = l then A else A.map (·.add l)) = some ad) : ∃ ad', A = some ad' ∧ ad'.block = ad.block := by
  by_cases hc : c = l
  · rw [if_pos hc] at h; exact ⟨ad, h, rfl⟩
  · rw [if_neg hc] at h
    rcases A with _ | a
    · cases h
    · injection h with h
      exact ⟨a, rfl, by rw [← h, block_of_add]⟩
theorem byts_pre {B n X : Nat} {M : List UInt8} (h : Byts W B A n M) (hX : X ≤ n) : Byts W B A X (M.take X) := by
  refine ⟨by rw [List.length_take, h.1]; omega, fun h0 => ?_⟩
  obtain ⟨ad, e, hb, hcell⟩ := h.2 (by omega)
  refine ⟨ad, e, hb, fun j d hj => ?_⟩
  have hjx : j < X := by
    have := (List.getElem?_eq_some_iff.1 hj).1
    rw [List.length_take] at this
    omega
  rw [List.getElem?_take, if_pos hjx] at hj
  exact hcell j d hj
/-- l bytes more are read. -/
theorem RPv.step (h : RPv W T p A c s) {l : Nat} (hl : l ≤ s.rest.length) : RPv (W.setCell ⟨p, 0, none⟩ (.slice (if c = l then A else A.map (·.add l)) (s.rest.length - l) (c - l))) T p (if c = l then A else A.map (·.add l)) (c - l) ⟨s.rest.drop l, s.err⟩ := by
  have e : (s.rest.drop l).length = s.rest.length - l := List.length_drop ..
  have nc := h.nc
  have cm := h.cm
  have sm := h.small
  have ne : ∀ ad, (if c = l then A else A.map (·.add l)) = some ad → ad.block ≠ p := fun ad ea => by
    obtain ⟨a, e1, e2⟩ := block_from ea
    rw [← e2]; exact h.ne a e1
  refine ⟨?_, ?_, ?_, ne, ?_, by omega, ?_⟩
  · show _ = some (Obj.cells #[.slice _ (s.rest.drop l).length _, _] _ _)
    rw [e]
    exact set2_0 h.blk
  · show Byts _ _ _ (s.rest.drop l).length _
    rw [e, size_setCell]
    exact byts_set (byts_from h.byt hl h.nc) ne
  · intro ad ea
    obtain ⟨a, e1, e2⟩ := block_from ea
    rw [size_setCell, ← e2]
    exact h.lts a e1
  · show (s.rest.drop l).length ≤ _; omega
  · show (s.rest.drop l).length ≤ _; omega
theorem fpr_from {l : Nat} : ∀ b, fpr p (if c = l then A else A.map (·.add l)) b → fpr p A b := fun b hb => by
  rcases hb with rfl | ⟨ad, e, rfl⟩
  · exact .inl rfl
  · obtain ⟨a, e1, e2⟩ := block_from e
    exact .inr ⟨a, e1, e2⟩
end
theorem if_none {c l : Nat} : (if c = l then none else Option.map (·.add l) (none : Option Addr)) = none := by split <;> rfl
/-- What a reader's method leaves. -/
def RPS (W : World) (T : TypeId) (p : Nat) (A : Option Addr) (r : Value) (s : Wr.St) (e : Ending) (w' : World) : Prop :=
  e = .returned r ∧ ∃ A' c', RPv w' T p A' c' s ∧ Turns (fpr p A) W w' ∧ ∀ b, fpr p A' b → fpr p A b
theorem wireR_Err {T : TypeId} {p c : Nat} {A : Option Addr} {s : Wr.St} (w : World) (h : RPv w T p A c s) :
    Calls Try.prog 35 #[.pointer (some ⟨p, 0, none⟩)] w fun e w' => e = .returned (.int .i64 s.err) ∧ w = w' := by
  have hc1 := h.c1
  go_enter Try.func35, Try.ntmps35
  go_wp2_with fail
  go_ret
  exact ⟨rfl, rfl⟩
theorem wire_Err_nil0 (w : World) : Calls Try.prog 35 #[.pointer none] w fun e w' => e = .returned (.int .i64 5) ∧ w = w' := by
  go_enter Try.func35, Try.ntmps35
  go_wp2_with fail
  go_ret
  exact ⟨rfl, rfl⟩
theorem wireR_NewReader {A : Option Addr} {n c : Nat} {L : List UInt8} (w : World) (h : Byts w w.heap.size A n L) (hn : n ≤ 900000000000) :
    Calls Try.prog 22 #[.slice A n c] w fun e w' => ∃ p T A' c', e = .returned (.pointer (some ⟨p, 0, none⟩)) ∧ RPv w' T p A' c' ⟨L, 0⟩ ∧ Below w.heap.size w w' ∧ (∀ b, fpr p A' b → w.heap.size ≤ b) := by
  have V := Lib.hid (bytes_Clone (c := c) w h hn)
  have HL : Hid (L.length ≤ 900000000000) := by show _ ≤ _; rw [h.len]; exact hn
  clear h
  go_enter Try.func22, Try.ntmps22
  go_wp2_with (go_at_call 48; refine V.out.mono ?_; rintro e w1 ⟨A1, c1, rfl, b1, y1, o1, k1, k2⟩; have B1 := Lib.hid b1; have Y1 := Lib.hid y1; have O1 := Lib.hid o1; clear b1 y1 o1)
  go_ret
  refine ⟨_, _, _, _, rfl, ⟨heap_alloc_new _ _, ?_, ?_, ?_, k1, k2, HL.out⟩, B1.out.alloc B1.out.size _, ?_⟩
  · rw [size_alloc]; exact (Y1.out.below ((Below.refl _ _).alloc (Nat.le_refl _) _)).more (Nat.le_succ _)
  · intro ad e
    have := (O1.out.lt ad.block (by rw [e]; rfl)).2
    rw [size_alloc]; omega
  · intro ad e
    have := (O1.out.lt ad.block (by rw [e]; rfl)).2
    omega
  · intro b hb
    rcases hb with rfl | ⟨ad, e, rfl⟩
    · exact B1.out.size
    · exact (O1.out.lt ad.block (by rw [e]; rfl)).1
theorem wireR_Left {T : TypeId} {p c : Nat} {A : Option Addr} {s : Wr.St} (w : World) (h : RPv w T p A c s) :
    Calls Try.prog 33 #[.pointer (some ⟨p, 0, none⟩)] w fun e w' => e = .returned (.int .i64 (Wr.left s)) ∧ w = w' := by
  have E := Lib.hid (wireR_Err w h)
  have hc0 := h.c0
  obtain ⟨R, er⟩ := s
  by_cases he : er = 0
  · subst he
    have F : Hid ((R.length : Int) = Wr.left ⟨R, 0⟩) := rfl
    clear h
    go_enter Try.func33, Try.ntmps33
    go_wp2_with (go_at_call 35; refine E.out.mono ?_; rintro e w1 ⟨rfl, rfl⟩)
    go_ret
    exact ⟨ret_int F.out, rfl⟩
  · have F : Hid ((0 : Int) = Wr.left ⟨R, er⟩) := by show _ = _; unfold Wr.left; rw [if_neg he]
    have hb : (er == 0) = false := by rw [beq_eq_false_iff_ne]; exact he
    clear h
    go_enter Try.func33, Try.ntmps33
    go_wp2_with (go_at_call 35; refine E.out.mono ?_; rintro e w1 ⟨rfl, rfl⟩)
    go_ret
    exact ⟨ret_int F.out, rfl⟩
theorem wireR_Uint {T : TypeId} {p c : Nat} {A : Option Addr} {s : Wr.St} (w : World) (h : RPv w T p A c s) :
    Calls Try.prog 26 #[.pointer (some ⟨p, 0, none⟩)] w (RPS w T p A (.int .u64 ((Wr.rdU s).1 : Nat)) (Wr.rdU s).2) := by
  have E := Lib.hid (wireR_Err w h)
  have hc0 := h.c0
  have hc1 := h.c1
  have hf0 := h.free 0
  have hf1 := h.free 1
  obtain ⟨R, er⟩ := s
  by_cases he : er = 0
  · subst he
    have V := Lib.hid (wire_varint (c := c) w h.byt (Nat.le_trans h.small (by omega)))
    have hN := Wr.tk_le R
    obtain ⟨X, N, e, hT⟩ : ∃ X N e, Wr.tk 0 R = (X, N, e) := ⟨_, _, _, rfl⟩
    have hV : ((Wr.tk 0 R).1 = X ∧ (Wr.tk 0 R).2.1 = N ∧ (Wr.tk 0 R).2.2 = e) := by rw [hT]; exact ⟨rfl, rfl, rfl⟩
    obtain ⟨v1, v2, v3⟩ := hV
    rw [v1, v2, v3] at V
    rw [v2] at hN
    have FIN : Hid (RPS w T p A (.int .u64 ((Wr.rdU ⟨R, 0⟩).1 : Nat)) (Wr.rdU ⟨R, 0⟩).2 (.returned (.int .u64 (X : Int))) ((w.setCell ⟨p, 1, none⟩ (.int .i64 e)).setCell ⟨p, 0, none⟩ (.slice (if c = N then A else A.map (·.add N)) (R.length - N) (c - N)))) := by
      show RPS _ _ _ _ _ _ _ _
      rw [Wr.rdU_any hT]
      exact ⟨rfl, _, _, (h.fail e).step (l := N) hN, ((Turns.refl w).set (.inl (.inl rfl)) _).set (.inl (.inl rfl)) _, fpr_from⟩
    have hNi : (N : Int) ≤ (R.length : Int) := by omega
    have hRs : R.length ≤ 900000000000 := h.small
    clear h hT v1 v2 v3
    rcases A with _ | ad
    · have FIN2 : Hid (RPS w T p none (.int .u64 ((Wr.rdU ⟨R, 0⟩).1 : Nat)) (Wr.rdU ⟨R, 0⟩).2 (.returned (.int .u64 (X : Int))) ((w.setCell ⟨p, 1, none⟩ (.int .i64 e)).setCell ⟨p, 0, none⟩ (.slice none (R.length - N) (c - N)))) := by
        have h := FIN.out
        rw [if_none] at h
        exact h
      clear FIN
      go_enter Try.func26, Try.ntmps26
      go_wp2_with (first | (go_at_call 35; refine E.out.mono ?_; rintro e w1 ⟨rfl, rfl⟩) | (go_at_call 51; refine V.out.mono ?_; rintro e w1 ⟨rfl, rfl⟩))
      go_ret
      exact FIN2.out
    · obtain ⟨D, eD⟩ : ∃ D, (if c = N then some ad else some (ad.add N)) = D := ⟨_, rfl⟩
      have FIN2 : Hid (RPS w T p (some ad) (.int .u64 ((Wr.rdU ⟨R, 0⟩).1 : Nat)) (Wr.rdU ⟨R, 0⟩).2 (.returned (.int .u64 (X : Int))) ((w.setCell ⟨p, 1, none⟩ (.int .i64 e)).setCell ⟨p, 0, none⟩ (.slice D (R.length - N) (c - N)))) := by
        have h := FIN.out
        rw [show (if c = N then some ad else Option.map (·.add N) (some ad)) = D from eD] at h
        exact h
      clear FIN
      go_enter Try.func26, Try.ntmps26
      go_wp2_with (first | (go_at_call 35; refine E.out.mono ?_; rintro e w1 ⟨rfl, rfl⟩) | (go_at_call 51; refine V.out.mono ?_; rintro e w1 ⟨rfl, rfl⟩))
      go_ret
      exact FIN2.out
  · have FIN : Hid (RPS w T p A (.int .u64 ((Wr.rdU ⟨R, er⟩).1 : Nat)) (Wr.rdU ⟨R, er⟩).2 (.returned (.int .u64 0)) w) := by
      show RPS _ _ _ _ _ _ _ _
      rw [Wr.rdU_bad (s := ⟨R, er⟩) he]
      exact ⟨rfl, _, _, h, Turns.refl _, fun _ h => h⟩
    have hb : (er == 0) = false := by rw [beq_eq_false_iff_ne]; exact he
    clear h
    go_enter Try.func26, Try.ntmps26
    go_wp2_with (go_at_call 35; refine E.out.mono ?_; rintro e w1 ⟨rfl, rfl⟩)
    go_ret
    exact FIN.out
end Go.Proofs.Ytdleleanaihcoaa
