/- Layer 8: the reference's Writer: Bytes; a Reader: NewReader. -/
import Derived.Test.YtdleleanaihcoaaWireC
import Derived.Deep.QuietTactic
import Derived.BigQuiet
import Derived.BigRegion
namespace Go.Proofs.Ytdleleanaihcoaa
set_option maxRecDepth 20000
open Go.RowKit
set_option linter.unusedVariables false
set_option linter.unusedSimpArgs false
theorem ref8_WBytes {T : TypeId} {p : Nat} {v : Value} {L : List UInt8} (w : World) (h : RWv w T p v L) (hl : L.length ≤ 900000000000) :
    Calls Try.prog 21 #[.pointer (some ⟨p, 0, none⟩)] w (BRes L w) := by
  obtain ⟨A, c, rfl, q1, q2, q3, q4⟩ := h.own.form
  have hc : ∀ o, (w.alloc o).cell? ⟨p, 0, none⟩ = some (.slice A L.length c) := fun o => (((Below.refl _ _).alloc (Nat.le_refl _) o : Below w.heap.size w (w.alloc o)).cell (p := ⟨p, 0, none⟩) h.lt).trans h.cell
  have HB := Lib.hid (fun o => ((Below.refl w.heap.size w).alloc (Nat.le_refl _) o : Below w.heap.size w (w.alloc o)))
  clear h q4
  rcases A with _ | ad
  · have hL : L.length = 0 := by
      rcases Nat.eq_zero_or_pos L.length with e | e
      · exact e
      · obtain ⟨ad, e, -⟩ := q3.2 e; cases e
    have hL0 : L = [] := List.length_eq_zero_iff.1 hL
    subst hL0
    clear q3
    go_enter Try.func21, Try.ntmps21
    go_wp2_with fail
    go_ret
    exact ⟨_, 0, rfl, HB.out _, ⟨rfl, fun h => absurd h (by simp)⟩, OwnB.empty w, Nat.zero_le _, by omega⟩
  · have HM := Lib.hid (fun o => q3.below (HB.out o))
    clear q3
    go_enter Try.func21, Try.ntmps21
    go_wp2_with (at_builtin; refine Hid.out ?_)
    refine Lib.hid (wpList_appB rfl (.tmp 3) (.tmp 7) rfl w.heap.size _ [] rfl (OwnB.empty w) ad L.length c w.heap.size L rfl (HM.out _) (by simp; omega) (by rw [size_alloc]; exact Nat.le_succ _) ?_)
    intro v' w2 hown hg hloc
    obtain ⟨A2, c2, rfl, z1, z2, z3, -⟩ := hown.form
    have FIN : Hid (BRes L w (.returned (.slice A2 L.length c2)) w2) := by
      show BRes _ _ _ _
      exact ⟨A2, c2, rfl, (HB.out _).grown hg (by rw [size_alloc]; exact Nat.le_succ _) (fun k hk => by injection hk with hk; exact Nat.le_of_eq hk), z3, hown, z1, z2⟩
    rw [List.nil_append]
    clear hown hg hloc z1 z2 z3
    go_wp2_with fail
    go_ret
    exact FIN.out
/-- Block p is a reader of the reference, of the bytes M, in the state s: at bytes of them are read. -/
structure RRv (W : World) (T : TypeId) (p : Nat) (v : Value) (M : List UInt8) (at' : Nat) (s : Wr.St) : Prop where
  blk : W.heap[p]? = some (.cells #[v, .int .i64 (at' : Int), .int .i64 s.err] T (0, 0))
  own : OwnB W 0 v M
  ne : v.ownBlock ≠ some p
  le : at' ≤ M.length
  rest : s.rest = M.drop at'
  small : M.length ≤ 900000000000
section
variable {W W' : World} {T : TypeId} {p at' : Nat} {v : Value} {M : List UInt8} {s : Wr.St} {fq : Nat → Prop} {x y z u : Value} {t : TypeId} {b : Nat}
theorem RRv.lt (h : RRv W T p v M at' s) : p < W.heap.size := lt_of_block h.blk
theorem RRv.c0 (h : RRv W T p v M at' s) : W.cell? ⟨p, 0, none⟩ = some v := by simp [World.cell?, h.blk]
theorem RRv.c1 (h : RRv W T p v M at' s) : W.cell? ⟨p, 1, none⟩ = some (.int .i64 (at' : Int)) := by simp [World.cell?, h.blk]
theorem RRv.c2 (h : RRv W T p v M at' s) : W.cell? ⟨p, 2, none⟩ = some (.int .i64 s.err) := by simp [World.cell?, h.blk]
theorem RRv.free (h : RRv W T p v M at' s) (i : Nat) : W.frozen? ⟨p, i, none⟩ = false := by simp [World.frozen?, h.blk]
theorem RRv.fp_lt (h : RRv W T p v M at' s) : ∀ b, fpv p v b → b < W.heap.size := fun b hb => by
  rcases hb with rfl | hb
  · exact h.lt
  · exact (h.own.lt b hb).2
theorem RRv.keep (h : RRv W T p v M at' s) (ht : Turns fq W W') (ha : ∀ b, fpv p v b → ¬ fq b) : RRv W' T p v M at' s :=
  ⟨(ht.block p h.lt (ha p (.inl rfl))).trans h.blk, h.own.same fun k hk => ht.block k (h.own.lt k hk).2 (ha k (.inr hk)), h.ne, h.le, h.rest, h.small⟩
theorem set3_1 (h : W.heap[b]? = some (.cells #[x, y, z] t (0, 0))) : (W.setCell ⟨b, 1, none⟩ u).heap[b]? = some (.cells #[x, u, z] t (0, 0)) := by
  have hlt := lt_of_block h
  have h' : W.heap[b] = .cells #[x, y, z] t (0, 0) := by simpa [Array.getElem?_eq_getElem hlt] using h
  show (W.heap.modify b _)[b]? = _
  rw [Array.getElem?_eq_getElem (by simpa using hlt), Array.getElem_modify_self, h']
  rfl
theorem set3_2 (h : W.heap[b]? = some (.cells #[x, y, z] t (0, 0))) : (W.setCell ⟨b, 2, none⟩ u).heap[b]? = some (.cells #[x, y, u] t (0, 0)) := by
  have hlt := lt_of_block h
  have h' : W.heap[b] = .cells #[x, y, z] t (0, 0) := by simpa [Array.getElem?_eq_getElem hlt] using h
  show (W.heap.modify b _)[b]? = _
  rw [Array.getElem?_eq_getElem (by simpa using hlt), Array.getElem_modify_self, h']
  rfl
theorem RRv.own_set (h : RRv W T p v M at' s) (i : Nat) (u : Value) : OwnB (W.setCell ⟨p, i, none⟩ u) 0 v M :=
  h.own.same fun k hk => Below.heap_setCell _ _ _ _ (by rintro rfl; exact h.ne hk)
theorem RRv.turns_set (h : RRv W T p v M at' s) (i : Nat) (u : Value) : Turns (fpv p v) W (W.setCell ⟨p, i, none⟩ u) := (Turns.refl W).set (.inl (.inl rfl)) u
/-- The error that is kept. -/
theorem RRv.fail (h : RRv W T p v M at' s) (e : Int) : RRv (W.setCell ⟨p, 2, none⟩ (.int .i64 e)) T p v M at' ⟨s.rest, e⟩ :=
  ⟨set3_2 h.blk, h.own_set 2 _, h.ne, h.le, h.rest, h.small⟩
/-- k bytes more are read. -/
theorem RRv.step (h : RRv W T p v M at' s) {k : Nat} (hk : k ≤ s.rest.length) {X : Int} (hX : X = ((at' + k : Nat) : Int)) : RRv (W.setCell ⟨p, 1, none⟩ (.int .i64 X)) T p v M (at' + k) ⟨s.rest.drop k, s.err⟩ := by
  have hl : s.rest.length = M.length - at' := by rw [h.rest, List.length_drop]
  have := h.le
  subst hX
  exact ⟨set3_1 h.blk, h.own_set 1 _, h.ne, by omega, by show s.rest.drop k = _; rw [h.rest, List.drop_drop], h.small⟩
/-- What a reader's method leaves. -/
def RStep (W : World) (T : TypeId) (p : Nat) (v : Value) (M : List UInt8) (r : Value) (s : Wr.St) (e : Ending) (w' : World) : Prop :=
  e = .returned r ∧ (∃ at', RRv w' T p v M at' s) ∧ Turns (fpv p v) W w'
end
theorem ref8_RUint {T : TypeId} {p at' : Nat} {v : Value} {M : List UInt8} {s : Wr.St} (w : World) (h : RRv w T p v M at' s) :
    Calls Try.prog 27 #[.pointer (some ⟨p, 0, none⟩)] w (RStep w T p v M (.int .u64 ((Wr.rdU s).1 : Nat)) (Wr.rdU s).2) := by
  obtain ⟨A, c, rfl, q1, q2, q3, q4⟩ := h.own.form
  obtain ⟨R, er⟩ := s
  have hc0 := h.c0
  have hc1 := h.c1
  have hc2 : w.cell? ⟨p, 2, none⟩ = some (.int .i64 er) := h.c2
  have hf1 := h.free 1
  have hf2 := h.free 2
  have H := Lib.hid h
  by_cases he : er = 0
  · subst he
    have hR : R = M.drop at' := h.rest
    subst hR
    obtain ⟨X, N, e, hT⟩ : ∃ X N e, Wr.tk 0 (M.drop at') = (X, N, e) := ⟨_, _, _, rfl⟩
    have V := Lib.hid fun d => ref8_Take (c := c) (w.drewN d) (q3.drewN d) (Nat.le_trans h.small (by omega)) h.le
    rw [hT] at V
    by_cases he : e = 0
    · subst he
      rw [Wr.tkA_ok] at V
      have FIN : Hid (∀ wz k Y, wz = w.drewN k → Y = ((at' + N : Nat) : Int) → RStep w T p (.slice A M.length c) M (.int .u64 ((Wr.rdU ⟨M.drop at', 0⟩).1 : Nat)) (Wr.rdU ⟨M.drop at', 0⟩).2 (.returned (.int .u64 (X : Int))) (wz.setCell ⟨p, 1, none⟩ (.int .i64 Y))) := by
        rintro wz k Y rfl hY
        rw [Wr.rdU_ok hT]
        obtain ⟨-, -, h3, -, -⟩ := Wr.tk_once 0 _ X N (by omega) hT
        have H2 : RRv (w.drewN k) T p (.slice A M.length c) M at' ⟨M.drop at', 0⟩ := ⟨H.out.blk, H.out.own.drewN k, H.out.ne, H.out.le, H.out.rest, H.out.small⟩
        have G := H2.step h3 hY
        exact ⟨rfl, ⟨_, G⟩, (Turns.refl w).drewN k |>.set (.inl (.inl rfl)) _⟩
      obtain ⟨Y, hY⟩ : ∃ Y : Int, Y = ((at' + N : Nat) : Int) := ⟨_, rfl⟩
      rw [← hY] at V
      have HY := Lib.hid hY
      clear h q3 q4 hT hY
      go_enter Try.func27, Try.ntmps27
      go_wp2_with fail
      go_quiet ((go_at_call 52; exact quiet_l (V.out _)))
      go_wp2_with fail
      go_ret
      exact FIN.out _ _ _ rfl HY.out
    · have hT0 := (Wr.tk_err 0 (M.drop at')).resolve_left (by rw [hT]; exact he)
      rw [hT] at hT0
      obtain ⟨hT1, hE⟩ := hT0
      injection hT1 with hX hT1
      injection hT1 with hN _
      subst hX hN
      rw [Wr.tkA_no he] at V
      have hb : (e == 0) = false := by rw [beq_eq_false_iff_ne]; exact he
      have FIN : Hid (∀ wz k, wz = w.drewN k → RStep w T p (.slice A M.length c) M (.int .u64 ((Wr.rdU ⟨M.drop at', 0⟩).1 : Nat)) (Wr.rdU ⟨M.drop at', 0⟩).2 (.returned (.int .u64 0)) (wz.setCell ⟨p, 2, none⟩ (.int .i64 e))) := by
        rintro wz k rfl
        rw [Wr.rdU_no hT he]
        have H2 : RRv (w.drewN k) T p (.slice A M.length c) M at' ⟨M.drop at', 0⟩ := ⟨H.out.blk, H.out.own.drewN k, H.out.ne, H.out.le, H.out.rest, H.out.small⟩
        exact ⟨rfl, ⟨_, H2.fail e⟩, (Turns.refl w).drewN k |>.set (.inl (.inl rfl)) _⟩
      clear h q3 q4 hT he hE
      go_enter Try.func27, Try.ntmps27
      go_wp2_with fail
      go_quiet ((go_at_call 52; exact quiet_l (V.out _)))
      go_wp2_with fail
      go_ret
      exact FIN.out _ _ rfl
  · have FIN : Hid (RStep w T p (.slice A M.length c) M (.int .u64 ((Wr.rdU ⟨R, er⟩).1 : Nat)) (Wr.rdU ⟨R, er⟩).2 (.returned (.int .u64 0)) w) := by
      show RStep _ _ _ _ _ _ _ _ _
      rw [Wr.rdU_bad (s := ⟨R, er⟩) he]
      exact ⟨rfl, ⟨at', H.out⟩, Turns.refl _⟩
    have hb : (er == 0) = false := by rw [beq_eq_false_iff_ne]; exact he
    clear h q3 q4
    go_enter Try.func27, Try.ntmps27
    go_wp2_with fail
    go_ret
    exact FIN.out
end Go.Proofs.Ytdleleanaihcoaa
