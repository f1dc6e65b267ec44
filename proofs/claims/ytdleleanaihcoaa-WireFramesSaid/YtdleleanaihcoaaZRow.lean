/- Rows of ints of a call's own that grow by append. -/
import Derived.Test.YtdleleanaihcoaaSeqA
import Derived.Test.YtdleleanaihcoaaFoot
namespace Go.Proofs.Ytdleleanaihcoaa
set_option maxRecDepth 20000
open Go.RowKit
set_option linter.unusedVariables false
set_option linter.unusedSimpArgs false
def zv (x : Int) : Value := .int .i64 x
/-- A row of ints of the call's own. -/
def OwnZ (w : World) (N : Nat) (v : Value) (L : List Int) : Prop := w.ownsRow N 3 1 v L.length (L.map zv)
section
variable {w w' : World} {N B n : Nat} {A : Option Addr} {v : Value} {L M : List Int}
theorem OwnZ.nil (w : World) (N : Nat) : OwnZ w N (.slice none 0 0) [] := World.ownsRow_nil _ _ _ _
theorem OwnZ.alloc (h : OwnZ w N v L) (o : Obj) : OwnZ (w.alloc o) N v L := World.ownsRow.alloc h o
theorem OwnZ.drewN (h : OwnZ w N v L) (k : Nat) : OwnZ (w.drewN k) N v L := h
theorem OwnZ.lt (h : OwnZ w N v L) : ∀ k, v.ownBlock = some k → N ≤ k ∧ k < w.heap.size := World.ownsRow.lt h
theorem OwnZ.same (h : OwnZ w N v L) (hk : ∀ k, v.ownBlock = some k → w'.heap[k]? = w.heap[k]?) : OwnZ w' N v L := by
  refine ⟨h.1, ?_⟩
  rcases h.2 with hn | ⟨g, cap, cur, hv, hb, hg, rest⟩
  · exact .inl hn
  · exact .inr ⟨g, cap, cur, hv, hb, by rw [hk g (by rw [hv]; rfl)]; exact hg, rest⟩
/-- What a row of one's own is as a slice. -/
theorem OwnZ.form (h : OwnZ w N v L) : ∃ A c, v = .slice A L.length c ∧ L.length ≤ c ∧ c ≤ 9223372036854775807 ∧ Ints w w.heap.size A L.length L ∧ (∀ ad, A = some ad → N ≤ ad.block) := by
  have hown := h
  rcases h.2 with ⟨hv, h0⟩ | ⟨g, cap, cur, hv, hb, hg, hnc, hcap, hsz, htake⟩
  · have hL : L = [] := List.length_eq_zero_iff.1 h0
    subst hL
    exact ⟨none, 0, hv, Nat.le_refl _, by omega, Ints.none_, nofun⟩
  · unfold maxLen at hcap
    refine ⟨some ⟨g, 0, none⟩, cap, hv, hnc, hcap, ⟨rfl, fun _ => ⟨_, rfl, ?_, fun j hj => ?_⟩⟩, fun ad e => by injection e with e; subst e; exact hb⟩
    · exact (hown.lt g (by rw [hv]; rfl)).2
    · have h1 : (L.map zv)[j]? = some (zv (L.getD j 0)) := by rw [List.getElem?_map, List.getElem?_eq_getElem hj, List.getD_eq_getElem?_getD, List.getElem?_eq_getElem hj]; rfl
      rw [← htake, List.getElem?_take, if_pos (by omega)] at h1
      rw [add0, cell_of_row w g (0 + j) cur _ (0, 0) hg, Nat.zero_add]
      simpa [zv] using h1
end
/-- An append of one number to a row of one's own. -/
theorem wpList_appZ {w0 : World} {ops : Array Oper} {rest : List Oper} {o : Oper} {a : Act} {Q : Exit → Act → World → Prop} (hgd : o.guard = none) (s x : Operand)
    (ho : o.op = .call { callee := .builtin .append, args := #[s, x], argTypes := #[31, 31] })
    (N : Nat) (v : Value) (L : List Int) (Y : Int) (hs : a.eval s = v) (hown : OwnZ w0 N v L) (hx : a.eval x = .slice (some ⟨w0.heap.size, 0, none⟩) 1 1) (hb : L.length ≤ 1000000000000) (hN : N ≤ w0.heap.size)
    (h : ∀ v' w', OwnZ w' N v' (L ++ [Y]) → (w0.alloc (.cells #[.int .i64 Y] 3)).grownBy w' v.ownBlock → wpList Try.prog ops Q rest (a.put o.dst v') w') :
    wpList Try.prog ops Q (o :: rest) a (w0.alloc (.cells #[.int .i64 Y] 3)) := by
  obtain ⟨i0, hi, hz0, hz1, hz2⟩ := info_parts info_i64
  refine wpList_append_own_at _ hgd s x 31 ho N 3 i0 (.int .i64 0) 1 8 Try.underlying31 hi hz0 hz1 hz2 rfl (by decide) v L.length (L.map zv) hs (hown.alloc _) ⟨w0.heap.size, 0, none⟩ 1 1 [.int .i64 Y] hx rfl (cell_one_new _ _ _) (by simp [Value.oneCell']) (by unfold maxLen; omega) (by omega) (by rw [size_alloc]; omega) ?_
  intro v' w' h1 h2 _ _
  refine h v' w' ?_ h2
  unfold OwnZ
  rw [List.length_append, List.map_append]
  exact h1
end Go.Proofs.Ytdleleanaihcoaa
