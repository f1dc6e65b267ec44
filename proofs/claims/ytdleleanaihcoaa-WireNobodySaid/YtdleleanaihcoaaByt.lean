/- Slices of bytes that read as a list; rows of bytes of a call's own that grow by append. -/
import Derived.Test.YtdleleanaihcoaaSeqA
import Derived.Test.YtdleleanaihcoaaFoot
import Derived.Deep.AppendLies
import Derived.Lib.AppendStr
namespace Go.Proofs.Ytdleleanaihcoaa
set_option maxRecDepth 20000
open Go.RowKit
set_option linter.unusedVariables false
set_option linter.unusedSimpArgs false
theorem info_u8 : (Try.prog.info? 5).map (fun i => (i.zero, i.size, i.bytes)) = some (some (.int .u8 0), 1, 1) := by kernel_rfl
def bv (c : UInt8) : Value := .int .u8 ((c.toNat : Nat) : Int)
/-- The slice (A, n) reads as the bytes L and lies below B. -/
def Byts (w : World) (B : Nat) (A : Option Addr) (n : Nat) (L : List UInt8) : Prop :=
  L.length = n ∧ (0 < n → ∃ ad, A = some ad ∧ ad.block < B ∧ ∀ j c, L[j]? = some c → w.cell? (ad.add j) = some (bv c))
/-- A row of bytes of the call's own. -/
def OwnB (w : World) (N : Nat) (v : Value) (L : List UInt8) : Prop := w.ownsRow N 5 1 v L.length (L.map bv)
section
variable {w w' : World} {N B B' n : Nat} {A : Option Addr} {v : Value} {L M : List UInt8}
theorem Byts.none_ : Byts w B A 0 [] := ⟨rfl, fun h => absurd h (by omega)⟩
theorem Byts.len (h : Byts w B A n L) : L.length = n := h.1
theorem Byts.at_ (h : Byts w B A n L) {k : Nat} (hk : k < n) : ∃ ad, A = some ad ∧ ad.block < B ∧ ∃ c : UInt8, L[k]? = some c ∧ w.cell? (ad.add k) = some (.int .u8 ((c.toNat : Nat) : Int)) := by
  obtain ⟨ad, e, hb, hc⟩ := h.2 (by omega)
  have hkl : k < L.length := by rw [h.1]; exact hk
  exact ⟨ad, e, hb, L[k], List.getElem?_eq_getElem hkl, hc k _ (List.getElem?_eq_getElem hkl)⟩
theorem Byts.keep (h : Byts w B A n L) (hk : ∀ p : Addr, p.block < B → w'.cell? p = w.cell? p) : Byts w' B A n L :=
  ⟨h.1, fun h0 => by
    obtain ⟨ad, e, hb, hc⟩ := h.2 h0
    exact ⟨ad, e, hb, fun j c hj => by rw [hk _ (by rw [block_of_add]; exact hb)]; exact hc j c hj⟩⟩
theorem Byts.more (h : Byts w B A n L) (hB : B ≤ B') : Byts w B' A n L :=
  ⟨h.1, fun h0 => by
    obtain ⟨ad, e, hb, hc⟩ := h.2 h0
    exact ⟨ad, e, Nat.lt_of_lt_of_le hb hB, hc⟩⟩
theorem Byts.below (h : Byts w B A n L) (hb : Below B w w') : Byts w' B A n L := h.keep fun _ hp => hb.cell hp
theorem Byts.on (h : Byts w w.heap.size A n L) (hb : Below w.heap.size w w') : Byts w' w'.heap.size A n L := (h.below hb).more hb.size
theorem Byts.drewN (h : Byts w B A n L) (k : Nat) : Byts (w.drewN k) B A n L := h
theorem Byts.one (w : World) (t : TypeId) {c : UInt8} {Y : Int} (hY : Y = ((c.toNat : Nat) : Int)) : Byts (w.alloc (.cells #[.int .u8 Y] t)) (w.alloc (.cells #[.int .u8 Y] t)).heap.size (some ⟨w.heap.size, 0, none⟩) 1 [c] :=
  ⟨rfl, fun _ => ⟨_, rfl, by rw [size_alloc]; exact Nat.lt_succ_self _, fun j d hj => by
    match j, hj with
    | 0, hj =>
      obtain rfl : c = d := by simpa using hj
      rw [add0, cell_of_row _ _ _ _ _ _ (heap_alloc_new w _), hY]; rfl
    | n + 1, hj => simp at hj⟩⟩
theorem OwnB.nil (w : World) (N : Nat) : OwnB w N (.slice none 0 0) [] := World.ownsRow_nil _ _ _ _
theorem OwnB.empty (w : World) : OwnB (w.alloc (.cells #[] 5)) w.heap.size (.slice (some ⟨w.heap.size, 0, none⟩) 0 0) [] :=
  ⟨rfl, .inr ⟨w.heap.size, 0, #[], rfl, Nat.le_refl _, heap_alloc_new w _, Nat.le_refl _, Nat.zero_le _, rfl, rfl⟩⟩
theorem OwnB.alloc (h : OwnB w N v L) (o : Obj) : OwnB (w.alloc o) N v L := World.ownsRow.alloc h o
theorem OwnB.drewN (h : OwnB w N v L) (k : Nat) : OwnB (w.drewN k) N v L := h
theorem OwnB.lt (h : OwnB w N v L) : ∀ k, v.ownBlock = some k → N ≤ k ∧ k < w.heap.size := World.ownsRow.lt h
/-- Where the row's block has not changed. -/
theorem OwnB.same (h : OwnB w N v L) (hk : ∀ k, v.ownBlock = some k → w'.heap[k]? = w.heap[k]?) : OwnB w' N v L := by
  refine ⟨h.1, ?_⟩
  rcases h.2 with hn | ⟨g, cap, cur, hv, hb, hg, rest⟩
  · exact .inl hn
  · exact .inr ⟨g, cap, cur, hv, hb, by rw [hk g (by rw [hv]; rfl)]; exact hg, rest⟩
theorem OwnB.base (h : OwnB w N v L) {N' : Nat} (hN : ∀ k, v.ownBlock = some k → N' ≤ k) : OwnB w N' v L := by
  refine ⟨h.1, ?_⟩
  rcases h.2 with hn | ⟨g, cap, cur, hv, hb, rest⟩
  · exact .inl hn
  · exact .inr ⟨g, cap, cur, hv, hN g (by rw [hv]; rfl), rest⟩
/-- What a row of one's own is as a slice. -/
theorem OwnB.form (h : OwnB w N v L) : ∃ A c, v = .slice A L.length c ∧ L.length ≤ c ∧ c ≤ 9223372036854775807 ∧ Byts w w.heap.size A L.length L ∧ (A = none ∨ ∃ g, A = some ⟨g, 0, none⟩) := by
  have hown := h
  rcases h.2 with ⟨hv, h0⟩ | ⟨g, cap, cur, hv, hb, hg, hnc, hcap, hsz, htake⟩
  · have hL : L = [] := List.length_eq_zero_iff.1 h0
    subst hL
    exact ⟨none, 0, hv, Nat.le_refl _, by omega, Byts.none_, .inl rfl⟩
  · unfold maxLen at hcap
    refine ⟨some ⟨g, 0, none⟩, cap, hv, hnc, hcap, ⟨rfl, fun _ => ⟨_, rfl, ?_, fun j c hj => ?_⟩⟩, .inr ⟨g, rfl⟩⟩
    · exact (hown.lt g (by rw [hv]; rfl)).2
    · have hjl : j < L.length := (List.getElem?_eq_some_iff.1 hj).1
      have h1 : (L.map bv)[j]? = some (bv c) := by rw [List.getElem?_map, hj]; rfl
      rw [← htake, List.getElem?_take, if_pos (by omega)] at h1
      rw [add0, cell_of_row w g (0 + j) cur _ (0, 0) hg, Nat.zero_add]
      simpa using h1
end
theorem news_byts {w : World} {B : Nat} {ad : Addr} {n : Nat} {M : List UInt8} (h : Byts w B (some ad) n M) : ∀ j u, (M.map bv)[j]? = some u → w.cell? (ad.add j) = some u := fun j u hj => by
  have h0 : 0 < n := by
    rcases Nat.eq_zero_or_pos n with e | e
    · have hM : M = [] := List.length_eq_zero_iff.1 (h.1.trans e)
      rw [hM] at hj; cases hj
    · exact e
  obtain ⟨ad', e, -, hc⟩ := h.2 h0
  obtain rfl : ad = ad' := by injection e
  rw [List.getElem?_map] at hj
  cases hm : M[j]? with
  | none => rw [hm] at hj; cases hj
  | some c => rw [hm] at hj; rw [hc j c hm]; simpa using hj
theorem one_byts {M : List UInt8} : ∀ u ∈ M.map bv, u.oneCell' = true := fun u hu => by
  obtain ⟨c, -, rfl⟩ := List.mem_map.1 hu
  rfl
/-- An append of bytes to a row of one's own. -/
theorem wpList_appB {w : World} {ops : Array Oper} {rest : List Oper} {o : Oper} {a : Act} {Q : Exit → Act → World → Prop} (hgd : o.guard = none) (s x : Operand)
    (ho : o.op = .call { callee := .builtin .append, args := #[s, x], argTypes := #[38, 38] })
    (N : Nat) (v : Value) (L : List UInt8) (hs : a.eval s = v) (hown : OwnB w N v L) (ad : Addr) (m c B : Nat) (M : List UInt8) (hx : a.eval x = .slice (some ad) m c) (hM : Byts w B (some ad) m M) (hb : L.length + m ≤ 1000000000000) (hN : N ≤ w.heap.size)
    (h : ∀ v' w', OwnB w' N v' (L ++ M) → w.grownBy w' v.ownBlock → (v'.ownBlock = v.ownBlock ∨ v'.ownBlock = some w.heap.size) → wpList Try.prog ops Q rest (a.put o.dst v') w') :
    wpList Try.prog ops Q (o :: rest) a w := by
  obtain ⟨i0, hi, hz0, hz1, hz2⟩ := info_parts info_u8
  refine wpList_append_own_at _ hgd s x 38 ho N 5 i0 (.int .u8 0) 1 1 Try.underlying38 hi hz0 hz1 hz2 rfl (by decide) v L.length (L.map bv) hs hown ad m c (M.map bv) hx (by rw [List.length_map, hM.len, Nat.mul_one]) (news_byts hM) one_byts (by unfold maxLen; omega) (by omega) hN ?_
  intro v' w' h1 h2 _ h4
  refine h v' w' ?_ h2 h4
  unfold OwnB
  rw [List.length_append, hM.len, List.map_append]
  exact h1
/-- The same, at a step of a region that draws. -/
theorem step_appB {w : World} {ops : Array Oper} {o : Oper} {a : Act} {K : Act → World → Prop} {Q : Exit → Act → World → Prop} {E : Prop} (hgd : o.guard = none) (s x : Operand)
    (ho : o.op = .call { callee := .builtin .append, args := #[s, x], argTypes := #[38, 38] })
    (N : Nat) (v : Value) (L : List UInt8) (hs : a.eval s = v) (hown : OwnB w N v L) (ad : Addr) (m c B : Nat) (M : List UInt8) (hx : a.eval x = .slice (some ad) m c) (hM : Byts w B (some ad) m M) (h0 : 0 < m) (hb : L.length + m ≤ 1000000000000) (hN : N ≤ w.heap.size)
    (h : ∀ g cap w', Hid (OwnB w' N (.slice (some ⟨g, 0, none⟩) (L.length + m) cap) (L ++ M)) → Hid (w.grownBy w' v.ownBlock) → Hid (v.ownBlock = some g ∨ g = w.heap.size) → K (a.put o.dst (.slice (some ⟨g, 0, none⟩) (L.length + m) cap)) w') :
    if Region.wanted o (yielded ops a.tmps) = true then Oper.wp Try.prog o a w K Q else E := by
  obtain ⟨i0, hi, hz0, hz1, hz2⟩ := info_parts info_u8
  refine step_append_lies _ hgd s x 38 ho N 5 i0 (.int .u8 0) 1 1 Try.underlying38 hi hz0 hz1 hz2 rfl (by decide) v L.length (L.map bv) hs hown ad m c (M.map bv) hx (by rw [List.length_map, hM.len, Nat.mul_one]) (news_byts hM) one_byts h0 (by unfold maxLen; omega) (by omega) hN w.heap.size rfl ?_
  intro g cap w' h1 h2 h3 _
  refine h g cap w' ?_ h2 h3
  show OwnB _ _ _ _
  unfold OwnB
  rw [List.length_append, hM.len, List.map_append]
  exact h1
/-- An append of a string's bytes, as a run: with the place where the row then is. -/
theorem run_appS (w : World) {N : Nat} {v : Value} {L : List UInt8} (hown : OwnB w N v L) (s : ByteArray) (hb : L.length + s.size ≤ 1000000000000) (hN : N ≤ w.heap.size) (ty : TypeId) :
    ∃ v' w', (Builtin.append_ #[38, 9] ty #[v, .string s]).run Try.prog w = .ok v' w' ∧ OwnB w' N v' (L ++ s.data.toList) ∧ w.grownBy w' v.ownBlock ∧ (∀ k, v'.ownBlock = some k → v.ownBlock = some k ∨ w.heap.size ≤ k) := by
  obtain ⟨i0, hi, hz0, hz1, hz2⟩ := info_parts info_u8
  have hlen : (L ++ s.data.toList).length = L.length + s.size := by rw [List.length_append, Array.length_toList]; rfl
  have hmap : (L ++ s.data.toList).map bv = L.map bv ++ Lib.strCells s := by rw [List.map_append]; rfl
  obtain ⟨v', w', hr, h2, h3, -⟩ := Lib.run_append_own_string (P := Try.prog) w N 38 9 ty 5 i0 Try.underlying38 Try.underlying9 hi hz0 hz1 hz2 v L.length (L.map bv) hown s (by unfold maxLen; omega) (by omega) hN
  refine ⟨v', w', hr, by unfold OwnB; rw [hlen, hmap]; exact h2, h3, ?_⟩
  rcases hown.2 with ⟨rfl, h0⟩ | ⟨g, cap, cur, rfl, hbg, hg, hnc, hcm, hcs, htake⟩
  · have hL : L = [] := List.length_eq_zero_iff.1 h0
    subst hL
    obtain ⟨v2, w2, hr2, g2, -, -⟩ := Lib.run_append_own_string (P := Try.prog) w w.heap.size 38 9 ty 5 i0 Try.underlying38 Try.underlying9 hi hz0 hz1 hz2 (.slice none 0 0) 0 [] (World.ownsRow_nil _ _ _ _) s (by unfold maxLen; simp at hb; omega) (by simp at hb; omega) (Nat.le_refl _)
    intro k hk
    have e : v' = v2 := by have := hr.symm.trans hr2; injection this
    subst e
    exact .inr (g2.lt k hk).1
  · intro k hk
    by_cases hroom : L.length + s.size ≤ cap
    · have hcs' : cur.size = cap := by simpa using hcs
      have hr2 := Lib.run_append_room_string (P := Try.prog) w 38 9 ty 5 i0 Try.underlying38 Try.underlying9 hi hz1 g L.length cap cur hg s hroom (by omega)
      have e := hr.symm.trans hr2
      injection e with e _
      rw [e] at hk
      exact .inl hk
    · have hr2 := Lib.run_append_grow_string (P := Try.prog) w 38 9 ty 5 i0 (.int .u8 0) Try.underlying38 Try.underlying9 hi hz0 ⟨g, 0, none⟩ L.length cap (L.map bv) (by rw [hz1, List.length_map, Nat.mul_one]) (hown.cells (g := g) rfl) s (by omega) (by omega) (by rw [hz2]; exact growslice_fits (by omega) (by omega))
      have e := hr.symm.trans hr2
      injection e with e _
      rw [e] at hk
      injection hk with hk
      exact .inr (by rw [← hk]; exact Nat.le_refl _)
/-- An append of a string's bytes to a row of one's own. -/
theorem wpList_appS {w : World} {ops : Array Oper} {rest : List Oper} {o : Oper} {a : Act} {Q : Exit → Act → World → Prop} (hgd : o.guard = none) (sl x : Operand)
    (ho : o.op = .call { callee := .builtin .append, args := #[sl, x], argTypes := #[38, 9] })
    (N : Nat) (v : Value) (L : List UInt8) (hs : a.eval sl = v) (hown : OwnB w N v L) (s : ByteArray) (hx : a.eval x = .string s) (hb : L.length + s.size ≤ 1000000000000) (hN : N ≤ w.heap.size)
    (h : ∀ v' w', OwnB w' N v' (L ++ s.data.toList) → w.grownBy w' v.ownBlock → (∀ k, v'.ownBlock = some k → v.ownBlock = some k ∨ w.heap.size ≤ k) → wpList Try.prog ops Q rest (a.put o.dst v') w') :
    wpList Try.prog ops Q (o :: rest) a w := by
  refine wpList_plain hgd fun K hK => ?_
  obtain ⟨v', w', hr, h2, h3, h4⟩ := run_appS w hown s hb hN o.type
  unfold Oper.wp execOp
  simp only [ho, resolve, invoke, builtin, Sem.run_bind, Sem.run_pure, Result.andThen_ok, List.map_toArray, List.map_cons, List.map_nil, hs, hx, hr]
  exact hK _ _ (h v' w' h2 h3 h4)
/-- What a call leaves that answers bytes of its own. -/
def BRes (L : List UInt8) (w : World) (e : Ending) (w' : World) : Prop :=
  ∃ A c, e = .returned (.slice A L.length c) ∧ Below w.heap.size w w' ∧ Byts w' w'.heap.size A L.length L ∧ OwnB w' w.heap.size (.slice A L.length c) L ∧ L.length ≤ c ∧ c ≤ 9223372036854775807
/-- string(b) for a slice of bytes that reads as L. -/
theorem conv_bytes {w : World} {B n c : Nat} {A : Option Addr} {L : List UInt8} (h : Byts w B A n L) :
    (convert 38 9 (.slice A n c)).run Try.prog w = .ok (.string ⟨L.toArray⟩) w := by
  rcases A with _ | ad
  · have hn : n = 0 := by
      rcases Nat.eq_zero_or_pos n with e | e
      · exact e
      · obtain ⟨ad, e, -⟩ := h.2 e; cases e
    subst hn
    have hL : L = [] := List.length_eq_zero_iff.1 h.1
    subst hL
    exact run_convert_bytes_nil w 38 5 Try.underlying38 Try.underlying5 0 c 9 Try.underlying9
  · have e := run_convert_bytes_back (P := Try.prog) w 38 9 5 ad c L Try.underlying38 Try.underlying5 Try.underlying9 (fun j hj => by
      have hn : 0 < n := by have := h.1; omega
      obtain ⟨ad', ea, -, hc⟩ := h.2 hn
      obtain rfl : ad = ad' := by injection ea
      exact hc j _ (List.getElem?_eq_getElem hj))
    rw [h.1] at e
    exact e
theorem OwnB.bytes {W : World} {N n c : Nat} {A : Option Addr} {L : List UInt8} (h : OwnB W N (.slice A n c) L) : Byts W W.heap.size A n L := by
  obtain ⟨A', c', e, -, -, h3, -⟩ := h.form
  injection e with e1 e2 e3
  subst e1 e2
  exact h3
end Go.Proofs.Ytdleleanaihcoaa
