/- Slices that read as numbers; rows of a call's own, rows that grow by append: what all layers use. -/
import Derived.Test.YtdleleanaihcoaaMonA
import Derived.Below
import Derived.Lib.Hide
import Derived.LoopTactic
import Derived.Deep.OwnRows
import Derived.OneCell
import Derived.OwnWalk
import Derived.Outline
namespace Go.Proofs.Ytdleleanaihcoaa
set_option maxRecDepth 20000
open Go.RowKit
set_option linter.unusedVariables false
set_option linter.unusedSimpArgs false
theorem size_setCell (w : World) (p : Addr) (u : Value) : (w.setCell p u).heap.size = w.heap.size := by simp [World.setCell]
theorem bthn6 {w W W' : World} (h : Below w.heap.size w W) (h' : Below W.heap.size W W') : Below w.heap.size w W' := h.trans (h'.mono h.size)
theorem size_alloc (w : World) (o : Obj) : (w.alloc o).heap.size = w.heap.size + 1 := by simp
theorem below_drewN (w : World) (n : Nat) : Below w.heap.size w (w.drewN n) := ⟨rfl, rfl, rfl, Nat.le_refl _, fun _ _ => rfl⟩
/-! ### Slices that read as digits; rows of a call's own -/
/-- The slice value '.slice A n c' holds the digits f 0 .. f (n - 1) in kind K, and lies below block B. -/
def Digs (w : World) (B : Nat) (K : IntKind) (A : Option Addr) (n : Nat) (f : Nat → Nat) : Prop :=
  0 < n → ∃ ad, A = some ad ∧ ad.block < B ∧ ∀ j, j < n → w.cell? (ad.add j) = some (.int K (f j : Nat))
theorem add0 (b off k : Nat) : (⟨b, off, none⟩ : Addr).add k = ⟨b, off + k, none⟩ := by unfold Addr.add; split <;> simp_all
section
variable {w w' : World} {B B' n : Nat} {K : IntKind} {A : Option Addr} {f g : Nat → Nat}
theorem Digs.zero : Digs w B K A 0 f := fun h => absurd h (by omega)
theorem Digs.at_ (h : Digs w B K A n f) {k : Nat} (hk : k < n) {M : Nat} (hb : f k < M) :
    ∃ ad x, A = some ad ∧ ad.block < B ∧ w.cell? (ad.add k) = some (.int K x) ∧ Hid (x = (f k : Nat)) ∧ 0 ≤ x ∧ x < (M : Int) := by
  obtain ⟨ad, e, hb', hc⟩ := h (by omega)
  exact ⟨ad, _, e, hb', hc k hk, rfl, by omega, by omega⟩
theorem Digs.keep (h : Digs w B K A n f) (hk : ∀ p : Addr, p.block < B → w'.cell? p = w.cell? p) : Digs w' B K A n f := fun hn => by
  obtain ⟨ad, e, hb, hc⟩ := h hn
  exact ⟨ad, e, hb, fun j hj => (hk _ (by rw [block_of_add]; exact hb)).trans (hc j hj)⟩
theorem Digs.more (h : Digs w B K A n f) (hB : B ≤ B') : Digs w B' K A n f := fun hn => by
  obtain ⟨ad, e, hb, hc⟩ := h hn
  exact ⟨ad, e, by omega, hc⟩
theorem Digs.less {m : Nat} (h : Digs w B K A n f) (hm : m ≤ n) : Digs w B K A m f := fun hn => by
  obtain ⟨ad, e, hb, hc⟩ := h (by omega)
  exact ⟨ad, e, hb, fun j hj => hc j (by omega)⟩
theorem Digs.congr (h : Digs w B K A n f) (he : ∀ i, i < n → g i = f i) : Digs w B K A n g := fun hn => by
  obtain ⟨ad, e, hb, hc⟩ := h hn
  exact ⟨ad, e, hb, fun j hj => by rw [he j hj]; exact hc j hj⟩
theorem Digs.below (h : Digs w B K A n f) (hb : Below B w w') : Digs w' B K A n f := h.keep fun _ hp => hb.cell hp
theorem Digs.drewN (h : Digs w B K A n f) (k : Nat) : Digs (w.drewN k) B K A n f := h
theorem Digs.setCell (h : Digs w B K A n f) {p : Addr} (hB : B ≤ p.block) (u : Value) : Digs (w.setCell p u) B K A n f :=
  h.keep fun q hq => World.cell?_setCell_other w p q u (fun e => by subst e; omega)
theorem Digs.grown (h : Digs w B K A n f) {g : Nat} (hg : w.grownBy w' (some g)) (hB : B ≤ w.heap.size) (hr : B ≤ g) : Digs w' B K A n f :=
  h.keep fun p hp => World.cell?_of_block (hg.block p.block (by omega) (fun e => by injection e; omega))
end
theorem Digs.setBox {w : World} {B n : Nat} {K : IntKind} {A : Option Addr} {f : Nat → Nat} (h : Digs w B K A n f) {p : Addr} {a : Option Addr} {l c : Nat} (hc : w.cell? p = some (.slice a l c)) (u : Value) : Digs (w.setCell p u) B K A n f := fun hn => by
  obtain ⟨ad, e, hb, hd⟩ := h hn
  refine ⟨ad, e, hb, fun j hj => ?_⟩
  rw [World.cell?_setCell_other w p _ u (fun e => by have := hd j hj; rw [← e, hc] at this; cases this)]
  exact hd j hj
/-- The first m cells of block g, of type T, are digits in kind K; none is frozen. -/
def Rw (w : World) (g : Nat) (T : TypeId) (K : IntKind) (m : Nat) (F : Nat → Nat) : Prop :=
  ∃ c : Array Value, w.heap[g]? = some (.cells c T (0, 0)) ∧ m ≤ c.size ∧ ∀ i, i < m → c[i]? = some (.int K (F i : Nat))
def upd (F : Nat → Nat) (i v : Nat) : Nat → Nat := fun j => if j = i then v else F j
theorem upd_same (F : Nat → Nat) (i v : Nat) : upd F i v i = v := by simp [upd]
theorem upd_ne (F : Nat → Nat) {i j : Nat} (v : Nat) (h : j ≠ i) : upd F i v j = F j := by simp [upd, h]
theorem upd_lt {F : Nat → Nat} {M : Nat} (h : ∀ i, F i < M) {v : Nat} (hv : v < M) (i : Nat) : ∀ j, upd F i v j < M := fun j => by
  unfold upd; split
  · exact hv
  · exact h j
section
variable {w w' : World} {g m : Nat} {T : TypeId} {K : IntKind} {F G : Nat → Nat}
theorem Rw.cell (h : Rw w g T K m F) {i : Nat} (hi : i < m) : w.cell? ⟨g, i, none⟩ = some (.int K (F i : Nat)) := by
  obtain ⟨c, h1, -, h3⟩ := h
  rw [cell_of_row w g i c T (0, 0) h1]; exact h3 i hi
theorem Rw.free (h : Rw w g T K m F) (i : Nat) : w.frozen? ⟨g, i, none⟩ = false := by
  obtain ⟨c, h1, -, -⟩ := h
  simp [World.frozen?, h1]
theorem Rw.lt (h : Rw w g T K m F) : g < w.heap.size := by
  obtain ⟨c, h1, -, -⟩ := h
  exact (Array.getElem?_eq_some_iff.1 h1).1
theorem Rw.of_block (h : Rw w g T K m F) (e : w'.heap[g]? = w.heap[g]?) : Rw w' g T K m F := by
  obtain ⟨c, h1, h2, h3⟩ := h
  exact ⟨c, e.trans h1, h2, h3⟩
theorem Rw.drewN (h : Rw w g T K m F) (k : Nat) : Rw (w.drewN k) g T K m F := h
theorem Rw.congr (h : Rw w g T K m F) (he : ∀ i, i < m → F i = G i) : Rw w g T K m G := by
  obtain ⟨c, h1, h2, h3⟩ := h
  exact ⟨c, h1, h2, fun i hi => by rw [← he i hi]; exact h3 i hi⟩
theorem Rw.less {n : Nat} (h : Rw w g T K m F) (hn : n ≤ m) : Rw w g T K n F := by
  obtain ⟨c, h1, h2, h3⟩ := h
  exact ⟨c, h1, by omega, fun i hi => h3 i (by omega)⟩
theorem Rw.of_rowIs (h : w.rowIs g T m (fun i => .int K (F i : Nat))) : Rw w g T K m F := by
  obtain ⟨c, h1, h2, h3⟩ := h
  exact ⟨c, h1, by omega, h3⟩
theorem Rw.set (h : Rw w g T K m F) {i : Nat} {v : Nat} {x : Int} (hx : x = (v : Nat)) : Rw (w.setCell ⟨g, i, none⟩ (.int K x)) g T K m (upd F i v) := by
  obtain ⟨c, h1, h2, h3⟩ := h
  refine ⟨c.setIfInBounds i (.int K x), by simp [World.setCell, Array.getElem?_modify, h1], by simpa using h2, fun j hj => ?_⟩
  unfold upd
  by_cases e : j = i
  · subst e
    rw [if_pos rfl, hx, Array.getElem?_setIfInBounds_self_of_lt (by omega)]
  · rw [if_neg e, Array.getElem?_setIfInBounds_ne (Ne.symm e)]; exact h3 j hj
theorem Rw.far (h : Rw w g T K m F) {a : Addr} (ha : g ≠ a.block) (v : Value) : Rw (w.setCell a v) g T K m F := h.of_block (Below.heap_setCell w a v g ha)
theorem Rw.alloc (h : Rw w g T K m F) (o : Obj) : Rw (w.alloc o) g T K m F := h.of_block (Below.heap_alloc w o g h.lt)
theorem Rw.below {B : Nat} (h : Rw w g T K m F) (hb : Below B w w') (hg : g < B) : Rw w' g T K m F := h.of_block (hb.block g hg)
theorem Rw.digs (h : Rw w g T K m F) {B off n : Nat} (hB : g < B) (hn : off + n ≤ m) : Digs w B K (some ⟨g, off, none⟩) n (fun i => F (off + i)) :=
  fun _ => ⟨_, rfl, hB, fun j hj => by rw [add0]; exact h.cell (by omega)⟩
end
theorem below_grown {N g : Nat} {w0 w w' : World} (h : Below N w0 w) (hg : w.grownBy w' (some g)) (hN : N ≤ w.heap.size) (hr : N ≤ g) : Below N w0 w' :=
  h.grown hg hN fun x e => by injection e; omega
theorem ret_val {a b : Value} (h : a = b) : Ending.returned a = .returned b := by rw [h]
theorem Rw.of_own {w : World} {N E n : Nat} {K : IntKind} {g c : Nat} {f : Nat → Nat} {xs : List Value} (h : w.ownsRow N E 1 (.slice (some ⟨g, 0, none⟩) n c) n xs) (hx : ∀ i, i < n → xs[i]? = some (.int K (f i : Nat))) : Rw w g E K n f := by
  obtain ⟨hl, hr⟩ := h
  rcases hr with ⟨hv, -⟩ | ⟨g', cap, cur, hv, hb, hg, hnc, hcap, hsz, htake⟩
  · cases hv
  · injection hv with h1 h2 h3
    injection h1 with h1
    injection h1 with h1
    subst h1
    refine ⟨cur, hg, by omega, fun i hi => ?_⟩
    have h4 := hx i hi
    rw [← htake, List.getElem?_take, if_pos (by omega)] at h4
    simpa using h4
theorem info_i64 : (Try.prog.info? 3).map (fun i => (i.zero, i.size, i.bytes)) = some (some (.int .i64 0), 1, 8) := by kernel_rfl
theorem size_i64 : (Try.prog.info? 3).map (·.size) = some 1 := by kernel_rfl
/-- A row of the call's own that grows: its n digits are f's. -/
def OwnD (w : World) (N : Nat) (E : TypeId) (K : IntKind) (v : Value) (n : Nat) (f : Nat → Nat) : Prop := w.ownsRow N E 1 v n ((List.range n).map (fun i => Value.int K (f i : Nat)))
section
variable {w w' : World} {N n : Nat} {E : TypeId} {K : IntKind} {v : Value} {f g : Nat → Nat}
theorem OwnD.nil (w : World) (N : Nat) (E : TypeId) (K : IntKind) (f : Nat → Nat) : OwnD w N E K (.slice none 0 0) 0 f := World.ownsRow_nil w N E 1
theorem OwnD.congr (h : OwnD w N E K v n f) (he : ∀ i, i < n → f i = g i) : OwnD w N E K v n g := by
  unfold OwnD at h ⊢
  rw [show (List.range n).map (fun i => Value.int K (g i : Nat)) = (List.range n).map (fun i => Value.int K (f i : Nat)) from List.map_congr_left fun i hi => by rw [he i (List.mem_range.1 hi)]]
  exact h
theorem OwnD.alloc (h : OwnD w N E K v n f) (o : Obj) : OwnD (w.alloc o) N E K v n f := World.ownsRow.alloc h o
theorem OwnD.drewN (h : OwnD w N E K v n f) (k : Nat) : OwnD (w.drewN k) N E K v n f := h
theorem OwnD.lt (h : OwnD w N E K v n f) : ∀ k, v.ownBlock = some k → N ≤ k ∧ k < w.heap.size := World.ownsRow.lt h
theorem OwnD.below {B : Nat} (h : OwnD w N E K v n f) (hb : Below B w w') (hB : w.heap.size ≤ B) : OwnD w' N E K v n f := by
  refine ⟨h.1, ?_⟩
  rcases h.2 with hn | ⟨g', cap, cur, rfl, hb', hgg, rest⟩
  · exact .inl hn
  · refine .inr ⟨g', cap, cur, rfl, hb', ?_, rest⟩
    rw [hb.block g' (by have := (Array.getElem?_eq_some_iff.1 hgg).1; omega)]
    exact hgg
/-- What a row of one's own is as a slice. -/
theorem OwnD.form (h : OwnD w N E K v n f) : ∃ A c, v = .slice A n c ∧ n ≤ c ∧ c ≤ 9223372036854775807 ∧ Digs w w.heap.size K A n f ∧ (0 < n → ∃ g, A = some ⟨g, 0, none⟩ ∧ N ≤ g ∧ Rw w g E K n f) := by
  rcases h.2 with ⟨hv, h0⟩ | ⟨g', cap, cur, hv, hb, hg, hnc, hcap, hsz, htake⟩
  · subst h0
    exact ⟨none, 0, hv, Nat.le_refl _, by omega, Digs.zero, fun h => absurd h (by omega)⟩
  · subst hv
    unfold maxLen at hcap
    have hR : Rw w g' E K n f := by
      refine Rw.of_own (xs := (List.range n).map (fun i => Value.int K (f i : Nat))) (N := N) (c := cap) h fun i hi => ?_
      simp [hi]
    refine ⟨_, cap, rfl, hnc, hcap, ?_, fun _ => ⟨g', rfl, hb, hR⟩⟩
    have := hR.digs (B := w.heap.size) (off := 0) (n := n) hR.lt (by omega)
    simp only [Nat.zero_add] at this
    exact this
end
/-- One digit is appended, which was laid in a block of its own. -/
theorem wpList_app {w0 : World} {ops : Array Oper} {rest : List Oper} {o : Oper} {a : Act} {Q : Exit → Act → World → Prop} (hgd : o.guard = none) (s x : Operand) (T E : TypeId) (K : IntKind) (b8 : Nat)
    (ho : o.op = .call { callee := .builtin .append, args := #[s, x], argTypes := #[T, T] }) (hT : Try.prog.underlying T = some (.slice E)) (hinfo : (Try.prog.info? E).map (fun i => (i.zero, i.size, i.bytes)) = some (some (.int K 0), 1, b8)) (hb8 : b8 ≤ 8)
    (N : Nat) (v : Value) (n : Nat) (f : Nat → Nat) (y : Nat) (Y : Int) (hY : Y = (y : Nat)) (hs : a.eval s = v) (hown : OwnD w0 N E K v n f) (hx : a.eval x = .slice (some ⟨w0.heap.size, 0, none⟩) 1 1) (hn : n ≤ 1000000) (hN : N ≤ w0.heap.size)
    (h : ∀ v' w', OwnD w' N E K v' (n + 1) (upd f n y) → Below N w0 w' → (v'.ownBlock = v.ownBlock ∨ v'.ownBlock = some (w0.heap.size + 1)) → (w0.alloc (.cells #[.int K Y] E)).grownBy w' v.ownBlock → wpList Try.prog ops Q rest (a.put o.dst v') w') :
    wpList Try.prog ops Q (o :: rest) a (w0.alloc (.cells #[.int K Y] E)) := by
  obtain ⟨i0, hi, hz0, hz1, hz2⟩ := info_parts hinfo
  refine wpList_append_own_at _ hgd s x T ho N E i0 (.int K 0) 1 b8 hT hi hz0 hz1 hz2 rfl (by decide) v n _ hs (hown.alloc _) ⟨w0.heap.size, 0, none⟩ 1 1 [.int K Y] hx rfl (cell_one_new _ _ _) (by simp [Value.oneCell']) (by unfold maxLen; omega) ?_ (by simp; omega) ?_
  · have : (n + 1) * b8 ≤ (n + 1) * 8 := Nat.mul_le_mul_left _ hb8
    omega
  · intro v' w' h1 h2 _ h4
    refine h v' w' ?_ ?_ ?_ h2
    · unfold OwnD
      rw [List.range_succ, List.map_append]
      have e : (List.range n).map (fun i => Value.int K (upd f n y i : Nat)) = (List.range n).map (fun i => Value.int K (f i : Nat)) := List.map_congr_left fun i hi => by
        have := List.mem_range.1 hi
        rw [upd_ne _ _ (by omega)]
      rw [e, List.map_singleton, upd_same, ← hY]
      exact h1
    · exact ((Below.refl N w0).alloc hN _).grown h2 (by simp; omega) fun k hk => (hown.lt k hk).1
    · simpa using h4
namespace Cb
/-- A list of numbers as ints. -/
def zl (xs : List Nat) : List Int := xs.map (fun x : Nat => (x : Int))
theorem zl_len (xs : List Nat) : (zl xs).length = xs.length := List.length_map ..
theorem zl_getD {xs : List Nat} {i : Nat} (h : i < xs.length) : (zl xs).getD i 0 = ((xs.getD i 0 : Nat) : Int) := by simp [zl, List.getD, h]
end Cb
/-- A row of one's own that reads as a list of numbers. -/
def OwnL (w : World) (N : Nat) (v : Value) (xs : List Nat) : Prop := OwnD w N 3 .i64 v xs.length (fun i => xs.getD i 0)
theorem OwnL.nil (w : World) (N : Nat) : OwnL w N (.slice none 0 0) [] := OwnD.nil _ _ _ _ _
theorem OwnL.snoc {w : World} {N : Nat} {v : Value} {xs : List Nat} {y : Nat} (h : OwnD w N 3 .i64 v (xs.length + 1) (upd (fun i => xs.getD i 0) xs.length y)) : OwnL w N v (xs ++ [y]) := by
  unfold OwnL
  rw [List.length_append, List.length_singleton]
  refine h.congr fun i hi => ?_
  by_cases hx : i < xs.length
  · rw [upd_ne _ _ (by omega)]; simp [List.getD, List.getElem?_append_left hx, hx]
  · rw [show i = xs.length by omega, upd_same]; simp [List.getD]
theorem digs_ints {w : World} {B : Nat} {A : Option Addr} {xs : List Nat} (h : Digs w B .i64 A xs.length (fun i => xs.getD i 0)) : Ints w B A xs.length (Cb.zl xs) := by
  refine ⟨Cb.zl_len xs, fun h0 => ?_⟩
  obtain ⟨ad, e, hb, hc⟩ := h h0
  refine ⟨ad, e, hb, fun j hj => ?_⟩
  rw [hc j hj]
  simp [Cb.zl, List.getD, hj]
theorem OwnL.out {w : World} {N : Nat} {v : Value} {xs : List Nat} (h : OwnL w N v xs) : ∃ A c, v = .slice A xs.length c ∧ xs.length ≤ c ∧ c ≤ 9223372036854775807 ∧ Ints w w.heap.size A xs.length (Cb.zl xs) := by
  obtain ⟨A, c, h1, h2, h3, h4, -⟩ := OwnD.form h
  exact ⟨A, c, h1, h2, h3, digs_ints h4⟩
/-- What a call leaves that answers a list of numbers and another value. -/
def LRes (xs : List Nat) (u : Value) (w : World) (e : Ending) (w' : World) : Prop :=
  ∃ A c, e = .returned (.tuple #[.slice A xs.length c, u]) ∧ Below w.heap.size w w' ∧ Ints w' w'.heap.size A xs.length (Cb.zl xs) ∧ xs.length ≤ c ∧ c ≤ 9223372036854775807
theorem ints_digs {w : World} {B : Nat} {A : Option Addr} {xs : List Nat} {n : Nat} (h : Ints w B A n (Cb.zl xs)) (hn : xs.length = n) : Digs w B .i64 A n (fun i => xs.getD i 0) := fun h0 => by
  obtain ⟨ad, e, hb, hc⟩ := h.2 h0
  exact ⟨ad, e, hb, fun j hj => by rw [hc j hj, Cb.zl_getD (by omega)]⟩
theorem make_cap (K : Nat) (h : K ≤ 80) (W : World) : (Instr.makeSlice 31 (.int .i64 0) (.int .i64 (K : Int))).run Try.prog W = .ok (.slice (some ⟨W.heap.size, 0, none⟩) 0 K) (W.alloc (.cells (madeCells #[.int .i64 0] K) 3)) := by
  obtain ⟨i0, hi, hz0, hz1, hz2⟩ := info_parts info_i64
  have hr := run_make (P := Try.prog) W 31 3 i0 (.int .i64 0) Try.underlying31 hi hz0 .i64 .i64 0 (K : Int) (Int.le_refl _) (by omega) (by rw [hz2]; omega) (by omega)
  simp only [Int.toNat_zero, Int.toNat_natCast, hz1, Nat.mul_one] at hr
  exact hr
theorem made_size (K : Nat) : (madeCells #[.int .i64 0] K).size = K := by
  have := size_madeCells #[.int .i64 0] K
  simpa using this
theorem OwnL.made (w : World) {B K : Nat} (hB : B ≤ w.heap.size) (hK : K ≤ 80) : OwnL (w.alloc (.cells (madeCells #[.int .i64 0] K) 3)) B (.slice (some ⟨w.heap.size, 0, none⟩) 0 K) [] := by
  have h := World.ownsRow_made (base := B) (e := 3) (size := 1) w (madeCells #[.int .i64 0] K) K hB (by unfold maxLen; omega) (by rw [Nat.mul_one]; exact made_size K)
  exact h
end Go.Proofs.Ytdleleanaihcoaa
