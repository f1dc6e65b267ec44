/- Contracts of nat.Add and nat.Mul; a copy into a row of the call's own; the variables of a call with two numbers and a result. -/
import Derived.Test.YtcgbgaljjhopiaaDoorNatC
import Derived.Laws.CopyOwn
import Derived.Laws.NewBlocks
namespace Go.Proofs.YtcgbgaljjhopiaaDoor
set_option maxRecDepth 20000
open Go.RowKit
set_option linter.unusedVariables false
set_option linter.unusedSimpArgs false

theorem info_u32 : (Tryd.prog.info? 32).map (fun i => (i.zero, i.size, i.bytes)) = some (some (.int .u32 0), 1, 4) := by kernel_rfl
theorem size_u32 : (Tryd.prog.info? 32).map (·.size) = some 1 := by kernel_rfl
/-- The first n from f, the others from F. -/
def over (f : Nat → Nat) (n : Nat) (F : Nat → Nat) : Nat → Nat := fun i => if i < n then f i else F i
theorem over_lt {f F : Nat → Nat} {n M : Nat} (hf : ∀ i, f i < M) (hF : ∀ i, F i < M) (i : Nat) : over f n F i < M := by
  unfold over; split
  · exact hf i
  · exact hF i
theorem row_lay {w : World} {g : Nat} {T : TypeId} {K : IntKind} {m : Nat} {F : Nat → Nat} (h : w.rowIs g T m (fun i => .int K (F i : Nat))) : w.heap[g]? = some (.cells ((List.range m).map (fun i => Value.int K (F i : Nat))).toArray T (0, 0)) := by
  obtain ⟨c, h1, h2, h3⟩ := h
  rw [h1]
  congr 2
  apply Array.ext
  · simp [h2]
  · intro i hi _
    have := h3 i (by omega)
    rw [Array.getElem?_eq_getElem hi] at this
    simpa using this
theorem Rw.of_lay {w : World} {g : Nat} {T : TypeId} {K : IntKind} {m : Nat} {F : Nat → Nat} {cs : List Value} (h : w.heap[g]? = some (.cells cs.toArray T (0, 0))) (hl : cs.length = m) (hc : ∀ i, i < m → cs[i]? = some (.int K (F i : Nat))) : Rw w g T K m F :=
  ⟨_, h, by simp [hl], fun i hi => by simpa using hc i hi⟩
theorem row_made (w : World) (n : Nat) (T : TypeId) (K : IntKind) : (w.alloc (.cells (madeCells #[.int K 0] n) T)).rowIs w.heap.size T n (fun _ => .int K ((0 : Nat) : Int)) := World.rowIs_made w _ n _
theorem Rw.made (w : World) (n : Nat) (T : TypeId) (K : IntKind) : Rw (w.alloc (.cells (madeCells #[.int K 0] n) T)) w.heap.size T K n (fun _ => 0) := .of_rowIs (row_made w n T K)
/-- copy into the head of a row of the call's own: only that row turns. -/
theorem wpList_copy_row {w : World} {ops : Array Oper} {rest : List Oper} {o : Oper} {a : Act} {Q : Exit → Act → World → Prop} (hgd : o.guard = none) (d s : Operand) (dT : TypeId)
    (ho : o.op = .call { callee := .builtin .copy, args := #[d, s], argTypes := #[dT, dT] }) (E : TypeId) (K : IntKind) (hu : Tryd.prog.underlying dT = some (.slice E)) (hsz : (Tryd.prog.info? E).map (·.size) = some 1)
    (g m B A n c dc : _) (F f : Nat → Nat) (hd : a.eval d = .slice (some ⟨g, 0, none⟩) m dc) (hs : a.eval s = .slice A n c) (hR : w.rowIs g E m (fun i => .int K (F i : Nat))) (hD : Digs w B K A n f) (hnm : n ≤ m)
    (h : ∀ w', Rw w' g E K m (over f n F) → Below g w w' → wpList Tryd.prog ops Q rest (a.put o.dst (goInt n)) w') : wpList Tryd.prog ops Q (o :: rest) a w := by
  have hlen : ((List.range n).map (fun i => Value.int K (f i : Nat))).length = n := by simp
  have hmin : n = Nat.min n m := (Nat.min_eq_left hnm).symm
  refine wpList_copy_splice hgd d s dT dT ho E hu hsz _ A m dc n c hd hs g 0 _ E (row_lay hR) ((List.range n).map (fun i => Value.int K (f i : Nat))) (by rw [hlen]; exact hmin) ?_ (by simp; omega) ?_ g w (Below.refl _ _) (Nat.le_refl _) ?_
  · intro h0
    rw [hlen] at h0
    obtain ⟨ad, rfl, -, hc⟩ := hD h0
    refine ⟨rfl, ad, rfl, fun j v hj => ?_⟩
    rw [List.getElem?_map] at hj
    by_cases hjn : j < n
    · simp [List.getElem?_range, hjn] at hj
      rw [← hj]; exact hc j hjn
    · simp [hjn] at hj
  · intro v hv
    simp only [List.mem_map, List.mem_range] at hv
    obtain ⟨i, -, rfl⟩ := hv
    rfl
  · intro w' hw' hb'
    have e : goInt (((List.range n).map (fun i => Value.int K (f i : Nat))).length : Nat) = goInt n := by rw [hlen]
    rw [e]
    refine h w' (Rw.of_lay hw'.out ?_ fun i hi => ?_) hb'
    · simp [splice]; omega
    · unfold over
      by_cases hin : i < n
      · rw [if_pos hin]
        simp only [splice, List.take_zero, List.nil_append]
        rw [List.getElem?_append_left (by simpa using hin)]
        simp [hin]
      · rw [if_neg hin]
        simp only [splice, List.take_zero, List.nil_append]
        rw [List.getElem?_append_right (by simp; omega)]
        simp only [hlen, List.getElem?_drop]
        rw [show 0 + n + (i - n) = i by omega]
        simp [hi]

/-- The walk stops ahead of a copy. -/
theorem copy_stop {P : Program} {ops : Array Oper} {Q : Exit → Act → World → Prop} {d : Option Tmp} {x : Array Operand} {T : Array TypeId} {ty : TypeId} {ps : String} {af : Array Edge} {gd : Option (Nat × Bool)} {rest : List Oper} {a : Act} {w : World}
    (h : Hid (wpList P ops Q (⟨d, .call { callee := .builtin .copy, args := x, argTypes := T }, ty, ps, af, gd⟩ :: rest) a w)) : wpList P ops Q (⟨d, .call { callee := .builtin .copy, args := x, argTypes := T }, ty, ps, af, gd⟩ :: rest) a w := h.out

/-- The variables of a call that takes two numbers and answers one: N the first block of the call's own. -/
structure Fr3 (N : Nat) (w W : World) (v1 v2 v3 : Value) : Prop where
  n1 : NBox W N v1
  n2 : NBox W (N + 1) v2
  n3 : NBox W (N + 1 + 1) v3
  bel : Below N w W
theorem Fr3.sz {N : Nat} {w W : World} {v1 v2 v3 : Value} (h : Fr3 N w W v1 v2 v3) : N + 1 + 1 < W.heap.size := h.n3.lt
theorem Fr3.start (w : World) (v1 v2 v3 : Value) : Fr3 w.heap.size w (((w.alloc (.cells #[v1] 24)).alloc (.cells #[v2] 24)).alloc (.cells #[v3] 24)) v1 v2 v3 := by
  have z1 : (w.alloc (.cells #[v1] 24)).heap.size = w.heap.size + 1 := by simp
  have z2 : ((w.alloc (.cells #[v1] 24)).alloc (.cells #[v2] 24)).heap.size = w.heap.size + 1 + 1 := by simp
  have x2 := NBox.new (w.alloc (.cells #[v1] 24)) v2
  have x3 := NBox.new ((w.alloc (.cells #[v1] 24)).alloc (.cells #[v2] 24)) v3
  rw [z1] at x2
  rw [z2] at x3
  exact ⟨((NBox.new w v1).alloc _).alloc _, x2.alloc _, x3, (((Below.refl _ _).alloc (Nat.le_refl _) _).alloc (by rw [z1]; omega) _).alloc (by rw [z2]; omega) _⟩
theorem Fr3.below {N B : Nat} {w W W' : World} {v1 v2 v3 : Value} (h : Fr3 N w W v1 v2 v3) (hb : Below B W W') (hB : N + 1 + 1 < B) : Fr3 N w W' v1 v2 v3 :=
  ⟨h.n1.below hb (by omega), h.n2.below hb (by omega), h.n3.below hb hB, h.bel.trans (hb.mono (by omega))⟩
theorem Fr3.next {N : Nat} {w W W' : World} {v1 v2 v3 : Value} (h : Fr3 N w W v1 v2 v3) (hb : Below W.heap.size W W') : Fr3 N w W' v1 v2 v3 := h.below hb h.sz
theorem below_dr (B : Nat) (w : World) (k : Nat) : Below B w (w.drewN k) := ⟨rfl, rfl, rfl, Nat.le_refl _, fun _ _ => rfl⟩
theorem below_of_grown {w w' : World} {g B : Nat} (h : w.grownBy w' (some g)) (hg : B ≤ g) (hB : B ≤ w.heap.size) : Below B w w' :=
  (Below.refl _ _).grown h hB fun x e => by injection e; omega

theorem make_u32s (n : Nat) (h : n ≤ 70368744177664) (W : World) : (Instr.makeSlice 22 (.int .i64 (n : Int)) (.int .i64 (n : Int))).run Tryd.prog W = .ok (.slice (some ⟨W.heap.size, 0, none⟩) n n) (W.alloc (.cells (madeCells #[.int .u32 0] n) 32)) :=
  run_make_row' (P := Tryd.prog) 22 32 (.int .u32 0) 4 Tryd.underlying22 info_u32 rfl .i64 .i64 n (by omega) (by omega) W
/-! ### Products -/
namespace Nt
/-- Where a slice of a row begins: an empty one keeps the row's head. -/
def so (l n : Nat) : Nat := if n = 0 then 0 else l
theorem so_le (l n : Nat) : so l n ≤ l := by unfold so; split <;> omega
end Nt
set_option maxRecDepth 20000 in
theorem run_slice3 (g m l n : Nat) (h : l + n ≤ m) (W : World) :
    (Instr.slice 22 (.slice (some ⟨g, 0, none⟩) m m) (some (.int .i64 (l : Int))) (some (.int .i64 ((l : Int) + (n : Int)))) (some (.int .i64 ((l : Int) + (n : Int))))).run Tryd.prog W = .ok (.slice (some ⟨g, Nt.so l n, none⟩) n n) W := by
  have hT : Tryd.prog.underlying 22 = some (.slice (Tryd.prog.elem 22)) := by kernel_rfl
  have hs : ∀ W, (sizeOf (Tryd.prog.elem 22)).run Tryd.prog W = .ok 1 W := fun _ => by kernel_rfl
  rw [run_slice_lhm W _ _ m m hT .i64 .i64 .i64 (l : Int) ((l : Int) + (n : Int)) ((l : Int) + (n : Int)) (by omega) (by omega) (by omega) (by omega), hs]
  have e : ((l : Int) + (n : Int)).toNat = l + n := by omega
  simp only [Result.andThen, sliced, e, Int.toNat_natCast, Nat.add_sub_cancel_left]
  congr 2
  unfold Nt.so
  by_cases h0 : n = 0
  · subst h0; simp
  · rw [if_neg (by omega), if_neg h0]
    simp [add0]
/-- A product's rows: the limbs that are done, and what they give. -/
structure MulInv (g n n' k x y : Nat) (w W : World) (G : Nat → Nat) : Prop where
  row : Rw W g 32 .u32 (n + n') G
  lt : ∀ i, G i < 4294967296
  z : ∀ i, k + n' ≤ i → G i = 0
  val : Nt.vl 4294967296 G (k + n') = Nt.vl 4294967296 (Nt.dg 4294967296 x) k * y
  bel : Below g w W
theorem MulInv.step {g n n' k x y car : Nat} {w W W' : World} {G G' : Nat → Nat} (h : MulInv g n n' k x y w W G) (hy : y < 4294967296 ^ n') (hk : k < n) (d : Nat)
    (ha : AddInv g (Nt.so k n') n' n' (n + n') (Nt.dg 4294967296 x k) (Nt.dg 4294967296 y) G car (W.drewN d) W' G') (hc : car < 4294967296) (hg : g ≤ W.heap.size) :
    MulInv g n n' (k + 1) x y w (W'.setCell ⟨g, k + n', none⟩ (.int .u32 (car : Nat))) (upd G' (k + n') car) := by
  have hsame : ∀ i, i < k ∨ k + n' ≤ i → G' i = G i := fun i hi => ha.same i (by unfold Nt.so; split <;> omega)
  refine ⟨ha.row.set rfl, upd_lt ha.lt hc _, fun i hi => ?_, ?_, ?_⟩
  · rw [upd_ne _ _ (by omega), hsame i (by omega)]; exact h.z i (by omega)
  · have e1 : k + 1 + n' = (k + n') + 1 := by omega
    rw [e1, Nt.vl_succ, Nt.vl_upd, upd_same, Nt.vl_split k n', Nt.vl_succ]
    have hv := h.val
    rw [Nt.vl_split k n'] at hv
    have ev : Nt.vl 4294967296 G' k = Nt.vl 4294967296 G k := Nt.vl_congr fun i hi => hsame i (.inl hi)
    have hy2 : Nt.vl 4294967296 (Nt.dg 4294967296 y) n' = y := Nt.vl_dg_all hy
    have h2 : Nt.vl 4294967296 (fun i => G' (k + i)) n' + car * 4294967296 ^ n' = Nt.vl 4294967296 (fun i => G (k + i)) n' + Nt.dg 4294967296 x k * y := by
      have h3 := ha.val
      rw [hy2] at h3
      by_cases h0 : n' = 0
      · subst h0; simpa [Nt.vl_zero] using h3
      · rw [Nt.so, if_neg h0] at h3; exact h3
    rw [ev, Nat.pow_add]
    have h4 := congrArg (fun z => 4294967296 ^ k * z) h2
    simp only [Nat.mul_add] at h4
    rw [Nat.add_mul, ← hv]
    grind
  · exact (h.bel.trans ((below_dr _ _ d).trans (below_of_grown ha.gr (Nat.le_refl _) (by simp; exact hg)))).setCell (Nat.le_refl _) _

end Go.Proofs.YtcgbgaljjhopiaaDoor
