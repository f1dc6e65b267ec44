/- Contracts of nat.Add and nat.Mul; a copy into a row of the call's own; the variables of a call with two numbers and a result. -/
import Derived.Test.YtfjnpmkklanopaaNatC
import Derived.Laws.CopyOwn
import Derived.Laws.NewBlocks
namespace Go.Proofs.Ytfjnpmkklanopaa
set_option maxRecDepth 20000
open Go.RowKit
set_option linter.unusedVariables false
set_option linter.unusedSimpArgs false

theorem info_u32 : (Try.prog.info? 58).map (fun i => (i.zero, i.size, i.bytes)) = some (some (.int .u32 0), 1, 4) := by kernel_rfl
theorem size_u32 : (Try.prog.info? 58).map (·.size) = some 1 := by kernel_rfl
/-- The first n from f, the others from F. -/
def over (f : Nat → Nat) (n : Nat) (F : Nat → Nat) : Nat → Nat := fun i => if i < n then f i else F i
theorem over_lt {f F : Nat → Nat} {n M : Nat} (hf : ∀ i, f i < M) (hF : ∀ i, F i < M) (i : Nat) : over f n F i < M := by
  unfold over; split
  · exact hf i
  · exact hF i
theorem row_lay {w : World} {g : Nat} {T : TypeId} {K : IntKind} {m : Nat} {F : Nat → Nat} (h : w.rowIs g T m (fun i => .int K (F i : Nat))) : w.heap[g]? = some (.cells ((List.range m).map (fun i => Value.int K (F i : Nat))).toArray T (0, 0)) := by
  obtain ⟨c, h1, h2, h3⟩ := h
  rw [h1]
  congr 2
  apply Array.ext
  · simp [h2]
  · intro i hi _
    have := h3 i (by omega)
    rw [Array.getElem?_eq_getElem hi] at this
    simpa using this
theorem Rw.of_lay {w : World} {g : Nat} {T : TypeId} {K : IntKind} {m : Nat} {F : Nat → Nat} {cs : List Value} (h : w.heap[g]? = some (.cells cs.toArray T (0, 0))) (hl : cs.length = m) (hc : ∀ i, i < m → cs[i]? = some (.int K (F i : Nat))) : Rw w g T K m F :=
  ⟨_, h, by simp [hl], fun i hi => by simpa using hc i hi⟩
theorem row_made (w : World) (n : Nat) (T : TypeId) (K : IntKind) : (w.alloc (.cells (madeCells #[.int K 0] n) T)).rowIs w.heap.size T n (fun _ => .int K ((0 : Nat) : Int)) := World.rowIs_made w _ n _
theorem Rw.made (w : World) (n : Nat) (T : TypeId) (K : IntKind) : Rw (w.alloc (.cells (madeCells #[.int K 0] n) T)) w.heap.size T K n (fun _ => 0) := .of_rowIs (row_made w n T K)
/-- copy into the head of a row of the call's own: only that row turns. -/
theorem wpList_copy_row {w : World} {ops : Array Oper} {rest : List Oper} {o : Oper} {a : Act} {Q : Exit → Act → World → Prop} (hgd : o.guard = none) (d s : Operand) (dT : TypeId)
    (ho : o.op = .call { callee := .builtin .copy, args := #[d, s], argTypes := #[dT, dT] }) (E : TypeId) (K : IntKind) (hu : Try.prog.underlying dT = some (.slice E)) (hsz : (Try.prog.info? E).map (·.size) = some 1)
    (g m B A n c dc : _) (F f : Nat → Nat) (hd : a.eval d = .slice (some ⟨g, 0, none⟩) m dc) (hs : a.eval s = .slice A n c) (hR : w.rowIs g E m (fun i => .int K (F i : Nat))) (hD : Digs w B K A n f) (hnm : n ≤ m)
    (h : ∀ w', Rw w' g E K m (over f n F) → Below g w w' → wpList Try.prog ops Q rest (a.put o.dst (goInt n)) w') : wpList Try.prog ops Q (o :: rest) a w := by
  have hlen : ((List.range n).map (fun i => Value.int K (f i : Nat))).length = n := by simp
  have hmin : n = Nat.min n m := (Nat.min_eq_left hnm).symm
  refine wpList_copy_splice hgd d s dT dT ho E hu hsz _ A m dc n c hd hs g 0 _ E (row_lay hR) ((List.range n).map (fun i => Value.int K (f i : Nat))) (by rw [hlen]; exact hmin) ?_ (by simp; omega) ?_ g w (Below.refl _ _) (Nat.le_refl _) ?_
  · intro h0
    rw [hlen] at h0
    obtain ⟨ad, rfl, -, hc⟩ := hD h0
    refine ⟨rfl, ad, rfl, fun j v hj => ?_⟩
    rw [List.getElem?_map] at hj
    by_cases hjn : j < n
    · simp [List.getElem?_range, hjn] at hj
      rw [← hj]; exact hc j hjn
    · simp [hjn] at hj
  · intro v hv
    simp only [List.mem_map, List.mem_range] at hv
    obtain ⟨i, -, rfl⟩ := hv
    rfl
  · intro w' hw' hb'
    have e : goInt (((List.range n).map (fun i => Value.int K (f i : Nat))).length : Nat) = goInt n := by rw [hlen]
    rw [e]
    refine h w' (Rw.of_lay hw'.out ?_ fun i hi => ?_) hb'
    · simp [splice]; omega
    · unfold over
      by_cases hin : i < n
      · rw [if_pos hin]
        simp only [splice, List.take_zero, List.nil_append]
        rw [List.getElem?_append_left (by simpa using hin)]
        simp [hin]
      · rw [if_neg hin]
        simp only [splice, List.take_zero, List.nil_append]
        rw [List.getElem?_append_right (by simp; omega)]
        simp only [hlen, List.getElem?_drop]
        rw [show 0 + n + (i - n) = i by omega]
        simp [hi]

/-- The walk stops ahead of a copy. -/
theorem copy_stop {P : Program} {ops : Array Oper} {Q : Exit → Act → World → Prop} {d : Option Tmp} {x : Array Operand} {T : Array TypeId} {ty : TypeId} {ps : String} {af : Array Edge} {gd : Option (Nat × Bool)} {rest : List Oper} {a : Act} {w : World}
    (h : Hid (wpList P ops Q (⟨d, .call { callee := .builtin .copy, args := x, argTypes := T }, ty, ps, af, gd⟩ :: rest) a w)) : wpList P ops Q (⟨d, .call { callee := .builtin .copy, args := x, argTypes := T }, ty, ps, af, gd⟩ :: rest) a w := h.out

/-- The variables of a call that takes two numbers and answers one: N the first block of the call's own. -/
structure Fr3 (N : Nat) (w W : World) (v1 v2 v3 : Value) : Prop where
  n1 : NBox W N v1
  n2 : NBox W (N + 1) v2
  n3 : NBox W (N + 1 + 1) v3
  bel : Below N w W
theorem Fr3.sz {N : Nat} {w W : World} {v1 v2 v3 : Value} (h : Fr3 N w W v1 v2 v3) : N + 1 + 1 < W.heap.size := h.n3.lt
theorem Fr3.start (w : World) (v1 v2 v3 : Value) : Fr3 w.heap.size w (((w.alloc (.cells #[v1] 24)).alloc (.cells #[v2] 24)).alloc (.cells #[v3] 24)) v1 v2 v3 := by
  have z1 : (w.alloc (.cells #[v1] 24)).heap.size = w.heap.size + 1 := by simp
  have z2 : ((w.alloc (.cells #[v1] 24)).alloc (.cells #[v2] 24)).heap.size = w.heap.size + 1 + 1 := by simp
  have x2 := NBox.new (w.alloc (.cells #[v1] 24)) v2
  have x3 := NBox.new ((w.alloc (.cells #[v1] 24)).alloc (.cells #[v2] 24)) v3
  rw [z1] at x2
  rw [z2] at x3
  exact ⟨((NBox.new w v1).alloc _).alloc _, x2.alloc _, x3, (((Below.refl _ _).alloc (Nat.le_refl _) _).alloc (by rw [z1]; omega) _).alloc (by rw [z2]; omega) _⟩
theorem Fr3.below {N B : Nat} {w W W' : World} {v1 v2 v3 : Value} (h : Fr3 N w W v1 v2 v3) (hb : Below B W W') (hB : N + 1 + 1 < B) : Fr3 N w W' v1 v2 v3 :=
  ⟨h.n1.below hb (by omega), h.n2.below hb (by omega), h.n3.below hb hB, h.bel.trans (hb.mono (by omega))⟩
theorem Fr3.next {N : Nat} {w W W' : World} {v1 v2 v3 : Value} (h : Fr3 N w W v1 v2 v3) (hb : Below W.heap.size W W') : Fr3 N w W' v1 v2 v3 := h.below hb h.sz
theorem below_dr (B : Nat) (w : World) (k : Nat) : Below B w (w.drewN k) := ⟨rfl, rfl, rfl, Nat.le_refl _, fun _ _ => rfl⟩
theorem below_of_grown {w w' : World} {g B : Nat} (h : w.grownBy w' (some g)) (hg : B ≤ g) (hB : B ≤ w.heap.size) : Below B w w' :=
  (Below.refl _ _).grown h hB fun x e => by injection e; omega

theorem make_u32s (n : Nat) (h : n ≤ 70368744177664) (W : World) : (Instr.makeSlice 22 (.int .i64 (n : Int)) (.int .i64 (n : Int))).run Try.prog W = .ok (.slice (some ⟨W.heap.size, 0, none⟩) n n) (W.alloc (.cells (madeCells #[.int .u32 0] n) 58)) :=
  run_make_row' (P := Try.prog) 22 58 (.int .u32 0) 4 Try.underlying22 info_u32 rfl .i64 .i64 n (by omega) (by omega) W
/-! ### Products -/
theorem nat_Mul_bad {n c n' c' : Nat} {A A' : Option Addr} {f f' : Nat → Nat} (w : World) (h : Digs w w.heap.size .u32 A n f) (h' : Digs w w.heap.size .u32 A' n' f') (hn : n ≤ 9223372036854775807) (hn' : n' ≤ 9223372036854775807)
    (hv : (Nt.vd f n && Nt.vd f' n') = false) :
    Calls Try.prog 36 #[.agg #[.slice A n c], .agg #[.slice A' n' c']] w (NRes 0 2 w) := by
  have f0 := Fr3.start w (.slice A n c) (.slice A' n' c') (.slice none 0 0)
  have d1 := (h.below f0.bel).more f0.bel.size
  have d2 := (h'.below f0.bel).more f0.bel.size
  have F0 := Lib.hid f0
  have D1 := Lib.hid d1
  have D2 := Lib.hid d2
  clear f0 d1 d2 h h'
  cases hv1 : Nt.vd f n
  · have c1 := fun W (h : Digs W W.heap.size .u32 A n f) => nat_Valid (c := c) W h hn
    rw [hv1] at c1
    have C1 := Lib.hid c1
    clear c1 hv hv1
    go_enter Try.func36, Try.ntmps36
    go_wp2_with fail
    refine (C1.out _ D1.out).mono ?_
    rintro e w1 ⟨rfl, hb1⟩
    have F1 := Lib.hid (F0.out.next hb1)
    have x3 := F1.out.n3.cell
    have z3 := F1.out.n3.free
    go_wp2_with fail
    refine bodyPost_ret (v := .tuple #[.agg #[.slice none 0 0], .int .i64 2]) (by simp [results, Try.results36, go_sem, x3]) rfl ?_
    exact ⟨none, 0, 0, rfl, F1.out.bel.setCell (by simp; omega) _, IsN.zero, by omega, by omega⟩
  · have hv2 : Nt.vd f' n' = false := by rw [hv1] at hv; simpa using hv
    have c1 := fun W (h : Digs W W.heap.size .u32 A n f) => nat_Valid (c := c) W h hn
    rw [hv1] at c1
    have C1 := Lib.hid c1
    have c2 := fun W (h : Digs W W.heap.size .u32 A' n' f') => nat_Valid (c := c') W h hn'
    rw [hv2] at c2
    have C2 := Lib.hid c2
    clear c1 c2 hv hv1 hv2
    go_enter Try.func36, Try.ntmps36
    go_wp2_with fail
    refine (C1.out _ D1.out).mono ?_
    rintro e w1 ⟨rfl, hb1⟩
    have F1 := Lib.hid (F0.out.next hb1)
    have E2 := Lib.hid ((D2.out.below hb1).more hb1.size)
    have x2 := F1.out.n2.cell
    clear hb1
    go_wp2_with fail
    refine (C2.out _ E2.out).mono ?_
    rintro e w2 ⟨rfl, hb2⟩
    have F2 := Lib.hid (F1.out.next hb2)
    have x3 := F2.out.n3.cell
    have z3 := F2.out.n3.free
    go_wp2_with fail
    refine bodyPost_ret (v := .tuple #[.agg #[.slice none 0 0], .int .i64 2]) (by simp [results, Try.results36, go_sem, x3]) rfl ?_
    exact ⟨none, 0, 0, rfl, F2.out.bel.setCell (by simp; omega) _, IsN.zero, by omega, by omega⟩


namespace Nt
/-- Where a slice of a row begins: an empty one keeps the row's head. -/
def so (l n : Nat) : Nat := if n = 0 then 0 else l
theorem so_le (l n : Nat) : so l n ≤ l := by unfold so; split <;> omega
end Nt
set_option maxRecDepth 20000 in
theorem run_slice3 (g m l n : Nat) (h : l + n ≤ m) (W : World) :
    (Instr.slice 22 (.slice (some ⟨g, 0, none⟩) m m) (some (.int .i64 (l : Int))) (some (.int .i64 ((l : Int) + (n : Int)))) (some (.int .i64 ((l : Int) + (n : Int))))).run Try.prog W = .ok (.slice (some ⟨g, Nt.so l n, none⟩) n n) W := by
  have hT : Try.prog.underlying 22 = some (.slice (Try.prog.elem 22)) := by kernel_rfl
  have hs : ∀ W, (sizeOf (Try.prog.elem 22)).run Try.prog W = .ok 1 W := fun _ => by kernel_rfl
  rw [run_slice_lhm W _ _ m m hT .i64 .i64 .i64 (l : Int) ((l : Int) + (n : Int)) ((l : Int) + (n : Int)) (by omega) (by omega) (by omega) (by omega), hs]
  have e : ((l : Int) + (n : Int)).toNat = l + n := by omega
  simp only [Result.andThen, sliced, e, Int.toNat_natCast, Nat.add_sub_cancel_left]
  congr 2
  unfold Nt.so
  by_cases h0 : n = 0
  · subst h0; simp
  · rw [if_neg (by omega), if_neg h0]
    simp [add0]
/-- A product's rows: the limbs that are done, and what they give. -/
structure MulInv (g n n' k x y : Nat) (w W : World) (G : Nat → Nat) : Prop where
  row : Rw W g 58 .u32 (n + n') G
  lt : ∀ i, G i < 4294967296
  z : ∀ i, k + n' ≤ i → G i = 0
  val : Nt.vl 4294967296 G (k + n') = Nt.vl 4294967296 (Nt.dg 4294967296 x) k * y
  bel : Below g w W
theorem MulInv.step {g n n' k x y car : Nat} {w W W' : World} {G G' : Nat → Nat} (h : MulInv g n n' k x y w W G) (hy : y < 4294967296 ^ n') (hk : k < n) (d : Nat)
    (ha : AddInv g (Nt.so k n') n' n' (n + n') (Nt.dg 4294967296 x k) (Nt.dg 4294967296 y) G car (W.drewN d) W' G') (hc : car < 4294967296) (hg : g ≤ W.heap.size) :
    MulInv g n n' (k + 1) x y w (W'.setCell ⟨g, k + n', none⟩ (.int .u32 (car : Nat))) (upd G' (k + n') car) := by
  have hsame : ∀ i, i < k ∨ k + n' ≤ i → G' i = G i := fun i hi => ha.same i (by unfold Nt.so; split <;> omega)
  refine ⟨ha.row.set rfl, upd_lt ha.lt hc _, fun i hi => ?_, ?_, ?_⟩
  · rw [upd_ne _ _ (by omega), hsame i (by omega)]; exact h.z i (by omega)
  · have e1 : k + 1 + n' = (k + n') + 1 := by omega
    rw [e1, Nt.vl_succ, Nt.vl_upd, upd_same, Nt.vl_split k n', Nt.vl_succ]
    have hv := h.val
    rw [Nt.vl_split k n'] at hv
    have ev : Nt.vl 4294967296 G' k = Nt.vl 4294967296 G k := Nt.vl_congr fun i hi => hsame i (.inl hi)
    have hy2 : Nt.vl 4294967296 (Nt.dg 4294967296 y) n' = y := Nt.vl_dg_all hy
    have h2 : Nt.vl 4294967296 (fun i => G' (k + i)) n' + car * 4294967296 ^ n' = Nt.vl 4294967296 (fun i => G (k + i)) n' + Nt.dg 4294967296 x k * y := by
      have h3 := ha.val
      rw [hy2] at h3
      by_cases h0 : n' = 0
      · subst h0; simpa [Nt.vl_zero] using h3
      · rw [Nt.so, if_neg h0] at h3; exact h3
    rw [ev, Nat.pow_add]
    have h4 := congrArg (fun z => 4294967296 ^ k * z) h2
    simp only [Nat.mul_add] at h4
    rw [Nat.add_mul, ← hv]
    grind
  · exact (h.bel.trans ((below_dr _ _ d).trans (below_of_grown ha.gr (Nat.le_refl _) (by simp; exact hg)))).setCell (Nat.le_refl _) _

set_option maxHeartbeats 400000 in
theorem nat_Mul_ok {n c n' c' x y : Nat} {A A' : Option Addr} (w : World) (h : IsN w w.heap.size A n x) (h' : IsN w w.heap.size A' n' y) (hn : n ≤ 64) (hn' : n' ≤ 64) :
    Calls Try.prog 36 #[.agg #[.slice A n c], .agg #[.slice A' n' c']] w (NRes (Nt.bv (x * y)) (Nt.be (x * y)) w) := by
  have f0 := Fr3.start w (.slice A n c) (.slice A' n' c') (.slice none 0 0)
  have d1 := (h.below f0.bel).more f0.bel.size
  have d2 := (h'.below f0.bel).more f0.bel.size
  have F0 := Lib.hid f0
  have D1 := Lib.hid d1
  have D2 := Lib.hid d2
  have c1 := fun W (h : IsN W W.heap.size A n x) => nat_Valid (c := c) W h.d (by omega)
  rw [h.vd, decide_eq_true hn] at c1
  have c2 := fun W (h : IsN W W.heap.size A' n' y) => nat_Valid (c := c') W h.d (by omega)
  rw [h'.vd, decide_eq_true hn'] at c2
  have C1 := Lib.hid c1
  have C2 := Lib.hid c2
  have hmk := make_u32s (n + n') (by omega)
  simp only [Int.natCast_add] at hmk
  clear f0 d1 d2 h h' c1 c2
  go_enter Try.func36, Try.ntmps36
  go_wp2_with fail
  refine (C1.out _ D1.out).mono ?_
  rintro e w1 ⟨rfl, hb1⟩
  have F1 := Lib.hid (F0.out.next hb1)
  have E1 := Lib.hid ((D1.out.below hb1).more hb1.size)
  have E2 := Lib.hid ((D2.out.below hb1).more hb1.size)
  have x2 := F1.out.n2.cell
  clear hb1
  go_wp2_with fail
  refine (C2.out _ E2.out).mono ?_
  rintro e w2 ⟨rfl, hb2⟩
  have F2 := Lib.hid (F1.out.next hb2)
  have G1 := Lib.hid ((E1.out.below hb2).more hb2.size)
  have G2 := Lib.hid ((E2.out.below hb2).more hb2.size)
  clear x2 hb2
  have x1 := F2.out.n1.cell
  have x2 := F2.out.n2.cell
  have x1a := fun o => (F2.out.n1.alloc o).cell
  have r0 := Rw.made w2 (n + n') 58 .u32
  have hb := (Below.refl w2.heap.size w2).alloc (Nat.le_refl _) (.cells (madeCells #[.int .u32 0] (n + n')) 58)
  have F3 := Lib.hid (F2.out.next hb)
  have H1 := Lib.hid (G1.out.below hb)
  have H2 := Lib.hid (G2.out.below hb)
  have R0 := Lib.hid r0
  have HS := Lib.hid F2.out.sz
  clear r0 hb
  go_wp2_with fail
  clear x1 x2 x1a hmk
  obtain ⟨w3, ew3⟩ : ∃ w3, w3 = w2.alloc (.cells (madeCells #[.int .u32 0] (n + n')) 58) := ⟨_, rfl⟩
  obtain ⟨g, eg⟩ : ∃ g, g = w2.heap.size := ⟨_, rfl⟩
  rw [← ew3] at F3
  rw [← ew3, ← eg] at H1 H2 R0
  rw [← ew3, ← eg]
  rw [← eg] at HS
  have hg3 : g < w3.heap.size := R0.out.lt
  clear ew3 eg
  go_loopw [30] (fun i W => ∃ (k : Nat) (G : Nat → Nat), k ≤ n ∧ i = .int .i64 k ∧ Hid (MulInv g n n' k x y w3 W G) ∧ g < W.heap.size) (fun i _ => n - (intOf i).toNat)
  case atStart => exact ⟨0, fun _ => 0, by omega, rfl, ⟨R0.out, fun _ => by omega, fun _ _ => rfl, by
      rw [Nt.vl_zero, Nat.zero_mul, Nt.vl_more (n := 0) (by omega) (fun _ _ _ => rfl), Nt.vl_zero], Below.refl _ _⟩, hg3⟩
  case round =>
    obtain ⟨k, G, hk, rfl, HI, hgW⟩ := hrel
    have F4 := Lib.hid (F3.out.below HI.out.bel HS.out)
    have x2 := F4.out.n2.cell
    by_cases hlt : k < n
    · obtain ⟨ad, v, rfl, hb, hcell, HX, v0, v1⟩ := (H1.out.below HI.out.bel).d.at_ hlt (Nt.dg_lt (B := 4294967296) (by omega) x k)
      have K2 := Lib.hid (H2.out.below HI.out.bel)
      have bz := Lib.hid (fun i (hi : n' ≤ i) => H2.out.out hi)
      have hsl := run_slice3 g (n + n') k n' (by omega)
      have k0 : (0 : Int) ≤ (k : Int) := by omega
      have k1 : (0 : Int) ≤ (k : Int) + (n' : Int) := by omega
      have k2 : (k : Int) + (n' : Int) < (n : Int) + (n' : Int) := by omega
      have k3 : IntKind.i64.wrap ((k : Int) + (n' : Int)) = (k : Int) + (n' : Int) := by rw [IntKind.wrap_i64]; omega
      have k4 : ((k : Int) + (n' : Int)).toNat = k + n' := by omega
      have HSO := Lib.hid (Nt.so_le k n')
      go_wp2_with fail
      go_region_with ((go_at_call 54; refine (nat_addProduct (B := g) (g := g) (off := Nt.so k n') (n := n') (m := n + n') (nb := n') (F := G) (b := Nt.dg 4294967296 y) (fc := Nt.dg 4294967296 x k) v _ (HI.out.row.drewN _) HI.out.lt (by have := HSO.out; omega) (by omega) (K2.out.d.drewN _) (fun i => Nt.dg_lt (by omega) y i) bz.out (by omega) (Nat.le_refl _) HX.out (Nt.dg_lt (by omega) x k)).mono ?_; rintro e w4 ⟨car, G', rfl, hcar, hA⟩; have q1 := hA.row.cell (i := k + n') (by omega); have q2 := hA.row.free (k + n'); have HA := Lib.hid hA; clear hA))
      have hN := HI.out.step ((Nt.ln_le_iff (by omega)).1 (by rw [H2.out.l]; exact Nat.le_refl _)) hlt _ HA.out hcar (by omega)
      have hN2 := hN.row.lt
      have HN := Lib.hid hN
      clear hN q1 q2 k3 k4 hsl
      go_wp2
      go_roundw
      case rel => exact ⟨k + 1, _, by omega, by go_num, HN, hN2⟩
      case measure => simp [intOf]; omega
    · obtain rfl : k = n := by omega
      have hd5 := HI.out.row.digs (B := wr.heap.size) (off := 0) (n := k + n') HI.out.row.lt (by omega)
      have e6 : (fun i => G (0 + i)) = G := by funext i; rw [Nat.zero_add]
      rw [e6] at hd5
      have cb := nat_bounded (c := k + n') _ hd5 (fun i _ => HI.out.lt i) (Nat.le_refl _) (by omega)
      have hval : Nt.vl 4294967296 G (k + n') = x * y := by rw [HI.out.val, H1.out.val]
      rw [hval] at cb
      have CB := Lib.hid cb
      clear hval hd5 e6 cb
      go_wp2_with fail
      refine CB.out.mono ?_
      rintro e w6 ⟨A3, n3, c3, rfl, hb6, hn6, hle6, hnc6⟩
      have F6 := Lib.hid (F4.out.next hb6)
      have t3 := F6.out.n3.cell
      have z3' := F6.out.n3.free
      have HN := Lib.hid (hn6.setBox t3 (.slice A3 n3 c3))
      clear hb6 hn6
      go_wp2_with fail
      refine bodyPost_ret (v := .tuple #[.agg #[.slice A3 n3 c3], .int .i64 (Nt.be (x * y))]) (by simp [results, Try.results36, go_sem, t3]) rfl ?_
      exact ⟨A3, n3, c3, rfl, F6.out.bel.setCell (by simp; omega) _, HN.out.more (by rw [size_setCell]; exact Nat.le_refl _), hle6, hnc6⟩
end Go.Proofs.Ytfjnpmkklanopaa
