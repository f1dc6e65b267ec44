/- What Split's closure does: one unit more for the part with the first greatest remainder, whose remainder becomes 0. Rows of ints and boxes that a call made. -/
import Derived.Test.YtckimajnhdefcaaDoorMonD
import Derived.Test.YtckimajnhdefcaaDoorShelf
import Derived.Deep.OwnRows
import Derived.OneCell
namespace Go.Proofs.YtckimajnhdefcaaDoor
open Go.RowKit

theorem info_int : (Tryd.prog.info? 3).map (fun i => (i.zero, i.size, i.bytes)) = some (some (.int .i64 0), 1, 8) := by kernel_rfl
/-- Block g holds just the ints xs. -/
def Row (w : World) (g : Nat) (xs : List Int) : Prop := w.rowIs g 3 xs.length (fun i => .int .i64 (xs.getD i 0))
/-- Block b is a variable that holds v. -/
def Box (w : World) (b : Nat) (v : Value) : Prop := w.heap[b]? = some (.cells #[v] 22 (0, 0))
section
variable {w w' : World} {g b : Nat} {xs : List Int} {v : Value}
theorem Row.cell (h : Row w g xs) {i : Nat} (hi : i < xs.length) : w.cell? ⟨g, i, none⟩ = some (.int .i64 (xs.getD i 0)) := World.rowIs.cell h hi
theorem Row.free (h : Row w g xs) (i : Nat) : w.frozen? ⟨g, i, none⟩ = false := World.rowIs.frozen h i
theorem Row.lt (h : Row w g xs) : g < w.heap.size := World.rowIs.lt h
theorem Row.drewN (h : Row w g xs) (k : Nat) : Row (w.drewN k) g xs := h
theorem Row.set (h : Row w g xs) {i : Nat} (hi : i < xs.length) (v : Int) : Row (w.setCell ⟨g, i, none⟩ (.int .i64 v)) g (xs.set i v) := by
  unfold Row at h ⊢
  rw [List.length_set]
  refine (World.rowIs.set h i _).congr fun j hj => ?_
  rw [Mn.getD_set _ _ _ _ hi]
  by_cases e : j = i <;> simp [e]
theorem Row.far (h : Row w g xs) {a : Addr} (ha : g ≠ a.block) (v : Value) : Row (w.setCell a v) g xs := World.rowIs.setOther h ha v
theorem Row.alloc (h : Row w g xs) (o : Obj) : Row (w.alloc o) g xs := World.rowIs.alloc h o
theorem Row.below {B : Nat} (h : Row w g xs) (hb : Below B w w') (hg : g < B) : Row w' g xs := World.rowIs.of_block h (hb.block g hg)
theorem Row.ints (h : Row w g xs) {B : Nat} (hB : g < B) : Ints w B (some ⟨g, 0, none⟩) xs.length xs :=
  ⟨rfl, fun _ => ⟨_, rfl, hB, fun j hj => by
    have : (⟨g, 0, none⟩ : Addr).add j = ⟨g, j, none⟩ := by unfold Addr.add; split <;> simp_all
    rw [this]; exact h.cell hj⟩⟩
theorem Row.made (w : World) (n : Nat) : Row (w.alloc (.cells (madeCells #[.int .i64 0] n) 3)) w.heap.size (List.replicate n 0) := by
  unfold Row
  rw [List.length_replicate]
  refine (World.rowIs_made w _ n _).congr fun j hj => ?_
  simp [List.getD, hj]
theorem Box.cell (h : Box w b v) : w.cell? ⟨b, 0, none⟩ = some v := cell_of_one h
theorem Box.free (h : Box w b v) : w.frozen? ⟨b, 0, none⟩ = false := free_of_one h
theorem Box.lt (h : Box w b v) : b < w.heap.size := lt_of_block h
theorem Box.drewN (h : Box w b v) (k : Nat) : Box (w.drewN k) b v := h
theorem Box.far (h : Box w b v) {a : Addr} (ha : b ≠ a.block) (u : Value) : Box (w.setCell a u) b v := (Below.heap_setCell w a u b ha).trans h
theorem Box.alloc (h : Box w b v) (o : Obj) : Box (w.alloc o) b v := (Below.heap_alloc w o b h.lt).trans h
theorem Box.below {B : Nat} (h : Box w b v) (hb : Below B w w') (hg : b < B) : Box w' b v := (hb.block b hg).trans h
theorem Box.new (w : World) (v : Value) : Box (w.alloc (.cells #[v] 22)) w.heap.size v := heap_alloc_new w _
end

theorem below_draws (B : Nat) (w : World) (k : Nat) : Below B w (w.drewN k) := ⟨rfl, rfl, rfl, Nat.le_refl _, fun _ _ => rfl⟩

namespace Mn
theorem maxOf_spec (R : List Int) : ∀ k, 0 < k → k ≤ R.length → Lib.maxOf (R.take k) = R.getD (amx R (k - 1)) 0
  | 0, h, _ => absurd h (by omega)
  | 1, _, _ => by rw [Lib.maxOf_one]; rfl
  | k + 2, _, h => by
    rw [Lib.maxOf_step R (k + 1) (by omega) (by omega), maxOf_spec R (k + 1) (by omega) (by omega)]
    show max (R.getD (amx R k) 0) (R.getD (k + 1) 0) = R.getD (amx R (k + 1)) 0
    rw [amx, Int.max_def]
    split <;> split <;> omega
theorem maxOf_eq {R : List Int} (h : 0 < R.length) : Lib.maxOf (R.take R.length) = mxo R := maxOf_spec R _ h (Nat.le_refl _)
theorem idxOf_eq {R : List Int} (h : 0 < R.length) : Lib.idxOf (R.take R.length) (mxo R) = (amax R : Nat) :=
  Lib.idxOf_hit R R.length (amax R) (mxo R) (amax_lt h) (Nat.le_refl _) rfl fun j hj => by
    have := (amax_spec (R := R) (j := j) (by have := amax_lt h; omega)).2 hj
    unfold mxo; omega
end Mn
theorem max_row {w : World} {g : Nat} {xs : List Int} (h : Row w g xs) (h0 : 0 < xs.length) (h1 : xs.length ≤ 64) :
    Calls Tryd.prog 36 #[.slice (some ⟨g, 0, none⟩) xs.length xs.length] w fun e w' => e = .returned (.int .i64 (Mn.mxo xs)) ∧ w' = w := by
  refine (Tryd.slices_Max_int g 0 xs.length xs.length xs w h0 (Nat.le_refl _) (by omega) (fun j hj => by rw [Nat.zero_add]; exact h.cell hj)).mono fun e w' ⟨he, hw⟩ => ⟨?_, hw⟩
  rw [he, Mn.maxOf_eq h0]
theorem idx_row {w : World} {g : Nat} {xs : List Int} (h : Row w g xs) (h0 : 0 < xs.length) (h1 : xs.length ≤ 64) :
    Calls Tryd.prog 35 #[.slice (some ⟨g, 0, none⟩) xs.length xs.length, .int .i64 (Mn.mxo xs)] w fun e w' => e = .returned (.int .i64 (Mn.amax xs : Nat)) ∧ w' = w := by
  refine (Tryd.slices_Index_int g 0 xs.length xs.length xs (Mn.mxo xs) w (Nat.le_refl _) (by omega) (fun j hj => by rw [Nat.zero_add]; exact h.cell hj)).mono fun e w' ⟨he, hw⟩ => ⟨?_, hw⟩
  rw [he, Mn.idxOf_eq h0]

/-- What one unit does to the two rows and the two variables. -/
structure Gave (B : Nat) (w w' : World) (bp br gp gr n : Nat) (P R : List Int) : Prop where
  rp : Row w' gp (P.set (Mn.amax R) (P.getD (Mn.amax R) 0 + 1))
  rr : Row w' gr (R.set (Mn.amax R) 0)
  xp : Box w' bp (.slice (some ⟨gp, 0, none⟩) n n)
  xr : Box w' br (.slice (some ⟨gr, 0, none⟩) n n)
  bel : Below B w w'

theorem money_giveUnit {B bp br gp gr n : Nat} {P R : List Int} (w : World) (hP : Row w gp P) (hR : Row w gr R) (hbp : Box w bp (.slice (some ⟨gp, 0, none⟩) n n)) (hbr : Box w br (.slice (some ⟨gr, 0, none⟩) n n))
    (lP : P.length = n) (lR : R.length = n) (n0 : 0 < n) (n1 : n ≤ 64) (hv : ∀ i, i < n → 0 ≤ P.getD i 0 ∧ P.getD i 0 ≤ 1000000000001) (d1 : gp ≠ gr) (d2 : bp ≠ gp) (d3 : bp ≠ gr) (d4 : br ≠ gp) (d5 : br ≠ gr) (hBp : B ≤ gp) (hBr : B ≤ gr) :
    Calls Tryd.prog 34 #[.pointer (some ⟨br, 0, none⟩), .pointer (some ⟨bp, 0, none⟩)] w fun e w' => e = .returned (.tuple #[]) ∧ Gave B w w' bp br gp gr n P R := by
  have HP := Lib.hid hP
  have HR := Lib.hid hR
  have HXP := Lib.hid hbp
  have HXR := Lib.hid hbr
  have HLP := Lib.hid lP
  have HLR := Lib.hid lR
  have c1 := hbp.cell
  have c2 := hbr.cell
  clear hP hR hbp hbr lP lR
  have ha := Mn.amax_lt (R := R) (by rw [HLR.out]; exact n0)
  rw [HLR.out] at ha
  have hm := max_row (w := w) HR.out (by rw [HLR.out]; exact n0) (by rw [HLR.out]; exact n1)
  have hx := idx_row (w := w) HR.out (by rw [HLR.out]; exact n0) (by rw [HLR.out]; exact n1)
  rw [HLR.out] at hm hx
  obtain ⟨a, eqa⟩ : ∃ a, a = Mn.amax R := ⟨_, rfl⟩
  obtain ⟨M, eqM⟩ : ∃ M, M = Mn.mxo R := ⟨_, rfl⟩
  rw [← eqa] at ha
  have hmq : ∀ k, Calls Tryd.prog 36 #[.slice (some ⟨gr, 0, none⟩) n n] (w.drewN k) fun e w' => e = .returned (.int .i64 M) ∧ w' = w.drewN k := fun k => by
    have := max_row (w := w.drewN k) (HR.out.drewN k) (by rw [HLR.out]; exact n0) (by rw [HLR.out]; exact n1)
    rw [HLR.out, ← eqM] at this
    exact this
  have hxq : ∀ k, Calls Tryd.prog 35 #[.slice (some ⟨gr, 0, none⟩) n n, .int .i64 M] (w.drewN k) fun e w' => e = .returned (.int .i64 (a : Nat)) ∧ w' = w.drewN k := fun k => by
    have := idx_row (w := w.drewN k) (HR.out.drewN k) (by rw [HLR.out]; exact n0) (by rw [HLR.out]; exact n1)
    rw [HLR.out, ← eqM, ← eqa] at this
    exact this
  have HM := Lib.hid hmq
  have HXQ := Lib.hid hxq
  have HA := Lib.hid eqa
  obtain ⟨x, eqx⟩ : ∃ x, x = P.getD a 0 := ⟨_, rfl⟩
  have cp := HP.out.cell (i := a) (by rw [HLP.out]; exact ha)
  have fp := HP.out.free a
  have fr := HR.out.free a
  have cr := HR.out.cell (i := a) (by rw [HLR.out]; exact ha)
  obtain ⟨y, eqy⟩ : ∃ y, y = R.getD a 0 := ⟨_, rfl⟩
  rw [← eqy] at cr
  clear eqy
  have hvx := hv a ha
  rw [← eqx] at cp hvx
  obtain ⟨x0, x1⟩ := hvx
  have HX := Lib.hid eqx
  clear hm hx hmq hxq eqa eqM eqx hv
  have ha2 : (a : Int) < (n : Int) := by omega
  go_enter Tryd.func34, Tryd.ntmps34
  go_wp2_with fail
  go_quiet (first | (go_at_call 36; exact Calls.quiet_of_same (HM.out _)) | (go_at_call 35; exact Calls.quiet_of_same (HXQ.out _)))
  go_wp2_with fail
  go_end0
  refine ⟨rfl, ?_⟩
  have hp1 := (HP.out.drewN nq).set (i := a) (by rw [HLP.out]; exact ha) (x + 1)
  have hp2 := hp1.far (a := ⟨gr, a, none⟩) d1 (.int .i64 0)
  have hr1 := ((HR.out.drewN nq).far (a := ⟨gp, a, none⟩) (Ne.symm d1) (.int .i64 (x + 1))).set (i := a) (by rw [HLR.out]; exact ha) 0
  rw [HX.out, HA.out] at hp2
  rw [HX.out, HA.out] at hr1
  rw [HX.out, HA.out]
  exact ⟨hp2, hr1, ((HXP.out.drewN nq).far d2 _).far d3 _, ((HXR.out.drewN nq).far d4 _).far d5 _, ((below_draws B w nq).setCell hBp _).setCell hBr _⟩
end Go.Proofs.YtckimajnhdefcaaDoor
