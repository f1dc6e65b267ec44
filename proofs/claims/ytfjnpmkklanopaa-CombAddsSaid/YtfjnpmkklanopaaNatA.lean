/- Contracts of layer 3's small functions: nat.Valid, nat.split, nat.join, nat.limb, nat.trim and the reference's Valid, trim, digit; a slice that reads as the digits of a function; a row of the call's own. -/
import Derived.Test.YtfjnpmkklanopaaNumDiv
import Derived.Test.YtfjnpmkklanopaaMonA
import Derived.Test.YtfjnpmkklanopaaNatMath
import Derived.Below
import Derived.Lib.Hide
import Derived.LoopTactic
import Derived.Deep.OwnRows
import Derived.OneCell
import Derived.OwnWalk
import Derived.Outline
namespace Go.Proofs.Ytfjnpmkklanopaa
set_option maxRecDepth 20000
open Go.RowKit
set_option linter.unusedVariables false
set_option linter.unusedSimpArgs false

/-! ### Slices that read as digits; rows of a call's own -/
/-- The slice value '.slice A n c' holds the digits f 0 .. f (n - 1) in kind K, and lies below block B. -/
def Digs (w : World) (B : Nat) (K : IntKind) (A : Option Addr) (n : Nat) (f : Nat → Nat) : Prop :=
  0 < n → ∃ ad, A = some ad ∧ ad.block < B ∧ ∀ j, j < n → w.cell? (ad.add j) = some (.int K (f j : Nat))
theorem add0 (b off k : Nat) : (⟨b, off, none⟩ : Addr).add k = ⟨b, off + k, none⟩ := by unfold Addr.add; split <;> simp_all
section
variable {w w' : World} {B B' n : Nat} {K : IntKind} {A : Option Addr} {f g : Nat → Nat}
theorem Digs.zero : Digs w B K A 0 f := fun h => absurd h (by omega)
theorem Digs.at_ (h : Digs w B K A n f) {k : Nat} (hk : k < n) {M : Nat} (hb : f k < M) :
    ∃ ad x, A = some ad ∧ ad.block < B ∧ w.cell? (ad.add k) = some (.int K x) ∧ Hid (x = (f k : Nat)) ∧ 0 ≤ x ∧ x < (M : Int) := by
  obtain ⟨ad, e, hb', hc⟩ := h (by omega)
  exact ⟨ad, _, e, hb', hc k hk, rfl, by omega, by omega⟩
theorem Digs.keep (h : Digs w B K A n f) (hk : ∀ p : Addr, p.block < B → w'.cell? p = w.cell? p) : Digs w' B K A n f := fun hn => by
  obtain ⟨ad, e, hb, hc⟩ := h hn
  exact ⟨ad, e, hb, fun j hj => (hk _ (by rw [block_of_add]; exact hb)).trans (hc j hj)⟩
theorem Digs.more (h : Digs w B K A n f) (hB : B ≤ B') : Digs w B' K A n f := fun hn => by
  obtain ⟨ad, e, hb, hc⟩ := h hn
  exact ⟨ad, e, by omega, hc⟩
theorem Digs.less {m : Nat} (h : Digs w B K A n f) (hm : m ≤ n) : Digs w B K A m f := fun hn => by
  obtain ⟨ad, e, hb, hc⟩ := h (by omega)
  exact ⟨ad, e, hb, fun j hj => hc j (by omega)⟩
theorem Digs.congr (h : Digs w B K A n f) (he : ∀ i, i < n → g i = f i) : Digs w B K A n g := fun hn => by
  obtain ⟨ad, e, hb, hc⟩ := h hn
  exact ⟨ad, e, hb, fun j hj => by rw [he j hj]; exact hc j hj⟩
theorem Digs.below (h : Digs w B K A n f) (hb : Below B w w') : Digs w' B K A n f := h.keep fun _ hp => hb.cell hp
theorem Digs.drewN (h : Digs w B K A n f) (k : Nat) : Digs (w.drewN k) B K A n f := h
theorem Digs.setCell (h : Digs w B K A n f) {p : Addr} (hB : B ≤ p.block) (u : Value) : Digs (w.setCell p u) B K A n f :=
  h.keep fun q hq => World.cell?_setCell_other w p q u (fun e => by subst e; omega)
theorem Digs.grown (h : Digs w B K A n f) {g : Nat} (hg : w.grownBy w' (some g)) (hB : B ≤ w.heap.size) (hr : B ≤ g) : Digs w' B K A n f :=
  h.keep fun p hp => World.cell?_of_block (hg.block p.block (by omega) (fun e => by injection e; omega))
end
theorem Digs.setBox {w : World} {B n : Nat} {K : IntKind} {A : Option Addr} {f : Nat → Nat} (h : Digs w B K A n f) {p : Addr} {a : Option Addr} {l c : Nat} (hc : w.cell? p = some (.slice a l c)) (u : Value) : Digs (w.setCell p u) B K A n f := fun hn => by
  obtain ⟨ad, e, hb, hd⟩ := h hn
  refine ⟨ad, e, hb, fun j hj => ?_⟩
  rw [World.cell?_setCell_other w p _ u (fun e => by have := hd j hj; rw [← e, hc] at this; cases this)]
  exact hd j hj
/-- The first m cells of block g, of type T, are digits in kind K; none is frozen. -/
def Rw (w : World) (g : Nat) (T : TypeId) (K : IntKind) (m : Nat) (F : Nat → Nat) : Prop :=
  ∃ c : Array Value, w.heap[g]? = some (.cells c T (0, 0)) ∧ m ≤ c.size ∧ ∀ i, i < m → c[i]? = some (.int K (F i : Nat))
def upd (F : Nat → Nat) (i v : Nat) : Nat → Nat := fun j => if j = i then v else F j
theorem upd_same (F : Nat → Nat) (i v : Nat) : upd F i v i = v := by simp [upd]
theorem upd_ne (F : Nat → Nat) {i j : Nat} (v : Nat) (h : j ≠ i) : upd F i v j = F j := by simp [upd, h]
theorem upd_lt {F : Nat → Nat} {M : Nat} (h : ∀ i, F i < M) {v : Nat} (hv : v < M) (i : Nat) : ∀ j, upd F i v j < M := fun j => by
  unfold upd; split
  · exact hv
  · exact h j
section
variable {w w' : World} {g m : Nat} {T : TypeId} {K : IntKind} {F G : Nat → Nat}
theorem Rw.cell (h : Rw w g T K m F) {i : Nat} (hi : i < m) : w.cell? ⟨g, i, none⟩ = some (.int K (F i : Nat)) := by
  obtain ⟨c, h1, -, h3⟩ := h
  rw [cell_of_row w g i c T (0, 0) h1]; exact h3 i hi
theorem Rw.free (h : Rw w g T K m F) (i : Nat) : w.frozen? ⟨g, i, none⟩ = false := by
  obtain ⟨c, h1, -, -⟩ := h
  simp [World.frozen?, h1]
theorem Rw.lt (h : Rw w g T K m F) : g < w.heap.size := by
  obtain ⟨c, h1, -, -⟩ := h
  exact (Array.getElem?_eq_some_iff.1 h1).1
theorem Rw.of_block (h : Rw w g T K m F) (e : w'.heap[g]? = w.heap[g]?) : Rw w' g T K m F := by
  obtain ⟨c, h1, h2, h3⟩ := h
  exact ⟨c, e.trans h1, h2, h3⟩
theorem Rw.drewN (h : Rw w g T K m F) (k : Nat) : Rw (w.drewN k) g T K m F := h
theorem Rw.congr (h : Rw w g T K m F) (he : ∀ i, i < m → F i = G i) : Rw w g T K m G := by
  obtain ⟨c, h1, h2, h3⟩ := h
  exact ⟨c, h1, h2, fun i hi => by rw [← he i hi]; exact h3 i hi⟩
theorem Rw.less {n : Nat} (h : Rw w g T K m F) (hn : n ≤ m) : Rw w g T K n F := by
  obtain ⟨c, h1, h2, h3⟩ := h
  exact ⟨c, h1, by omega, fun i hi => h3 i (by omega)⟩
theorem Rw.of_rowIs (h : w.rowIs g T m (fun i => .int K (F i : Nat))) : Rw w g T K m F := by
  obtain ⟨c, h1, h2, h3⟩ := h
  exact ⟨c, h1, by omega, h3⟩
theorem Rw.set (h : Rw w g T K m F) {i : Nat} {v : Nat} {x : Int} (hx : x = (v : Nat)) : Rw (w.setCell ⟨g, i, none⟩ (.int K x)) g T K m (upd F i v) := by
  obtain ⟨c, h1, h2, h3⟩ := h
  refine ⟨c.setIfInBounds i (.int K x), by simp [World.setCell, Array.getElem?_modify, h1], by simpa using h2, fun j hj => ?_⟩
  unfold upd
  by_cases e : j = i
  · subst e
    rw [if_pos rfl, hx, Array.getElem?_setIfInBounds_self_of_lt (by omega)]
  · rw [if_neg e, Array.getElem?_setIfInBounds_ne (Ne.symm e)]; exact h3 j hj
theorem Rw.far (h : Rw w g T K m F) {a : Addr} (ha : g ≠ a.block) (v : Value) : Rw (w.setCell a v) g T K m F := h.of_block (Below.heap_setCell w a v g ha)
theorem Rw.alloc (h : Rw w g T K m F) (o : Obj) : Rw (w.alloc o) g T K m F := h.of_block (Below.heap_alloc w o g h.lt)
theorem Rw.below {B : Nat} (h : Rw w g T K m F) (hb : Below B w w') (hg : g < B) : Rw w' g T K m F := h.of_block (hb.block g hg)
theorem Rw.digs (h : Rw w g T K m F) {B off n : Nat} (hB : g < B) (hn : off + n ≤ m) : Digs w B K (some ⟨g, off, none⟩) n (fun i => F (off + i)) :=
  fun _ => ⟨_, rfl, hB, fun j hj => by rw [add0]; exact h.cell (by omega)⟩
end
theorem below_grown {N g : Nat} {w0 w w' : World} (h : Below N w0 w) (hg : w.grownBy w' (some g)) (hN : N ≤ w.heap.size) (hr : N ≤ g) : Below N w0 w' :=
  h.grown hg hN fun x e => by injection e; omega
theorem ret_val {a b : Value} (h : a = b) : Ending.returned a = .returned b := by rw [h]

/-! ### Two limbs of a word -/
namespace Nt
theorem lo32 (n : Int) (h0 : 0 ≤ n) (h1 : n < 18446744073709551616) : IntKind.u32.wrap (bits .and .u64 n 4294967295) = n % 4294967296 := by
  rw [Nm.and_mask n h0 h1, IntKind.wrap_u32]; omega
theorem hi32 (n : Int) (h0 : 0 ≤ n) (h1 : n < 18446744073709551616) : IntKind.u32.wrap (n / 4294967296) = n / 4294967296 := by
  rw [IntKind.wrap_u32]; omega
theorem join32 (h l : Int) (h0 : 0 ≤ h) (h1 : h < 4294967296) (l0 : 0 ≤ l) (l1 : l < 4294967296) : bits .or .u64 (h * 4294967296) l = h * 4294967296 + l := by
  obtain ⟨a, rfl⟩ := Int.eq_ofNat_of_zero_le h0
  obtain ⟨b, rfl⟩ := Int.eq_ofNat_of_zero_le l0
  have e := nat_join 32 (a * 4294967296) b (by omega) (by omega)
  have e2 : (a : Int) * 4294967296 = ((a * 4294967296 : Nat) : Int) := by omega
  rw [e2, u64_or_nat _ _ (by omega) (by omega), e]; omega
end Nt
theorem nat_split (n : Int) (h0 : 0 ≤ n) (h1 : n < 18446744073709551616) (w : World) :
    Calls Try.prog 45 #[.int .u64 n] w fun e w' => e = .returned (.tuple #[.int .u32 (n % 4294967296), .int .u32 (n / 4294967296)]) ∧ w = w' := by
  have L := Lib.hid (Nt.lo32 n h0 h1)
  have H := Lib.hid (Nt.hi32 n h0 h1)
  go_enter Try.func45, Try.ntmps45
  go_wp2
  go_ret2
  exact ⟨ret2_int (by first | exact L.out | rfl) (by first | exact H.out | rfl), rfl⟩
theorem nat_join (h l : Int) (h0 : 0 ≤ h) (h1 : h < 4294967296) (l0 : 0 ≤ l) (l1 : l < 4294967296) (w : World) :
    Calls Try.prog 67 #[.int .u32 h, .int .u32 l] w fun e w' => e = .returned (.int .u64 (h * 4294967296 + l)) ∧ w = w' := by
  have L := Lib.hid (Nt.join32 h l h0 h1 l0 l1)
  go_enter Try.func67, Try.ntmps67
  go_wp2
  go_ret
  exact ⟨ret_int L.out, rfl⟩
/-- limb: the digit, 0 on both sides. -/
theorem nat_limb {B n c : Nat} {A : Option Addr} {f : Nat → Nat} (i : Int) (k : Nat) (w : World) (h : Digs w B .u32 A n f) (hz : ∀ j, n ≤ j → f j = 0) (hn : n ≤ 9223372036854775807) (hi : i = (k : Int)) :
    Calls Try.prog 66 #[.slice A n c, .int .i64 i] w fun e w' => e = .returned (.int .u32 (f k : Nat)) ∧ w = w' := by
  subst hi
  have H := Lib.hid h
  have HZ := Lib.hid hz
  clear h hz
  by_cases hk : k < n
  · obtain ⟨ad, x, rfl, hb, hc, HX, -, -⟩ := H.out.at_ hk (Nat.lt_succ_self _)
    go_enter Try.func66, Try.ntmps66
    go_wp2
    go_ret
    exact ⟨ret_int HX.out, rfl⟩
  · have F : Hid (0 = ((f k : Nat) : Int)) := by show _ = _; rw [HZ.out k (by omega)]; rfl
    go_enter Try.func66, Try.ntmps66
    go_wp2
    go_ret
    exact ⟨ret_int F.out, rfl⟩
theorem nat_limb_neg {n c : Nat} {A : Option Addr} (i : Int) (w : World) (hi : i < 0) :
    Calls Try.prog 66 #[.slice A n c, .int .i64 i] w fun e w' => e = .returned (.int .u32 0) ∧ w = w' := by
  go_enter Try.func66, Try.ntmps66
  go_wp2
  go_ret
  exact ⟨rfl, rfl⟩

/-! ### Zeros at the end -/
namespace Nt
/-- How many are left when the zeros at the end are taken off. -/
def tl (f : Nat → Nat) : Nat → Nat
  | 0 => 0
  | n + 1 => if f n = 0 then tl f n else n + 1
theorem tl_le (f : Nat → Nat) (n : Nat) : tl f n ≤ n := by
  induction n with
  | zero => exact Nat.le_refl _
  | succ n ih => unfold tl; split <;> omega
theorem tl_zero {f : Nat → Nat} {n i : Nat} (h : tl f n ≤ i) (hi : i < n) : f i = 0 := by
  induction n with
  | zero => omega
  | succ n ih =>
    unfold tl at h
    split at h
    · by_cases e : i = n
      · rw [e]; assumption
      · exact ih h (by omega)
    · omega
theorem tl_top {f : Nat → Nat} {n m : Nat} (h : tl f n = m + 1) : f m ≠ 0 := by
  induction n with
  | zero => cases h
  | succ n ih =>
    unfold tl at h
    split at h
    · exact ih h
    · obtain rfl : n = m := by omega
      assumption
theorem tl_step {f : Nat → Nat} {n : Nat} (h : f n = 0) : tl f (n + 1) = tl f n := by rw [tl, if_pos h]
theorem tl_stop {f : Nat → Nat} {n : Nat} (h : f n ≠ 0) : tl f (n + 1) = n + 1 := by rw [tl, if_neg h]
theorem tl_ln {B : Nat} (hB : 1 < B) {f : Nat → Nat} {n : Nat} (h : ∀ i, i < n → f i < B) : ln B (vl B f n) = tl f n := by
  have hle := tl_le f n
  have e : vl B f n = vl B f (tl f n) := vl_more hle fun i h1 h2 => tl_zero h1 h2
  rw [e]
  exact ln_vl hB (fun i hi => h i (by omega)) fun m hm => tl_top hm
end Nt
theorem nat_trim {B n c : Nat} {A : Option Addr} {f : Nat → Nat} (w : World) (h : Digs w B .u32 A n f) (hn : n ≤ c) (hc : c ≤ 9223372036854775807) :
    Calls Try.prog 46 #[.slice A n c] w fun e w' => e = .returned (.slice A (Nt.tl f n) (Nt.tl f n)) ∧ w = w' := by
  have H := Lib.hid h
  clear h
  go_enter Try.func46, Try.ntmps46
  go_wp2_with fail
  go_loop [3] (fun i => ∃ k : Nat, k ≤ n ∧ i = .int .i64 k ∧ Hid (Nt.tl f k = Nt.tl f n)) (fun i => (intOf i).toNat)
  case atStart => exact ⟨n, by omega, rfl, rfl⟩
  case round =>
    obtain ⟨k, hk, rfl, HK⟩ := hrel
    rcases k with _ | k
    · have F : Hid (Nt.tl f n = 0) := HK.out.symm
      go_wp2
      go_ret
      rw [F.out]
      exact ⟨rfl, rfl⟩
    · obtain ⟨ad, x, rfl, hb, hcell, HX, -, -⟩ := H.out.at_ (k := k) (by omega) (Nat.lt_succ_self _)
      by_cases h0 : x = 0
      · subst h0
        have F : Hid (Nt.tl f k = Nt.tl f n) := by
          show _ = _
          have := HX.out
          rw [← HK.out, Nt.tl_step (by omega)]
        go_wp2
        go_round
        case rel => exact ⟨k, by omega, by go_num, F⟩
        case measure => simp [intOf]
      · have F : Hid (Nt.tl f n = k + 1) := by
          show _ = _
          have := HX.out
          rw [← HK.out, Nt.tl_stop (by omega)]
        have hx : (x == 0) = false := by simpa using h0
        go_wp2
        go_ret
        rw [F.out]
        exact ⟨rfl, rfl⟩
end Go.Proofs.Ytfjnpmkklanopaa
