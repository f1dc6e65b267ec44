/- Contracts of layer 3: nat.Valid and the reference's, cmp.Compare, nat.bounded, nat.Of. What a number of limbs is in memory; what a call that answers a number and an error leaves. -/
import Derived.Test.YtfjnpmkklanopaaNatA
import Derived.Deep.QuietTactic
import Derived.BigQuiet
namespace Go.Proofs.Ytfjnpmkklanopaa
set_option maxRecDepth 20000
open Go.RowKit
set_option linter.unusedVariables false
set_option linter.unusedSimpArgs false

namespace Nt
/-- Is a row of n limbs a valid number? -/
def vd (f : Nat → Nat) (n : Nat) : Bool := decide (n ≤ 64 ∧ (n = 0 ∨ f (n - 1) ≠ 0))
theorem vd_iff {f : Nat → Nat} {n : Nat} : vd f n = true ↔ n ≤ 64 ∧ (n = 0 ∨ f (n - 1) ≠ 0) := by simp [vd]
theorem vd_zero {f : Nat → Nat} : vd f 0 = true := by simp [vd]
theorem vd_big {f : Nat → Nat} {n : Nat} (h : 64 < n) : vd f n = false := by simp [vd]; omega
theorem vd_yes {f : Nat → Nat} {n : Nat} (h : n + 1 ≤ 64) (h2 : f n ≠ 0) : vd f (n + 1) = true := by simp [vd]; omega
theorem vd_no {f : Nat → Nat} {n : Nat} (h2 : f n = 0) : vd f (n + 1) = false := by simp [vd, h2]
/-- The value and the error of a result that must fit 64 limbs. -/
def fits (x : Nat) : Bool := decide (ln 4294967296 x ≤ 64)
def bv (x : Nat) : Nat := if fits x then x else 0
def be (x : Nat) : Int := if fits x then 0 else 9
theorem fits_iff {x : Nat} : fits x = true ↔ ln 4294967296 x ≤ 64 := by simp [fits]
end Nt
/-- A number's limbs in memory: n limbs, just as many as it has. -/
structure IsN (w : World) (B : Nat) (A : Option Addr) (n x : Nat) : Prop where
  d : Digs w B .u32 A n (Nt.dg 4294967296 x)
  l : Nt.ln 4294967296 x = n
section
variable {w w' : World} {B B' n x : Nat} {A : Option Addr} {f : Nat → Nat}
theorem IsN.zero : IsN w B A 0 0 := ⟨Digs.zero, Nt.ln_zero⟩
theorem IsN.more (h : IsN w B A n x) (hB : B ≤ B') : IsN w B' A n x := ⟨h.d.more hB, h.l⟩
theorem IsN.below (h : IsN w B A n x) (hb : Below B w w') : IsN w' B A n x := ⟨h.d.below hb, h.l⟩
theorem IsN.drewN (h : IsN w B A n x) (k : Nat) : IsN (w.drewN k) B A n x := ⟨h.d.drewN k, h.l⟩
theorem IsN.setBox (h : IsN w B A n x) {p : Addr} {a : Option Addr} {l c : Nat} (hc : w.cell? p = some (.slice a l c)) (u : Value) : IsN (w.setCell p u) B A n x := ⟨h.d.setBox hc u, h.l⟩
theorem IsN.out (h : IsN w B A n x) {i : Nat} (hi : n ≤ i) : Nt.dg 4294967296 x i = 0 := Nt.dg_out (by omega) (by rw [h.l]; exact hi)
theorem IsN.val (h : IsN w B A n x) : Nt.vl 4294967296 (Nt.dg 4294967296 x) n = x := Nt.vl_dg_all (by rw [← h.l]; exact Nt.ln_lt (by omega) x)
theorem IsN.top {m : Nat} (h : IsN w B A (m + 1) x) : Nt.dg 4294967296 x m ≠ 0 := Nt.dg_top (by omega) h.l
theorem IsN.vd (h : IsN w B A n x) : Nt.vd (Nt.dg 4294967296 x) n = decide (n ≤ 64) := by
  rcases n with _ | m
  · simp [Nt.vd]
  · have := h.top; simp [Nt.vd, this]
/-- A valid row of limbs is a number's. -/
theorem Digs.isN (h : Digs w B .u32 A n f) (hf : ∀ i, i < n → f i < 4294967296) (hv : Nt.vd f n = true) : IsN w B A n (Nt.vl 4294967296 f n) :=
  ⟨h.congr fun i hi => Nt.dg_vl hf hi, Nt.ln_vl (by omega) hf fun m hm => by
    subst hm
    have := (Nt.vd_iff.1 hv).2
    simpa using this⟩
/-- A row without its zeros at the end is a number's. -/
theorem Digs.isN_tl (h : Digs w B .u32 A n f) (hf : ∀ i, i < n → f i < 4294967296) : IsN w B A (Nt.tl f n) (Nt.vl 4294967296 f n) :=
  ⟨(h.less (Nt.tl_le f n)).congr fun i hi => Nt.dg_vl hf (by have := Nt.tl_le f n; omega), Nt.tl_ln (by omega) hf⟩
end
/-- What a call that answers a number and an error leaves: of what was there nothing has turned. -/
def NRes (x : Nat) (er : Int) (w : World) (e : Ending) (w' : World) : Prop :=
  ∃ A n c, e = .returned (.tuple #[.agg #[.slice A n c], .int .i64 er]) ∧ Below w.heap.size w w' ∧ IsN w' w'.heap.size A n x ∧ n ≤ 64 ∧ n ≤ c
theorem size_setCell (w : World) (p : Addr) (u : Value) : (w.setCell p u).heap.size = w.heap.size := by simp [World.setCell]
/-- A variable that holds a number's struct. -/
def NBox (w : World) (b : Nat) (v : Value) : Prop := w.heap[b]? = some (.cells #[v] 24 (0, 0))
section
variable {w w' : World} {b : Nat} {v : Value}
theorem NBox.cell (h : NBox w b v) : w.cell? ⟨b, 0, none⟩ = some v := cell_of_one h
theorem NBox.free (h : NBox w b v) : w.frozen? ⟨b, 0, none⟩ = false := free_of_one h
theorem NBox.lt (h : NBox w b v) : b < w.heap.size := lt_of_block h
theorem NBox.alloc (h : NBox w b v) (o : Obj) : NBox (w.alloc o) b v := (Below.heap_alloc w o b h.lt).trans h
theorem NBox.below {B : Nat} (h : NBox w b v) (hb : Below B w w') (hg : b < B) : NBox w' b v := (hb.block b hg).trans h
theorem NBox.new (w : World) (v : Value) : NBox (w.alloc (.cells #[v] 24)) w.heap.size v := heap_alloc_new w _
end

theorem nat_Valid {n c : Nat} {A : Option Addr} {f : Nat → Nat} (w : World) (h : Digs w w.heap.size .u32 A n f) (hn : n ≤ 9223372036854775807) :
    Calls Try.prog 53 #[.agg #[.slice A n c]] w fun e w' => e = .returned (.bool (Nt.vd f n)) ∧ Below w.heap.size w w' := by
  have H := Lib.hid h
  clear h
  rcases n with _ | n
  · have F := Lib.hid (Nt.vd_zero (f := f))
    go_enter Try.func53, Try.ntmps53
    go_wp2
    go_ret
    exact ⟨ret_bool F.out.symm, (Below.refl _ _).alloc (Nat.le_refl _) _⟩
  · obtain ⟨ad, x, rfl, hb, hc, HX, -, -⟩ := H.out.at_ (k := n) (by omega) (Nat.lt_succ_self _)
    have hc2 := fun o => (World.cell?_alloc_lt w o (ad.add n) (by rw [block_of_add]; exact hb)).trans hc
    by_cases hbig : n + 1 ≤ 64
    · by_cases h0 : x = 0
      · have F : Hid (Nt.vd f (n + 1) = false) := Nt.vd_no (by have := HX.out; omega)
        subst h0
        go_enter Try.func53, Try.ntmps53
        go_wp2
        go_ret
        exact ⟨ret_bool F.out.symm, (Below.refl _ _).alloc (Nat.le_refl _) _⟩
      · have F : Hid (Nt.vd f (n + 1) = true) := Nt.vd_yes hbig (by have := HX.out; omega)
        have hx : (x != 0) = true := by simpa using h0
        go_enter Try.func53, Try.ntmps53
        go_wp2
        go_ret
        exact ⟨ret_bool F.out.symm, (Below.refl _ _).alloc (Nat.le_refl _) _⟩
    · have F : Hid (Nt.vd f (n + 1) = false) := Nt.vd_big (by omega)
      go_enter Try.func53, Try.ntmps53
      go_wp2
      go_ret
      exact ⟨ret_bool F.out.symm, (Below.refl _ _).alloc (Nat.le_refl _) _⟩
theorem ref3_Valid {n c : Nat} {A : Option Addr} {f : Nat → Nat} (w : World) (h : Digs w w.heap.size .u32 A n f) (hn : n ≤ 9223372036854775807) :
    Calls Try.prog 41 #[.agg #[.slice A n c]] w fun e w' => e = .returned (.bool (Nt.vd f n)) ∧ Below w.heap.size w w' := by
  have H := Lib.hid h
  clear h
  rcases n with _ | n
  · have F := Lib.hid (Nt.vd_zero (f := f))
    go_enter Try.func41, Try.ntmps41
    go_wp2
    go_ret
    exact ⟨ret_bool F.out.symm, (Below.refl _ _).alloc (Nat.le_refl _) _⟩
  · obtain ⟨ad, x, rfl, hb, hc, HX, -, -⟩ := H.out.at_ (k := n) (by omega) (Nat.lt_succ_self _)
    have hc2 := fun o => (World.cell?_alloc_lt w o (ad.add n) (by rw [block_of_add]; exact hb)).trans hc
    by_cases hbig : n + 1 ≤ 64
    · by_cases h0 : x = 0
      · have F : Hid (Nt.vd f (n + 1) = false) := Nt.vd_no (by have := HX.out; omega)
        subst h0
        go_enter Try.func41, Try.ntmps41
        go_wp2
        go_ret
        exact ⟨ret_bool F.out.symm, (Below.refl _ _).alloc (Nat.le_refl _) _⟩
      · have F : Hid (Nt.vd f (n + 1) = true) := Nt.vd_yes hbig (by have := HX.out; omega)
        have hx : (x != 0) = true := by simpa using h0
        go_enter Try.func41, Try.ntmps41
        go_wp2
        go_ret
        exact ⟨ret_bool F.out.symm, (Below.refl _ _).alloc (Nat.le_refl _) _⟩
    · have F : Hid (Nt.vd f (n + 1) = false) := Nt.vd_big (by omega)
      go_enter Try.func41, Try.ntmps41
      go_wp2
      go_ret
      exact ⟨ret_bool F.out.symm, (Below.refl _ _).alloc (Nat.le_refl _) _⟩

/-! ### Order -/
def Nt.cmpI (a b : Int) : Int := if a < b then -1 else if b < a then 1 else 0
/-! ### A result within its bound -/
theorem nat_bounded {n c : Nat} {A : Option Addr} {f : Nat → Nat} (w : World) (h : Digs w w.heap.size .u32 A n f) (hf : ∀ i, i < n → f i < 4294967296) (hn : n ≤ c) (hc : c ≤ 9223372036854775807) :
    Calls Try.prog 55 #[.slice A n c] w (NRes (Nt.bv (Nt.vl 4294967296 f n)) (Nt.be (Nt.vl 4294967296 f n)) w) := by
  have H := Lib.hid h
  have HR := Lib.hid (h.isN_tl hf)
  obtain ⟨t, et⟩ : ∃ t, t = Nt.tl f n := ⟨_, rfl⟩
  have ht : t ≤ n := by rw [et]; exact Nt.tl_le f n
  have cT := fun w h => nat_trim (B := w.heap.size) (c := c) (A := A) (f := f) (n := n) w h hn hc
  rw [← et] at cT
  have CT := Lib.hid cT
  have ET := Lib.hid et
  have hd : Digs (w.alloc (.cells #[.slice none 0 0] 24)) (w.alloc (.cells #[.slice none 0 0] 24)).heap.size .u32 A n f := (h.below ((Below.refl _ _).alloc (Nat.le_refl _) _)).more (by simp)
  have HD := Lib.hid hd
  clear h hf cT et hd
  by_cases hbig : t ≤ 64
  · have F : Hid (Nt.fits (Nt.vl 4294967296 f n) = true) := Nt.fits_iff.2 (by rw [HR.out.l, ← ET.out]; exact hbig)
    go_enter Try.func55, Try.ntmps55
    go_wp2_with (go_at_call 46; refine (CT.out _ HD.out).mono ?_; rintro e w' ⟨rfl, rfl⟩)
    refine bodyPost_ret (v := .tuple #[.agg #[.slice A t t], .int .i64 0]) (by simp [results, Try.results55, go_sem]) rfl ?_
    have hb1 : Below w.heap.size w (w.alloc (.cells #[.slice A t t] 24)) := (Below.refl _ _).alloc (Nat.le_refl _) _
    rw [Nt.bv, Nt.be, F.out, if_pos rfl, if_pos rfl]
    have hr := (HR.out.below hb1).more hb1.size
    rw [← ET.out] at hr
    exact ⟨A, t, t, rfl, hb1, hr, hbig, Nat.le_refl _⟩
  · have F : Hid (Nt.fits (Nt.vl 4294967296 f n) = false) := by
      show _ = _
      rw [Bool.eq_false_iff]; intro e; rw [Nt.fits_iff, HR.out.l, ← ET.out] at e; omega
    go_enter Try.func55, Try.ntmps55
    go_wp2_with (go_at_call 46; refine (CT.out _ HD.out).mono ?_; rintro e w' ⟨rfl, rfl⟩)
    refine bodyPost_ret (v := .tuple #[.agg #[.slice none 0 0], .int .i64 9]) (by simp [results, Try.results55, go_sem]) rfl ?_
    have hb1 : Below w.heap.size w (w.alloc (.cells #[.slice none 0 0] 24)) := (Below.refl _ _).alloc (Nat.le_refl _) _
    rw [Nt.bv, Nt.be, F.out, if_neg (by simp), if_neg (by simp)]
    exact ⟨none, 0, 0, rfl, hb1, IsN.zero, by omega, by omega⟩
end Go.Proofs.Ytfjnpmkklanopaa
