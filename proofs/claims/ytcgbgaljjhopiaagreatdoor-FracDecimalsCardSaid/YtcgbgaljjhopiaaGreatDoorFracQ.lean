/- What the laws of layer 4 need: fractions of few limbs. -/
import Derived.Test.YtcgbgaljjhopiaaGreatDoorFC
import Derived.Deep.Cut
import Derived.Deep.CutRange
namespace Go.Proofs.YtcgbgaljjhopiaaGreatDoor
set_option maxRecDepth 20000
open Go.RowKit
set_option linter.unusedVariables false
set_option linter.unusedSimpArgs false
namespace Fr
theorem lt_mul {a b i j k : Nat} (h : a < 4294967296 ^ i) (h' : b < 4294967296 ^ j) (hk : i + j = k) : a * b < 4294967296 ^ k := by
  subst hk
  rw [Nat.pow_add]
  have h1 : a * b ≤ a * 4294967296 ^ j := Nat.mul_le_mul_left a (Nat.le_of_lt h')
  have h2 : a * 4294967296 ^ j < 4294967296 ^ i * 4294967296 ^ j := Nat.mul_lt_mul_of_pos_right h (Nat.pow_pos (by omega))
  omega
theorem lt_add {a b i j k : Nat} (h : a < 4294967296 ^ i) (h' : b < 4294967296 ^ j) (hi : i ≤ k) (hj : j ≤ k) : a + b < 4294967296 ^ (k + 1) := by
  have h1 : 4294967296 ^ i ≤ 4294967296 ^ k := Nat.pow_le_pow_right (by omega) hi
  have h2 : 4294967296 ^ j ≤ 4294967296 ^ k := Nat.pow_le_pow_right (by omega) hj
  rw [Nat.pow_succ]
  omega
theorem fit_lt {x k : Nat} (h : x < 4294967296 ^ k) (hk : k ≤ 64) : Nt.fits x = true := by
  rw [Nt.fits_iff, Nt.ln_le_iff (by omega)]
  exact Nat.lt_of_lt_of_le h (Nat.pow_le_pow_right (by omega) hk)
/-- A fraction in lowest terms, of so many limbs. -/
structure Lim (i j a b : Nat) : Prop where
  n : a < 4294967296 ^ i
  d : b < 4294967296 ^ j
  b0 : 0 < b
  cp : Nat.gcd a b = 1
section
variable {i j k l m o a b c d : Nat}
theorem Lim.addT (h : Lim i j a b) (h' : Lim k l c d) (h1 : i + l ≤ m) (h2 : k + j ≤ m) (hm : m + 1 ≤ 64) (ho : j + l ≤ 64) : Fr.addT a b c d = (an a b c d, ad a b c d, 0) := by
  have x1 := lt_mul h.n h'.d rfl
  have x2 := lt_mul h'.n h.d rfl
  have x3 := lt_mul h.d h'.d rfl
  rw [Fr.addT, fit_lt x1 (by omega), fit_lt x2 (by omega), fit_lt x3 ho, fit_lt (lt_add x1 x2 h1 h2) hm]; rfl
theorem Lim.add (h : Lim i j a b) (h' : Lim k l c d) (h1 : i + l ≤ m) (h2 : k + j ≤ m) : Lim (m + 1) (j + l) (an a b c d) (ad a b c d) :=
  ⟨Nat.lt_of_le_of_lt (rn_le _ _) (lt_add (lt_mul h.n h'.d rfl) (lt_mul h'.n h.d rfl) h1 h2), Nat.lt_of_le_of_lt (rd_le _ _) (lt_mul h.d h'.d rfl), add_pos h.b0 h'.b0, add_cop h.b0 h'.b0⟩
theorem Lim.mulT (h : Lim i j a b) (h' : Lim k l c d) (h1 : i + k ≤ 64) (h2 : j + l ≤ 64) : Fr.mulT a b c d = (mn a b c d, md a b c d, 0) := by
  rw [Fr.mulT, fit_lt (lt_mul h.n h'.n rfl) h1, fit_lt (lt_mul h.d h'.d rfl) h2]; rfl
theorem Lim.mul (h : Lim i j a b) (h' : Lim k l c d) : Lim (i + k) (j + l) (mn a b c d) (md a b c d) :=
  ⟨Nat.lt_of_le_of_lt (rn_le _ _) (lt_mul h.n h'.n rfl), Nat.lt_of_le_of_lt (rd_le _ _) (lt_mul h.d h'.d rfl), mul_pos h.b0 h'.b0, mul_cop h.b0 h'.b0⟩
theorem Lim.subT (h : Lim i j a b) (h' : Lim k l c d) (hl : c * b ≤ a * d) (h1 : i + l ≤ 64) (h2 : k + j ≤ 64) (h3 : j + l ≤ 64) : Fr.subT a b c d = (sn a b c d, sd a b c d, 0) := by
  rw [Fr.subT, if_neg (by omega), fit_lt (lt_mul h.n h'.d rfl) h1, fit_lt (lt_mul h'.n h.d rfl) h2, fit_lt (lt_mul h.d h'.d rfl) h3]; rfl
theorem Lim.divT (h : Lim i j a b) (h' : Lim k l c d) (hc : 0 < c) (h1 : i + l ≤ 64) (h2 : j + k ≤ 64) : Fr.divT a b c d = (qn a b c d, qd a b c d, 0) := by
  rw [Fr.divT, if_neg (by omega), fit_lt (lt_mul h.n h'.d rfl) h1, fit_lt (lt_mul h.d h'.n rfl) h2]; rfl
end
/-- How two fractions compare, by their parts. -/
def cz (a b c d : Nat) : Int := ci (a * d) (c * b)
theorem cz_bd (a b c d : Nat) : -1 ≤ cz a b c d ∧ cz a b c d ≤ 1 := by unfold cz ci; split <;> (try split) <;> omega
theorem cz_anti (a b c d : Nat) : cz c d a b = - cz a b c d := ci_anti _ _
theorem cz_self (a b : Nat) : cz a b a b = 0 := ci_eq _
theorem cz_same {a b c d : Nat} (h : Nat.gcd a b = 1) (h' : Nat.gcd c d = 1) : (cz a b c d == 0) = Fr.same a b c d := by
  have e := cmp_eq h h'
  rw [Bool.eq_iff_iff, beq_iff_eq, same_iff]; exact e
theorem cz_add {a b c d e f : Nat} (hb : 0 < b) (hd : 0 < d) (hf : 0 < f) : cz (an a b e f) (ad a b e f) (an c d e f) (ad c d e f) = cz a b c d := cmp_add hb hd hf
end Fr
theorem kAl {W : World} {b : Nat} {u v : Value} {o : Obj} (h : W.cell? ⟨b, 0, none⟩ = some u ∧ W.cell? ⟨b, 1, none⟩ = some v) : (W.alloc o).cell? ⟨b, 0, none⟩ = some u ∧ (W.alloc o).cell? ⟨b, 1, none⟩ = some v :=
  ⟨(World.cell?_alloc_lt W o _ (World.block_lt_of_cell? W _ h.1)).trans h.1, (World.cell?_alloc_lt W o _ (World.block_lt_of_cell? W _ h.2)).trans h.2⟩
theorem kAd {W : World} {b : Nat} {u v : Value} {o : Obj} (h : W.drew.cell? ⟨b, 0, none⟩ = some u ∧ W.drew.cell? ⟨b, 1, none⟩ = some v) : (W.alloc o).drew.cell? ⟨b, 0, none⟩ = some u ∧ (W.alloc o).drew.cell? ⟨b, 1, none⟩ = some v :=
  kAl (W := W) h
theorem kSt {W : World} {b R : Nat} {u v : Value} (hb : Hid (b ≠ R)) (h : W.cell? ⟨b, 0, none⟩ = some u ∧ W.cell? ⟨b, 1, none⟩ = some v) {x y : Value} :
    ((W.setCell ⟨R, 0, none⟩ x).setCell ⟨R, 1, none⟩ y).cell? ⟨b, 0, none⟩ = some u ∧ ((W.setCell ⟨R, 0, none⟩ x).setCell ⟨R, 1, none⟩ y).cell? ⟨b, 1, none⟩ = some v :=
  ⟨((cell_far _ _ hb.out).trans (cell_far _ _ hb.out)).trans h.1, ((cell_far _ _ hb.out).trans (cell_far _ _ hb.out)).trans h.2⟩
theorem Ks.put2 {w W : World} {bs bs' : List (Nat × List Value × TypeId)} {ns : List (Option Addr × Nat × Nat)} {R : Nat} {T : TypeId} {a0 a1 : Option Addr} {l0 l1 r0 r1 : Nat} (h : Ks w W bs ns) (hR : (R, [.slice a0 l0 r0, .slice a1 l1 r1], T) ∈ bs) (hw : w.heap.size ≤ R)
    (hs : ∀ p ∈ bs', p ∈ bs ∧ p.1 ≠ R) (u v : Value) : Ks w ((W.setCell ⟨R, 0, none⟩ u).setCell ⟨R, 1, none⟩ v) ((R, [u, v], T) :: bs') ns :=
  ⟨(h.bel.setCell hw _).setCell hw _, fun p hp => by
    rcases List.mem_cons.1 hp with rfl | hp
    · exact heap_put2 (h.b _ hR)
    · exact (heap_far2 W u v (hs p hp).2).trans (h.b p (hs p hp).1),
    fun p hp => (((h.n p hp).setAt (h.cell0 hR) (by intro i h; cases h) u).setAt ((cell_off _ _ _ _ _ (by omega)).trans (h.cell1 hR)) (by intro i h; cases h) v).more (by rw [size_setCell, size_setCell]; exact Nat.le_refl _)⟩
/-- What a region leaves that makes a fraction and keeps it in a variable of its own. -/
def OutF (w W0 : World) (a b : Nat) (s t : Value) (wx : World) : Prop :=
  ∃ R A n c A' n' c', s = .pointer (some ⟨R, 0, none⟩) ∧ t = .int .i64 0 ∧ (∀ bs ns, Ks w W0 bs ns → Ks w wx ((R, [.slice A n c, .slice A' n' c'], 26) :: bs) ((A', n', b) :: (A, n, a) :: ns)) ∧ n ≤ 64 ∧ n' ≤ 64 ∧ n ≤ c ∧ n' ≤ c'
theorem FIs.lim {w : World} {A A' : Option Addr} {n c n' c' a b k : Nat} (h : FIs w A n c A' n' c' a b) (hk : (n : Int) ≤ k ∧ (n' : Int) ≤ k) : Fr.Lim k k a b :=
  ⟨(Nt.ln_le_iff (by omega)).1 (by rw [h.n.d.l]; omega), (Nt.ln_le_iff (by omega)).1 (by rw [h.d.d.l]; omega), h.b0, h.cp⟩
end Go.Proofs.YtcgbgaljjhopiaaGreatDoor
