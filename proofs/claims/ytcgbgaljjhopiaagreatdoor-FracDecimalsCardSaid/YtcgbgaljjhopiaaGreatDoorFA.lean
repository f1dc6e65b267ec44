/- Fractions in lowest terms, their sums, products and order: plain mathematics. What a fraction is in memory; what calls keep; frac.isZero, frac.divMod, frac.quotient. frac.quotient, frac.Make, frac.Valid. frac.Make, frac.Of and frac.Valid for every argument. (Written by tools/frac1.py.) frac.compare and frac.Cmp: whole parts, and the reciprocals of the rests. frac.Cmp and frac.Of for every argument. (Written by tools/frac3.py.) -/
import Derived.Test.YtcgbgaljjhopiaaGreatDoorNatM
import Derived.RegionTactic
import Derived.BigRegion
import Derived.Deep.RegionHeld3
import Derived.Test.YtcgbgaljjhopiaaGreatDoorNatO
namespace Go.Proofs.YtcgbgaljjhopiaaGreatDoor
set_option maxRecDepth 20000
namespace Fr
/-- The parts of n / d in lowest terms. -/
def rn (n d : Nat) : Nat := n / Nat.gcd n d
def rd (n d : Nat) : Nat := d / Nat.gcd n d
section
variable {n d n' d' : Nat}
theorem gcd_pos (hd : 0 < d) : 0 < Nat.gcd n d := Nat.gcd_pos_of_pos_right n hd
theorem rn_mul (n d : Nat) : rn n d * Nat.gcd n d = n := Nat.div_mul_cancel (Nat.gcd_dvd_left n d)
theorem rd_mul (n d : Nat) : rd n d * Nat.gcd n d = d := Nat.div_mul_cancel (Nat.gcd_dvd_right n d)
theorem rd_pos (hd : 0 < d) : 0 < rd n d := by
  rcases Nat.eq_zero_or_pos (rd n d) with h | h
  · have := rd_mul n d; rw [h] at this; omega
  · exact h
theorem rn_le (n d : Nat) : rn n d ≤ n := Nat.div_le_self _ _
theorem rd_le (n d : Nat) : rd n d ≤ d := Nat.div_le_self _ _
theorem cop (hd : 0 < d) : Nat.gcd (rn n d) (rd n d) = 1 := by
  have h := Nat.gcd_mul_right (rn n d) (Nat.gcd n d) (rd n d)
  rw [rn_mul, rd_mul] at h
  exact Nat.eq_of_mul_eq_mul_right (gcd_pos (n := n) hd) (by omega)
theorem rn_cop (h : Nat.gcd n d = 1) : rn n d = n := by rw [rn, h, Nat.div_one]
theorem rd_cop (h : Nat.gcd n d = 1) : rd n d = d := by rw [rd, h, Nat.div_one]
theorem rn_zero (d : Nat) (_ : 0 < d) : rn 0 d = 0 := by rw [rn, Nat.zero_div]
theorem rd_zero (d : Nat) (hd : 0 < d) : rd 0 d = 1 := by rw [rd, Nat.gcd_zero_left, Nat.div_self hd]
theorem rn_eq_zero (hd : 0 < d) : rn n d = 0 ↔ n = 0 := by
  constructor
  · intro h; have := rn_mul n d; rw [h] at this; omega
  · rintro rfl; exact rn_zero d hd
theorem cross (n d : Nat) : rn n d * d = n * rd n d := by
  have h1 := rn_mul n d
  have h2 := rd_mul n d
  generalize rn n d = a at *
  generalize rd n d = b at *
  generalize Nat.gcd n d = g at *
  subst h1; subst h2; grind
/-- Fractions in lowest terms with equal cross products have equal parts. -/
theorem eq_of_cross (h : Nat.gcd n d = 1) (h' : Nat.gcd n' d' = 1) (hx : n * d' = n' * d) : n = n' ∧ d = d' := by
  have c1 : Nat.Coprime n d := h
  have c2 : Nat.Coprime n' d' := h'
  have a1 : d ∣ d' := c1.symm.dvd_of_dvd_mul_left (⟨n', by rw [hx, Nat.mul_comm]⟩)
  have a2 : d' ∣ d := c2.symm.dvd_of_dvd_mul_left (⟨n, by rw [← hx, Nat.mul_comm]⟩)
  have e : d = d' := Nat.dvd_antisymm a1 a2
  have b1 : n ∣ n' := c1.dvd_of_dvd_mul_right (⟨d', hx.symm⟩)
  have b2 : n' ∣ n := c2.dvd_of_dvd_mul_right (⟨d, hx⟩)
  exact ⟨Nat.dvd_antisymm b1 b2, e⟩
theorem cancel {a b c : Nat} (hc : 0 < c) (h : a * c = b * c) : a = b := Nat.eq_of_mul_eq_mul_right hc h
/-- Equal cross products: equal parts in lowest terms. -/
theorem red_eq (hd : 0 < d) (hd' : 0 < d') (hx : n * d' = n' * d) : rn n d = rn n' d' ∧ rd n d = rd n' d' := by
  refine eq_of_cross (cop hd) (cop hd') ?_
  have e1 := rn_mul n d
  have e2 := rd_mul n d
  have e3 := rn_mul n' d'
  have e4 := rd_mul n' d'
  have g1 := gcd_pos (n := n) hd
  have g2 := gcd_pos (n := n') hd'
  refine cancel (c := Nat.gcd n d * Nat.gcd n' d') (Nat.mul_pos g1 g2) ?_
  generalize Nat.gcd n d = g at *
  generalize Nat.gcd n' d' = g' at *
  have : (rn n d * g) * (rd n' d' * g') = (rn n' d' * g') * (rd n d * g) := by rw [e1, e2, e3, e4]; exact hx
  grind
theorem red_cop (h : Nat.gcd n d = 1) (hd : 0 < d) (hd' : 0 < d') (hx : n * d' = n' * d) : rn n' d' = n ∧ rd n' d' = d := by
  have := red_eq hd hd' hx
  rw [rn_cop h, rd_cop h] at this
  exact ⟨this.1.symm, this.2.symm⟩
end
/-! The sums and products of fractions, in lowest terms. -/
section
variable (a b c d : Nat)
def an : Nat := rn (a * d + c * b) (b * d)
def ad : Nat := rd (a * d + c * b) (b * d)
def sn : Nat := rn (a * d - c * b) (b * d)
def sd : Nat := rd (a * d - c * b) (b * d)
def mn : Nat := rn (a * c) (b * d)
def md : Nat := rd (a * c) (b * d)
def qn : Nat := rn (a * d) (b * c)
def qd : Nat := rd (a * d) (b * c)
end
section
variable {a b c d e f : Nat}
theorem add_pos (hb : 0 < b) (hd : 0 < d) : 0 < ad a b c d := rd_pos (Nat.mul_pos hb hd)
theorem add_cop (hb : 0 < b) (hd : 0 < d) : Nat.gcd (an a b c d) (ad a b c d) = 1 := cop (Nat.mul_pos hb hd)
theorem mul_pos (hb : 0 < b) (hd : 0 < d) : 0 < md a b c d := rd_pos (Nat.mul_pos hb hd)
theorem mul_cop (hb : 0 < b) (hd : 0 < d) : Nat.gcd (mn a b c d) (md a b c d) = 1 := cop (Nat.mul_pos hb hd)
theorem add_cross (a b c d : Nat) : an a b c d * (b * d) = (a * d + c * b) * ad a b c d := cross _ _
theorem mul_cross (a b c d : Nat) : mn a b c d * (b * d) = (a * c) * md a b c d := cross _ _
theorem an_comm (a b c d : Nat) : an a b c d = an c d a b := by rw [an, an, Nat.add_comm, Nat.mul_comm b d]
theorem ad_comm (a b c d : Nat) : ad a b c d = ad c d a b := by rw [ad, ad, Nat.add_comm, Nat.mul_comm b d]
theorem mn_comm (a b c d : Nat) : mn a b c d = mn c d a b := by rw [mn, mn, Nat.mul_comm a, Nat.mul_comm b d]
theorem md_comm (a b c d : Nat) : md a b c d = md c d a b := by rw [md, md, Nat.mul_comm a, Nat.mul_comm b d]
/-- From a proportion p / q = n / m the sum with x / y. -/
theorem add_of {p q n m x y : Nat} (h : p * m = n * q) (hq : 0 < q) (hm : 0 < m) (hy : 0 < y) :
    an p q x y = rn (n * y + x * m) (m * y) ∧ ad p q x y = rd (n * y + x * m) (m * y) := by
  refine red_eq (Nat.mul_pos hq hy) (Nat.mul_pos hm hy) ?_
  have : (p * m) * (y * y) = (n * q) * (y * y) := by rw [h]
  grind
theorem mul_of {p q n m x y : Nat} (h : p * m = n * q) (hq : 0 < q) (hm : 0 < m) (hy : 0 < y) :
    mn p q x y = rn (n * x) (m * y) ∧ md p q x y = rd (n * x) (m * y) := by
  refine red_eq (Nat.mul_pos hq hy) (Nat.mul_pos hm hy) ?_
  have : (p * m) * (x * y) = (n * q) * (x * y) := by rw [h]
  grind
theorem add_assoc (hb : 0 < b) (hd : 0 < d) (hf : 0 < f) :
    an (an a b c d) (ad a b c d) e f = an a b (an c d e f) (ad c d e f) ∧ ad (an a b c d) (ad a b c d) e f = ad a b (an c d e f) (ad c d e f) := by
  have h1 := add_of (x := e) (y := f) (add_cross a b c d) (add_pos hb hd) (Nat.mul_pos hb hd) hf
  have h2 := add_of (x := a) (y := b) (add_cross c d e f) (add_pos hd hf) (Nat.mul_pos hd hf) hb
  rw [h1.1, h1.2, an_comm a b, ad_comm a b, h2.1, h2.2]
  exact red_eq (Nat.mul_pos (Nat.mul_pos hb hd) hf) (Nat.mul_pos (Nat.mul_pos hd hf) hb) (by grind)
theorem mul_assoc (hb : 0 < b) (hd : 0 < d) (hf : 0 < f) :
    mn (mn a b c d) (md a b c d) e f = mn a b (mn c d e f) (md c d e f) ∧ md (mn a b c d) (md a b c d) e f = md a b (mn c d e f) (md c d e f) := by
  have h1 := mul_of (x := e) (y := f) (mul_cross a b c d) (mul_pos hb hd) (Nat.mul_pos hb hd) hf
  have h2 := mul_of (x := a) (y := b) (mul_cross c d e f) (mul_pos hd hf) (Nat.mul_pos hd hf) hb
  rw [h1.1, h1.2, mn_comm a b, md_comm a b, h2.1, h2.2]
  exact red_eq (Nat.mul_pos (Nat.mul_pos hb hd) hf) (Nat.mul_pos (Nat.mul_pos hd hf) hb) (by grind)
theorem distrib (hb : 0 < b) (hd : 0 < d) (hf : 0 < f) :
    mn a b (an c d e f) (ad c d e f) = an (mn a b c d) (md a b c d) (mn a b e f) (md a b e f) ∧ md a b (an c d e f) (ad c d e f) = ad (mn a b c d) (md a b c d) (mn a b e f) (md a b e f) := by
  have h1 := mul_of (x := a) (y := b) (add_cross c d e f) (add_pos hd hf) (Nat.mul_pos hd hf) hb
  have h2 := add_of (x := mn a b e f) (y := md a b e f) (mul_cross a b c d) (mul_pos hb hd) (Nat.mul_pos hb hd) (mul_pos hb hf)
  rw [mn_comm a b (an c d e f), md_comm a b (an c d e f), h1.1, h1.2, h2.1, h2.2]
  have h3 := mul_cross a b e f
  refine red_eq (Nat.mul_pos (Nat.mul_pos hd hf) hb) (Nat.mul_pos (Nat.mul_pos hb hd) (mul_pos hb hf)) ?_
  generalize mn a b e f = p at *
  generalize md a b e f = q at *
  have h4 : (p * (b * f)) * (b * d * d * b) = (a * e * q) * (b * d * d * b) := by rw [h3]
  grind
theorem sub_add (hb : 0 < b) (hd : 0 < d) (h : Nat.gcd a b = 1) : sn (an a b c d) (ad a b c d) c d = a ∧ sd (an a b c d) (ad a b c d) c d = b := by
  refine red_cop h hb (Nat.mul_pos (add_pos hb hd) hd) ?_
  have h3 := add_cross a b c d
  have hp := add_pos (a := a) (c := c) hb hd
  generalize an a b c d = p at *
  generalize ad a b c d = q at *
  -- p * (b * d) = (a * d + c * b) * q
  have h5 : (p * d) * b = (a * d) * q + (c * q) * b := by grind
  have h6 : (p * d - c * q) * b = a * d * q := by rw [Nat.sub_mul]; omega
  grind
theorem sub_ok (hb : 0 < b) : c * ad a b c d ≤ an a b c d * d := by
  have h3 := add_cross a b c d
  generalize an a b c d = p at *
  generalize ad a b c d = q at *
  have h5 : (p * d) * b = (a * d) * q + (c * q) * b := by grind
  exact Nat.le_of_mul_le_mul_right (by omega) hb
theorem div_mul (hb : 0 < b) (hd : 0 < d) (hc : 0 < c) (h : Nat.gcd a b = 1) : qn (mn a b c d) (md a b c d) c d = a ∧ qd (mn a b c d) (md a b c d) c d = b := by
  refine red_cop h hb (Nat.mul_pos (mul_pos hb hd) hc) ?_
  have h3 := mul_cross a b c d
  generalize mn a b c d = p at *
  generalize md a b c d = q at *
  grind
theorem add_zero (hb : 0 < b) (h : Nat.gcd a b = 1) : an a b 0 1 = a ∧ ad a b 0 1 = b := by
  refine red_cop h hb (Nat.mul_pos hb (by omega)) (by grind)
theorem mul_one (hb : 0 < b) (h : Nat.gcd a b = 1) : mn a b 1 1 = a ∧ md a b 1 1 = b := by
  refine red_cop h hb (Nat.mul_pos hb (by omega)) (by grind)
/-- A fraction of ints times a number. -/
theorem lowest {n d k : Nat} (hd : 0 < d) (hk : 0 < k) : rn n d = rn (n * k) (d * k) ∧ rd n d = rd (n * k) (d * k) :=
  red_eq hd (Nat.mul_pos hd hk) (by grind)
end
end Fr

namespace Fr
/-! Order: by cross products; the step of the continued fraction. -/
/-- -1, 0 or 1: how x and y compare. -/
def ci (x y : Nat) : Int := if x < y then -1 else if y < x then 1 else 0
theorem ci_lt {x y : Nat} (h : x < y) : ci x y = -1 := if_pos h
theorem ci_gt {x y : Nat} (h : y < x) : ci x y = 1 := by rw [ci, if_neg (by omega), if_pos h]
theorem ci_eq (x : Nat) : ci x x = 0 := by simp [ci]
theorem ci_zero {x y : Nat} : ci x y = 0 ↔ x = y := by unfold ci; split <;> (try split) <;> omega
theorem ci_anti (x y : Nat) : ci x y = - ci y x := by unfold ci; split <;> (try split) <;> (try split) <;> omega
theorem ci_mul {x y k : Nat} (hk : 0 < k) : ci (x * k) (y * k) = ci x y := by
  have a : x * k < y * k ↔ x < y := Nat.mul_lt_mul_right hk
  have b : y * k < x * k ↔ y < x := Nat.mul_lt_mul_right hk
  simp only [ci, a, b]
theorem ci_add {x y z : Nat} : ci (x + z) (y + z) = ci x y := by unfold ci; simp
section
variable {a b c d : Nat}
theorem whole_lt (hb : 0 < b) (hd : 0 < d) (h : a / b < c / d) : ci (a * d) (c * b) = -1 := by
  apply ci_lt
  have h1 : a < (a / b + 1) * b := by rw [Nat.add_mul, Nat.one_mul]; have := Nat.div_add_mod a b; have := Nat.mod_lt a hb; rw [Nat.mul_comm] at *; grind
  have h2 : c / d * d ≤ c := Nat.div_mul_le_self c d
  have h3 : (a / b + 1) * b * d ≤ c / d * d * b := by
    have : (a / b + 1) * (b * d) ≤ (c / d) * (b * d) := Nat.mul_le_mul_right _ h
    grind
  have h4 : a * d < (a / b + 1) * b * d := Nat.mul_lt_mul_of_pos_right h1 hd
  have h5 : c / d * d * b ≤ c * b := Nat.mul_le_mul_right _ h2
  omega
theorem whole_eq (h : a / b = c / d) : ci (a * d) (c * b) = ci ((a % b) * d) ((c % d) * b) := by
  have h1 := Nat.div_add_mod a b
  have h2 := Nat.div_add_mod c d
  rw [h] at h1
  generalize c / d = q at *
  generalize a % b = r at *
  generalize c % d = s at *
  subst h1; subst h2
  have e1 : (b * q + r) * d = r * d + b * q * d := by grind
  have e2 : (d * q + s) * b = s * b + b * q * d := by grind
  rw [e1, e2, ci_add]
/-- The step: the whole parts are equal, both rests are there. -/
theorem step (h : a / b = c / d) : ci (a * d) (c * b) = ci (d * (a % b)) (b * (c % d)) := by
  rw [whole_eq h, Nat.mul_comm d, Nat.mul_comm b]
theorem rests (h : a / b = c / d) (hb : 0 < b) (hd : 0 < d) (h0 : a % b = 0 ∨ c % d = 0) : ci (a * d) (c * b) = ci (a % b) (c % d) := by
  rw [whole_eq h]
  rcases h0 with h0 | h0 <;> rw [h0, Nat.zero_mul]
  · unfold ci
    have : 0 < c % d * b ↔ 0 < c % d := by constructor
                                           · intro h; rcases Nat.eq_zero_or_pos (c % d) with e | e
                                             · rw [e] at h; omega
                                             · exact e
                                           · intro h; exact Nat.mul_pos h hb
    simp only [this, Nat.not_lt_zero]
  · unfold ci
    have : 0 < a % b * d ↔ 0 < a % b := by constructor
                                           · intro h; rcases Nat.eq_zero_or_pos (a % b) with e | e
                                             · rw [e] at h; omega
                                             · exact e
                                           · intro h; exact Nat.mul_pos h hd
    simp only [this, Nat.not_lt_zero]
theorem whole_gt (hb : 0 < b) (hd : 0 < d) (h : c / d < a / b) : ci (a * d) (c * b) = 1 := by
  have := whole_lt hd hb h
  rw [ci_anti, this]; rfl
theorem wholes (hb : 0 < b) (hd : 0 < d) (h : a / b ≠ c / d) : ci (a * d) (c * b) = ci (a / b) (c / d) := by
  rcases Nat.lt_or_gt_of_ne h with h | h
  · rw [whole_lt hb hd h, ci_lt h]
  · rw [whole_gt hb hd h, ci_gt h]
theorem cmp_eq (h : Nat.gcd a b = 1) (h' : Nat.gcd c d = 1) : ci (a * d) (c * b) = 0 ↔ a = c ∧ b = d := by
  rw [ci_zero]
  exact ⟨eq_of_cross h h', fun ⟨e, e'⟩ => by rw [e, e']⟩
end
/-- What is added to both changes no order. -/
theorem cmp_add {a b c d e f : Nat} (hb : 0 < b) (hd : 0 < d) (hf : 0 < f) : ci (an a b e f * ad c d e f) (an c d e f * ad a b e f) = ci (a * d) (c * b) := by
  have h1 := add_cross a b e f
  have h2 := add_cross c d e f
  have p1 := add_pos (a := a) (c := e) hb hf
  have p2 := add_pos (a := c) (c := e) hd hf
  generalize an a b e f = x at *
  generalize ad a b e f = y at *
  generalize an c d e f = z at *
  generalize ad c d e f = u at *
  have k1 : 0 < b * d * f := Nat.mul_pos (Nat.mul_pos hb hd) hf
  have k2 : 0 < f * y * u := Nat.mul_pos (Nat.mul_pos hf p1) p2
  rw [← ci_mul (x := x * u) k1, ← ci_mul (x := a * d) k2]
  have e1 : x * u * (b * d * f) = a * d * (f * y * u) + e * b * d * y * u := by grind
  have e2 : z * y * (b * d * f) = c * b * (f * y * u) + e * b * d * y * u := by grind
  rw [e1, e2, ci_add]
end Fr
end Go.Proofs.YtcgbgaljjhopiaaGreatDoor
namespace Go.Proofs.YtcgbgaljjhopiaaGreatDoor
set_option maxRecDepth 20000
open Go.RowKit
set_option linter.unusedVariables false
set_option linter.unusedSimpArgs false
section
variable {α : Type} {a b0 b1 b2 b3 b4 b5 b6 b7 b8 b9 b10 b11 b12 b13 b14 b15 b16 b17 b18 b19 b20 b21 b22 b23 b24 b25 b26 b27 b28 b29 b30 b31 b32 b33 b34 b35 b36 b37 b38 b39 b40 b41 b42 b43 b44 b45 b46 b47 b48 b49 b50 b51 b52 b53 b54 b55 b56 b57 b58 b59 b60 b61 b62 b63 b64 b65 b66 b67 b68 b69 : α} {l : List α}
theorem at0 : a ∈ a :: l := List.mem_cons_self
theorem at1 : a ∈ b0 :: a :: l := List.mem_cons_of_mem _ at0
theorem at2 : a ∈ b0 :: b1 :: a :: l := List.mem_cons_of_mem _ at1
theorem at3 : a ∈ b0 :: b1 :: b2 :: a :: l := List.mem_cons_of_mem _ at2
theorem at4 : a ∈ b0 :: b1 :: b2 :: b3 :: a :: l := List.mem_cons_of_mem _ at3
theorem at5 : a ∈ b0 :: b1 :: b2 :: b3 :: b4 :: a :: l := List.mem_cons_of_mem _ at4
theorem at6 : a ∈ b0 :: b1 :: b2 :: b3 :: b4 :: b5 :: a :: l := List.mem_cons_of_mem _ at5
theorem at7 : a ∈ b0 :: b1 :: b2 :: b3 :: b4 :: b5 :: b6 :: a :: l := List.mem_cons_of_mem _ at6
theorem at8 : a ∈ b0 :: b1 :: b2 :: b3 :: b4 :: b5 :: b6 :: b7 :: a :: l := List.mem_cons_of_mem _ at7
theorem at9 : a ∈ b0 :: b1 :: b2 :: b3 :: b4 :: b5 :: b6 :: b7 :: b8 :: a :: l := List.mem_cons_of_mem _ at8
theorem at10 : a ∈ b0 :: b1 :: b2 :: b3 :: b4 :: b5 :: b6 :: b7 :: b8 :: b9 :: a :: l := List.mem_cons_of_mem _ at9
theorem at11 : a ∈ b0 :: b1 :: b2 :: b3 :: b4 :: b5 :: b6 :: b7 :: b8 :: b9 :: b10 :: a :: l := List.mem_cons_of_mem _ at10
theorem at12 : a ∈ b0 :: b1 :: b2 :: b3 :: b4 :: b5 :: b6 :: b7 :: b8 :: b9 :: b10 :: b11 :: a :: l := List.mem_cons_of_mem _ at11
theorem at13 : a ∈ b0 :: b1 :: b2 :: b3 :: b4 :: b5 :: b6 :: b7 :: b8 :: b9 :: b10 :: b11 :: b12 :: a :: l := List.mem_cons_of_mem _ at12
theorem at14 : a ∈ b0 :: b1 :: b2 :: b3 :: b4 :: b5 :: b6 :: b7 :: b8 :: b9 :: b10 :: b11 :: b12 :: b13 :: a :: l := List.mem_cons_of_mem _ at13
theorem at15 : a ∈ b0 :: b1 :: b2 :: b3 :: b4 :: b5 :: b6 :: b7 :: b8 :: b9 :: b10 :: b11 :: b12 :: b13 :: b14 :: a :: l := List.mem_cons_of_mem _ at14
theorem at16 : a ∈ b0 :: b1 :: b2 :: b3 :: b4 :: b5 :: b6 :: b7 :: b8 :: b9 :: b10 :: b11 :: b12 :: b13 :: b14 :: b15 :: a :: l := List.mem_cons_of_mem _ at15
theorem at17 : a ∈ b0 :: b1 :: b2 :: b3 :: b4 :: b5 :: b6 :: b7 :: b8 :: b9 :: b10 :: b11 :: b12 :: b13 :: b14 :: b15 :: b16 :: a :: l := List.mem_cons_of_mem _ at16
theorem at18 : a ∈ b0 :: b1 :: b2 :: b3 :: b4 :: b5 :: b6 :: b7 :: b8 :: b9 :: b10 :: b11 :: b12 :: b13 :: b14 :: b15 :: b16 :: b17 :: a :: l := List.mem_cons_of_mem _ at17
theorem at19 : a ∈ b0 :: b1 :: b2 :: b3 :: b4 :: b5 :: b6 :: b7 :: b8 :: b9 :: b10 :: b11 :: b12 :: b13 :: b14 :: b15 :: b16 :: b17 :: b18 :: a :: l := List.mem_cons_of_mem _ at18
theorem at20 : a ∈ b0 :: b1 :: b2 :: b3 :: b4 :: b5 :: b6 :: b7 :: b8 :: b9 :: b10 :: b11 :: b12 :: b13 :: b14 :: b15 :: b16 :: b17 :: b18 :: b19 :: a :: l := List.mem_cons_of_mem _ at19
theorem at21 : a ∈ b0 :: b1 :: b2 :: b3 :: b4 :: b5 :: b6 :: b7 :: b8 :: b9 :: b10 :: b11 :: b12 :: b13 :: b14 :: b15 :: b16 :: b17 :: b18 :: b19 :: b20 :: a :: l := List.mem_cons_of_mem _ at20
theorem at22 : a ∈ b0 :: b1 :: b2 :: b3 :: b4 :: b5 :: b6 :: b7 :: b8 :: b9 :: b10 :: b11 :: b12 :: b13 :: b14 :: b15 :: b16 :: b17 :: b18 :: b19 :: b20 :: b21 :: a :: l := List.mem_cons_of_mem _ at21
theorem at23 : a ∈ b0 :: b1 :: b2 :: b3 :: b4 :: b5 :: b6 :: b7 :: b8 :: b9 :: b10 :: b11 :: b12 :: b13 :: b14 :: b15 :: b16 :: b17 :: b18 :: b19 :: b20 :: b21 :: b22 :: a :: l := List.mem_cons_of_mem _ at22
theorem at24 : a ∈ b0 :: b1 :: b2 :: b3 :: b4 :: b5 :: b6 :: b7 :: b8 :: b9 :: b10 :: b11 :: b12 :: b13 :: b14 :: b15 :: b16 :: b17 :: b18 :: b19 :: b20 :: b21 :: b22 :: b23 :: a :: l := List.mem_cons_of_mem _ at23
theorem at25 : a ∈ b0 :: b1 :: b2 :: b3 :: b4 :: b5 :: b6 :: b7 :: b8 :: b9 :: b10 :: b11 :: b12 :: b13 :: b14 :: b15 :: b16 :: b17 :: b18 :: b19 :: b20 :: b21 :: b22 :: b23 :: b24 :: a :: l := List.mem_cons_of_mem _ at24
theorem at26 : a ∈ b0 :: b1 :: b2 :: b3 :: b4 :: b5 :: b6 :: b7 :: b8 :: b9 :: b10 :: b11 :: b12 :: b13 :: b14 :: b15 :: b16 :: b17 :: b18 :: b19 :: b20 :: b21 :: b22 :: b23 :: b24 :: b25 :: a :: l := List.mem_cons_of_mem _ at25
theorem at27 : a ∈ b0 :: b1 :: b2 :: b3 :: b4 :: b5 :: b6 :: b7 :: b8 :: b9 :: b10 :: b11 :: b12 :: b13 :: b14 :: b15 :: b16 :: b17 :: b18 :: b19 :: b20 :: b21 :: b22 :: b23 :: b24 :: b25 :: b26 :: a :: l := List.mem_cons_of_mem _ at26
theorem at28 : a ∈ b0 :: b1 :: b2 :: b3 :: b4 :: b5 :: b6 :: b7 :: b8 :: b9 :: b10 :: b11 :: b12 :: b13 :: b14 :: b15 :: b16 :: b17 :: b18 :: b19 :: b20 :: b21 :: b22 :: b23 :: b24 :: b25 :: b26 :: b27 :: a :: l := List.mem_cons_of_mem _ at27
theorem at29 : a ∈ b0 :: b1 :: b2 :: b3 :: b4 :: b5 :: b6 :: b7 :: b8 :: b9 :: b10 :: b11 :: b12 :: b13 :: b14 :: b15 :: b16 :: b17 :: b18 :: b19 :: b20 :: b21 :: b22 :: b23 :: b24 :: b25 :: b26 :: b27 :: b28 :: a :: l := List.mem_cons_of_mem _ at28
theorem at30 : a ∈ b0 :: b1 :: b2 :: b3 :: b4 :: b5 :: b6 :: b7 :: b8 :: b9 :: b10 :: b11 :: b12 :: b13 :: b14 :: b15 :: b16 :: b17 :: b18 :: b19 :: b20 :: b21 :: b22 :: b23 :: b24 :: b25 :: b26 :: b27 :: b28 :: b29 :: a :: l := List.mem_cons_of_mem _ at29
theorem at31 : a ∈ b0 :: b1 :: b2 :: b3 :: b4 :: b5 :: b6 :: b7 :: b8 :: b9 :: b10 :: b11 :: b12 :: b13 :: b14 :: b15 :: b16 :: b17 :: b18 :: b19 :: b20 :: b21 :: b22 :: b23 :: b24 :: b25 :: b26 :: b27 :: b28 :: b29 :: b30 :: a :: l := List.mem_cons_of_mem _ at30
theorem at32 : a ∈ b0 :: b1 :: b2 :: b3 :: b4 :: b5 :: b6 :: b7 :: b8 :: b9 :: b10 :: b11 :: b12 :: b13 :: b14 :: b15 :: b16 :: b17 :: b18 :: b19 :: b20 :: b21 :: b22 :: b23 :: b24 :: b25 :: b26 :: b27 :: b28 :: b29 :: b30 :: b31 :: a :: l := List.mem_cons_of_mem _ at31
theorem at33 : a ∈ b0 :: b1 :: b2 :: b3 :: b4 :: b5 :: b6 :: b7 :: b8 :: b9 :: b10 :: b11 :: b12 :: b13 :: b14 :: b15 :: b16 :: b17 :: b18 :: b19 :: b20 :: b21 :: b22 :: b23 :: b24 :: b25 :: b26 :: b27 :: b28 :: b29 :: b30 :: b31 :: b32 :: a :: l := List.mem_cons_of_mem _ at32
theorem at34 : a ∈ b0 :: b1 :: b2 :: b3 :: b4 :: b5 :: b6 :: b7 :: b8 :: b9 :: b10 :: b11 :: b12 :: b13 :: b14 :: b15 :: b16 :: b17 :: b18 :: b19 :: b20 :: b21 :: b22 :: b23 :: b24 :: b25 :: b26 :: b27 :: b28 :: b29 :: b30 :: b31 :: b32 :: b33 :: a :: l := List.mem_cons_of_mem _ at33
theorem at35 : a ∈ b0 :: b1 :: b2 :: b3 :: b4 :: b5 :: b6 :: b7 :: b8 :: b9 :: b10 :: b11 :: b12 :: b13 :: b14 :: b15 :: b16 :: b17 :: b18 :: b19 :: b20 :: b21 :: b22 :: b23 :: b24 :: b25 :: b26 :: b27 :: b28 :: b29 :: b30 :: b31 :: b32 :: b33 :: b34 :: a :: l := List.mem_cons_of_mem _ at34
theorem at36 : a ∈ b0 :: b1 :: b2 :: b3 :: b4 :: b5 :: b6 :: b7 :: b8 :: b9 :: b10 :: b11 :: b12 :: b13 :: b14 :: b15 :: b16 :: b17 :: b18 :: b19 :: b20 :: b21 :: b22 :: b23 :: b24 :: b25 :: b26 :: b27 :: b28 :: b29 :: b30 :: b31 :: b32 :: b33 :: b34 :: b35 :: a :: l := List.mem_cons_of_mem _ at35
theorem at37 : a ∈ b0 :: b1 :: b2 :: b3 :: b4 :: b5 :: b6 :: b7 :: b8 :: b9 :: b10 :: b11 :: b12 :: b13 :: b14 :: b15 :: b16 :: b17 :: b18 :: b19 :: b20 :: b21 :: b22 :: b23 :: b24 :: b25 :: b26 :: b27 :: b28 :: b29 :: b30 :: b31 :: b32 :: b33 :: b34 :: b35 :: b36 :: a :: l := List.mem_cons_of_mem _ at36
theorem at38 : a ∈ b0 :: b1 :: b2 :: b3 :: b4 :: b5 :: b6 :: b7 :: b8 :: b9 :: b10 :: b11 :: b12 :: b13 :: b14 :: b15 :: b16 :: b17 :: b18 :: b19 :: b20 :: b21 :: b22 :: b23 :: b24 :: b25 :: b26 :: b27 :: b28 :: b29 :: b30 :: b31 :: b32 :: b33 :: b34 :: b35 :: b36 :: b37 :: a :: l := List.mem_cons_of_mem _ at37
theorem at39 : a ∈ b0 :: b1 :: b2 :: b3 :: b4 :: b5 :: b6 :: b7 :: b8 :: b9 :: b10 :: b11 :: b12 :: b13 :: b14 :: b15 :: b16 :: b17 :: b18 :: b19 :: b20 :: b21 :: b22 :: b23 :: b24 :: b25 :: b26 :: b27 :: b28 :: b29 :: b30 :: b31 :: b32 :: b33 :: b34 :: b35 :: b36 :: b37 :: b38 :: a :: l := List.mem_cons_of_mem _ at38
theorem at40 : a ∈ b0 :: b1 :: b2 :: b3 :: b4 :: b5 :: b6 :: b7 :: b8 :: b9 :: b10 :: b11 :: b12 :: b13 :: b14 :: b15 :: b16 :: b17 :: b18 :: b19 :: b20 :: b21 :: b22 :: b23 :: b24 :: b25 :: b26 :: b27 :: b28 :: b29 :: b30 :: b31 :: b32 :: b33 :: b34 :: b35 :: b36 :: b37 :: b38 :: b39 :: a :: l := List.mem_cons_of_mem _ at39
theorem at41 : a ∈ b0 :: b1 :: b2 :: b3 :: b4 :: b5 :: b6 :: b7 :: b8 :: b9 :: b10 :: b11 :: b12 :: b13 :: b14 :: b15 :: b16 :: b17 :: b18 :: b19 :: b20 :: b21 :: b22 :: b23 :: b24 :: b25 :: b26 :: b27 :: b28 :: b29 :: b30 :: b31 :: b32 :: b33 :: b34 :: b35 :: b36 :: b37 :: b38 :: b39 :: b40 :: a :: l := List.mem_cons_of_mem _ at40
theorem at42 : a ∈ b0 :: b1 :: b2 :: b3 :: b4 :: b5 :: b6 :: b7 :: b8 :: b9 :: b10 :: b11 :: b12 :: b13 :: b14 :: b15 :: b16 :: b17 :: b18 :: b19 :: b20 :: b21 :: b22 :: b23 :: b24 :: b25 :: b26 :: b27 :: b28 :: b29 :: b30 :: b31 :: b32 :: b33 :: b34 :: b35 :: b36 :: b37 :: b38 :: b39 :: b40 :: b41 :: a :: l := List.mem_cons_of_mem _ at41
theorem at43 : a ∈ b0 :: b1 :: b2 :: b3 :: b4 :: b5 :: b6 :: b7 :: b8 :: b9 :: b10 :: b11 :: b12 :: b13 :: b14 :: b15 :: b16 :: b17 :: b18 :: b19 :: b20 :: b21 :: b22 :: b23 :: b24 :: b25 :: b26 :: b27 :: b28 :: b29 :: b30 :: b31 :: b32 :: b33 :: b34 :: b35 :: b36 :: b37 :: b38 :: b39 :: b40 :: b41 :: b42 :: a :: l := List.mem_cons_of_mem _ at42
theorem at44 : a ∈ b0 :: b1 :: b2 :: b3 :: b4 :: b5 :: b6 :: b7 :: b8 :: b9 :: b10 :: b11 :: b12 :: b13 :: b14 :: b15 :: b16 :: b17 :: b18 :: b19 :: b20 :: b21 :: b22 :: b23 :: b24 :: b25 :: b26 :: b27 :: b28 :: b29 :: b30 :: b31 :: b32 :: b33 :: b34 :: b35 :: b36 :: b37 :: b38 :: b39 :: b40 :: b41 :: b42 :: b43 :: a :: l := List.mem_cons_of_mem _ at43
theorem at45 : a ∈ b0 :: b1 :: b2 :: b3 :: b4 :: b5 :: b6 :: b7 :: b8 :: b9 :: b10 :: b11 :: b12 :: b13 :: b14 :: b15 :: b16 :: b17 :: b18 :: b19 :: b20 :: b21 :: b22 :: b23 :: b24 :: b25 :: b26 :: b27 :: b28 :: b29 :: b30 :: b31 :: b32 :: b33 :: b34 :: b35 :: b36 :: b37 :: b38 :: b39 :: b40 :: b41 :: b42 :: b43 :: b44 :: a :: l := List.mem_cons_of_mem _ at44
theorem at46 : a ∈ b0 :: b1 :: b2 :: b3 :: b4 :: b5 :: b6 :: b7 :: b8 :: b9 :: b10 :: b11 :: b12 :: b13 :: b14 :: b15 :: b16 :: b17 :: b18 :: b19 :: b20 :: b21 :: b22 :: b23 :: b24 :: b25 :: b26 :: b27 :: b28 :: b29 :: b30 :: b31 :: b32 :: b33 :: b34 :: b35 :: b36 :: b37 :: b38 :: b39 :: b40 :: b41 :: b42 :: b43 :: b44 :: b45 :: a :: l := List.mem_cons_of_mem _ at45
theorem at47 : a ∈ b0 :: b1 :: b2 :: b3 :: b4 :: b5 :: b6 :: b7 :: b8 :: b9 :: b10 :: b11 :: b12 :: b13 :: b14 :: b15 :: b16 :: b17 :: b18 :: b19 :: b20 :: b21 :: b22 :: b23 :: b24 :: b25 :: b26 :: b27 :: b28 :: b29 :: b30 :: b31 :: b32 :: b33 :: b34 :: b35 :: b36 :: b37 :: b38 :: b39 :: b40 :: b41 :: b42 :: b43 :: b44 :: b45 :: b46 :: a :: l := List.mem_cons_of_mem _ at46
theorem at48 : a ∈ b0 :: b1 :: b2 :: b3 :: b4 :: b5 :: b6 :: b7 :: b8 :: b9 :: b10 :: b11 :: b12 :: b13 :: b14 :: b15 :: b16 :: b17 :: b18 :: b19 :: b20 :: b21 :: b22 :: b23 :: b24 :: b25 :: b26 :: b27 :: b28 :: b29 :: b30 :: b31 :: b32 :: b33 :: b34 :: b35 :: b36 :: b37 :: b38 :: b39 :: b40 :: b41 :: b42 :: b43 :: b44 :: b45 :: b46 :: b47 :: a :: l := List.mem_cons_of_mem _ at47
theorem at49 : a ∈ b0 :: b1 :: b2 :: b3 :: b4 :: b5 :: b6 :: b7 :: b8 :: b9 :: b10 :: b11 :: b12 :: b13 :: b14 :: b15 :: b16 :: b17 :: b18 :: b19 :: b20 :: b21 :: b22 :: b23 :: b24 :: b25 :: b26 :: b27 :: b28 :: b29 :: b30 :: b31 :: b32 :: b33 :: b34 :: b35 :: b36 :: b37 :: b38 :: b39 :: b40 :: b41 :: b42 :: b43 :: b44 :: b45 :: b46 :: b47 :: b48 :: a :: l := List.mem_cons_of_mem _ at48
theorem at50 : a ∈ b0 :: b1 :: b2 :: b3 :: b4 :: b5 :: b6 :: b7 :: b8 :: b9 :: b10 :: b11 :: b12 :: b13 :: b14 :: b15 :: b16 :: b17 :: b18 :: b19 :: b20 :: b21 :: b22 :: b23 :: b24 :: b25 :: b26 :: b27 :: b28 :: b29 :: b30 :: b31 :: b32 :: b33 :: b34 :: b35 :: b36 :: b37 :: b38 :: b39 :: b40 :: b41 :: b42 :: b43 :: b44 :: b45 :: b46 :: b47 :: b48 :: b49 :: a :: l := List.mem_cons_of_mem _ at49
theorem at51 : a ∈ b0 :: b1 :: b2 :: b3 :: b4 :: b5 :: b6 :: b7 :: b8 :: b9 :: b10 :: b11 :: b12 :: b13 :: b14 :: b15 :: b16 :: b17 :: b18 :: b19 :: b20 :: b21 :: b22 :: b23 :: b24 :: b25 :: b26 :: b27 :: b28 :: b29 :: b30 :: b31 :: b32 :: b33 :: b34 :: b35 :: b36 :: b37 :: b38 :: b39 :: b40 :: b41 :: b42 :: b43 :: b44 :: b45 :: b46 :: b47 :: b48 :: b49 :: b50 :: a :: l := List.mem_cons_of_mem _ at50
theorem at52 : a ∈ b0 :: b1 :: b2 :: b3 :: b4 :: b5 :: b6 :: b7 :: b8 :: b9 :: b10 :: b11 :: b12 :: b13 :: b14 :: b15 :: b16 :: b17 :: b18 :: b19 :: b20 :: b21 :: b22 :: b23 :: b24 :: b25 :: b26 :: b27 :: b28 :: b29 :: b30 :: b31 :: b32 :: b33 :: b34 :: b35 :: b36 :: b37 :: b38 :: b39 :: b40 :: b41 :: b42 :: b43 :: b44 :: b45 :: b46 :: b47 :: b48 :: b49 :: b50 :: b51 :: a :: l := List.mem_cons_of_mem _ at51
theorem at53 : a ∈ b0 :: b1 :: b2 :: b3 :: b4 :: b5 :: b6 :: b7 :: b8 :: b9 :: b10 :: b11 :: b12 :: b13 :: b14 :: b15 :: b16 :: b17 :: b18 :: b19 :: b20 :: b21 :: b22 :: b23 :: b24 :: b25 :: b26 :: b27 :: b28 :: b29 :: b30 :: b31 :: b32 :: b33 :: b34 :: b35 :: b36 :: b37 :: b38 :: b39 :: b40 :: b41 :: b42 :: b43 :: b44 :: b45 :: b46 :: b47 :: b48 :: b49 :: b50 :: b51 :: b52 :: a :: l := List.mem_cons_of_mem _ at52
theorem at54 : a ∈ b0 :: b1 :: b2 :: b3 :: b4 :: b5 :: b6 :: b7 :: b8 :: b9 :: b10 :: b11 :: b12 :: b13 :: b14 :: b15 :: b16 :: b17 :: b18 :: b19 :: b20 :: b21 :: b22 :: b23 :: b24 :: b25 :: b26 :: b27 :: b28 :: b29 :: b30 :: b31 :: b32 :: b33 :: b34 :: b35 :: b36 :: b37 :: b38 :: b39 :: b40 :: b41 :: b42 :: b43 :: b44 :: b45 :: b46 :: b47 :: b48 :: b49 :: b50 :: b51 :: b52 :: b53 :: a :: l := List.mem_cons_of_mem _ at53
theorem at55 : a ∈ b0 :: b1 :: b2 :: b3 :: b4 :: b5 :: b6 :: b7 :: b8 :: b9 :: b10 :: b11 :: b12 :: b13 :: b14 :: b15 :: b16 :: b17 :: b18 :: b19 :: b20 :: b21 :: b22 :: b23 :: b24 :: b25 :: b26 :: b27 :: b28 :: b29 :: b30 :: b31 :: b32 :: b33 :: b34 :: b35 :: b36 :: b37 :: b38 :: b39 :: b40 :: b41 :: b42 :: b43 :: b44 :: b45 :: b46 :: b47 :: b48 :: b49 :: b50 :: b51 :: b52 :: b53 :: b54 :: a :: l := List.mem_cons_of_mem _ at54
theorem at56 : a ∈ b0 :: b1 :: b2 :: b3 :: b4 :: b5 :: b6 :: b7 :: b8 :: b9 :: b10 :: b11 :: b12 :: b13 :: b14 :: b15 :: b16 :: b17 :: b18 :: b19 :: b20 :: b21 :: b22 :: b23 :: b24 :: b25 :: b26 :: b27 :: b28 :: b29 :: b30 :: b31 :: b32 :: b33 :: b34 :: b35 :: b36 :: b37 :: b38 :: b39 :: b40 :: b41 :: b42 :: b43 :: b44 :: b45 :: b46 :: b47 :: b48 :: b49 :: b50 :: b51 :: b52 :: b53 :: b54 :: b55 :: a :: l := List.mem_cons_of_mem _ at55
theorem at57 : a ∈ b0 :: b1 :: b2 :: b3 :: b4 :: b5 :: b6 :: b7 :: b8 :: b9 :: b10 :: b11 :: b12 :: b13 :: b14 :: b15 :: b16 :: b17 :: b18 :: b19 :: b20 :: b21 :: b22 :: b23 :: b24 :: b25 :: b26 :: b27 :: b28 :: b29 :: b30 :: b31 :: b32 :: b33 :: b34 :: b35 :: b36 :: b37 :: b38 :: b39 :: b40 :: b41 :: b42 :: b43 :: b44 :: b45 :: b46 :: b47 :: b48 :: b49 :: b50 :: b51 :: b52 :: b53 :: b54 :: b55 :: b56 :: a :: l := List.mem_cons_of_mem _ at56
theorem at58 : a ∈ b0 :: b1 :: b2 :: b3 :: b4 :: b5 :: b6 :: b7 :: b8 :: b9 :: b10 :: b11 :: b12 :: b13 :: b14 :: b15 :: b16 :: b17 :: b18 :: b19 :: b20 :: b21 :: b22 :: b23 :: b24 :: b25 :: b26 :: b27 :: b28 :: b29 :: b30 :: b31 :: b32 :: b33 :: b34 :: b35 :: b36 :: b37 :: b38 :: b39 :: b40 :: b41 :: b42 :: b43 :: b44 :: b45 :: b46 :: b47 :: b48 :: b49 :: b50 :: b51 :: b52 :: b53 :: b54 :: b55 :: b56 :: b57 :: a :: l := List.mem_cons_of_mem _ at57
theorem at59 : a ∈ b0 :: b1 :: b2 :: b3 :: b4 :: b5 :: b6 :: b7 :: b8 :: b9 :: b10 :: b11 :: b12 :: b13 :: b14 :: b15 :: b16 :: b17 :: b18 :: b19 :: b20 :: b21 :: b22 :: b23 :: b24 :: b25 :: b26 :: b27 :: b28 :: b29 :: b30 :: b31 :: b32 :: b33 :: b34 :: b35 :: b36 :: b37 :: b38 :: b39 :: b40 :: b41 :: b42 :: b43 :: b44 :: b45 :: b46 :: b47 :: b48 :: b49 :: b50 :: b51 :: b52 :: b53 :: b54 :: b55 :: b56 :: b57 :: b58 :: a :: l := List.mem_cons_of_mem _ at58
theorem at60 : a ∈ b0 :: b1 :: b2 :: b3 :: b4 :: b5 :: b6 :: b7 :: b8 :: b9 :: b10 :: b11 :: b12 :: b13 :: b14 :: b15 :: b16 :: b17 :: b18 :: b19 :: b20 :: b21 :: b22 :: b23 :: b24 :: b25 :: b26 :: b27 :: b28 :: b29 :: b30 :: b31 :: b32 :: b33 :: b34 :: b35 :: b36 :: b37 :: b38 :: b39 :: b40 :: b41 :: b42 :: b43 :: b44 :: b45 :: b46 :: b47 :: b48 :: b49 :: b50 :: b51 :: b52 :: b53 :: b54 :: b55 :: b56 :: b57 :: b58 :: b59 :: a :: l := List.mem_cons_of_mem _ at59
theorem at61 : a ∈ b0 :: b1 :: b2 :: b3 :: b4 :: b5 :: b6 :: b7 :: b8 :: b9 :: b10 :: b11 :: b12 :: b13 :: b14 :: b15 :: b16 :: b17 :: b18 :: b19 :: b20 :: b21 :: b22 :: b23 :: b24 :: b25 :: b26 :: b27 :: b28 :: b29 :: b30 :: b31 :: b32 :: b33 :: b34 :: b35 :: b36 :: b37 :: b38 :: b39 :: b40 :: b41 :: b42 :: b43 :: b44 :: b45 :: b46 :: b47 :: b48 :: b49 :: b50 :: b51 :: b52 :: b53 :: b54 :: b55 :: b56 :: b57 :: b58 :: b59 :: b60 :: a :: l := List.mem_cons_of_mem _ at60
theorem at62 : a ∈ b0 :: b1 :: b2 :: b3 :: b4 :: b5 :: b6 :: b7 :: b8 :: b9 :: b10 :: b11 :: b12 :: b13 :: b14 :: b15 :: b16 :: b17 :: b18 :: b19 :: b20 :: b21 :: b22 :: b23 :: b24 :: b25 :: b26 :: b27 :: b28 :: b29 :: b30 :: b31 :: b32 :: b33 :: b34 :: b35 :: b36 :: b37 :: b38 :: b39 :: b40 :: b41 :: b42 :: b43 :: b44 :: b45 :: b46 :: b47 :: b48 :: b49 :: b50 :: b51 :: b52 :: b53 :: b54 :: b55 :: b56 :: b57 :: b58 :: b59 :: b60 :: b61 :: a :: l := List.mem_cons_of_mem _ at61
theorem at63 : a ∈ b0 :: b1 :: b2 :: b3 :: b4 :: b5 :: b6 :: b7 :: b8 :: b9 :: b10 :: b11 :: b12 :: b13 :: b14 :: b15 :: b16 :: b17 :: b18 :: b19 :: b20 :: b21 :: b22 :: b23 :: b24 :: b25 :: b26 :: b27 :: b28 :: b29 :: b30 :: b31 :: b32 :: b33 :: b34 :: b35 :: b36 :: b37 :: b38 :: b39 :: b40 :: b41 :: b42 :: b43 :: b44 :: b45 :: b46 :: b47 :: b48 :: b49 :: b50 :: b51 :: b52 :: b53 :: b54 :: b55 :: b56 :: b57 :: b58 :: b59 :: b60 :: b61 :: b62 :: a :: l := List.mem_cons_of_mem _ at62
theorem at64 : a ∈ b0 :: b1 :: b2 :: b3 :: b4 :: b5 :: b6 :: b7 :: b8 :: b9 :: b10 :: b11 :: b12 :: b13 :: b14 :: b15 :: b16 :: b17 :: b18 :: b19 :: b20 :: b21 :: b22 :: b23 :: b24 :: b25 :: b26 :: b27 :: b28 :: b29 :: b30 :: b31 :: b32 :: b33 :: b34 :: b35 :: b36 :: b37 :: b38 :: b39 :: b40 :: b41 :: b42 :: b43 :: b44 :: b45 :: b46 :: b47 :: b48 :: b49 :: b50 :: b51 :: b52 :: b53 :: b54 :: b55 :: b56 :: b57 :: b58 :: b59 :: b60 :: b61 :: b62 :: b63 :: a :: l := List.mem_cons_of_mem _ at63
theorem at65 : a ∈ b0 :: b1 :: b2 :: b3 :: b4 :: b5 :: b6 :: b7 :: b8 :: b9 :: b10 :: b11 :: b12 :: b13 :: b14 :: b15 :: b16 :: b17 :: b18 :: b19 :: b20 :: b21 :: b22 :: b23 :: b24 :: b25 :: b26 :: b27 :: b28 :: b29 :: b30 :: b31 :: b32 :: b33 :: b34 :: b35 :: b36 :: b37 :: b38 :: b39 :: b40 :: b41 :: b42 :: b43 :: b44 :: b45 :: b46 :: b47 :: b48 :: b49 :: b50 :: b51 :: b52 :: b53 :: b54 :: b55 :: b56 :: b57 :: b58 :: b59 :: b60 :: b61 :: b62 :: b63 :: b64 :: a :: l := List.mem_cons_of_mem _ at64
theorem at66 : a ∈ b0 :: b1 :: b2 :: b3 :: b4 :: b5 :: b6 :: b7 :: b8 :: b9 :: b10 :: b11 :: b12 :: b13 :: b14 :: b15 :: b16 :: b17 :: b18 :: b19 :: b20 :: b21 :: b22 :: b23 :: b24 :: b25 :: b26 :: b27 :: b28 :: b29 :: b30 :: b31 :: b32 :: b33 :: b34 :: b35 :: b36 :: b37 :: b38 :: b39 :: b40 :: b41 :: b42 :: b43 :: b44 :: b45 :: b46 :: b47 :: b48 :: b49 :: b50 :: b51 :: b52 :: b53 :: b54 :: b55 :: b56 :: b57 :: b58 :: b59 :: b60 :: b61 :: b62 :: b63 :: b64 :: b65 :: a :: l := List.mem_cons_of_mem _ at65
theorem at67 : a ∈ b0 :: b1 :: b2 :: b3 :: b4 :: b5 :: b6 :: b7 :: b8 :: b9 :: b10 :: b11 :: b12 :: b13 :: b14 :: b15 :: b16 :: b17 :: b18 :: b19 :: b20 :: b21 :: b22 :: b23 :: b24 :: b25 :: b26 :: b27 :: b28 :: b29 :: b30 :: b31 :: b32 :: b33 :: b34 :: b35 :: b36 :: b37 :: b38 :: b39 :: b40 :: b41 :: b42 :: b43 :: b44 :: b45 :: b46 :: b47 :: b48 :: b49 :: b50 :: b51 :: b52 :: b53 :: b54 :: b55 :: b56 :: b57 :: b58 :: b59 :: b60 :: b61 :: b62 :: b63 :: b64 :: b65 :: b66 :: a :: l := List.mem_cons_of_mem _ at66
theorem at68 : a ∈ b0 :: b1 :: b2 :: b3 :: b4 :: b5 :: b6 :: b7 :: b8 :: b9 :: b10 :: b11 :: b12 :: b13 :: b14 :: b15 :: b16 :: b17 :: b18 :: b19 :: b20 :: b21 :: b22 :: b23 :: b24 :: b25 :: b26 :: b27 :: b28 :: b29 :: b30 :: b31 :: b32 :: b33 :: b34 :: b35 :: b36 :: b37 :: b38 :: b39 :: b40 :: b41 :: b42 :: b43 :: b44 :: b45 :: b46 :: b47 :: b48 :: b49 :: b50 :: b51 :: b52 :: b53 :: b54 :: b55 :: b56 :: b57 :: b58 :: b59 :: b60 :: b61 :: b62 :: b63 :: b64 :: b65 :: b66 :: b67 :: a :: l := List.mem_cons_of_mem _ at67
theorem at69 : a ∈ b0 :: b1 :: b2 :: b3 :: b4 :: b5 :: b6 :: b7 :: b8 :: b9 :: b10 :: b11 :: b12 :: b13 :: b14 :: b15 :: b16 :: b17 :: b18 :: b19 :: b20 :: b21 :: b22 :: b23 :: b24 :: b25 :: b26 :: b27 :: b28 :: b29 :: b30 :: b31 :: b32 :: b33 :: b34 :: b35 :: b36 :: b37 :: b38 :: b39 :: b40 :: b41 :: b42 :: b43 :: b44 :: b45 :: b46 :: b47 :: b48 :: b49 :: b50 :: b51 :: b52 :: b53 :: b54 :: b55 :: b56 :: b57 :: b58 :: b59 :: b60 :: b61 :: b62 :: b63 :: b64 :: b65 :: b66 :: b67 :: b68 :: a :: l := List.mem_cons_of_mem _ at68
theorem at70 : a ∈ b0 :: b1 :: b2 :: b3 :: b4 :: b5 :: b6 :: b7 :: b8 :: b9 :: b10 :: b11 :: b12 :: b13 :: b14 :: b15 :: b16 :: b17 :: b18 :: b19 :: b20 :: b21 :: b22 :: b23 :: b24 :: b25 :: b26 :: b27 :: b28 :: b29 :: b30 :: b31 :: b32 :: b33 :: b34 :: b35 :: b36 :: b37 :: b38 :: b39 :: b40 :: b41 :: b42 :: b43 :: b44 :: b45 :: b46 :: b47 :: b48 :: b49 :: b50 :: b51 :: b52 :: b53 :: b54 :: b55 :: b56 :: b57 :: b58 :: b59 :: b60 :: b61 :: b62 :: b63 :: b64 :: b65 :: b66 :: b67 :: b68 :: b69 :: a :: l := List.mem_cons_of_mem _ at69
end
/-- Variables of the call's own, with what they hold, and numbers: what a call keeps. -/
structure Ks (w W : World) (bs : List (Nat × List Value × TypeId)) (ns : List (Option Addr × Nat × Nat)) : Prop where
  bel : Below w.heap.size w W
  b : ∀ p ∈ bs, W.heap[p.1]? = some (.cells p.2.1.toArray p.2.2 (0, 0))
  n : ∀ p ∈ ns, IsN W W.heap.size p.1 p.2.1 p.2.2
section
variable {w W W' : World} {bs : List (Nat × List Value × TypeId)} {ns : List (Option Addr × Nat × Nat)} {b : Nat} {u v : Value} {l : List Value} {T : TypeId}
theorem Ks.start (w : World) : Ks w w [] [] := ⟨Below.refl _ _, (fun _ h => nomatch h), (fun _ h => nomatch h)⟩
theorem Ks.call (h : Ks w W bs ns) (hb : Below W.heap.size W W') : Ks w W' bs ns :=
  ⟨h.bel.trans (hb.mono h.bel.size), fun p hp => (hb.block p.1 (lt_of_block (h.b p hp))).trans (h.b p hp), fun p hp => ((h.n p hp).below hb).more hb.size⟩
theorem Ks.num (h : Ks w W bs ns) {A : Option Addr} {n x : Nat} (hn : IsN W W.heap.size A n x) : Ks w W bs ((A, n, x) :: ns) :=
  ⟨h.bel, h.b, fun p hp => by
    rcases List.mem_cons.1 hp with rfl | hp
    · exact hn
    · exact h.n p hp⟩
theorem Ks.box (h : Ks w W bs ns) (l : List Value) (T : TypeId) : Ks w (W.alloc (.cells l.toArray T)) ((W.heap.size, l, T) :: bs) ns :=
  have h2 := h.call ((Below.refl W.heap.size W).alloc (Nat.le_refl _) (.cells l.toArray T))
  ⟨h2.bel, fun p hp => by
    rcases List.mem_cons.1 hp with rfl | hp
    · exact heap_alloc_new W _
    · exact h2.b p hp, h2.n⟩
theorem Ks.cell0 (h : Ks w W bs ns) (hp : (b, v :: l, T) ∈ bs) : W.cell? ⟨b, 0, none⟩ = some v := by
  rw [cell_of_row W b 0 _ T (0, 0) (h.b _ hp)]; rfl
theorem Ks.cell1 (h : Ks w W bs ns) (hp : (b, u :: v :: l, T) ∈ bs) : W.cell? ⟨b, 1, none⟩ = some v := by
  rw [cell_of_row W b 1 _ T (0, 0) (h.b _ hp)]; rfl
theorem Ks.free (h : Ks w W bs ns) (hp : (b, l, T) ∈ bs) (i : Nat) : W.frozen? ⟨b, i, none⟩ = false := by
  have := h.b _ hp
  simp [World.frozen?, this]
theorem Ks.get (h : Ks w W bs ns) {A : Option Addr} {n x : Nat} (hp : (A, n, x) ∈ ns) : IsN W W.heap.size A n x := h.n _ hp
theorem Ks.lt (h : Ks w W bs ns) (hp : (b, l, T) ∈ bs) : b < W.heap.size := lt_of_block (h.b _ hp)
theorem Ks.less {bs' : List (Nat × List Value × TypeId)} {ns' : List (Option Addr × Nat × Nat)} (h : Ks w W bs ns) (h1 : ∀ p ∈ bs', p ∈ bs) (h2 : ∀ p ∈ ns', p ∈ ns) : Ks w W bs' ns' :=
  ⟨h.bel, fun p hp => h.b p (h1 p hp), fun p hp => h.n p (h2 p hp)⟩
end
theorem IsN.setAt {w : World} {B n x : Nat} {A : Option Addr} (h : IsN w B A n x) {p : Addr} {v : Value} (hc : w.cell? p = some v) (hv : ∀ i, v ≠ .int .u32 i) (u : Value) : IsN (w.setCell p u) B A n x :=
  ⟨fun hn => by
    obtain ⟨ad, e, hb, hd⟩ := h.d hn
    refine ⟨ad, e, hb, fun j hj => ?_⟩
    rw [World.cell?_setCell_other w p _ u (fun e => hv _ (Option.some.inj (hc.symm.trans ((congrArg w.cell? e).trans (hd j hj)))))]
    exact hd j hj, h.l⟩
/-- What a call that answers a fraction and an error leaves; t: the numerator, the denominator, the error. -/
def FRes (t : Nat × Nat × Int) (w : World) (e : Ending) (w' : World) : Prop :=
  ∃ A n c A' n' c', e = .returned (.tuple #[.agg #[.slice A n c, .slice A' n' c'], .int .i64 t.2.2]) ∧ Below w.heap.size w w' ∧ IsN w' w'.heap.size A n t.1 ∧ IsN w' w'.heap.size A' n' t.2.1 ∧ n ≤ 64 ∧ n' ≤ 64 ∧ n ≤ c ∧ n' ≤ c'
/-- Two numbers, or one. -/
def DRes (q r : Nat) (w : World) (e : Ending) (w' : World) : Prop :=
  ∃ A n c A' n' c', e = .returned (.tuple #[.agg #[.slice A n c], .agg #[.slice A' n' c']]) ∧ Below w.heap.size w w' ∧ IsN w' w'.heap.size A n q ∧ IsN w' w'.heap.size A' n' r ∧ n ≤ 64 ∧ n' ≤ 64 ∧ n ≤ c ∧ n' ≤ c'
def QRes (q : Nat) (w : World) (e : Ending) (w' : World) : Prop :=
  ∃ A n c, e = .returned (.agg #[.slice A n c]) ∧ Below w.heap.size w w' ∧ IsN w' w'.heap.size A n q ∧ n ≤ 64 ∧ n ≤ c
/-- Has a number no limbs? -/
def Nt.isz (n : Nat) : Bool := ((n : Int) == 0)
theorem Nt.isz_zero : Nt.isz 0 = true := rfl
theorem Nt.isz_iff {n : Nat} : Nt.isz n = true ↔ n = 0 := by
  unfold Nt.isz
  constructor
  · intro h; have := eq_of_beq h; omega
  · rintro rfl; rfl
theorem Nt.isz_pos {n : Nat} (h : 0 < n) : Nt.isz n = false := by
  rw [Bool.eq_false_iff]; intro e; rw [Nt.isz_iff] at e; omega
theorem IsN.len_zero {w : World} {B n : Nat} {A : Option Addr} (h : IsN w B A n 0) : n = 0 := by rw [← h.l, Nt.ln_zero]
theorem IsN.len_pos {w : World} {B n x : Nat} {A : Option Addr} (h : IsN w B A n x) (hx : 0 < x) : 0 < n := by rw [← h.l]; exact Nt.ln_pos (by omega) (by omega)
theorem IsN.isz {w : World} {B n x : Nat} {A : Option Addr} (h : IsN w B A n x) : Nt.isz n = decide (x = 0) := by
  rcases Nat.eq_zero_or_pos x with rfl | hx
  · rw [h.len_zero]; rfl
  · rw [Nt.isz_pos (h.len_pos hx)]; simp; omega
theorem frac_isZero {n c : Nat} {A : Option Addr} (w : World) : Calls Tryz.prog 39 #[.agg #[.slice A n c]] w fun e w' => e = .returned (.bool (Nt.isz n)) ∧ Below w.heap.size w w' := by
  go_enter Tryz.func39, Tryz.ntmps39
  go_wp2
  go_ret
  exact ⟨rfl, (Below.refl _ _).alloc (Nat.le_refl _) _⟩
theorem Fr4.set3 {N : Nat} {w W : World} {v1 v2 v3 v4 : Value} (h : Fr4 N w W v1 v2 v3 v4) (u : Value) : Fr4 N w (W.setCell ⟨N + 1 + 1, 0, none⟩ u) v1 v2 u v4 :=
  ⟨h.n1.far (by show N ≠ N + 1 + 1; omega) _, h.n2.far (by show N + 1 ≠ N + 1 + 1; omega) _, h.n3.set u, h.n4.far (by show N + 1 + 1 + 1 ≠ N + 1 + 1; omega) _, h.bel.setCell (by simp; omega) _⟩
theorem Fr4.set4 {N : Nat} {w W : World} {v1 v2 v3 v4 : Value} (h : Fr4 N w W v1 v2 v3 v4) (u : Value) : Fr4 N w (W.setCell ⟨N + 1 + 1 + 1, 0, none⟩ u) v1 v2 v3 u :=
  ⟨h.n1.far (by show N ≠ N + 1 + 1 + 1; omega) _, h.n2.far (by show N + 1 ≠ N + 1 + 1 + 1; omega) _, h.n3.far (by show N + 1 + 1 ≠ N + 1 + 1 + 1; omega) _, h.n4.set u, h.bel.setCell (by simp; omega) _⟩
theorem Fr4.drew {N : Nat} {w W : World} {v1 v2 v3 v4 : Value} (h : Fr4 N w W v1 v2 v3 v4) : Fr4 N w W.drew v1 v2 v3 v4 := ⟨h.n1, h.n2, h.n3, h.n4, h.bel.trans (below_dr _ _ 1)⟩
set_option maxHeartbeats 400000 in
theorem frac_divMod {n c n' c' x y : Nat} {A A' : Option Addr} (w : World) (h : IsN w w.heap.size A n x) (h' : IsN w w.heap.size A' n' y) (hn : n ≤ 64) (hn' : n' ≤ 64) (hc : n ≤ c) (y0 : 0 < y) :
    Calls Tryz.prog 54 #[.agg #[.slice A n c], .agg #[.slice A' n' c']] w (DRes (x / y) (x % y) w) := by
  have f0 := Fr4.start w (.slice A n c) (.slice A' n' c') (.slice none 0 0) (.slice none 0 0)
  have d1 := (h.below f0.bel).more f0.bel.size
  have d2 := (h'.below f0.bel).more f0.bel.size
  have c1 := nat_DivMod_ok (c := c) (c' := c') _ d1 d2 hn hn' hc y0
  have F0 := Lib.hid f0
  have C1 := Lib.hid c1
  clear f0 c1 d1 d2 h h'
  go_enter Tryz.func54, Tryz.ntmps54
  go_wp2_with fail
  refine C1.out.mono ?_
  rintro e w1 ⟨A1, n1, c1, A2, n2, c2, rfl, hb1, hq, hr, h1, h2, l1, l2⟩
  have F1 := Lib.hid (F0.out.next hb1)
  have x3 := F1.out.n3.cell
  have z3 := F1.out.n3.free
  have x4 := F1.out.n4.cell
  have z4 := F1.out.n4.free
  have k4 : ∀ (W : World) (v : Value), (W.setCell ⟨w.heap.size + 1 + 1, 0, none⟩ v).cell? ⟨w.heap.size + 1 + 1 + 1, 0, none⟩ = W.cell? ⟨w.heap.size + 1 + 1 + 1, 0, none⟩ := fun W v => cell_far W v (by simp)
  have k5 : ∀ (W : World) (v : Value), (W.setCell ⟨w.heap.size + 1 + 1 + 1, 0, none⟩ v).cell? ⟨w.heap.size + 1 + 1, 0, none⟩ = W.cell? ⟨w.heap.size + 1 + 1, 0, none⟩ := fun W v => cell_far W v (by simp)
  have HQ := Lib.hid hq
  have HR := Lib.hid hr
  clear hq hr hb1
  go_wp2_with fail
  have F2 := Lib.hid ((F1.out.set3 (.slice A1 n1 c1)).set4 (.slice A2 n2 c2))
  have I1 := Lib.hid ((HQ.out.setAt x3 (by intro i h; cases h) (.slice A1 n1 c1)).setAt ((k4 w1 _).trans x4) (by intro i h; cases h) (.slice A2 n2 c2))
  have I2 := Lib.hid ((HR.out.setAt x3 (by intro i h; cases h) (.slice A1 n1 c1)).setAt ((k4 w1 _).trans x4) (by intro i h; cases h) (.slice A2 n2 c2))
  have hz : w1.heap.size ≤ ((w1.setCell ⟨w.heap.size + 1 + 1, 0, none⟩ (.slice A1 n1 c1)).setCell ⟨w.heap.size + 1 + 1 + 1, 0, none⟩ (.slice A2 n2 c2)).heap.size := by rw [size_setCell, size_setCell]; exact Nat.le_refl _
  clear x3 x4 z3 z4
  obtain ⟨w2, ew2⟩ : ∃ w2, w2 = (w1.setCell ⟨w.heap.size + 1 + 1, 0, none⟩ (.slice A1 n1 c1)).setCell ⟨w.heap.size + 1 + 1 + 1, 0, none⟩ (.slice A2 n2 c2) := ⟨_, rfl⟩
  rw [← ew2] at F2 I1 I2 hz ⊢
  clear ew2
  have x3 := F2.out.n3.cell
  have z3 := F2.out.n3.free
  have x4 := F2.out.n4.cell
  have z4 := F2.out.n4.free
  go_region
  have F3 := Lib.hid ((F2.out.set3 (.slice A1 n1 c1)).set4 (.slice A2 n2 c2)).drew
  have J1 := Lib.hid ((I1.out.setAt x3 (by intro i h; cases h) (.slice A1 n1 c1)).setAt ((k4 w2 _).trans x4) (by intro i h; cases h) (.slice A2 n2 c2))
  have J2 := Lib.hid ((I2.out.setAt x3 (by intro i h; cases h) (.slice A1 n1 c1)).setAt ((k4 w2 _).trans x4) (by intro i h; cases h) (.slice A2 n2 c2))
  have hz3 : w1.heap.size ≤ ((w2.setCell ⟨w.heap.size + 1 + 1, 0, none⟩ (.slice A1 n1 c1)).setCell ⟨w.heap.size + 1 + 1 + 1, 0, none⟩ (.slice A2 n2 c2)).drew.heap.size := by
    show _ ≤ ((w2.setCell ⟨w.heap.size + 1 + 1, 0, none⟩ (.slice A1 n1 c1)).setCell ⟨w.heap.size + 1 + 1 + 1, 0, none⟩ (.slice A2 n2 c2)).heap.size
    rw [size_setCell, size_setCell]; exact hz
  clear x3 x4 z3 z4
  have y3 := F3.out.n3.cell
  have y4 := F3.out.n4.cell
  obtain ⟨w3, ew3⟩ : ∃ w3, w3 = ((w2.setCell ⟨w.heap.size + 1 + 1, 0, none⟩ (.slice A1 n1 c1)).setCell ⟨w.heap.size + 1 + 1 + 1, 0, none⟩ (.slice A2 n2 c2)).drew := ⟨_, rfl⟩
  have K1 : IsN w3 w1.heap.size A1 n1 (x / y) := by rw [ew3]; exact J1.out.drewN 1
  have K2 : IsN w3 w1.heap.size A2 n2 (x % y) := by rw [ew3]; exact J2.out.drewN 1
  rw [← ew3] at y3 y4 hz3 F3 ⊢
  clear ew3
  go_wp2_with fail
  refine bodyPost_ret (v := .tuple #[.agg #[.slice A1 n1 c1], .agg #[.slice A2 n2 c2]]) (by simp [results, Tryz.results54, go_sem, y3, y4]) rfl ?_
  exact ⟨A1, n1, c1, A2, n2, c2, rfl, F3.out.bel, K1.more hz3, K2.more hz3, h1, h2, l1, l2⟩
end Go.Proofs.YtcgbgaljjhopiaaGreatDoor
namespace Go.Proofs.YtcgbgaljjhopiaaGreatDoor
set_option maxRecDepth 20000
open Go.RowKit
set_option linter.unusedVariables false
set_option linter.unusedSimpArgs false
theorem ORes.stored {w W : World} {bs : List (Nat × List Value × TypeId)} {ns : List (Option Addr × Nat × Nat)} {R n c x : Nat} {T : TypeId} {A : Option Addr} (K : Ks w W bs ns) (hR : (R, [.slice none 0 0], T) ∈ bs) (hw : w.heap.size ≤ R)
    (hn : IsN W W.heap.size A n x) (h1 : n ≤ 64) (h2 : n ≤ c) : ORes x w (.returned (.agg #[.slice A n c])) (W.setCell ⟨R, 0, none⟩ (.slice A n c)) :=
  ⟨A, n, c, rfl, K.bel.setCell hw _, (hn.setAt (K.cell0 hR) (by intro i h; cases h) _).more (by rw [size_setCell]; exact Nat.le_refl _), h1, h2⟩
theorem cell_off (W : World) (b i j : Nat) (v : Value) (h : i ≠ j) : (W.setCell ⟨b, i, none⟩ v).cell? ⟨b, j, none⟩ = W.cell? ⟨b, j, none⟩ := World.cell?_setCell_other W _ _ v (fun e => h (by injection e))
theorem FRes.stored {w W : World} {bs : List (Nat × List Value × TypeId)} {ns : List (Option Addr × Nat × Nat)} {R n c p n' c' q : Nat} {er : Int} {T : TypeId} {A A' : Option Addr} (K : Ks w W bs ns) (hR : (R, [.slice none 0 0, .slice none 0 0], T) ∈ bs) (hw : w.heap.size ≤ R)
    (hn : IsN W W.heap.size A n p) (h1 : n ≤ 64) (h2 : n ≤ c) (hn' : IsN W W.heap.size A' n' q) (h1' : n' ≤ 64) (h2' : n' ≤ c') :
    FRes (p, q, er) w (.returned (.tuple #[.agg #[.slice A n c, .slice A' n' c'], .int .i64 er])) ((W.setCell ⟨R, 0, none⟩ (.slice A n c)).setCell ⟨R, 1, none⟩ (.slice A' n' c')) :=
  ⟨A, n, c, A', n', c', rfl, (K.bel.setCell hw _).setCell hw _,
    ((hn.setAt (K.cell0 hR) (by intro i h; cases h) _).setAt ((cell_off _ _ _ _ _ (by omega)).trans (K.cell1 hR)) (by intro i h; cases h) _).more (by rw [size_setCell, size_setCell]; exact Nat.le_refl _),
    ((hn'.setAt (K.cell0 hR) (by intro i h; cases h) _).setAt ((cell_off _ _ _ _ _ (by omega)).trans (K.cell1 hR)) (by intro i h; cases h) _).more (by rw [size_setCell, size_setCell]; exact Nat.le_refl _), h1, h1', h2, h2'⟩
theorem size_alloc (w : World) (o : Obj) : (w.alloc o).heap.size = w.heap.size + 1 := by simp
set_option maxHeartbeats 400000 in
theorem frac_quotient {n c n' c' x y : Nat} {A A' : Option Addr} (w : World) (h : IsN w w.heap.size A n x) (h' : IsN w w.heap.size A' n' y) (hn : n ≤ 64) (hn' : n' ≤ 64) (hc : n ≤ c) (y0 : 0 < y) :
    Calls Tryz.prog 22 #[.agg #[.slice A n c], .agg #[.slice A' n' c']] w (ORes (x / y) w) := by
  have k0 := (((Ks.start w).box [.slice A n c] 24).box [.slice A' n' c'] 24).box [.slice none 0 0] 24
  simp only [size_alloc] at k0
  have c1 := frac_divMod (c := c) (c' := c') _ (h.on k0.bel) (h'.on k0.bel) hn hn' hc y0
  have K0 := Lib.hid k0
  have C1 := Lib.hid c1
  clear k0 c1 h h'
  go_enter Tryz.func22, Tryz.ntmps22
  go_wp2_with fail
  refine C1.out.mono ?_
  rintro e w1 ⟨A1, n1, c1, A2, n2, c2, rfl, B1, D1, D1r, h1, h1r, l1, l1r⟩
  have K1 := Lib.hid ((((K0.out.call B1).num D1).box [.slice A1 n1 c1] 24).box [.slice A2 n2 c2] 24)
  have x2 := K1.out.cell0 at2
  have z2 := K1.out.free at2 0
  clear B1 D1 D1r
  go_wp2_with fail
  refine bodyPost_ret (v := .agg #[.slice A1 n1 c1]) (by simp [results, Tryz.results22, go_sem, x2]) rfl ?_
  exact ORes.stored K1.out at2 (by omega) (K1.out.get at0) h1 l1
set_option maxHeartbeats 400000 in
theorem frac_Make_zero {n c n' c' x : Nat} {A A' : Option Addr} (w : World) (h : IsN w w.heap.size A n x) (hn : n ≤ 64) (hc : n ≤ c) :
    Calls Tryz.prog 28 #[.agg #[.slice A n c], .agg #[.slice A' 0 c']] w (FRes (0, 0, 10) w) := by
  have k0 := (((Ks.start w).box [.slice A n c] 24).box [.slice A' 0 c'] 24).box [.slice none 0 0, .slice none 0 0] 26
  simp only [size_alloc] at k0
  have c1 := nat_GCD_ok (c := c) (c' := c') (A' := A') (n' := 0) (y := 0) _ (h.on k0.bel) ⟨Digs.zero, Nt.ln_zero⟩ hn (by omega) hc (by omega)
  have K0 := Lib.hid k0
  have C1 := Lib.hid c1
  clear k0 c1 h
  go_enter Tryz.func28, Tryz.ntmps28
  go_wp2_with fail
  refine C1.out.mono ?_
  rintro e w1 ⟨A1, n1, c1, rfl, B1, D1, h1, l1⟩
  have K1 := Lib.hid (((K0.out.call B1).num D1).box [.slice A1 n1 c1] 24)
  have x1 := K1.out.cell0 at2
  clear B1 D1
  go_wp2_with fail
  refine (frac_isZero _).mono ?_
  rintro e w2 ⟨rfl, B2⟩
  have K2 := Lib.hid (K1.out.call B2)
  have x2 := K2.out.cell0 at1
  have x2' := K2.out.cell1 at1
  have z2 := K2.out.free at1
  rw [Nt.isz_zero]
  go_wp2_with fail
  refine bodyPost_ret (v := .tuple #[.agg #[.slice none 0 0, .slice none 0 0], .int .i64 10]) (by simp [results, Tryz.results28, go_sem, x2, x2']) rfl ?_
  exact FRes.stored K2.out at1 (by omega) IsN.zero (by omega) (by omega) IsN.zero (by omega) (by omega)
/-- What a cell holds, by a name. -/
def cellOf (W : World) (b i : Nat) : Value := (W.cell? ⟨b, i, none⟩).getD (.int .i64 0)
theorem cellOf_eq {W : World} {b i : Nat} {v : Value} (h : W.cell? ⟨b, i, none⟩ = some v) : W.cell? ⟨b, i, none⟩ = some (cellOf W b i) := by
  rw [cellOf, h]; rfl
/-- The two cells of a variable that may be written. -/
def Open2 (W : World) (R : Nat) : Prop := W.cell? ⟨R, 0, none⟩ = some (cellOf W R 0) ∧ W.cell? ⟨R, 1, none⟩ = some (cellOf W R 1) ∧ W.frozen? ⟨R, 0, none⟩ = false ∧ W.frozen? ⟨R, 1, none⟩ = false
theorem Ks.open2 {w W : World} {bs : List (Nat × List Value × TypeId)} {ns : List (Option Addr × Nat × Nat)} {R : Nat} {u v : Value} {l : List Value} {T : TypeId} (h : Ks w W bs ns) (hp : (R, u :: v :: l, T) ∈ bs) : Open2 W R :=
  ⟨cellOf_eq (h.cell0 hp), cellOf_eq (h.cell1 hp), h.free hp 0, h.free hp 1⟩
theorem cell_put {W : World} {a : Addr} {u v : Value} (h : W.cell? a = some u) : (W.setCell a v).cell? a = some v := World.cell?_setCell_same W a v h
theorem Open2.put {W : World} {R : Nat} (h : Open2 W R) (u v : Value) : Open2 ((W.setCell ⟨R, 0, none⟩ u).setCell ⟨R, 1, none⟩ v) R := by
  obtain ⟨h0, h1, f0, f1⟩ := h
  have e1 : ((W.setCell ⟨R, 0, none⟩ u).setCell ⟨R, 1, none⟩ v).cell? ⟨R, 1, none⟩ = some v := cell_put ((cell_off _ _ _ _ _ (by omega)).trans h1)
  have e0 : ((W.setCell ⟨R, 0, none⟩ u).setCell ⟨R, 1, none⟩ v).cell? ⟨R, 0, none⟩ = some u := (cell_off _ _ _ _ _ (by omega)).trans (cell_put h0)
  refine ⟨cellOf_eq e0, cellOf_eq e1, ?_, ?_⟩ <;> simpa
theorem kM {w W : World} {v1 v3 v4 : Value} {b1 b2 b3 b4 : Nat} {u v : Value} {l2 : List Value} {T1 T2 T3 T4 : TypeId} {ns : List (Option Addr × Nat × Nat)} (h : Hid (Ks w W [(b1, [v1], T1), (b2, u :: v :: l2, T2), (b3, [v3], T3), (b4, [v4], T4)] ns)) :
    W.cell? ⟨b1, 0, none⟩ = some v1 ∧ W.cell? ⟨b3, 0, none⟩ = some v3 ∧ W.cell? ⟨b4, 0, none⟩ = some v4 ∧ W.cell? ⟨b2, 0, none⟩ = some (cellOf W b2 0) ∧ W.cell? ⟨b2, 1, none⟩ = some (cellOf W b2 1) ∧ W.frozen? ⟨b2, 0, none⟩ = false ∧ W.frozen? ⟨b2, 1, none⟩ = false :=
  ⟨h.out.cell0 at0, h.out.cell0 at2, h.out.cell0 at3, h.out.open2 at1⟩
theorem kMS {W : World} {v1 v3 v4 : Value} {b1 b2 b3 b4 : Nat} {u v : Value} (n1 : Hid (b1 ≠ b2)) (n3 : Hid (b3 ≠ b2)) (n4 : Hid (b4 ≠ b2))
    (h : W.cell? ⟨b1, 0, none⟩ = some v1 ∧ W.cell? ⟨b3, 0, none⟩ = some v3 ∧ W.cell? ⟨b4, 0, none⟩ = some v4 ∧ W.cell? ⟨b2, 0, none⟩ = some (cellOf W b2 0) ∧ W.cell? ⟨b2, 1, none⟩ = some (cellOf W b2 1) ∧ W.frozen? ⟨b2, 0, none⟩ = false ∧ W.frozen? ⟨b2, 1, none⟩ = false)
    {W' : World} (hW : W' = (W.setCell ⟨b2, 0, none⟩ u).setCell ⟨b2, 1, none⟩ v) :
    W'.cell? ⟨b1, 0, none⟩ = some v1 ∧ W'.cell? ⟨b3, 0, none⟩ = some v3 ∧ W'.cell? ⟨b4, 0, none⟩ = some v4 ∧ W'.cell? ⟨b2, 0, none⟩ = some (cellOf W' b2 0) ∧ W'.cell? ⟨b2, 1, none⟩ = some (cellOf W' b2 1) ∧ W'.frozen? ⟨b2, 0, none⟩ = false ∧ W'.frozen? ⟨b2, 1, none⟩ = false := by
  subst hW
  obtain ⟨h1, h3, h4, h5⟩ := h
  exact ⟨((cell_far _ _ n1.out).trans (cell_far _ _ n1.out)).trans h1, ((cell_far _ _ n3.out).trans (cell_far _ _ n3.out)).trans h3, ((cell_far _ _ n4.out).trans (cell_far _ _ n4.out)).trans h4, Open2.put h5 u v⟩
set_option maxHeartbeats 400000 in
theorem frac_Make_ok {n c n' c' x y : Nat} {A A' : Option Addr} (w : World) (h : IsN w w.heap.size A n x) (hn : n ≤ 64) (hc : n ≤ c) (h' : IsN w w.heap.size A' n' y) (hn' : n' ≤ 64) (hc' : n' ≤ c') (y0 : 0 < y) :
    Calls Tryz.prog 28 #[.agg #[.slice A n c], .agg #[.slice A' n' c']] w (FRes (Fr.rn x y, Fr.rd x y, 0) w) := by
  have k0 := (((Ks.start w).box [.slice A n c] 24).box [.slice A' n' c'] 24).box [.slice none 0 0, .slice none 0 0] 26
  simp only [size_alloc] at k0
  have c1 := nat_GCD_ok (c := c) (c' := c') _ (h.on k0.bel) (h'.on k0.bel) hn hn' hc hc'
  have K0 := Lib.hid k0
  have C1 := Lib.hid c1
  have H := Lib.hid h
  have H' := Lib.hid h'
  have g0 : 0 < Nat.gcd x y := Fr.gcd_pos y0
  have hz : Nt.isz n' = false := by rw [h'.isz]; simp; omega
  have HZ := Lib.hid hz
  clear k0 c1 h h' hz
  go_enter Tryz.func28, Tryz.ntmps28
  go_wp2_with fail
  refine C1.out.mono ?_
  rintro e w1 ⟨A1, n1, c1, rfl, B1, D1, h1, l1⟩
  have K1 := Lib.hid (((K0.out.call B1).num D1).box [.slice A1 n1 c1] 24)
  have x1 := K1.out.cell0 at2
  have B1z : w.heap.size + 1 + 1 < w1.heap.size := by have h1 := K0.out.lt at0; have h2 := B1.size; omega
  clear B1 D1
  go_wp2_with fail
  refine (frac_isZero _).mono ?_
  rintro e w2 ⟨rfl, B2⟩
  have K2 := Lib.hid (K1.out.call B2)
  have x2 := K2.out.cell0 at1
  have x2' := K2.out.cell1 at1
  have z2 := K2.out.free at1
  rw [HZ.out]
  clear B2
  go_wp2_with fail
  have N1 : Hid (w1.heap.size ≠ w.heap.size + 1 + 1) := by show _ ≠ _; have := K0.out.lt at0; have := B1z; omega
  have N3 : Hid (w.heap.size + 1 ≠ w.heap.size + 1 + 1) := by show _ ≠ _; omega
  have N4 : Hid (w.heap.size ≠ w.heap.size + 1 + 1) := by show _ ≠ _; omega
  have KD := Lib.hid (K2.out.call (Below.refl w2.heap.size w2).drew)
  go_region_held3 (fun W => W.cell? ⟨w1.heap.size, 0, none⟩ = some (.slice A1 n1 c1) ∧ W.cell? ⟨w.heap.size + 1, 0, none⟩ = some (.slice A' n' c') ∧ W.cell? ⟨w.heap.size, 0, none⟩ = some (.slice A n c) ∧ W.cell? ⟨w.heap.size + 1 + 1, 0, none⟩ = some (cellOf W (w.heap.size + 1 + 1) 0) ∧ W.cell? ⟨w.heap.size + 1 + 1, 1, none⟩ = some (cellOf W (w.heap.size + 1 + 1) 1) ∧ W.frozen? ⟨w.heap.size + 1 + 1, 0, none⟩ = false ∧ W.frozen? ⟨w.heap.size + 1 + 1, 1, none⟩ = false)
    (first | (with_reducible exact kM (by assumption)) | (exact kMS N1 N3 N4 (by assumption) rfl))
    (first
      | (go_at_call 22; (with_reducible refine (frac_quotient _ (H.out.on KD.out.bel) (KD.out.get at0) hn h1 hc g0).mono ?_); rintro e w3 ⟨A3, n3, c3, rfl, B3, D3, h3, l3⟩; have K3 := Lib.hid ((KD.out.call B3).num D3); clear B3 D3)
      | (go_at_call 22; (with_reducible refine (frac_quotient _ (H'.out.on K3.out.bel) (K3.out.get at1) hn' h1 hc' g0).mono ?_); rintro e w4 ⟨A4, n4, c4, rfl, B4, D4, h4, l4⟩; have K4 := Lib.hid ((K3.out.call B4).num D4); clear B4 D4)
      | fail)
  have x4 := K4.out.cell0 at1
  have x4' := K4.out.cell1 at1
  have HK := Lib.hid (FRes.stored (er := 0) K4.out at1 (by omega) (K4.out.get at1) h3 l3 (K4.out.get at0) h4 l4)
  go_wp2_with fail
  refine bodyPost_ret (v := .tuple #[.agg #[.slice A3 n3 c3, .slice A4 n4 c4], .int .i64 0]) (by simp [results, Tryz.results28, go_sem, x4, x4']) rfl ?_
  exact HK.out
end Go.Proofs.YtcgbgaljjhopiaaGreatDoor
namespace Go.Proofs.YtcgbgaljjhopiaaGreatDoor
set_option maxRecDepth 20000
open Go.RowKit
set_option linter.unusedVariables false
set_option linter.unusedSimpArgs false
namespace Fr
def one (g : Nat) : Bool := decide (g = 1)
theorem one_iff {g : Nat} : one g = true ↔ g = 1 := by simp [one]
/-- Are two rows of limbs a fraction in lowest terms? -/
def vld (f : Nat → Nat) (n : Nat) (f' : Nat → Nat) (n' : Nat) : Bool := Nt.both f n f' n' && decide (0 < Nt.vl 4294967296 f' n') && one (Nat.gcd (Nt.vl 4294967296 f n) (Nt.vl 4294967296 f' n'))
/-- What Make answers of two rows of limbs: numerator, denominator, error. -/
def mkT (f : Nat → Nat) (n : Nat) (f' : Nat → Nat) (n' : Nat) : Nat × Nat × Int :=
  if Nt.both f n f' n' then (if Nt.vl 4294967296 f' n' = 0 then (0, 0, 10) else (rn (Nt.vl 4294967296 f n) (Nt.vl 4294967296 f' n'), rd (Nt.vl 4294967296 f n) (Nt.vl 4294967296 f' n'), 0)) else (0, 0, 2)
end Fr
section
variable {n c n' c' x y : Nat} {A A' : Option Addr} {f f' : Nat → Nat}
theorem IsN.zero_of {w : World} {B : Nat} (h : IsN w B A n x) (hx : x = 0) : n = 0 := by subst hx; exact h.len_zero
theorem frac_Make_bad (w : World) (h : Arg w A n c f) (h' : Arg w A' n' c' f') (hv : (Nt.vd f n && Nt.vd f' n') = false) :
    Calls Tryz.prog 28 #[.agg #[.slice A n c], .agg #[.slice A' n' c']] w (FRes (0, 0, 2) w) := by
  have c1 := fun W (hb : Below w.heap.size w W) => nat_GCD_bad (c := c) (c' := c') W (h.on hb).d (h'.on hb).d h.big h'.big hv
  have C1 := Lib.hid c1
  have k0 := (((Ks.start w).box [.slice A n c] 24).box [.slice A' n' c'] 24).box [.slice none 0 0, .slice none 0 0] 26
  simp only [size_alloc] at k0
  have K0 := Lib.hid k0
  clear k0
  clear c1 h h' hv
  go_enter Tryz.func28, Tryz.ntmps28
  go_wp2_with fail
  refine (C1.out _ K0.out.bel).mono ?_
  rintro e w1 ⟨A1, n1, c1, rfl, B1, D1, h1, l1⟩
  have k1 := ((K0.out.call B1).num D1).box [.slice A1 n1 c1] 24
  have K1 := Lib.hid k1
  clear k1 B1 D1
  have x0_0 := K1.out.cell0 at3
  have x1_0 := K1.out.cell0 at2
  have x2_0 := K1.out.cell0 at1
  have x2_1 := K1.out.cell1 at1
  have zf := K1.out.free at1
  have HF := Lib.hid (FRes.stored (A := none) (n := 0) (c := 0) (A' := none) (n' := 0) (c' := 0) (er := 2) K1.out at1 (by omega) IsN.zero (by omega) (by omega) IsN.zero (by omega) (by omega))
  go_wp2_with fail
  refine bodyPost_ret (v := .tuple #[.agg #[.slice none 0 0, .slice none 0 0], .int .i64 2]) (by simp [results, Tryz.results28, go_sem, x2_0, x2_1]) rfl ?_
  exact HF.out
theorem frac_Make_any (w : World) (h : Arg w A n c f) (h' : Arg w A' n' c' f') :
    Calls Tryz.prog 28 #[.agg #[.slice A n c], .agg #[.slice A' n' c']] w (FRes (Fr.mkT f n f' n') w) := by
  unfold Fr.mkT Nt.both
  cases hv : (Nt.vd f n && Nt.vd f' n')
  · exact frac_Make_bad w h h' hv
  · obtain ⟨v1, v2⟩ := Bool.and_eq_true_iff.1 hv
    have a := h.isN v1
    have a' := h'.isN v2
    by_cases hl : Nt.vl 4294967296 f' n' = 0
    · simp only [if_pos hl, if_true]
      obtain rfl := a'.zero_of hl
      exact frac_Make_zero (n' := 0) w a (Nt.vd_iff.1 v1).1 h.cap
    · simp only [if_neg hl, if_true]
      exact frac_Make_ok w a (Nt.vd_iff.1 v1).1 h.cap a' (Nt.vd_iff.1 v2).1 h'.cap (by omega)
theorem kV {w W : World} {u v v1 : Value} {b b1 : Nat} {T T1 : TypeId} {ns : List (Option Addr × Nat × Nat)} (h : Hid (Ks w W [(b1, [v1], T1), (b, [u, v], T)] ns)) :
    W.cell? ⟨b, 0, none⟩ = some u ∧ W.cell? ⟨b, 1, none⟩ = some v ∧ W.cell? ⟨b1, 0, none⟩ = some v1 := ⟨h.out.cell0 at1, h.out.cell1 at1, h.out.cell0 at0⟩
theorem frac_Valid_bad (w : World) (h : Arg w A n c f) (h' : Arg w A' n' c' f') (hv : (Nt.vd f n && Nt.vd f' n') = false) :
    Calls Tryz.prog 16 #[.agg #[.slice A n c, .slice A' n' c']] w fun e w' => e = .returned (.bool false) ∧ Below w.heap.size w w' := by
  have c1 := fun W (hb : Below w.heap.size w W) => nat_GCD_bad (c := c) (c' := c') W (h.on hb).d (h'.on hb).d h.big h'.big hv
  have C1 := Lib.hid c1
  clear hv
  have k0 := (Ks.start w).box [.slice A n c, .slice A' n' c'] 26
  have K0 := Lib.hid k0
  clear k0
  clear c1 h h'
  go_enter Tryz.func16, Tryz.ntmps16
  go_wp2_with fail
  refine (C1.out _ K0.out.bel).mono ?_
  rintro e w1 ⟨A1, n1, c1, rfl, B1, D1, h1, l1⟩
  have k1 := ((K0.out.call B1).num D1).box [.slice A1 n1 c1] 24
  have K1 := Lib.hid k1
  clear k1 B1 D1
  have x0_0 := K1.out.cell0 at1
  have x0_1 := K1.out.cell1 at1
  go_wp2_with fail
  go_quiet (fail)
  go_wp2_with fail
  go_ret
  exact ⟨rfl, K1.out.bel.trans (below_dr _ _ _)⟩
theorem frac_Valid_zero (w : World) (h : IsN w w.heap.size A n x) (hn : n ≤ 64) (hc : n ≤ c) (h' : IsN w w.heap.size A' n' y) (hn' : n' ≤ 64) (hc' : n' ≤ c') (y0 : y = 0) :
    Calls Tryz.prog 16 #[.agg #[.slice A n c, .slice A' n' c']] w fun e w' => e = .returned (.bool false) ∧ Below w.heap.size w w' := by
  have c1 := fun W (hb : Below w.heap.size w W) => nat_GCD_ok (c := c) (c' := c') W (h.on hb) (h'.on hb) hn hn' hc hc'
  have C1 := Lib.hid c1
  have i1 : Nt.isz n' = true := by rw [h'.isz]; simp [y0]
  have iz := fun W => frac_isZero (A := A') (n := n') (c := c') W
  rw [i1] at iz
  have IZ := Lib.hid iz
  clear i1 iz
  have k0 := (Ks.start w).box [.slice A n c, .slice A' n' c'] 26
  have K0 := Lib.hid k0
  clear k0
  clear c1 h h'
  go_enter Tryz.func16, Tryz.ntmps16
  go_wp2_with fail
  refine (C1.out _ K0.out.bel).mono ?_
  rintro e w1 ⟨A1, n1, c1, rfl, B1, D1, h1, l1⟩
  have k1 := ((K0.out.call B1).num D1).box [.slice A1 n1 c1] 24
  have K1 := Lib.hid k1
  clear k1 B1 D1
  have x0_0 := K1.out.cell0 at1
  have x0_1 := K1.out.cell1 at1
  go_wp2_with fail
  go_region_with (go_at_call 39; refine (IZ.out _).mono ?_; rintro e w2 ⟨rfl, B2⟩)
  all_goals (
    go_wp2_with fail
    go_ret
    exact ⟨rfl, (K1.out.bel.trans (Below.refl _ _).drew).trans (B2.mono (K1.out.bel.trans (Below.refl _ _).drew).size)⟩)
theorem frac_Valid_ok (w : World) (h : IsN w w.heap.size A n x) (hn : n ≤ 64) (hc : n ≤ c) (h' : IsN w w.heap.size A' n' y) (hn' : n' ≤ 64) (hc' : n' ≤ c') (y0 : 0 < y) :
    Calls Tryz.prog 16 #[.agg #[.slice A n c, .slice A' n' c']] w fun e w' => e = .returned (.bool (Fr.one (Nat.gcd x y))) ∧ Below w.heap.size w w' := by
  have c1 := fun W (hb : Below w.heap.size w W) => nat_GCD_ok (c := c) (c' := c') W (h.on hb) (h'.on hb) hn hn' hc hc'
  have C1 := Lib.hid c1
  have i1 : Nt.isz n' = false := by rw [h'.isz]; simp; omega
  have iz := fun W => frac_isZero (A := A') (n := n') (c := c') W
  rw [i1] at iz
  have IZ := Lib.hid iz
  have O1 := Lib.hid fun W => nat_Of 1 1 W rfl (by omega)
  obtain ⟨g, eg⟩ : ∃ g, g = Nat.gcd x y := ⟨_, rfl⟩
  rw [← eg] at C1
  have CM := Lib.hid fun W {A : Option Addr} {n c : Nat} {A' : Option Addr} {n' c' : Nat} (h : IsN W W.heap.size A n g) (h' : IsN W W.heap.size A' n' 1) (hn : n ≤ 64) (hn' : n' ≤ 64) => nat_Cmp_ok (c := c) (c' := c') W h h' hn hn'
  obtain ⟨z, ez⟩ : ∃ z, z = Nt.cmpI (g : Nat) ((1 : Nat) : Int) := ⟨_, rfl⟩
  rw [← ez] at CM
  have F : Hid ((z == 0) = Fr.one g) := by
    show _ = _
    rw [ez, Nt.cmpI, Fr.one]
    by_cases h1 : g = 1
    · subst h1; simp
    · have : ((g : Nat) : Int) ≠ 1 := by omega
      rcases Nat.lt_or_gt_of_ne h1 with h | h
      · rw [if_pos (by omega)]; simp [h1]
      · rw [if_neg (by omega), if_pos (by omega)]; simp [h1]
  rw [← eg]
  clear i1 iz eg ez
  have k0 := (Ks.start w).box [.slice A n c, .slice A' n' c'] 26
  have K0 := Lib.hid k0
  clear k0
  clear c1 h h'
  go_enter Tryz.func16, Tryz.ntmps16
  go_wp2_with fail
  refine (C1.out _ K0.out.bel).mono ?_
  rintro e w1 ⟨A1, n1, c1, rfl, B1, D1, h1, l1⟩
  have k1 := ((K0.out.call B1).num D1).box [.slice A1 n1 c1] 24
  have K1 := Lib.hid k1
  clear k1 B1 D1
  have x0_0 := K1.out.cell0 at1
  have x0_1 := K1.out.cell1 at1
  go_wp2_with fail
  have K1d := Lib.hid (K1.out.call (Below.refl _ (w1.alloc (.cells #[.slice A1 n1 c1] 24))).drew)
  go_region_held3 (fun W => W.cell? ⟨w.heap.size, 0, none⟩ = some (.slice A n c) ∧ W.cell? ⟨w.heap.size, 1, none⟩ = some (.slice A' n' c') ∧ W.cell? ⟨w1.heap.size, 0, none⟩ = some (.slice A1 n1 c1))
    (first | (with_reducible exact kV (by assumption)))
    (first
      | (go_at_call 39; (with_reducible refine (IZ.out _).mono ?_); rintro e w2 ⟨rfl, B2⟩; have K2 := Lib.hid (K1d.out.call B2); clear B2 )
      | (go_at_call 29; (with_reducible refine (O1.out _).mono ?_); rintro e w3 ⟨A3, n3, c3, rfl, B3, D3, h3, l3⟩; have K3 := Lib.hid ((K2.out.call B3).num D3); clear B3 D3)
      | (go_at_call 40; (with_reducible refine (CM.out _ (K3.out.get at1) (K3.out.get at0) h1 h3).mono ?_); rintro e w4 ⟨rfl, B4⟩; have K4 := Lib.hid (K3.out.call B4); clear B4 )
      | fail)
  go_wp2_with fail
  go_ret
  exact ⟨ret_bool F.out, K4.out.bel⟩
theorem frac_Valid_any (w : World) (h : Arg w A n c f) (h' : Arg w A' n' c' f') :
    Calls Tryz.prog 16 #[.agg #[.slice A n c, .slice A' n' c']] w fun e w' => e = .returned (.bool (Fr.vld f n f' n')) ∧ Below w.heap.size w w' := by
  unfold Fr.vld Nt.both
  cases hv : (Nt.vd f n && Nt.vd f' n')
  · exact frac_Valid_bad w h h' hv
  · obtain ⟨v1, v2⟩ := Bool.and_eq_true_iff.1 hv
    have a := h.isN v1
    have a' := h'.isN v2
    by_cases hl : Nt.vl 4294967296 f' n' = 0
    · rw [show decide (0 < Nt.vl 4294967296 f' n') = false by simp [hl]]
      exact frac_Valid_zero w a (Nt.vd_iff.1 v1).1 h.cap a' (Nt.vd_iff.1 v2).1 h'.cap hl
    · rw [show decide (0 < Nt.vl 4294967296 f' n') = true by simp; omega]
      exact frac_Valid_ok w a (Nt.vd_iff.1 v1).1 h.cap a' (Nt.vd_iff.1 v2).1 h'.cap (by omega)
end
end Go.Proofs.YtcgbgaljjhopiaaGreatDoor
namespace Go.Proofs.YtcgbgaljjhopiaaGreatDoor
set_option maxRecDepth 20000
open Go.RowKit
set_option linter.unusedVariables false
set_option linter.unusedSimpArgs false
theorem Nt.cmp_ci (x y : Nat) : Nt.cmpI (x : Nat) (y : Nat) = Fr.ci x y := by
  unfold Nt.cmpI Fr.ci
  simp only [Int.ofNat_lt]
/-- A number's slice: n limbs of room c. -/
structure NumAt (w : World) (A : Option Addr) (n c x : Nat) : Prop where
  d : IsN w w.heap.size A n x
  h : n ≤ 64
  l : n ≤ c
theorem NumAt.on {w W : World} {A : Option Addr} {n c x : Nat} (h : NumAt w A n c x) (hb : Below w.heap.size w W) : NumAt W A n c x := ⟨h.d.on hb, h.h, h.l⟩
/-- What the loop of compare keeps: both boxes, the fractions a / b and c / d in them, and how they compare. -/
structure CmpInv (N : Nat) (P : Int) (a b c d : Nat) (w W : World) (A : Option Addr) (n k : Nat) (A' : Option Addr) (n' k' : Nat) (C : Option Addr) (m j : Nat) (C' : Option Addr) (m' j' : Nat) : Prop where
  f : W.heap[N]? = some (.cells #[.slice A n k, .slice A' n' k'] 26 (0, 0))
  g : W.heap[N + 1]? = some (.cells #[.slice C m j, .slice C' m' j'] 26 (0, 0))
  bel : Below N w W
  na : NumAt W A n k a
  nb : NumAt W A' n' k' b
  nc : NumAt W C m j c
  nd : NumAt W C' m' j' d
  b0 : 0 < b
  d0 : 0 < d
  cp : Fr.ci (a * d) (c * b) = P
theorem isZero_is {n c x : Nat} {A : Option Addr} (w : World) (h : IsN w w.heap.size A n x) {x0 : Bool} (hx : decide (x = 0) = x0) : Calls Tryz.prog 39 #[.agg #[.slice A n c]] w fun e w' => e = .returned (.bool x0) ∧ Below w.heap.size w w' := by
  have := frac_isZero (A := A) (n := n) (c := c) w
  rwa [h.isz, hx] at this
theorem IsN.put4 {W : World} {B N n x : Nat} {A : Option Addr} (h : IsN W B A n x) {a0 a1 a2 a3 : Option Addr} {l0 l1 l2 l3 r0 r1 r2 r3 : Nat}
    (c0 : W.cell? ⟨N, 0, none⟩ = some (.slice a0 l0 r0)) (c1 : W.cell? ⟨N, 1, none⟩ = some (.slice a1 l1 r1)) (c2 : W.cell? ⟨N + 1, 0, none⟩ = some (.slice a2 l2 r2)) (c3 : W.cell? ⟨N + 1, 1, none⟩ = some (.slice a3 l3 r3)) (u0 u1 u2 u3 : Value) :
    IsN ((((W.setCell ⟨N, 0, none⟩ u0).setCell ⟨N, 1, none⟩ u1).setCell ⟨N + 1, 0, none⟩ u2).setCell ⟨N + 1, 1, none⟩ u3) B A n x := by
  have f : ∀ (W : World) (v : Value) (i k : Nat), (W.setCell ⟨N, i, none⟩ v).cell? ⟨N + 1, k, none⟩ = W.cell? ⟨N + 1, k, none⟩ := fun W v i k => cell_far W v (by show N + 1 ≠ N; omega)
  refine (((h.setAt c0 (by intro i h; cases h) u0).setAt (v := .slice a1 l1 r1) ?_ (by intro i h; cases h) u1).setAt (v := .slice a2 l2 r2) ?_ (by intro i h; cases h) u2).setAt (v := .slice a3 l3 r3) ?_ (by intro i h; cases h) u3
  · rw [cell_off _ _ _ _ _ (by omega)]; exact c1
  · rw [f, f]; exact c2
  · rw [cell_off _ _ _ _ _ (by omega), f, f]; exact c3
theorem heap_put2 {W : World} {b : Nat} {u v u' v' : Value} {T : TypeId} (h : W.heap[b]? = some (.cells #[u, v] T (0, 0))) : ((W.setCell ⟨b, 0, none⟩ u').setCell ⟨b, 1, none⟩ v').heap[b]? = some (.cells #[u', v'] T (0, 0)) := by
  simp [World.setCell, Array.getElem?_modify, h]
theorem heap_far2 (W : World) {b c : Nat} (u v : Value) (h : b ≠ c) : ((W.setCell ⟨c, 0, none⟩ u).setCell ⟨c, 1, none⟩ v).heap[b]? = W.heap[b]? :=
  (Below.heap_setCell _ ⟨c, 1, none⟩ v b h).trans (Below.heap_setCell W ⟨c, 0, none⟩ u b h)
theorem CmpInv.next {N a b c d n k n' k' m j m' j' : Nat} {P : Int} {w W : World} {A A' C C' : Option Addr} {a0 a1 a2 a3 : Option Addr} {l0 l1 l2 l3 r0 r1 r2 r3 : Nat}
    (hf : W.heap[N]? = some (.cells #[.slice a0 l0 r0, .slice a1 l1 r1] 26 (0, 0))) (hg : W.heap[N + 1]? = some (.cells #[.slice a2 l2 r2, .slice a3 l3 r3] 26 (0, 0))) (hb : Below N w W)
    (na : NumAt W A n k a) (nb : NumAt W A' n' k' b) (nc : NumAt W C m j c) (nd : NumAt W C' m' j' d) (b0 : 0 < b) (d0 : 0 < d) (cp : Fr.ci (a * d) (c * b) = P) :
    CmpInv N P a b c d w ((((W.setCell ⟨N, 0, none⟩ (.slice A n k)).setCell ⟨N, 1, none⟩ (.slice A' n' k')).setCell ⟨N + 1, 0, none⟩ (.slice C m j)).setCell ⟨N + 1, 1, none⟩ (.slice C' m' j')).drew A n k A' n' k' C m j C' m' j' := by
  have c0 : W.cell? ⟨N, 0, none⟩ = some (.slice a0 l0 r0) := by rw [cell_of_row W N 0 _ _ (0, 0) hf]; rfl
  have c1 : W.cell? ⟨N, 1, none⟩ = some (.slice a1 l1 r1) := by rw [cell_of_row W N 1 _ _ (0, 0) hf]; rfl
  have c2 : W.cell? ⟨N + 1, 0, none⟩ = some (.slice a2 l2 r2) := by rw [cell_of_row W (N + 1) 0 _ _ (0, 0) hg]; rfl
  have c3 : W.cell? ⟨N + 1, 1, none⟩ = some (.slice a3 l3 r3) := by rw [cell_of_row W (N + 1) 1 _ _ (0, 0) hg]; rfl
  have sz : ∀ u0 u1 u2 u3 : Value, ((((W.setCell ⟨N, 0, none⟩ u0).setCell ⟨N, 1, none⟩ u1).setCell ⟨N + 1, 0, none⟩ u2).setCell ⟨N + 1, 1, none⟩ u3).heap.size = W.heap.size := fun u0 u1 u2 u3 => by simp only [size_setCell]
  have num : ∀ {A : Option Addr} {n k x : Nat}, NumAt W A n k x → ∀ u0 u1 u2 u3 : Value, NumAt ((((W.setCell ⟨N, 0, none⟩ u0).setCell ⟨N, 1, none⟩ u1).setCell ⟨N + 1, 0, none⟩ u2).setCell ⟨N + 1, 1, none⟩ u3).drew A n k x := fun h u0 u1 u2 u3 =>
    ⟨((h.d.put4 c0 c1 c2 c3 u0 u1 u2 u3).more (Nat.le_of_eq (sz u0 u1 u2 u3).symm)).drewN 1, h.h, h.l⟩
  exact ⟨(heap_far2 _ _ _ (by omega)).trans (heap_put2 hf), heap_put2 ((heap_far2 _ _ _ (by omega)).trans hg),
    ((((hb.setCell (Nat.le_refl _) _).setCell (Nat.le_refl _) _).setCell (by show N ≤ N + 1; omega) _).setCell (by show N ≤ N + 1; omega) _).trans (Below.refl _ _).drew, num na _ _ _ _, num nb _ _ _ _, num nc _ _ _ _, num nd _ _ _ _, b0, d0, cp⟩
section
variable {n k n' k' m j m' j' a b c d : Nat} {A A' C C' : Option Addr}
set_option maxHeartbeats 1000000 in
theorem frac_compare (w : World) (ha : NumAt w A n k a) (hb : NumAt w A' n' k' b) (hc : NumAt w C m j c) (hd : NumAt w C' m' j' d) (b0 : 0 < b) (d0 : 0 < d) :
    Calls Tryz.prog 41 #[.agg #[.slice A n k, .slice A' n' k'], .agg #[.slice C m j, .slice C' m' j']] w fun e w' => e = .returned (.int .i64 (Fr.ci (a * d) (c * b))) ∧ Below w.heap.size w w' := by
  have k0 := ((Ks.start w).box [.slice A n k, .slice A' n' k'] 26).box [.slice C m j, .slice C' m' j'] 26
  simp only [size_alloc] at k0
  obtain ⟨P, eP⟩ : ∃ P, P = Fr.ci (a * d) (c * b) := ⟨_, rfl⟩
  have I0 : Hid (CmpInv w.heap.size P a b c d w ((w.alloc (.cells #[.slice A n k, .slice A' n' k'] 26)).alloc (.cells #[.slice C m j, .slice C' m' j'] 26)) A n k A' n' k' C m j C' m' j') :=
    ⟨k0.b _ at1, k0.b _ at0, k0.bel, ha.on k0.bel, hb.on k0.bel, hc.on k0.bel, hd.on k0.bel, b0, d0, eP.symm⟩
  rw [← eP]
  clear k0 ha hb hc hd eP
  go_enter Tryz.func41, Tryz.ntmps41
  go_wp2_with fail
  go_loopg [] (b + d) (fun M W => ∃ (a b c d : Nat) (A : Option Addr) (n k : Nat) (A' : Option Addr) (n' k' : Nat) (C : Option Addr) (m j : Nat) (C' : Option Addr) (m' j' : Nat), M = b + d ∧ Hid (CmpInv w.heap.size P a b c d w W A n k A' n' k' C m j C' m' j'))
  case atStart => exact ⟨a, b, c, d, A, n, k, A', n', k', C, m, j, C', m', j', rfl, I0⟩
  case round =>
    obtain ⟨a, b, c, d, A, n, k, A', n', k', C, m, j, C', m', j', rfl, HI⟩ := hrel
    have b0 := HI.out.b0
    have d0 := HI.out.d0
    have K0 : Hid (Ks wr wr [(w.heap.size + 1, [.slice C m j, .slice C' m' j'], 26), (w.heap.size, [.slice A n k, .slice A' n' k'], 26)] []) :=
      ⟨Below.refl _ _, fun p hp => by
        simp only [List.mem_cons, List.not_mem_nil, or_false] at hp
        rcases hp with rfl | rfl
        · exact HI.out.g
        · exact HI.out.f, fun p hp => nomatch hp⟩
    have HA := Lib.hid HI.out.na
    have HB := Lib.hid HI.out.nb
    have HC := Lib.hid HI.out.nc
    have HD := Lib.hid HI.out.nd
    have HL := Lib.hid HI.out.bel
    have HP := Lib.hid HI.out.cp
    have hs := lt_of_block HI.out.g
    clear HI
    obtain ⟨z1, e1⟩ : ∃ z, z = Fr.ci (a / b) (c / d) := ⟨_, rfl⟩
    obtain ⟨z2, e2⟩ : ∃ z, z = Fr.ci (a % b) (c % d) := ⟨_, rfl⟩
    have CM1 := Lib.hid fun W {A : Option Addr} {n c1 : Nat} {A' : Option Addr} {n' c1' : Nat} (h : IsN W W.heap.size A n (a / b)) (h' : IsN W W.heap.size A' n' (c / d)) (hn : n ≤ 64) (hn' : n' ≤ 64) => nat_Cmp_ok (c := c1) (c' := c1') W h h' hn hn'
    have CM2 := Lib.hid fun W {A : Option Addr} {n c1 : Nat} {A' : Option Addr} {n' c1' : Nat} (h : IsN W W.heap.size A n (a % b)) (h' : IsN W W.heap.size A' n' (c % d)) (hn : n ≤ 64) (hn' : n' ≤ 64) => nat_Cmp_ok (c := c1) (c' := c1') W h h' hn hn'
    simp only [Nt.cmp_ci, ← e1, ← e2] at CM1 CM2
    by_cases hq : a / b = c / d
    · have hz1 : (z1 != 0) = false := by rw [e1, hq, Fr.ci_eq]; rfl
      have g1 : Hid (Fr.ci (a * d) (c * b) = Fr.ci (d * (a % b)) (b * (c % d))) := Fr.step hq
      have F0 : a % b = 0 ∨ c % d = 0 → z2 = P := fun h0 => by rw [e2, ← HP.out]; exact (Fr.rests hq b0 d0 h0).symm
      clear e1 e2
      by_cases hr1 : a % b = 0
      · have F : Hid (z2 = P) := F0 (.inl hr1)
        have IZ1 := Lib.hid fun W {A : Option Addr} {n c1 : Nat} (h : IsN W W.heap.size A n (a % b)) => isZero_is (c := c1) W h (x0 := true) (by simp [hr1])
        clear hq hr1 F0
        have x0_0 := K0.out.cell0 at1
        have x0_1 := K0.out.cell1 at1
        have x1_0 := K0.out.cell0 at0
        have x1_1 := K0.out.cell1 at0
        go_wp2_with fail
        refine (frac_divMod (c := k) (c' := k') _ (HA.out.on K0.out.bel).d (HB.out.on K0.out.bel).d HA.out.h HB.out.h HA.out.l b0).mono ?_
        rintro e w1 ⟨A1, n1, c1, A1r, n1r, c1r, rfl, B1, D1, D1r, h1, h1r, l1, l1r⟩
        have hs1 : w.heap.size + 1 < w1.heap.size := by have := B1.size; omega
        have k1 := ((((K0.out.call B1).num D1).num D1r).box [.slice A1 n1 c1] 24).box [.slice A1r n1r c1r] 24
        simp only [size_alloc] at k1
        have K1 := Lib.hid k1
        clear k1 B1 D1 D1r
        clear x0_0 x0_1 x1_0 x1_1
        have x0_0 := K1.out.cell0 at3
        have x0_1 := K1.out.cell1 at3
        have x1_0 := K1.out.cell0 at2
        have x1_1 := K1.out.cell1 at2
        go_wp2_with fail
        refine (frac_divMod (c := j) (c' := j') _ (HC.out.on K1.out.bel).d (HD.out.on K1.out.bel).d HC.out.h HD.out.h HC.out.l d0).mono ?_
        rintro e w2 ⟨A2, n2, c2, A2r, n2r, c2r, rfl, B2, D2, D2r, h2, h2r, l2, l2r⟩
        have k2 := ((((K1.out.call B2).num D2).num D2r).box [.slice A2 n2 c2] 24).box [.slice A2r n2r c2r] 24
        simp only [size_alloc] at k2
        have K2 := Lib.hid k2
        clear k2 B2 D2 D2r
        clear x0_0 x0_1 x1_0 x1_1
        have x0_0 := K2.out.cell0 at5
        have x0_1 := K2.out.cell1 at5
        have x1_0 := K2.out.cell0 at4
        have x1_1 := K2.out.cell1 at4
        have x2_0 := K2.out.cell0 at3
        have x3_0 := K2.out.cell0 at2
        go_wp2_with fail
        refine (CM1.out _ (K2.out.get at3) (K2.out.get at1) h1 h2).mono ?_
        rintro e w3 ⟨rfl, B3⟩
        have k3 := K2.out.call B3
        have K3 := Lib.hid k3
        clear k3 B3 
        clear x0_0 x0_1 x1_0 x1_1 x2_0 x3_0
        have x0_0 := K3.out.cell0 at5
        have x0_1 := K3.out.cell1 at5
        have x1_0 := K3.out.cell0 at4
        have x1_1 := K3.out.cell1 at4
        have x2_0 := K3.out.cell0 at3
        have x3_0 := K3.out.cell0 at2
        have x4_0 := K3.out.cell0 at1
        have x5_0 := K3.out.cell0 at0
        go_wp2_with fail
        refine (IZ1.out _ (K3.out.get at2)).mono ?_
        rintro e w4 ⟨rfl, B4⟩
        have k4 := K3.out.call B4
        have K4 := Lib.hid k4
        clear k4 B4 
        clear x0_0 x0_1 x1_0 x1_1 x2_0 x3_0 x4_0 x5_0
        have x0_0 := K4.out.cell0 at5
        have x0_1 := K4.out.cell1 at5
        have x1_0 := K4.out.cell0 at4
        have x1_1 := K4.out.cell1 at4
        have x2_0 := K4.out.cell0 at3
        have x3_0 := K4.out.cell0 at2
        have x4_0 := K4.out.cell0 at1
        have x5_0 := K4.out.cell0 at0
        go_wp2_with fail
        refine (CM2.out _ (K4.out.get at2) (K4.out.get at0) h1r h2r).mono ?_
        rintro e w5 ⟨rfl, B5⟩
        have k5 := K4.out.call B5
        have K5 := Lib.hid k5
        clear k5 B5 
        clear x0_0 x0_1 x1_0 x1_1 x2_0 x3_0 x4_0 x5_0
        have x0_0 := K5.out.cell0 at5
        have x0_1 := K5.out.cell1 at5
        have x1_0 := K5.out.cell0 at4
        have x1_1 := K5.out.cell1 at4
        have x2_0 := K5.out.cell0 at3
        have x3_0 := K5.out.cell0 at2
        have x4_0 := K5.out.cell0 at1
        have x5_0 := K5.out.cell0 at0
        go_wp2_with fail
        go_ret
        exact ⟨ret_int F.out, HL.out.trans (K5.out.bel.mono HL.out.size)⟩
      · by_cases hr2 : c % d = 0
        · have F : Hid (z2 = P) := F0 (.inr hr2)
          have IZ1 := Lib.hid fun W {A : Option Addr} {n c1 : Nat} (h : IsN W W.heap.size A n (a % b)) => isZero_is (c := c1) W h (x0 := false) (by simp [hr1])
          have IZ2 := Lib.hid fun W {A : Option Addr} {n c1 : Nat} (h : IsN W W.heap.size A n (c % d)) => isZero_is (c := c1) W h (x0 := true) (by simp [hr2])
          clear hq hr1 hr2 F0
          have x0_0 := K0.out.cell0 at1
          have x0_1 := K0.out.cell1 at1
          have x1_0 := K0.out.cell0 at0
          have x1_1 := K0.out.cell1 at0
          go_wp2_with fail
          refine (frac_divMod (c := k) (c' := k') _ (HA.out.on K0.out.bel).d (HB.out.on K0.out.bel).d HA.out.h HB.out.h HA.out.l b0).mono ?_
          rintro e w1 ⟨A1, n1, c1, A1r, n1r, c1r, rfl, B1, D1, D1r, h1, h1r, l1, l1r⟩
          have hs1 : w.heap.size + 1 < w1.heap.size := by have := B1.size; omega
          have k1 := ((((K0.out.call B1).num D1).num D1r).box [.slice A1 n1 c1] 24).box [.slice A1r n1r c1r] 24
          simp only [size_alloc] at k1
          have K1 := Lib.hid k1
          clear k1 B1 D1 D1r
          clear x0_0 x0_1 x1_0 x1_1
          have x0_0 := K1.out.cell0 at3
          have x0_1 := K1.out.cell1 at3
          have x1_0 := K1.out.cell0 at2
          have x1_1 := K1.out.cell1 at2
          go_wp2_with fail
          refine (frac_divMod (c := j) (c' := j') _ (HC.out.on K1.out.bel).d (HD.out.on K1.out.bel).d HC.out.h HD.out.h HC.out.l d0).mono ?_
          rintro e w2 ⟨A2, n2, c2, A2r, n2r, c2r, rfl, B2, D2, D2r, h2, h2r, l2, l2r⟩
          have k2 := ((((K1.out.call B2).num D2).num D2r).box [.slice A2 n2 c2] 24).box [.slice A2r n2r c2r] 24
          simp only [size_alloc] at k2
          have K2 := Lib.hid k2
          clear k2 B2 D2 D2r
          clear x0_0 x0_1 x1_0 x1_1
          have x0_0 := K2.out.cell0 at5
          have x0_1 := K2.out.cell1 at5
          have x1_0 := K2.out.cell0 at4
          have x1_1 := K2.out.cell1 at4
          have x2_0 := K2.out.cell0 at3
          have x3_0 := K2.out.cell0 at2
          go_wp2_with fail
          refine (CM1.out _ (K2.out.get at3) (K2.out.get at1) h1 h2).mono ?_
          rintro e w3 ⟨rfl, B3⟩
          have k3 := K2.out.call B3
          have K3 := Lib.hid k3
          clear k3 B3 
          clear x0_0 x0_1 x1_0 x1_1 x2_0 x3_0
          have x0_0 := K3.out.cell0 at5
          have x0_1 := K3.out.cell1 at5
          have x1_0 := K3.out.cell0 at4
          have x1_1 := K3.out.cell1 at4
          have x2_0 := K3.out.cell0 at3
          have x3_0 := K3.out.cell0 at2
          have x4_0 := K3.out.cell0 at1
          have x5_0 := K3.out.cell0 at0
          go_wp2_with fail
          refine (IZ1.out _ (K3.out.get at2)).mono ?_
          rintro e w4 ⟨rfl, B4⟩
          have k4 := K3.out.call B4
          have K4 := Lib.hid k4
          clear k4 B4 
          clear x0_0 x0_1 x1_0 x1_1 x2_0 x3_0 x4_0 x5_0
          have x0_0 := K4.out.cell0 at5
          have x0_1 := K4.out.cell1 at5
          have x1_0 := K4.out.cell0 at4
          have x1_1 := K4.out.cell1 at4
          have x2_0 := K4.out.cell0 at3
          have x3_0 := K4.out.cell0 at2
          have x4_0 := K4.out.cell0 at1
          have x5_0 := K4.out.cell0 at0
          go_wp2_with fail
          refine (IZ2.out _ (K4.out.get at0)).mono ?_
          rintro e w5 ⟨rfl, B5⟩
          have k5 := K4.out.call B5
          have K5 := Lib.hid k5
          clear k5 B5 
          clear x0_0 x0_1 x1_0 x1_1 x2_0 x3_0 x4_0 x5_0
          have x0_0 := K5.out.cell0 at5
          have x0_1 := K5.out.cell1 at5
          have x1_0 := K5.out.cell0 at4
          have x1_1 := K5.out.cell1 at4
          have x2_0 := K5.out.cell0 at3
          have x3_0 := K5.out.cell0 at2
          have x4_0 := K5.out.cell0 at1
          have x5_0 := K5.out.cell0 at0
          go_wp2_with fail
          refine (CM2.out _ (K5.out.get at2) (K5.out.get at0) h1r h2r).mono ?_
          rintro e w6 ⟨rfl, B6⟩
          have k6 := K5.out.call B6
          have K6 := Lib.hid k6
          clear k6 B6 
          clear x0_0 x0_1 x1_0 x1_1 x2_0 x3_0 x4_0 x5_0
          have x0_0 := K6.out.cell0 at5
          have x0_1 := K6.out.cell1 at5
          have x1_0 := K6.out.cell0 at4
          have x1_1 := K6.out.cell1 at4
          have x2_0 := K6.out.cell0 at3
          have x3_0 := K6.out.cell0 at2
          have x4_0 := K6.out.cell0 at1
          have x5_0 := K6.out.cell0 at0
          go_wp2_with fail
          go_ret
          exact ⟨ret_int F.out, HL.out.trans (K6.out.bel.mono HL.out.size)⟩
        · have IZ1 := Lib.hid fun W {A : Option Addr} {n c1 : Nat} (h : IsN W W.heap.size A n (a % b)) => isZero_is (c := c1) W h (x0 := false) (by simp [hr1])
          have IZ2 := Lib.hid fun W {A : Option Addr} {n c1 : Nat} (h : IsN W W.heap.size A n (c % d)) => isZero_is (c := c1) W h (x0 := false) (by simp [hr2])
          have r0 : 0 < a % b := by omega
          have s0 : 0 < c % d := by omega
          clear hq hr1 hr2 F0
          have x0_0 := K0.out.cell0 at1
          have x0_1 := K0.out.cell1 at1
          have x1_0 := K0.out.cell0 at0
          have x1_1 := K0.out.cell1 at0
          go_wp2_with fail
          refine (frac_divMod (c := k) (c' := k') _ (HA.out.on K0.out.bel).d (HB.out.on K0.out.bel).d HA.out.h HB.out.h HA.out.l b0).mono ?_
          rintro e w1 ⟨A1, n1, c1, A1r, n1r, c1r, rfl, B1, D1, D1r, h1, h1r, l1, l1r⟩
          have hs1 : w.heap.size + 1 < w1.heap.size := by have := B1.size; omega
          have k1 := ((((K0.out.call B1).num D1).num D1r).box [.slice A1 n1 c1] 24).box [.slice A1r n1r c1r] 24
          simp only [size_alloc] at k1
          have K1 := Lib.hid k1
          clear k1 B1 D1 D1r
          clear x0_0 x0_1 x1_0 x1_1
          have x0_0 := K1.out.cell0 at3
          have x0_1 := K1.out.cell1 at3
          have x1_0 := K1.out.cell0 at2
          have x1_1 := K1.out.cell1 at2
          go_wp2_with fail
          refine (frac_divMod (c := j) (c' := j') _ (HC.out.on K1.out.bel).d (HD.out.on K1.out.bel).d HC.out.h HD.out.h HC.out.l d0).mono ?_
          rintro e w2 ⟨A2, n2, c2, A2r, n2r, c2r, rfl, B2, D2, D2r, h2, h2r, l2, l2r⟩
          have k2 := ((((K1.out.call B2).num D2).num D2r).box [.slice A2 n2 c2] 24).box [.slice A2r n2r c2r] 24
          simp only [size_alloc] at k2
          have K2 := Lib.hid k2
          clear k2 B2 D2 D2r
          clear x0_0 x0_1 x1_0 x1_1
          have x0_0 := K2.out.cell0 at5
          have x0_1 := K2.out.cell1 at5
          have x1_0 := K2.out.cell0 at4
          have x1_1 := K2.out.cell1 at4
          have x2_0 := K2.out.cell0 at3
          have x3_0 := K2.out.cell0 at2
          go_wp2_with fail
          refine (CM1.out _ (K2.out.get at3) (K2.out.get at1) h1 h2).mono ?_
          rintro e w3 ⟨rfl, B3⟩
          have k3 := K2.out.call B3
          have K3 := Lib.hid k3
          clear k3 B3 
          clear x0_0 x0_1 x1_0 x1_1 x2_0 x3_0
          have x0_0 := K3.out.cell0 at5
          have x0_1 := K3.out.cell1 at5
          have x1_0 := K3.out.cell0 at4
          have x1_1 := K3.out.cell1 at4
          have x2_0 := K3.out.cell0 at3
          have x3_0 := K3.out.cell0 at2
          have x4_0 := K3.out.cell0 at1
          have x5_0 := K3.out.cell0 at0
          go_wp2_with fail
          refine (IZ1.out _ (K3.out.get at2)).mono ?_
          rintro e w4 ⟨rfl, B4⟩
          have k4 := K3.out.call B4
          have K4 := Lib.hid k4
          clear k4 B4 
          clear x0_0 x0_1 x1_0 x1_1 x2_0 x3_0 x4_0 x5_0
          have x0_0 := K4.out.cell0 at5
          have x0_1 := K4.out.cell1 at5
          have x1_0 := K4.out.cell0 at4
          have x1_1 := K4.out.cell1 at4
          have x2_0 := K4.out.cell0 at3
          have x3_0 := K4.out.cell0 at2
          have x4_0 := K4.out.cell0 at1
          have x5_0 := K4.out.cell0 at0
          go_wp2_with fail
          refine (IZ2.out _ (K4.out.get at0)).mono ?_
          rintro e w5 ⟨rfl, B5⟩
          have k5 := K4.out.call B5
          have K5 := Lib.hid k5
          clear k5 B5 
          clear x0_0 x0_1 x1_0 x1_1 x2_0 x3_0 x4_0 x5_0
          have x0_0 := K5.out.cell0 at5
          have x0_1 := K5.out.cell1 at5
          have x1_0 := K5.out.cell0 at4
          have x1_1 := K5.out.cell1 at4
          have x2_0 := K5.out.cell0 at3
          have x3_0 := K5.out.cell0 at2
          have x4_0 := K5.out.cell0 at1
          have x5_0 := K5.out.cell0 at0
          go_wp2_with fail
          have y1 := K5.out.free at5
          have y2 := K5.out.free at4
          have fa : ∀ (W : World) (v : Value) (i : Nat), (W.setCell ⟨w.heap.size, i, none⟩ v).cell? ⟨w1.heap.size + 1, 0, none⟩ = W.cell? ⟨w1.heap.size + 1, 0, none⟩ := fun W v i => cell_far W v (by show w1.heap.size + 1 ≠ w.heap.size; omega)
          have fb : ∀ (W : World) (v : Value) (i k : Nat), (W.setCell ⟨w.heap.size, i, none⟩ v).cell? ⟨w.heap.size + 1, k, none⟩ = W.cell? ⟨w.heap.size + 1, k, none⟩ := fun W v i k => cell_far W v (by show w.heap.size + 1 ≠ w.heap.size; omega)
          go_region
          have HN := Lib.hid (CmpInv.next (N := w.heap.size) (P := P) (w := w) (K5.out.b _ at5) (K5.out.b _ at4) (HL.out.trans (K5.out.bel.mono HL.out.size)) (HD.out.on K5.out.bel) ⟨K5.out.get at0, h2r, l2r⟩ (HB.out.on K5.out.bel) ⟨K5.out.get at2, h1r, l1r⟩ s0 r0 (g1.out.symm.trans HP.out))
          go_wp2_with fail
          go_roundg (c % d + a % b)
          case measure => have := Nat.mod_lt a b0; have := Nat.mod_lt c d0; omega
          case rel => exact ⟨d, c % d, b, a % b, _, _, _, _, _, _, _, _, _, _, _, _, rfl, HN⟩
    · have F : Hid (z1 = P) := by show _ = _; rw [← HP.out, e1]; exact (Fr.wholes b0 d0 hq).symm
      have hz1 : (z1 != 0) = true := by
        have : z1 ≠ 0 := by rw [e1, Ne, Fr.ci_zero]; exact hq
        simpa using this
      clear hq e1 e2
      have x0_0 := K0.out.cell0 at1
      have x0_1 := K0.out.cell1 at1
      have x1_0 := K0.out.cell0 at0
      have x1_1 := K0.out.cell1 at0
      go_wp2_with fail
      refine (frac_divMod (c := k) (c' := k') _ (HA.out.on K0.out.bel).d (HB.out.on K0.out.bel).d HA.out.h HB.out.h HA.out.l b0).mono ?_
      rintro e w1 ⟨A1, n1, c1, A1r, n1r, c1r, rfl, B1, D1, D1r, h1, h1r, l1, l1r⟩
      have hs1 : w.heap.size + 1 < w1.heap.size := by have := B1.size; omega
      have k1 := ((((K0.out.call B1).num D1).num D1r).box [.slice A1 n1 c1] 24).box [.slice A1r n1r c1r] 24
      simp only [size_alloc] at k1
      have K1 := Lib.hid k1
      clear k1 B1 D1 D1r
      clear x0_0 x0_1 x1_0 x1_1
      have x0_0 := K1.out.cell0 at3
      have x0_1 := K1.out.cell1 at3
      have x1_0 := K1.out.cell0 at2
      have x1_1 := K1.out.cell1 at2
      go_wp2_with fail
      refine (frac_divMod (c := j) (c' := j') _ (HC.out.on K1.out.bel).d (HD.out.on K1.out.bel).d HC.out.h HD.out.h HC.out.l d0).mono ?_
      rintro e w2 ⟨A2, n2, c2, A2r, n2r, c2r, rfl, B2, D2, D2r, h2, h2r, l2, l2r⟩
      have k2 := ((((K1.out.call B2).num D2).num D2r).box [.slice A2 n2 c2] 24).box [.slice A2r n2r c2r] 24
      simp only [size_alloc] at k2
      have K2 := Lib.hid k2
      clear k2 B2 D2 D2r
      clear x0_0 x0_1 x1_0 x1_1
      have x0_0 := K2.out.cell0 at5
      have x0_1 := K2.out.cell1 at5
      have x1_0 := K2.out.cell0 at4
      have x1_1 := K2.out.cell1 at4
      have x2_0 := K2.out.cell0 at3
      have x3_0 := K2.out.cell0 at2
      go_wp2_with fail
      refine (CM1.out _ (K2.out.get at3) (K2.out.get at1) h1 h2).mono ?_
      rintro e w3 ⟨rfl, B3⟩
      have k3 := K2.out.call B3
      have K3 := Lib.hid k3
      clear k3 B3 
      clear x0_0 x0_1 x1_0 x1_1 x2_0 x3_0
      have x0_0 := K3.out.cell0 at5
      have x0_1 := K3.out.cell1 at5
      have x1_0 := K3.out.cell0 at4
      have x1_1 := K3.out.cell1 at4
      have x2_0 := K3.out.cell0 at3
      have x3_0 := K3.out.cell0 at2
      have x4_0 := K3.out.cell0 at1
      have x5_0 := K3.out.cell0 at0
      go_wp2_with fail
      go_ret
      exact ⟨ret_int F.out, HL.out.trans (K3.out.bel.mono HL.out.size)⟩
end
end Go.Proofs.YtcgbgaljjhopiaaGreatDoor
namespace Go.Proofs.YtcgbgaljjhopiaaGreatDoor
set_option maxRecDepth 20000
open Go.RowKit
set_option linter.unusedVariables false
set_option linter.unusedSimpArgs false
/-- A fraction that came in: two rows of limbs. -/
structure FArg (w : World) (A : Option Addr) (n c : Nat) (f : Nat → Nat) (A' : Option Addr) (n' c' : Nat) (f' : Nat → Nat) : Prop where
  n : Arg w A n c f
  d : Arg w A' n' c' f'
theorem FArg.on {w W : World} {A A' : Option Addr} {n c n' c' : Nat} {f f' : Nat → Nat} (h : FArg w A n c f A' n' c' f') (hb : Below w.heap.size w W) : FArg W A n c f A' n' c' f' := ⟨h.n.on hb, h.d.on hb⟩
/-- A fraction in lowest terms, a / b. -/
structure FIs (w : World) (A : Option Addr) (n c : Nat) (A' : Option Addr) (n' c' a b : Nat) : Prop where
  n : NumAt w A n c a
  d : NumAt w A' n' c' b
  b0 : 0 < b
  cp : Nat.gcd a b = 1
theorem FIs.on {w W : World} {A A' : Option Addr} {n c n' c' a b : Nat} (h : FIs w A n c A' n' c' a b) (hb : Below w.heap.size w W) : FIs W A n c A' n' c' a b := ⟨h.n.on hb, h.d.on hb, h.b0, h.cp⟩
theorem NumAt.arg {w : World} {A : Option Addr} {n c x : Nat} (h : NumAt w A n c x) : Arg w A n c (Nt.dg 4294967296 x) := h.d.arg h.h h.l
theorem NumAt.vd {w : World} {A : Option Addr} {n c x : Nat} (h : NumAt w A n c x) : Nt.vd (Nt.dg 4294967296 x) n = true := by rw [h.d.vd]; simpa using h.h
theorem FIs.arg {w : World} {A A' : Option Addr} {n c n' c' a b : Nat} (h : FIs w A n c A' n' c' a b) : FArg w A n c (Nt.dg 4294967296 a) A' n' c' (Nt.dg 4294967296 b) := ⟨h.n.arg, h.d.arg⟩
theorem FIs.vld {w : World} {A A' : Option Addr} {n c n' c' a b : Nat} (h : FIs w A n c A' n' c' a b) : Fr.vld (Nt.dg 4294967296 a) n (Nt.dg 4294967296 b) n' = true := by
  rw [Fr.vld, Nt.both, h.n.vd, h.d.vd, h.n.d.val, h.d.d.val, Fr.one, decide_eq_true h.cp, decide_eq_true h.b0]; rfl
theorem FArg.is {w : World} {A A' : Option Addr} {n c n' c' : Nat} {f f' : Nat → Nat} (h : FArg w A n c f A' n' c' f') (hv : Fr.vld f n f' n' = true) : FIs w A n c A' n' c' (Nt.vl 4294967296 f n) (Nt.vl 4294967296 f' n') := by
  rw [Fr.vld, Nt.both, Bool.and_eq_true, Bool.and_eq_true, Bool.and_eq_true, decide_eq_true_iff, Fr.one_iff] at hv
  obtain ⟨⟨⟨v1, v2⟩, v3⟩, v4⟩ := hv
  exact ⟨⟨h.n.isN v1, (Nt.vd_iff.1 v1).1, h.n.cap⟩, ⟨h.d.isN v2, (Nt.vd_iff.1 v2).1, h.d.cap⟩, v3, v4⟩
theorem FRes.is {w w' : World} {A A' : Option Addr} {n c n' c' a b : Nat} (hn : IsN w' w'.heap.size A n a) (hd : IsN w' w'.heap.size A' n' b) (h : n ≤ 64) (h' : n' ≤ 64) (l : n ≤ c) (l' : n' ≤ c') (b0 : 0 < b) (cp : Nat.gcd a b = 1) : FIs w' A n c A' n' c' a b := ⟨⟨hn, h, l⟩, ⟨hd, h', l'⟩, b0, cp⟩
section
variable {n c n' c' m j m' j' a b p q : Nat} {A A' C C' : Option Addr} {f f' g g' : Nat → Nat}
theorem frac_Valid_is (w : World) (h : FIs w A n c A' n' c' a b) : Calls Tryz.prog 16 #[.agg #[.slice A n c, .slice A' n' c']] w fun e w' => e = .returned (.bool true) ∧ Below w.heap.size w w' := by
  have := frac_Valid_any w h.arg.n h.arg.d
  rwa [h.vld] at this
theorem frac_Valid_arg (w : World) (h : FArg w A n c f A' n' c' f') : Calls Tryz.prog 16 #[.agg #[.slice A n c, .slice A' n' c']] w fun e w' => e = .returned (.bool (Fr.vld f n f' n')) ∧ Below w.heap.size w w' := frac_Valid_any w h.n h.d
theorem frac_Cmp_bad1 (w : World) (h : FArg w A n c f A' n' c' f') (h' : FArg w C m j g C' m' j' g') (hv : Fr.vld f n f' n' = false) :
    Calls Tryz.prog 17 #[.agg #[.slice A n c, .slice A' n' c'], .agg #[.slice C m j, .slice C' m' j']] w fun e w' => e = .returned (.int .i64 0) ∧ Below w.heap.size w w' := by
  have v1 := fun W (hb : Below w.heap.size w W) => frac_Valid_arg W (h.on hb)
  rw [hv] at v1
  have V1 := Lib.hid v1
  clear v1 hv
  have k0 := ((Ks.start w).box [.slice A n c, .slice A' n' c'] 26).box [.slice C m j, .slice C' m' j'] 26
  simp only [size_alloc] at k0
  have K0 := Lib.hid k0
  clear k0
  clear h h'
  go_enter Tryz.func17, Tryz.ntmps17
  go_wp2_with fail
  refine (V1.out _ K0.out.bel).mono ?_
  rintro e w1 ⟨rfl, B1⟩
  have k1 := K0.out.call B1
  have K1 := Lib.hid k1
  clear k1 B1 
  have x0_0 := K1.out.cell0 at1
  have x0_1 := K1.out.cell1 at1
  have x1_0 := K1.out.cell0 at0
  have x1_1 := K1.out.cell1 at0
  go_wp2_with fail
  go_ret
  exact ⟨rfl, K1.out.bel⟩
theorem frac_Cmp_bad2 (w : World) (h : FArg w A n c f A' n' c' f') (h' : FArg w C m j g C' m' j' g') (hv : Fr.vld f n f' n' = true) (hv' : Fr.vld g m g' m' = false) :
    Calls Tryz.prog 17 #[.agg #[.slice A n c, .slice A' n' c'], .agg #[.slice C m j, .slice C' m' j']] w fun e w' => e = .returned (.int .i64 0) ∧ Below w.heap.size w w' := by
  have v1 := fun W (hb : Below w.heap.size w W) => frac_Valid_arg W (h.on hb)
  have v2 := fun W (hb : Below w.heap.size w W) => frac_Valid_arg W (h'.on hb)
  rw [hv] at v1
  rw [hv'] at v2
  have V1 := Lib.hid v1
  have V2 := Lib.hid v2
  clear v1 v2 hv hv'
  have k0 := ((Ks.start w).box [.slice A n c, .slice A' n' c'] 26).box [.slice C m j, .slice C' m' j'] 26
  simp only [size_alloc] at k0
  have K0 := Lib.hid k0
  clear k0
  clear h h'
  go_enter Tryz.func17, Tryz.ntmps17
  go_wp2_with fail
  refine (V1.out _ K0.out.bel).mono ?_
  rintro e w1 ⟨rfl, B1⟩
  have k1 := K0.out.call B1
  have K1 := Lib.hid k1
  clear k1 B1 
  have x0_0 := K1.out.cell0 at1
  have x0_1 := K1.out.cell1 at1
  have x1_0 := K1.out.cell0 at0
  have x1_1 := K1.out.cell1 at0
  go_wp2_with fail
  refine (V2.out _ K1.out.bel).mono ?_
  rintro e w2 ⟨rfl, B2⟩
  have k2 := K1.out.call B2
  have K2 := Lib.hid k2
  clear k2 B2 
  clear x0_0 x0_1 x1_0 x1_1
  have x0_0 := K2.out.cell0 at1
  have x0_1 := K2.out.cell1 at1
  have x1_0 := K2.out.cell0 at0
  have x1_1 := K2.out.cell1 at0
  go_wp2_with fail
  go_ret
  exact ⟨rfl, K2.out.bel⟩
theorem frac_Cmp_is (w : World) (h : FIs w A n c A' n' c' a b) (h' : FIs w C m j C' m' j' p q) :
    Calls Tryz.prog 17 #[.agg #[.slice A n c, .slice A' n' c'], .agg #[.slice C m j, .slice C' m' j']] w fun e w' => e = .returned (.int .i64 (Fr.ci (a * q) (p * b))) ∧ Below w.heap.size w w' := by
  have V1 := Lib.hid fun W (hb : Below w.heap.size w W) => frac_Valid_is W (h.on hb)
  have V2 := Lib.hid fun W (hb : Below w.heap.size w W) => frac_Valid_is W (h'.on hb)
  have cm := fun W (hb : Below w.heap.size w W) => frac_compare W (h.on hb).n (h.on hb).d (h'.on hb).n (h'.on hb).d h.b0 h'.b0
  obtain ⟨z, ez⟩ : ∃ z, z = Fr.ci (a * q) (p * b) := ⟨_, rfl⟩
  rw [← ez] at cm ⊢
  have CM := Lib.hid cm
  clear cm ez
  have k0 := ((Ks.start w).box [.slice A n c, .slice A' n' c'] 26).box [.slice C m j, .slice C' m' j'] 26
  simp only [size_alloc] at k0
  have K0 := Lib.hid k0
  clear k0
  clear h h'
  go_enter Tryz.func17, Tryz.ntmps17
  go_wp2_with fail
  refine (V1.out _ K0.out.bel).mono ?_
  rintro e w1 ⟨rfl, B1⟩
  have k1 := K0.out.call B1
  have K1 := Lib.hid k1
  clear k1 B1 
  have x0_0 := K1.out.cell0 at1
  have x0_1 := K1.out.cell1 at1
  have x1_0 := K1.out.cell0 at0
  have x1_1 := K1.out.cell1 at0
  go_wp2_with fail
  refine (V2.out _ K1.out.bel).mono ?_
  rintro e w2 ⟨rfl, B2⟩
  have k2 := K1.out.call B2
  have K2 := Lib.hid k2
  clear k2 B2 
  clear x0_0 x0_1 x1_0 x1_1
  have x0_0 := K2.out.cell0 at1
  have x0_1 := K2.out.cell1 at1
  have x1_0 := K2.out.cell0 at0
  have x1_1 := K2.out.cell1 at0
  go_wp2_with fail
  refine (CM.out _ K2.out.bel).mono ?_
  rintro e w3 ⟨rfl, B3⟩
  have k3 := K2.out.call B3
  have K3 := Lib.hid k3
  clear k3 B3 
  clear x0_0 x0_1 x1_0 x1_1
  have x0_0 := K3.out.cell0 at1
  have x0_1 := K3.out.cell1 at1
  have x1_0 := K3.out.cell0 at0
  have x1_1 := K3.out.cell1 at0
  go_wp2_with fail
  go_ret
  exact ⟨rfl, K3.out.bel⟩
namespace Fr
/-- How two fractions compare; 0 where one is none. -/
def cmpX (f : Nat → Nat) (n : Nat) (f' : Nat → Nat) (n' : Nat) (g : Nat → Nat) (m : Nat) (g' : Nat → Nat) (m' : Nat) : Int :=
  if vld f n f' n' && vld g m g' m' then ci (Nt.vl 4294967296 f n * Nt.vl 4294967296 g' m') (Nt.vl 4294967296 g m * Nt.vl 4294967296 f' n') else 0
end Fr
theorem frac_Cmp_any (w : World) (h : FArg w A n c f A' n' c' f') (h' : FArg w C m j g C' m' j' g') :
    Calls Tryz.prog 17 #[.agg #[.slice A n c, .slice A' n' c'], .agg #[.slice C m j, .slice C' m' j']] w fun e w' => e = .returned (.int .i64 (Fr.cmpX f n f' n' g m g' m')) ∧ Below w.heap.size w w' := by
  unfold Fr.cmpX
  cases hv : Fr.vld f n f' n'
  · exact frac_Cmp_bad1 w h h' hv
  · cases hv' : Fr.vld g m g' m'
    · exact frac_Cmp_bad2 w h h' hv hv'
    · exact frac_Cmp_is w (h.is hv) (h'.is hv')
namespace Fr
/-- n / d in lowest terms, with OK; or d is 0. -/
def mkP (a b : Nat) : Nat × Nat × Int := if b = 0 then (0, 0, 10) else (rn a b, rd a b, 0)
end Fr
theorem frac_Make_nums (w : World) (h : NumAt w A n c a) (h' : NumAt w A' n' c' b) :
    Calls Tryz.prog 28 #[.agg #[.slice A n c], .agg #[.slice A' n' c']] w (FRes (Fr.mkP a b) w) := by
  unfold Fr.mkP
  by_cases hb : b = 0
  · rw [if_pos hb]
    obtain rfl := h'.d.zero_of hb
    exact frac_Make_zero (n' := 0) w h.d h.h h.l
  · rw [if_neg hb]
    exact frac_Make_ok w h.d h.h h.l h'.d h'.h h'.l (by omega)
theorem frac_Of_ok (x y : Int) (w : World) (x0 : 0 ≤ x) (x1 : x ≤ 9223372036854775807) (y0 : 0 ≤ y) (y1 : y ≤ 9223372036854775807) (hx : x = (a : Nat)) (hy : y = (b : Nat)) :
    Calls Tryz.prog 9 #[.int .i64 x, .int .i64 y] w (FRes (Fr.mkP a b) w) := by
  have O1 := Lib.hid fun W => nat_Of x a W hx (by omega)
  have O2 := Lib.hid fun W => nat_Of y b W hy (by omega)
  have MK := Lib.hid fun W {A : Option Addr} {n c : Nat} {A' : Option Addr} {n' c' : Nat} (h : NumAt W A n c a) (h' : NumAt W A' n' c' b) => frac_Make_nums W h h'
  have w1 : IntKind.u64.wrap x = x := Nt.w64 x0 (by omega)
  have w2 : IntKind.u64.wrap y = y := Nt.w64 y0 (by omega)
  obtain ⟨t, et⟩ : ∃ t, t = Fr.mkP a b := ⟨_, rfl⟩
  rw [← et] at MK ⊢
  clear hx hy et
  have k0 := (Ks.start w).box [.slice none 0 0, .slice none 0 0] 26
  have K0 := Lib.hid k0
  clear k0
  go_enter Tryz.func9, Tryz.ntmps9
  go_wp2_with fail
  refine (O1.out _).mono ?_
  rintro e w1 ⟨A1, n1, c1, rfl, B1, D1, h1, l1⟩
  have k1 := (K0.out.call B1).num D1
  have K1 := Lib.hid k1
  clear k1 B1 D1
  have x0_0 := K1.out.cell0 at0
  have x0_1 := K1.out.cell1 at0
  go_wp2_with fail
  refine (O2.out _).mono ?_
  rintro e w2 ⟨A2, n2, c2, rfl, B2, D2, h2, l2⟩
  have k2 := (K1.out.call B2).num D2
  have K2 := Lib.hid k2
  clear k2 B2 D2
  clear x0_0 x0_1
  have x0_0 := K2.out.cell0 at0
  have x0_1 := K2.out.cell1 at0
  go_wp2_with fail
  refine (MK.out _ ⟨(K2.out.get at1), h1, l1⟩ ⟨(K2.out.get at0), h2, l2⟩).mono ?_
  rintro e w3 ⟨A3, n3, c3, A3r, n3r, c3r, rfl, B3, D3, D3r, h3, h3r, l3, l3r⟩
  have k3 := ((K2.out.call B3).num D3).num D3r
  have K3 := Lib.hid k3
  clear k3 B3 D3 D3r
  clear x0_0 x0_1
  have x0_0 := K3.out.cell0 at0
  have x0_1 := K3.out.cell1 at0
  have zf := K3.out.free at0
  have HF := Lib.hid (FRes.stored (A := A3) (n := n3) (c := c3) (A' := A3r) (n' := n3r) (c' := c3r) (er := t.2.2) K3.out at0 (by omega) (K3.out.get at1) h3 l3 (K3.out.get at0) h3r l3r)
  go_wp2_with fail
  refine bodyPost_ret (v := .tuple #[.agg #[.slice A3 n3 c3, .slice A3r n3r c3r], .int .i64 t.2.2]) (by simp [results, Tryz.results9, go_sem, x0_0, x0_1]) rfl ?_
  exact HF.out
theorem frac_Of_neg (x y : Int) (w : World) (hn : x < 0 ∨ y < 0) :
    Calls Tryz.prog 9 #[.int .i64 x, .int .i64 y] w (FRes (0, 0, 2) w) := by
  by_cases hx : x < 0
  · go_enter Tryz.func9, Tryz.ntmps9
    go_wp2_with fail
    refine bodyPost_ret (v := .tuple #[.agg #[.slice none 0 0, .slice none 0 0], .int .i64 2]) (by simp [results, Tryz.results9, go_sem]) rfl ?_
    exact ⟨none, 0, 0, none, 0, 0, rfl, (Below.refl _ _).alloc (Nat.le_refl _) _, IsN.zero, IsN.zero, by omega, by omega, by omega, by omega⟩
  · have hy : y < 0 := by omega
    go_enter Tryz.func9, Tryz.ntmps9
    go_wp2_with fail
    refine bodyPost_ret (v := .tuple #[.agg #[.slice none 0 0, .slice none 0 0], .int .i64 2]) (by simp [results, Tryz.results9, go_sem]) rfl ?_
    exact ⟨none, 0, 0, none, 0, 0, rfl, (Below.refl _ _).alloc (Nat.le_refl _) _, IsN.zero, IsN.zero, by omega, by omega, by omega, by omega⟩
end
end Go.Proofs.YtcgbgaljjhopiaaGreatDoor
