/- Fractions in lowest terms, their sums, products and order: plain mathematics. What a fraction is in memory; what calls keep; frac.isZero, frac.divMod, frac.quotient. frac.quotient, frac.Make, frac.Valid. frac.Make, frac.Of and frac.Valid for every argument. (Written by tools/frac1.py.) frac.compare and frac.Cmp: whole parts, and the reciprocals of the rests. frac.Cmp and frac.Of for every argument. (Written by tools/frac3.py.) -/
import Derived.Test.YtfjnpmkklanopaaNatM
import Derived.RegionTactic
import Derived.BigRegion
import Derived.Deep.RegionHeld3
import Derived.Test.YtfjnpmkklanopaaNatO
namespace Go.Proofs.Ytfjnpmkklanopaa
set_option maxRecDepth 20000
namespace Fr
/-- The parts of n / d in lowest terms. -/
def rn (n d : Nat) : Nat := n / Nat.gcd n d
def rd (n d : Nat) : Nat := d / Nat.gcd n d
section
variable {n d n' d' : Nat}
theorem gcd_pos (hd : 0 < d) : 0 < Nat.gcd n d := Nat.gcd_pos_of_pos_right n hd
theorem rn_mul (n d : Nat) : rn n d * Nat.gcd n d = n := Nat.div_mul_cancel (Nat.gcd_dvd_left n d)
theorem rd_mul (n d : Nat) : rd n d * Nat.gcd n d = d := Nat.div_mul_cancel (Nat.gcd_dvd_right n d)
theorem rd_pos (hd : 0 < d) : 0 < rd n d := by
  rcases Nat.eq_zero_or_pos (rd n d) with h | h
  · have := rd_mul n d; rw [h] at this; omega
  · exact h
theorem rn_le (n d : Nat) : rn n d ≤ n := Nat.div_le_self _ _
theorem rd_le (n d : Nat) : rd n d ≤ d := Nat.div_le_self _ _
theorem cop (hd : 0 < d) : Nat.gcd (rn n d) (rd n d) = 1 := by
  have h := Nat.gcd_mul_right (rn n d) (Nat.gcd n d) (rd n d)
  rw [rn_mul, rd_mul] at h
  exact Nat.eq_of_mul_eq_mul_right (gcd_pos (n := n) hd) (by omega)
theorem rn_cop (h : Nat.gcd n d = 1) : rn n d = n := by rw [rn, h, Nat.div_one]
theorem rd_cop (h : Nat.gcd n d = 1) : rd n d = d := by rw [rd, h, Nat.div_one]
theorem rn_zero (d : Nat) (_ : 0 < d) : rn 0 d = 0 := by rw [rn, Nat.zero_div]
theorem rd_zero (d : Nat) (hd : 0 < d) : rd 0 d = 1 := by rw [rd, Nat.gcd_zero_left, Nat.div_self hd]
theorem rn_eq_zero (hd : 0 < d) : rn n d = 0 ↔ n = 0 := by
  constructor
  · intro h; have := rn_mul n d; rw [h] at this; omega
  · rintro rfl; exact rn_zero d hd
theorem cross (n d : Nat) : rn n d * d = n * rd n d := by
  have h1 := rn_mul n d
  have h2 := rd_mul n d
  generalize rn n d = a at *
  generalize rd n d = b at *
  generalize Nat.gcd n d = g at *
  subst h1; subst h2; grind
/-- Fractions in lowest terms with equal cross products have equal parts. -/
theorem eq_of_cross (h : Nat.gcd n d = 1) (h' : Nat.gcd n' d' = 1) (hx : n * d' = n' * d) : n = n' ∧ d = d' := by
  have c1 : Nat.Coprime n d := h
  have c2 : Nat.Coprime n' d' := h'
  have a1 : d ∣ d' := c1.symm.dvd_of_dvd_mul_left (⟨n', by rw [hx, Nat.mul_comm]⟩)
  have a2 : d' ∣ d := c2.symm.dvd_of_dvd_mul_left (⟨n, by rw [← hx, Nat.mul_comm]⟩)
  have e : d = d' := Nat.dvd_antisymm a1 a2
  have b1 : n ∣ n' := c1.dvd_of_dvd_mul_right (⟨d', hx.symm⟩)
  have b2 : n' ∣ n := c2.dvd_of_dvd_mul_right (⟨d, hx⟩)
  exact ⟨Nat.dvd_antisymm b1 b2, e⟩
theorem cancel {a b c : Nat} (hc : 0 < c) (h : a * c = b * c) : a = b := Nat.eq_of_mul_eq_mul_right hc h
/-- Equal cross products: equal parts in lowest terms. -/
theorem red_eq (hd : 0 < d) (hd' : 0 < d') (hx : n * d' = n' * d) : rn n d = rn n' d' ∧ rd n d = rd n' d' := by
  refine eq_of_cross (cop hd) (cop hd') ?_
  have e1 := rn_mul n d
  have e2 := rd_mul n d
  have e3 := rn_mul n' d'
  have e4 := rd_mul n' d'
  have g1 := gcd_pos (n := n) hd
  have g2 := gcd_pos (n := n') hd'
  refine cancel (c := Nat.gcd n d * Nat.gcd n' d') (Nat.mul_pos g1 g2) ?_
  generalize Nat.gcd n d = g at *
  generalize Nat.gcd n' d' = g' at *
  have : (rn n d * g) * (rd n' d' * g') = (rn n' d' * g') * (rd n d * g) := by rw [e1, e2, e3, e4]; exact hx
  grind
theorem red_cop (h : Nat.gcd n d = 1) (hd : 0 < d) (hd' : 0 < d') (hx : n * d' = n' * d) : rn n' d' = n ∧ rd n' d' = d := by
  have := red_eq hd hd' hx
  rw [rn_cop h, rd_cop h] at this
  exact ⟨this.1.symm, this.2.symm⟩
end
/-! The sums and products of fractions, in lowest terms. -/
section
variable (a b c d : Nat)
def an : Nat := rn (a * d + c * b) (b * d)
def ad : Nat := rd (a * d + c * b) (b * d)
def sn : Nat := rn (a * d - c * b) (b * d)
def sd : Nat := rd (a * d - c * b) (b * d)
def mn : Nat := rn (a * c) (b * d)
def md : Nat := rd (a * c) (b * d)
def qn : Nat := rn (a * d) (b * c)
def qd : Nat := rd (a * d) (b * c)
end
section
variable {a b c d e f : Nat}
theorem add_pos (hb : 0 < b) (hd : 0 < d) : 0 < ad a b c d := rd_pos (Nat.mul_pos hb hd)
theorem add_cop (hb : 0 < b) (hd : 0 < d) : Nat.gcd (an a b c d) (ad a b c d) = 1 := cop (Nat.mul_pos hb hd)
theorem mul_pos (hb : 0 < b) (hd : 0 < d) : 0 < md a b c d := rd_pos (Nat.mul_pos hb hd)
theorem mul_cop (hb : 0 < b) (hd : 0 < d) : Nat.gcd (mn a b c d) (md a b c d) = 1 := cop (Nat.mul_pos hb hd)
theorem add_cross (a b c d : Nat) : an a b c d * (b * d) = (a * d + c * b) * ad a b c d := cross _ _
theorem mul_cross (a b c d : Nat) : mn a b c d * (b * d) = (a * c) * md a b c d := cross _ _
theorem an_comm (a b c d : Nat) : an a b c d = an c d a b := by rw [an, an, Nat.add_comm, Nat.mul_comm b d]
theorem ad_comm (a b c d : Nat) : ad a b c d = ad c d a b := by rw [ad, ad, Nat.add_comm, Nat.mul_comm b d]
theorem mn_comm (a b c d : Nat) : mn a b c d = mn c d a b := by rw [mn, mn, Nat.mul_comm a, Nat.mul_comm b d]
theorem md_comm (a b c d : Nat) : md a b c d = md c d a b := by rw [md, md, Nat.mul_comm a, Nat.mul_comm b d]
/-- From a proportion p / q = n / m the sum with x / y. -/
theorem add_of {p q n m x y : Nat} (h : p * m = n * q) (hq : 0 < q) (hm : 0 < m) (hy : 0 < y) :
    an p q x y = rn (n * y + x * m) (m * y) ∧ ad p q x y = rd (n * y + x * m) (m * y) := by
  refine red_eq (Nat.mul_pos hq hy) (Nat.mul_pos hm hy) ?_
  have : (p * m) * (y * y) = (n * q) * (y * y) := by rw [h]
  grind
theorem mul_of {p q n m x y : Nat} (h : p * m = n * q) (hq : 0 < q) (hm : 0 < m) (hy : 0 < y) :
    mn p q x y = rn (n * x) (m * y) ∧ md p q x y = rd (n * x) (m * y) := by
  refine red_eq (Nat.mul_pos hq hy) (Nat.mul_pos hm hy) ?_
  have : (p * m) * (x * y) = (n * q) * (x * y) := by rw [h]
  grind
theorem add_assoc (hb : 0 < b) (hd : 0 < d) (hf : 0 < f) :
    an (an a b c d) (ad a b c d) e f = an a b (an c d e f) (ad c d e f) ∧ ad (an a b c d) (ad a b c d) e f = ad a b (an c d e f) (ad c d e f) := by
  have h1 := add_of (x := e) (y := f) (add_cross a b c d) (add_pos hb hd) (Nat.mul_pos hb hd) hf
  have h2 := add_of (x := a) (y := b) (add_cross c d e f) (add_pos hd hf) (Nat.mul_pos hd hf) hb
  rw [h1.1, h1.2, an_comm a b, ad_comm a b, h2.1, h2.2]
  exact red_eq (Nat.mul_pos (Nat.mul_pos hb hd) hf) (Nat.mul_pos (Nat.mul_pos hd hf) hb) (by grind)
theorem mul_assoc (hb : 0 < b) (hd : 0 < d) (hf : 0 < f) :
    mn (mn a b c d) (md a b c d) e f = mn a b (mn c d e f) (md c d e f) ∧ md (mn a b c d) (md a b c d) e f = md a b (mn c d e f) (md c d e f) := by
  have h1 := mul_of (x := e) (y := f) (mul_cross a b c d) (mul_pos hb hd) (Nat.mul_pos hb hd) hf
  have h2 := mul_of (x := a) (y := b) (mul_cross c d e f) (mul_pos hd hf) (Nat.mul_pos hd hf) hb
  rw [h1.1, h1.2, mn_comm a b, md_comm a b, h2.1, h2.2]
  exact red_eq (Nat.mul_pos (Nat.mul_pos hb hd) hf) (Nat.mul_pos (Nat.mul_pos hd hf) hb) (by grind)
theorem distrib (hb : 0 < b) (hd : 0 < d) (hf : 0 < f) :
    mn a b (an c d e f) (ad c d e f) = an (mn a b c d) (md a b c d) (mn a b e f) (md a b e f) ∧ md a b (an c d e f) (ad c d e f) = ad (mn a b c d) (md a b c d) (mn a b e f) (md a b e f) := by
  have h1 := mul_of (x := a) (y := b) (add_cross c d e f) (add_pos hd hf) (Nat.mul_pos hd hf) hb
  have h2 := add_of (x := mn a b e f) (y := md a b e f) (mul_cross a b c d) (mul_pos hb hd) (Nat.mul_pos hb hd) (mul_pos hb hf)
  rw [mn_comm a b (an c d e f), md_comm a b (an c d e f), h1.1, h1.2, h2.1, h2.2]
  have h3 := mul_cross a b e f
  refine red_eq (Nat.mul_pos (Nat.mul_pos hd hf) hb) (Nat.mul_pos (Nat.mul_pos hb hd) (mul_pos hb hf)) ?_
  generalize mn a b e f = p at *
  generalize md a b e f = q at *
  have h4 : (p * (b * f)) * (b * d * d * b) = (a * e * q) * (b * d * d * b) := by rw [h3]
  grind
theorem sub_add (hb : 0 < b) (hd : 0 < d) (h : Nat.gcd a b = 1) : sn (an a b c d) (ad a b c d) c d = a ∧ sd (an a b c d) (ad a b c d) c d = b := by
  refine red_cop h hb (Nat.mul_pos (add_pos hb hd) hd) ?_
  have h3 := add_cross a b c d
  have hp := add_pos (a := a) (c := c) hb hd
  generalize an a b c d = p at *
  generalize ad a b c d = q at *
  -- p * (b * d) = (a * d + c * b) * q
  have h5 : (p * d) * b = (a * d) * q + (c * q) * b := by grind
  have h6 : (p * d - c * q) * b = a * d * q := by rw [Nat.sub_mul]; omega
  grind
theorem sub_ok (hb : 0 < b) : c * ad a b c d ≤ an a b c d * d := by
  have h3 := add_cross a b c d
  generalize an a b c d = p at *
  generalize ad a b c d = q at *
  have h5 : (p * d) * b = (a * d) * q + (c * q) * b := by grind
  exact Nat.le_of_mul_le_mul_right (by omega) hb
theorem div_mul (hb : 0 < b) (hd : 0 < d) (hc : 0 < c) (h : Nat.gcd a b = 1) : qn (mn a b c d) (md a b c d) c d = a ∧ qd (mn a b c d) (md a b c d) c d = b := by
  refine red_cop h hb (Nat.mul_pos (mul_pos hb hd) hc) ?_
  have h3 := mul_cross a b c d
  generalize mn a b c d = p at *
  generalize md a b c d = q at *
  grind
theorem add_zero (hb : 0 < b) (h : Nat.gcd a b = 1) : an a b 0 1 = a ∧ ad a b 0 1 = b := by
  refine red_cop h hb (Nat.mul_pos hb (by omega)) (by grind)
theorem mul_one (hb : 0 < b) (h : Nat.gcd a b = 1) : mn a b 1 1 = a ∧ md a b 1 1 = b := by
  refine red_cop h hb (Nat.mul_pos hb (by omega)) (by grind)
/-- A fraction of ints times a number. -/
theorem lowest {n d k : Nat} (hd : 0 < d) (hk : 0 < k) : rn n d = rn (n * k) (d * k) ∧ rd n d = rd (n * k) (d * k) :=
  red_eq hd (Nat.mul_pos hd hk) (by grind)
end
end Fr

namespace Fr
/-! Order: by cross products; the step of the continued fraction. -/
/-- -1, 0 or 1: how x and y compare. -/
def ci (x y : Nat) : Int := if x < y then -1 else if y < x then 1 else 0
theorem ci_lt {x y : Nat} (h : x < y) : ci x y = -1 := if_pos h
theorem ci_gt {x y : Nat} (h : y < x) : ci x y = 1 := by rw [ci, if_neg (by omega), if_pos h]
theorem ci_eq (x : Nat) : ci x x = 0 := by simp [ci]
theorem ci_zero {x y : Nat} : ci x y = 0 ↔ x = y := by unfold ci; split <;> (try split) <;> omega
theorem ci_anti (x y : Nat) : ci x y = - ci y x := by unfold ci; split <;> (try split) <;> (try split) <;> omega
theorem ci_mul {x y k : Nat} (hk : 0 < k) : ci (x * k) (y * k) = ci x y := by
  have a : x * k < y * k ↔ x < y := Nat.mul_lt_mul_right hk
  have b : y * k < x * k ↔ y < x := Nat.mul_lt_mul_right hk
  simp only [ci, a, b]
theorem ci_add {x y z : Nat} : ci (x + z) (y + z) = ci x y := by unfold ci; simp
section
variable {a b c d : Nat}
theorem whole_lt (hb : 0 < b) (hd : 0 < d) (h : a / b < c / d) : ci (a * d) (c * b) = -1 := by
  apply ci_lt
  have h1 : a < (a / b + 1) * b := by rw [Nat.add_mul, Nat.one_mul]; have := Nat.div_add_mod a b; have := Nat.mod_lt a hb; rw [Nat.mul_comm] at *; grind
  have h2 : c / d * d ≤ c := Nat.div_mul_le_self c d
  have h3 : (a / b + 1) * b * d ≤ c / d * d * b := by
    have : (a / b + 1) * (b * d) ≤ (c / d) * (b * d) := Nat.mul_le_mul_right _ h
    grind
  have h4 : a * d < (a / b + 1) * b * d := Nat.mul_lt_mul_of_pos_right h1 hd
  have h5 : c / d * d * b ≤ c * b := Nat.mul_le_mul_right _ h2
  omega
theorem whole_eq (h : a / b = c / d) : ci (a * d) (c * b) = ci ((a % b) * d) ((c % d) * b) := by
  have h1 := Nat.div_add_mod a b
  have h2 := Nat.div_add_mod c d
  rw [h] at h1
  generalize c / d = q at *
  generalize a % b = r at *
  generalize c % d = s at *
  subst h1; subst h2
  have e1 : (b * q + r) * d = r * d + b * q * d := by grind
  have e2 : (d * q + s) * b = s * b + b * q * d := by grind
  rw [e1, e2, ci_add]
/-- The step: the whole parts are equal, both rests are there. -/
theorem step (h : a / b = c / d) : ci (a * d) (c * b) = ci (d * (a % b)) (b * (c % d)) := by
  rw [whole_eq h, Nat.mul_comm d, Nat.mul_comm b]
theorem rests (h : a / b = c / d) (hb : 0 < b) (hd : 0 < d) (h0 : a % b = 0 ∨ c % d = 0) : ci (a * d) (c * b) = ci (a % b) (c % d) := by
  rw [whole_eq h]
  rcases h0 with h0 | h0 <;> rw [h0, Nat.zero_mul]
  · unfold ci
    have : 0 < c % d * b ↔ 0 < c % d := by constructor
                                           · intro h; rcases Nat.eq_zero_or_pos (c % d) with e | e
                                             · rw [e] at h; omega
                                             · exact e
                                           · intro h; exact Nat.mul_pos h hb
    simp only [this, Nat.not_lt_zero]
  · unfold ci
    have : 0 < a % b * d ↔ 0 < a % b := by constructor
                                           · intro h; rcases Nat.eq_zero_or_pos (a % b) with e | e
                                             · rw [e] at h; omega
                                             · exact e
                                           · intro h; exact Nat.mul_pos h hd
    simp only [this, Nat.not_lt_zero]
theorem whole_gt (hb : 0 < b) (hd : 0 < d) (h : c / d < a / b) : ci (a * d) (c * b) = 1 := by
  have := whole_lt hd hb h
  rw [ci_anti, this]; rfl
theorem wholes (hb : 0 < b) (hd : 0 < d) (h : a / b ≠ c / d) : ci (a * d) (c * b) = ci (a / b) (c / d) := by
  rcases Nat.lt_or_gt_of_ne h with h | h
  · rw [whole_lt hb hd h, ci_lt h]
  · rw [whole_gt hb hd h, ci_gt h]
theorem cmp_eq (h : Nat.gcd a b = 1) (h' : Nat.gcd c d = 1) : ci (a * d) (c * b) = 0 ↔ a = c ∧ b = d := by
  rw [ci_zero]
  exact ⟨eq_of_cross h h', fun ⟨e, e'⟩ => by rw [e, e']⟩
end
/-- What is added to both changes no order. -/
theorem cmp_add {a b c d e f : Nat} (hb : 0 < b) (hd : 0 < d) (hf : 0 < f) : ci (an a b e f * ad c d e f) (an c d e f * ad a b e f) = ci (a * d) (c * b) := by
  have h1 := add_cross a b e f
  have h2 := add_cross c d e f
  have p1 := add_pos (a := a) (c := e) hb hf
  have p2 := add_pos (a := c) (c := e) hd hf
  generalize an a b e f = x at *
  generalize ad a b e f = y at *
  generalize an c d e f = z at *
  generalize ad c d e f = u at *
  have k1 : 0 < b * d * f := Nat.mul_pos (Nat.mul_pos hb hd) hf
  have k2 : 0 < f * y * u := Nat.mul_pos (Nat.mul_pos hf p1) p2
  rw [← ci_mul (x := x * u) k1, ← ci_mul (x := a * d) k2]
  have e1 : x * u * (b * d * f) = a * d * (f * y * u) + e * b * d * y * u := by grind
  have e2 : z * y * (b * d * f) = c * b * (f * y * u) + e * b * d * y * u := by grind
  rw [e1, e2, ci_add]
end Fr
end Go.Proofs.Ytfjnpmkklanopaa
namespace Go.Proofs.Ytfjnpmkklanopaa
set_option maxRecDepth 20000
open Go.RowKit
set_option linter.unusedVariables false
set_option linter.unusedSimpArgs false
section
variable {α : Type} {a b0 b1 b2 b3 b4 b5 b6 b7 b8 b9 b10 b11 b12 b13 b14 b15 b16 b17 b18 b19 b20 b21 b22 b23 b24 b25 b26 b27 b28 b29 b30 b31 b32 b33 b34 b35 b36 b37 b38 b39 b40 b41 b42 b43 b44 b45 b46 b47 b48 b49 b50 b51 b52 b53 b54 b55 b56 b57 b58 b59 b60 b61 b62 b63 b64 b65 b66 b67 b68 b69 : α} {l : List α}
theorem at0 : a ∈ a :: l := List.mem_cons_self
theorem at1 : a ∈ b0 :: a :: l := List.mem_cons_of_mem _ at0
theorem at2 : a ∈ b0 :: b1 :: a :: l := List.mem_cons_of_mem _ at1
theorem at3 : a ∈ b0 :: b1 :: b2 :: a :: l := List.mem_cons_of_mem _ at2
theorem at4 : a ∈ b0 :: b1 :: b2 :: b3 :: a :: l := List.mem_cons_of_mem _ at3
theorem at5 : a ∈ b0 :: b1 :: b2 :: b3 :: b4 :: a :: l := List.mem_cons_of_mem _ at4
theorem at6 : a ∈ b0 :: b1 :: b2 :: b3 :: b4 :: b5 :: a :: l := List.mem_cons_of_mem _ at5
theorem at7 : a ∈ b0 :: b1 :: b2 :: b3 :: b4 :: b5 :: b6 :: a :: l := List.mem_cons_of_mem _ at6
theorem at8 : a ∈ b0 :: b1 :: b2 :: b3 :: b4 :: b5 :: b6 :: b7 :: a :: l := List.mem_cons_of_mem _ at7
theorem at9 : a ∈ b0 :: b1 :: b2 :: b3 :: b4 :: b5 :: b6 :: b7 :: b8 :: a :: l := List.mem_cons_of_mem _ at8
theorem at10 : a ∈ b0 :: b1 :: b2 :: b3 :: b4 :: b5 :: b6 :: b7 :: b8 :: b9 :: a :: l := List.mem_cons_of_mem _ at9
theorem at11 : a ∈ b0 :: b1 :: b2 :: b3 :: b4 :: b5 :: b6 :: b7 :: b8 :: b9 :: b10 :: a :: l := List.mem_cons_of_mem _ at10
theorem at12 : a ∈ b0 :: b1 :: b2 :: b3 :: b4 :: b5 :: b6 :: b7 :: b8 :: b9 :: b10 :: b11 :: a :: l := List.mem_cons_of_mem _ at11
theorem at13 : a ∈ b0 :: b1 :: b2 :: b3 :: b4 :: b5 :: b6 :: b7 :: b8 :: b9 :: b10 :: b11 :: b12 :: a :: l := List.mem_cons_of_mem _ at12
theorem at14 : a ∈ b0 :: b1 :: b2 :: b3 :: b4 :: b5 :: b6 :: b7 :: b8 :: b9 :: b10 :: b11 :: b12 :: b13 :: a :: l := List.mem_cons_of_mem _ at13
theorem at15 : a ∈ b0 :: b1 :: b2 :: b3 :: b4 :: b5 :: b6 :: b7 :: b8 :: b9 :: b10 :: b11 :: b12 :: b13 :: b14 :: a :: l := List.mem_cons_of_mem _ at14
theorem at16 : a ∈ b0 :: b1 :: b2 :: b3 :: b4 :: b5 :: b6 :: b7 :: b8 :: b9 :: b10 :: b11 :: b12 :: b13 :: b14 :: b15 :: a :: l := List.mem_cons_of_mem _ at15
theorem at17 : a ∈ b0 :: b1 :: b2 :: b3 :: b4 :: b5 :: b6 :: b7 :: b8 :: b9 :: b10 :: b11 :: b12 :: b13 :: b14 :: b15 :: b16 :: a :: l := List.mem_cons_of_mem _ at16
theorem at18 : a ∈ b0 :: b1 :: b2 :: b3 :: b4 :: b5 :: b6 :: b7 :: b8 :: b9 :: b10 :: b11 :: b12 :: b13 :: b14 :: b15 :: b16 :: b17 :: a :: l := List.mem_cons_of_mem _ at17
theorem at19 : a ∈ b0 :: b1 :: b2 :: b3 :: b4 :: b5 :: b6 :: b7 :: b8 :: b9 :: b10 :: b11 :: b12 :: b13 :: b14 :: b15 :: b16 :: b17 :: b18 :: a :: l := List.mem_cons_of_mem _ at18
theorem at20 : a ∈ b0 :: b1 :: b2 :: b3 :: b4 :: b5 :: b6 :: b7 :: b8 :: b9 :: b10 :: b11 :: b12 :: b13 :: b14 :: b15 :: b16 :: b17 :: b18 :: b19 :: a :: l := List.mem_cons_of_mem _ at19
theorem at21 : a ∈ b0 :: b1 :: b2 :: b3 :: b4 :: b5 :: b6 :: b7 :: b8 :: b9 :: b10 :: b11 :: b12 :: b13 :: b14 :: b15 :: b16 :: b17 :: b18 :: b19 :: b20 :: a :: l := List.mem_cons_of_mem _ at20
theorem at22 : a ∈ b0 :: b1 :: b2 :: b3 :: b4 :: b5 :: b6 :: b7 :: b8 :: b9 :: b10 :: b11 :: b12 :: b13 :: b14 :: b15 :: b16 :: b17 :: b18 :: b19 :: b20 :: b21 :: a :: l := List.mem_cons_of_mem _ at21
theorem at23 : a ∈ b0 :: b1 :: b2 :: b3 :: b4 :: b5 :: b6 :: b7 :: b8 :: b9 :: b10 :: b11 :: b12 :: b13 :: b14 :: b15 :: b16 :: b17 :: b18 :: b19 :: b20 :: b21 :: b22 :: a :: l := List.mem_cons_of_mem _ at22
theorem at24 : a ∈ b0 :: b1 :: b2 :: b3 :: b4 :: b5 :: b6 :: b7 :: b8 :: b9 :: b10 :: b11 :: b12 :: b13 :: b14 :: b15 :: b16 :: b17 :: b18 :: b19 :: b20 :: b21 :: b22 :: b23 :: a :: l := List.mem_cons_of_mem _ at23
theorem at25 : a ∈ b0 :: b1 :: b2 :: b3 :: b4 :: b5 :: b6 :: b7 :: b8 :: b9 :: b10 :: b11 :: b12 :: b13 :: b14 :: b15 :: b16 :: b17 :: b18 :: b19 :: b20 :: b21 :: b22 :: b23 :: b24 :: a :: l := List.mem_cons_of_mem _ at24
theorem at26 : a ∈ b0 :: b1 :: b2 :: b3 :: b4 :: b5 :: b6 :: b7 :: b8 :: b9 :: b10 :: b11 :: b12 :: b13 :: b14 :: b15 :: b16 :: b17 :: b18 :: b19 :: b20 :: b21 :: b22 :: b23 :: b24 :: b25 :: a :: l := List.mem_cons_of_mem _ at25
theorem at27 : a ∈ b0 :: b1 :: b2 :: b3 :: b4 :: b5 :: b6 :: b7 :: b8 :: b9 :: b10 :: b11 :: b12 :: b13 :: b14 :: b15 :: b16 :: b17 :: b18 :: b19 :: b20 :: b21 :: b22 :: b23 :: b24 :: b25 :: b26 :: a :: l := List.mem_cons_of_mem _ at26
theorem at28 : a ∈ b0 :: b1 :: b2 :: b3 :: b4 :: b5 :: b6 :: b7 :: b8 :: b9 :: b10 :: b11 :: b12 :: b13 :: b14 :: b15 :: b16 :: b17 :: b18 :: b19 :: b20 :: b21 :: b22 :: b23 :: b24 :: b25 :: b26 :: b27 :: a :: l := List.mem_cons_of_mem _ at27
theorem at29 : a ∈ b0 :: b1 :: b2 :: b3 :: b4 :: b5 :: b6 :: b7 :: b8 :: b9 :: b10 :: b11 :: b12 :: b13 :: b14 :: b15 :: b16 :: b17 :: b18 :: b19 :: b20 :: b21 :: b22 :: b23 :: b24 :: b25 :: b26 :: b27 :: b28 :: a :: l := List.mem_cons_of_mem _ at28
theorem at30 : a ∈ b0 :: b1 :: b2 :: b3 :: b4 :: b5 :: b6 :: b7 :: b8 :: b9 :: b10 :: b11 :: b12 :: b13 :: b14 :: b15 :: b16 :: b17 :: b18 :: b19 :: b20 :: b21 :: b22 :: b23 :: b24 :: b25 :: b26 :: b27 :: b28 :: b29 :: a :: l := List.mem_cons_of_mem _ at29
theorem at31 : a ∈ b0 :: b1 :: b2 :: b3 :: b4 :: b5 :: b6 :: b7 :: b8 :: b9 :: b10 :: b11 :: b12 :: b13 :: b14 :: b15 :: b16 :: b17 :: b18 :: b19 :: b20 :: b21 :: b22 :: b23 :: b24 :: b25 :: b26 :: b27 :: b28 :: b29 :: b30 :: a :: l := List.mem_cons_of_mem _ at30
theorem at32 : a ∈ b0 :: b1 :: b2 :: b3 :: b4 :: b5 :: b6 :: b7 :: b8 :: b9 :: b10 :: b11 :: b12 :: b13 :: b14 :: b15 :: b16 :: b17 :: b18 :: b19 :: b20 :: b21 :: b22 :: b23 :: b24 :: b25 :: b26 :: b27 :: b28 :: b29 :: b30 :: b31 :: a :: l := List.mem_cons_of_mem _ at31
theorem at33 : a ∈ b0 :: b1 :: b2 :: b3 :: b4 :: b5 :: b6 :: b7 :: b8 :: b9 :: b10 :: b11 :: b12 :: b13 :: b14 :: b15 :: b16 :: b17 :: b18 :: b19 :: b20 :: b21 :: b22 :: b23 :: b24 :: b25 :: b26 :: b27 :: b28 :: b29 :: b30 :: b31 :: b32 :: a :: l := List.mem_cons_of_mem _ at32
theorem at34 : a ∈ b0 :: b1 :: b2 :: b3 :: b4 :: b5 :: b6 :: b7 :: b8 :: b9 :: b10 :: b11 :: b12 :: b13 :: b14 :: b15 :: b16 :: b17 :: b18 :: b19 :: b20 :: b21 :: b22 :: b23 :: b24 :: b25 :: b26 :: b27 :: b28 :: b29 :: b30 :: b31 :: b32 :: b33 :: a :: l := List.mem_cons_of_mem _ at33
theorem at35 : a ∈ b0 :: b1 :: b2 :: b3 :: b4 :: b5 :: b6 :: b7 :: b8 :: b9 :: b10 :: b11 :: b12 :: b13 :: b14 :: b15 :: b16 :: b17 :: b18 :: b19 :: b20 :: b21 :: b22 :: b23 :: b24 :: b25 :: b26 :: b27 :: b28 :: b29 :: b30 :: b31 :: b32 :: b33 :: b34 :: a :: l := List.mem_cons_of_mem _ at34
theorem at36 : a ∈ b0 :: b1 :: b2 :: b3 :: b4 :: b5 :: b6 :: b7 :: b8 :: b9 :: b10 :: b11 :: b12 :: b13 :: b14 :: b15 :: b16 :: b17 :: b18 :: b19 :: b20 :: b21 :: b22 :: b23 :: b24 :: b25 :: b26 :: b27 :: b28 :: b29 :: b30 :: b31 :: b32 :: b33 :: b34 :: b35 :: a :: l := List.mem_cons_of_mem _ at35
theorem at37 : a ∈ b0 :: b1 :: b2 :: b3 :: b4 :: b5 :: b6 :: b7 :: b8 :: b9 :: b10 :: b11 :: b12 :: b13 :: b14 :: b15 :: b16 :: b17 :: b18 :: b19 :: b20 :: b21 :: b22 :: b23 :: b24 :: b25 :: b26 :: b27 :: b28 :: b29 :: b30 :: b31 :: b32 :: b33 :: b34 :: b35 :: b36 :: a :: l := List.mem_cons_of_mem _ at36
theorem at38 : a ∈ b0 :: b1 :: b2 :: b3 :: b4 :: b5 :: b6 :: b7 :: b8 :: b9 :: b10 :: b11 :: b12 :: b13 :: b14 :: b15 :: b16 :: b17 :: b18 :: b19 :: b20 :: b21 :: b22 :: b23 :: b24 :: b25 :: b26 :: b27 :: b28 :: b29 :: b30 :: b31 :: b32 :: b33 :: b34 :: b35 :: b36 :: b37 :: a :: l := List.mem_cons_of_mem _ at37
theorem at39 : a ∈ b0 :: b1 :: b2 :: b3 :: b4 :: b5 :: b6 :: b7 :: b8 :: b9 :: b10 :: b11 :: b12 :: b13 :: b14 :: b15 :: b16 :: b17 :: b18 :: b19 :: b20 :: b21 :: b22 :: b23 :: b24 :: b25 :: b26 :: b27 :: b28 :: b29 :: b30 :: b31 :: b32 :: b33 :: b34 :: b35 :: b36 :: b37 :: b38 :: a :: l := List.mem_cons_of_mem _ at38
theorem at40 : a ∈ b0 :: b1 :: b2 :: b3 :: b4 :: b5 :: b6 :: b7 :: b8 :: b9 :: b10 :: b11 :: b12 :: b13 :: b14 :: b15 :: b16 :: b17 :: b18 :: b19 :: b20 :: b21 :: b22 :: b23 :: b24 :: b25 :: b26 :: b27 :: b28 :: b29 :: b30 :: b31 :: b32 :: b33 :: b34 :: b35 :: b36 :: b37 :: b38 :: b39 :: a :: l := List.mem_cons_of_mem _ at39
theorem at41 : a ∈ b0 :: b1 :: b2 :: b3 :: b4 :: b5 :: b6 :: b7 :: b8 :: b9 :: b10 :: b11 :: b12 :: b13 :: b14 :: b15 :: b16 :: b17 :: b18 :: b19 :: b20 :: b21 :: b22 :: b23 :: b24 :: b25 :: b26 :: b27 :: b28 :: b29 :: b30 :: b31 :: b32 :: b33 :: b34 :: b35 :: b36 :: b37 :: b38 :: b39 :: b40 :: a :: l := List.mem_cons_of_mem _ at40
theorem at42 : a ∈ b0 :: b1 :: b2 :: b3 :: b4 :: b5 :: b6 :: b7 :: b8 :: b9 :: b10 :: b11 :: b12 :: b13 :: b14 :: b15 :: b16 :: b17 :: b18 :: b19 :: b20 :: b21 :: b22 :: b23 :: b24 :: b25 :: b26 :: b27 :: b28 :: b29 :: b30 :: b31 :: b32 :: b33 :: b34 :: b35 :: b36 :: b37 :: b38 :: b39 :: b40 :: b41 :: a :: l := List.mem_cons_of_mem _ at41
theorem at43 : a ∈ b0 :: b1 :: b2 :: b3 :: b4 :: b5 :: b6 :: b7 :: b8 :: b9 :: b10 :: b11 :: b12 :: b13 :: b14 :: b15 :: b16 :: b17 :: b18 :: b19 :: b20 :: b21 :: b22 :: b23 :: b24 :: b25 :: b26 :: b27 :: b28 :: b29 :: b30 :: b31 :: b32 :: b33 :: b34 :: b35 :: b36 :: b37 :: b38 :: b39 :: b40 :: b41 :: b42 :: a :: l := List.mem_cons_of_mem _ at42
theorem at44 : a ∈ b0 :: b1 :: b2 :: b3 :: b4 :: b5 :: b6 :: b7 :: b8 :: b9 :: b10 :: b11 :: b12 :: b13 :: b14 :: b15 :: b16 :: b17 :: b18 :: b19 :: b20 :: b21 :: b22 :: b23 :: b24 :: b25 :: b26 :: b27 :: b28 :: b29 :: b30 :: b31 :: b32 :: b33 :: b34 :: b35 :: b36 :: b37 :: b38 :: b39 :: b40 :: b41 :: b42 :: b43 :: a :: l := List.mem_cons_of_mem _ at43
theorem at45 : a ∈ b0 :: b1 :: b2 :: b3 :: b4 :: b5 :: b6 :: b7 :: b8 :: b9 :: b10 :: b11 :: b12 :: b13 :: b14 :: b15 :: b16 :: b17 :: b18 :: b19 :: b20 :: b21 :: b22 :: b23 :: b24 :: b25 :: b26 :: b27 :: b28 :: b29 :: b30 :: b31 :: b32 :: b33 :: b34 :: b35 :: b36 :: b37 :: b38 :: b39 :: b40 :: b41 :: b42 :: b43 :: b44 :: a :: l := List.mem_cons_of_mem _ at44
theorem at46 : a ∈ b0 :: b1 :: b2 :: b3 :: b4 :: b5 :: b6 :: b7 :: b8 :: b9 :: b10 :: b11 :: b12 :: b13 :: b14 :: b15 :: b16 :: b17 :: b18 :: b19 :: b20 :: b21 :: b22 :: b23 :: b24 :: b25 :: b26 :: b27 :: b28 :: b29 :: b30 :: b31 :: b32 :: b33 :: b34 :: b35 :: b36 :: b37 :: b38 :: b39 :: b40 :: b41 :: b42 :: b43 :: b44 :: b45 :: a :: l := List.mem_cons_of_mem _ at45
theorem at47 : a ∈ b0 :: b1 :: b2 :: b3 :: b4 :: b5 :: b6 :: b7 :: b8 :: b9 :: b10 :: b11 :: b12 :: b13 :: b14 :: b15 :: b16 :: b17 :: b18 :: b19 :: b20 :: b21 :: b22 :: b23 :: b24 :: b25 :: b26 :: b27 :: b28 :: b29 :: b30 :: b31 :: b32 :: b33 :: b34 :: b35 :: b36 :: b37 :: b38 :: b39 :: b40 :: b41 :: b42 :: b43 :: b44 :: b45 :: b46 :: a :: l := List.mem_cons_of_mem _ at46
theorem at48 : a ∈ b0 :: b1 :: b2 :: b3 :: b4 :: b5 :: b6 :: b7 :: b8 :: b9 :: b10 :: b11 :: b12 :: b13 :: b14 :: b15 :: b16 :: b17 :: b18 :: b19 :: b20 :: b21 :: b22 :: b23 :: b24 :: b25 :: b26 :: b27 :: b28 :: b29 :: b30 :: b31 :: b32 :: b33 :: b34 :: b35 :: b36 :: b37 :: b38 :: b39 :: b40 :: b41 :: b42 :: b43 :: b44 :: b45 :: b46 :: b47 :: a :: l := List.mem_cons_of_mem _ at47
theorem at49 : a ∈ b0 :: b1 :: b2 :: b3 :: b4 :: b5 :: b6 :: b7 :: b8 :: b9 :: b10 :: b11 :: b12 :: b13 :: b14 :: b15 :: b16 :: b17 :: b18 :: b19 :: b20 :: b21 :: b22 :: b23 :: b24 :: b25 :: b26 :: b27 :: b28 :: b29 :: b30 :: b31 :: b32 :: b33 :: b34 :: b35 :: b36 :: b37 :: b38 :: b39 :: b40 :: b41 :: b42 :: b43 :: b44 :: b45 :: b46 :: b47 :: b48 :: a :: l := List.mem_cons_of_mem _ at48
theorem at50 : a ∈ b0 :: b1 :: b2 :: b3 :: b4 :: b5 :: b6 :: b7 :: b8 :: b9 :: b10 :: b11 :: b12 :: b13 :: b14 :: b15 :: b16 :: b17 :: b18 :: b19 :: b20 :: b21 :: b22 :: b23 :: b24 :: b25 :: b26 :: b27 :: b28 :: b29 :: b30 :: b31 :: b32 :: b33 :: b34 :: b35 :: b36 :: b37 :: b38 :: b39 :: b40 :: b41 :: b42 :: b43 :: b44 :: b45 :: b46 :: b47 :: b48 :: b49 :: a :: l := List.mem_cons_of_mem _ at49
theorem at51 : a ∈ b0 :: b1 :: b2 :: b3 :: b4 :: b5 :: b6 :: b7 :: b8 :: b9 :: b10 :: b11 :: b12 :: b13 :: b14 :: b15 :: b16 :: b17 :: b18 :: b19 :: b20 :: b21 :: b22 :: b23 :: b24 :: b25 :: b26 :: b27 :: b28 :: b29 :: b30 :: b31 :: b32 :: b33 :: b34 :: b35 :: b36 :: b37 :: b38 :: b39 :: b40 :: b41 :: b42 :: b43 :: b44 :: b45 :: b46 :: b47 :: b48 :: b49 :: b50 :: a :: l := List.mem_cons_of_mem _ at50
theorem at52 : a ∈ b0 :: b1 :: b2 :: b3 :: b4 :: b5 :: b6 :: b7 :: b8 :: b9 :: b10 :: b11 :: b12 :: b13 :: b14 :: b15 :: b16 :: b17 :: b18 :: b19 :: b20 :: b21 :: b22 :: b23 :: b24 :: b25 :: b26 :: b27 :: b28 :: b29 :: b30 :: b31 :: b32 :: b33 :: b34 :: b35 :: b36 :: b37 :: b38 :: b39 :: b40 :: b41 :: b42 :: b43 :: b44 :: b45 :: b46 :: b47 :: b48 :: b49 :: b50 :: b51 :: a :: l := List.mem_cons_of_mem _ at51
theorem at53 : a ∈ b0 :: b1 :: b2 :: b3 :: b4 :: b5 :: b6 :: b7 :: b8 :: b9 :: b10 :: b11 :: b12 :: b13 :: b14 :: b15 :: b16 :: b17 :: b18 :: b19 :: b20 :: b21 :: b22 :: b23 :: b24 :: b25 :: b26 :: b27 :: b28 :: b29 :: b30 :: b31 :: b32 :: b33 :: b34 :: b35 :: b36 :: b37 :: b38 :: b39 :: b40 :: b41 :: b42 :: b43 :: b44 :: b45 :: b46 :: b47 :: b48 :: b49 :: b50 :: b51 :: b52 :: a :: l := List.mem_cons_of_mem _ at52
theorem at54 : a ∈ b0 :: b1 :: b2 :: b3 :: b4 :: b5 :: b6 :: b7 :: b8 :: b9 :: b10 :: b11 :: b12 :: b13 :: b14 :: b15 :: b16 :: b17 :: b18 :: b19 :: b20 :: b21 :: b22 :: b23 :: b24 :: b25 :: b26 :: b27 :: b28 :: b29 :: b30 :: b31 :: b32 :: b33 :: b34 :: b35 :: b36 :: b37 :: b38 :: b39 :: b40 :: b41 :: b42 :: b43 :: b44 :: b45 :: b46 :: b47 :: b48 :: b49 :: b50 :: b51 :: b52 :: b53 :: a :: l := List.mem_cons_of_mem _ at53
theorem at55 : a ∈ b0 :: b1 :: b2 :: b3 :: b4 :: b5 :: b6 :: b7 :: b8 :: b9 :: b10 :: b11 :: b12 :: b13 :: b14 :: b15 :: b16 :: b17 :: b18 :: b19 :: b20 :: b21 :: b22 :: b23 :: b24 :: b25 :: b26 :: b27 :: b28 :: b29 :: b30 :: b31 :: b32 :: b33 :: b34 :: b35 :: b36 :: b37 :: b38 :: b39 :: b40 :: b41 :: b42 :: b43 :: b44 :: b45 :: b46 :: b47 :: b48 :: b49 :: b50 :: b51 :: b52 :: b53 :: b54 :: a :: l := List.mem_cons_of_mem _ at54
theorem at56 : a ∈ b0 :: b1 :: b2 :: b3 :: b4 :: b5 :: b6 :: b7 :: b8 :: b9 :: b10 :: b11 :: b12 :: b13 :: b14 :: b15 :: b16 :: b17 :: b18 :: b19 :: b20 :: b21 :: b22 :: b23 :: b24 :: b25 :: b26 :: b27 :: b28 :: b29 :: b30 :: b31 :: b32 :: b33 :: b34 :: b35 :: b36 :: b37 :: b38 :: b39 :: b40 :: b41 :: b42 :: b43 :: b44 :: b45 :: b46 :: b47 :: b48 :: b49 :: b50 :: b51 :: b52 :: b53 :: b54 :: b55 :: a :: l := List.mem_cons_of_mem _ at55
theorem at57 : a ∈ b0 :: b1 :: b2 :: b3 :: b4 :: b5 :: b6 :: b7 :: b8 :: b9 :: b10 :: b11 :: b12 :: b13 :: b14 :: b15 :: b16 :: b17 :: b18 :: b19 :: b20 :: b21 :: b22 :: b23 :: b24 :: b25 :: b26 :: b27 :: b28 :: b29 :: b30 :: b31 :: b32 :: b33 :: b34 :: b35 :: b36 :: b37 :: b38 :: b39 :: b40 :: b41 :: b42 :: b43 :: b44 :: b45 :: b46 :: b47 :: b48 :: b49 :: b50 :: b51 :: b52 :: b53 :: b54 :: b55 :: b56 :: a :: l := List.mem_cons_of_mem _ at56
theorem at58 : a ∈ b0 :: b1 :: b2 :: b3 :: b4 :: b5 :: b6 :: b7 :: b8 :: b9 :: b10 :: b11 :: b12 :: b13 :: b14 :: b15 :: b16 :: b17 :: b18 :: b19 :: b20 :: b21 :: b22 :: b23 :: b24 :: b25 :: b26 :: b27 :: b28 :: b29 :: b30 :: b31 :: b32 :: b33 :: b34 :: b35 :: b36 :: b37 :: b38 :: b39 :: b40 :: b41 :: b42 :: b43 :: b44 :: b45 :: b46 :: b47 :: b48 :: b49 :: b50 :: b51 :: b52 :: b53 :: b54 :: b55 :: b56 :: b57 :: a :: l := List.mem_cons_of_mem _ at57
theorem at59 : a ∈ b0 :: b1 :: b2 :: b3 :: b4 :: b5 :: b6 :: b7 :: b8 :: b9 :: b10 :: b11 :: b12 :: b13 :: b14 :: b15 :: b16 :: b17 :: b18 :: b19 :: b20 :: b21 :: b22 :: b23 :: b24 :: b25 :: b26 :: b27 :: b28 :: b29 :: b30 :: b31 :: b32 :: b33 :: b34 :: b35 :: b36 :: b37 :: b38 :: b39 :: b40 :: b41 :: b42 :: b43 :: b44 :: b45 :: b46 :: b47 :: b48 :: b49 :: b50 :: b51 :: b52 :: b53 :: b54 :: b55 :: b56 :: b57 :: b58 :: a :: l := List.mem_cons_of_mem _ at58
theorem at60 : a ∈ b0 :: b1 :: b2 :: b3 :: b4 :: b5 :: b6 :: b7 :: b8 :: b9 :: b10 :: b11 :: b12 :: b13 :: b14 :: b15 :: b16 :: b17 :: b18 :: b19 :: b20 :: b21 :: b22 :: b23 :: b24 :: b25 :: b26 :: b27 :: b28 :: b29 :: b30 :: b31 :: b32 :: b33 :: b34 :: b35 :: b36 :: b37 :: b38 :: b39 :: b40 :: b41 :: b42 :: b43 :: b44 :: b45 :: b46 :: b47 :: b48 :: b49 :: b50 :: b51 :: b52 :: b53 :: b54 :: b55 :: b56 :: b57 :: b58 :: b59 :: a :: l := List.mem_cons_of_mem _ at59
theorem at61 : a ∈ b0 :: b1 :: b2 :: b3 :: b4 :: b5 :: b6 :: b7 :: b8 :: b9 :: b10 :: b11 :: b12 :: b13 :: b14 :: b15 :: b16 :: b17 :: b18 :: b19 :: b20 :: b21 :: b22 :: b23 :: b24 :: b25 :: b26 :: b27 :: b28 :: b29 :: b30 :: b31 :: b32 :: b33 :: b34 :: b35 :: b36 :: b37 :: b38 :: b39 :: b40 :: b41 :: b42 :: b43 :: b44 :: b45 :: b46 :: b47 :: b48 :: b49 :: b50 :: b51 :: b52 :: b53 :: b54 :: b55 :: b56 :: b57 :: b58 :: b59 :: b60 :: a :: l := List.mem_cons_of_mem _ at60
theorem at62 : a ∈ b0 :: b1 :: b2 :: b3 :: b4 :: b5 :: b6 :: b7 :: b8 :: b9 :: b10 :: b11 :: b12 :: b13 :: b14 :: b15 :: b16 :: b17 :: b18 :: b19 :: b20 :: b21 :: b22 :: b23 :: b24 :: b25 :: b26 :: b27 :: b28 :: b29 :: b30 :: b31 :: b32 :: b33 :: b34 :: b35 :: b36 :: b37 :: b38 :: b39 :: b40 :: b41 :: b42 :: b43 :: b44 :: b45 :: b46 :: b47 :: b48 :: b49 :: b50 :: b51 :: b52 :: b53 :: b54 :: b55 :: b56 :: b57 :: b58 :: b59 :: b60 :: b61 :: a :: l := List.mem_cons_of_mem _ at61
theorem at63 : a ∈ b0 :: b1 :: b2 :: b3 :: b4 :: b5 :: b6 :: b7 :: b8 :: b9 :: b10 :: b11 :: b12 :: b13 :: b14 :: b15 :: b16 :: b17 :: b18 :: b19 :: b20 :: b21 :: b22 :: b23 :: b24 :: b25 :: b26 :: b27 :: b28 :: b29 :: b30 :: b31 :: b32 :: b33 :: b34 :: b35 :: b36 :: b37 :: b38 :: b39 :: b40 :: b41 :: b42 :: b43 :: b44 :: b45 :: b46 :: b47 :: b48 :: b49 :: b50 :: b51 :: b52 :: b53 :: b54 :: b55 :: b56 :: b57 :: b58 :: b59 :: b60 :: b61 :: b62 :: a :: l := List.mem_cons_of_mem _ at62
theorem at64 : a ∈ b0 :: b1 :: b2 :: b3 :: b4 :: b5 :: b6 :: b7 :: b8 :: b9 :: b10 :: b11 :: b12 :: b13 :: b14 :: b15 :: b16 :: b17 :: b18 :: b19 :: b20 :: b21 :: b22 :: b23 :: b24 :: b25 :: b26 :: b27 :: b28 :: b29 :: b30 :: b31 :: b32 :: b33 :: b34 :: b35 :: b36 :: b37 :: b38 :: b39 :: b40 :: b41 :: b42 :: b43 :: b44 :: b45 :: b46 :: b47 :: b48 :: b49 :: b50 :: b51 :: b52 :: b53 :: b54 :: b55 :: b56 :: b57 :: b58 :: b59 :: b60 :: b61 :: b62 :: b63 :: a :: l := List.mem_cons_of_mem _ at63
theorem at65 : a ∈ b0 :: b1 :: b2 :: b3 :: b4 :: b5 :: b6 :: b7 :: b8 :: b9 :: b10 :: b11 :: b12 :: b13 :: b14 :: b15 :: b16 :: b17 :: b18 :: b19 :: b20 :: b21 :: b22 :: b23 :: b24 :: b25 :: b26 :: b27 :: b28 :: b29 :: b30 :: b31 :: b32 :: b33 :: b34 :: b35 :: b36 :: b37 :: b38 :: b39 :: b40 :: b41 :: b42 :: b43 :: b44 :: b45 :: b46 :: b47 :: b48 :: b49 :: b50 :: b51 :: b52 :: b53 :: b54 :: b55 :: b56 :: b57 :: b58 :: b59 :: b60 :: b61 :: b62 :: b63 :: b64 :: a :: l := List.mem_cons_of_mem _ at64
theorem at66 : a ∈ b0 :: b1 :: b2 :: b3 :: b4 :: b5 :: b6 :: b7 :: b8 :: b9 :: b10 :: b11 :: b12 :: b13 :: b14 :: b15 :: b16 :: b17 :: b18 :: b19 :: b20 :: b21 :: b22 :: b23 :: b24 :: b25 :: b26 :: b27 :: b28 :: b29 :: b30 :: b31 :: b32 :: b33 :: b34 :: b35 :: b36 :: b37 :: b38 :: b39 :: b40 :: b41 :: b42 :: b43 :: b44 :: b45 :: b46 :: b47 :: b48 :: b49 :: b50 :: b51 :: b52 :: b53 :: b54 :: b55 :: b56 :: b57 :: b58 :: b59 :: b60 :: b61 :: b62 :: b63 :: b64 :: b65 :: a :: l := List.mem_cons_of_mem _ at65
theorem at67 : a ∈ b0 :: b1 :: b2 :: b3 :: b4 :: b5 :: b6 :: b7 :: b8 :: b9 :: b10 :: b11 :: b12 :: b13 :: b14 :: b15 :: b16 :: b17 :: b18 :: b19 :: b20 :: b21 :: b22 :: b23 :: b24 :: b25 :: b26 :: b27 :: b28 :: b29 :: b30 :: b31 :: b32 :: b33 :: b34 :: b35 :: b36 :: b37 :: b38 :: b39 :: b40 :: b41 :: b42 :: b43 :: b44 :: b45 :: b46 :: b47 :: b48 :: b49 :: b50 :: b51 :: b52 :: b53 :: b54 :: b55 :: b56 :: b57 :: b58 :: b59 :: b60 :: b61 :: b62 :: b63 :: b64 :: b65 :: b66 :: a :: l := List.mem_cons_of_mem _ at66
theorem at68 : a ∈ b0 :: b1 :: b2 :: b3 :: b4 :: b5 :: b6 :: b7 :: b8 :: b9 :: b10 :: b11 :: b12 :: b13 :: b14 :: b15 :: b16 :: b17 :: b18 :: b19 :: b20 :: b21 :: b22 :: b23 :: b24 :: b25 :: b26 :: b27 :: b28 :: b29 :: b30 :: b31 :: b32 :: b33 :: b34 :: b35 :: b36 :: b37 :: b38 :: b39 :: b40 :: b41 :: b42 :: b43 :: b44 :: b45 :: b46 :: b47 :: b48 :: b49 :: b50 :: b51 :: b52 :: b53 :: b54 :: b55 :: b56 :: b57 :: b58 :: b59 :: b60 :: b61 :: b62 :: b63 :: b64 :: b65 :: b66 :: b67 :: a :: l := List.mem_cons_of_mem _ at67
theorem at69 : a ∈ b0 :: b1 :: b2 :: b3 :: b4 :: b5 :: b6 :: b7 :: b8 :: b9 :: b10 :: b11 :: b12 :: b13 :: b14 :: b15 :: b16 :: b17 :: b18 :: b19 :: b20 :: b21 :: b22 :: b23 :: b24 :: b25 :: b26 :: b27 :: b28 :: b29 :: b30 :: b31 :: b32 :: b33 :: b34 :: b35 :: b36 :: b37 :: b38 :: b39 :: b40 :: b41 :: b42 :: b43 :: b44 :: b45 :: b46 :: b47 :: b48 :: b49 :: b50 :: b51 :: b52 :: b53 :: b54 :: b55 :: b56 :: b57 :: b58 :: b59 :: b60 :: b61 :: b62 :: b63 :: b64 :: b65 :: b66 :: b67 :: b68 :: a :: l := List.mem_cons_of_mem _ at68
theorem at70 : a ∈ b0 :: b1 :: b2 :: b3 :: b4 :: b5 :: b6 :: b7 :: b8 :: b9 :: b10 :: b11 :: b12 :: b13 :: b14 :: b15 :: b16 :: b17 :: b18 :: b19 :: b20 :: b21 :: b22 :: b23 :: b24 :: b25 :: b26 :: b27 :: b28 :: b29 :: b30 :: b31 :: b32 :: b33 :: b34 :: b35 :: b36 :: b37 :: b38 :: b39 :: b40 :: b41 :: b42 :: b43 :: b44 :: b45 :: b46 :: b47 :: b48 :: b49 :: b50 :: b51 :: b52 :: b53 :: b54 :: b55 :: b56 :: b57 :: b58 :: b59 :: b60 :: b61 :: b62 :: b63 :: b64 :: b65 :: b66 :: b67 :: b68 :: b69 :: a :: l := List.mem_cons_of_mem _ at69
end
/-- Variables of the call's own, with what they hold, and numbers: what a call keeps. -/
structure Ks (w W : World) (bs : List (Nat × List Value × TypeId)) (ns : List (Option Addr × Nat × Nat)) : Prop where
  bel : Below w.heap.size w W
  b : ∀ p ∈ bs, W.heap[p.1]? = some (.cells p.2.1.toArray p.2.2 (0, 0))
  n : ∀ p ∈ ns, IsN W W.heap.size p.1 p.2.1 p.2.2
section
variable {w W W' : World} {bs : List (Nat × List Value × TypeId)} {ns : List (Option Addr × Nat × Nat)} {b : Nat} {u v : Value} {l : List Value} {T : TypeId}
theorem Ks.start (w : World) : Ks w w [] [] := ⟨Below.refl _ _, (fun _ h => nomatch h), (fun _ h => nomatch h)⟩
theorem Ks.call (h : Ks w W bs ns) (hb : Below W.heap.size W W') : Ks w W' bs ns :=
  ⟨h.bel.trans (hb.mono h.bel.size), fun p hp => (hb.block p.1 (lt_of_block (h.b p hp))).trans (h.b p hp), fun p hp => ((h.n p hp).below hb).more hb.size⟩
theorem Ks.num (h : Ks w W bs ns) {A : Option Addr} {n x : Nat} (hn : IsN W W.heap.size A n x) : Ks w W bs ((A, n, x) :: ns) :=
  ⟨h.bel, h.b, fun p hp => by
    rcases List.mem_cons.1 hp with rfl | hp
    · exact hn
    · exact h.n p hp⟩
theorem Ks.box (h : Ks w W bs ns) (l : List Value) (T : TypeId) : Ks w (W.alloc (.cells l.toArray T)) ((W.heap.size, l, T) :: bs) ns :=
  have h2 := h.call ((Below.refl W.heap.size W).alloc (Nat.le_refl _) (.cells l.toArray T))
  ⟨h2.bel, fun p hp => by
    rcases List.mem_cons.1 hp with rfl | hp
    · exact heap_alloc_new W _
    · exact h2.b p hp, h2.n⟩
theorem Ks.cell0 (h : Ks w W bs ns) (hp : (b, v :: l, T) ∈ bs) : W.cell? ⟨b, 0, none⟩ = some v := by
  rw [cell_of_row W b 0 _ T (0, 0) (h.b _ hp)]; rfl
theorem Ks.cell1 (h : Ks w W bs ns) (hp : (b, u :: v :: l, T) ∈ bs) : W.cell? ⟨b, 1, none⟩ = some v := by
  rw [cell_of_row W b 1 _ T (0, 0) (h.b _ hp)]; rfl
theorem Ks.free (h : Ks w W bs ns) (hp : (b, l, T) ∈ bs) (i : Nat) : W.frozen? ⟨b, i, none⟩ = false := by
  have := h.b _ hp
  simp [World.frozen?, this]
theorem Ks.get (h : Ks w W bs ns) {A : Option Addr} {n x : Nat} (hp : (A, n, x) ∈ ns) : IsN W W.heap.size A n x := h.n _ hp
theorem Ks.lt (h : Ks w W bs ns) (hp : (b, l, T) ∈ bs) : b < W.heap.size := lt_of_block (h.b _ hp)
theorem Ks.less {bs' : List (Nat × List Value × TypeId)} {ns' : List (Option Addr × Nat × Nat)} (h : Ks w W bs ns) (h1 : ∀ p ∈ bs', p ∈ bs) (h2 : ∀ p ∈ ns', p ∈ ns) : Ks w W bs' ns' :=
  ⟨h.bel, fun p hp => h.b p (h1 p hp), fun p hp => h.n p (h2 p hp)⟩
end
theorem IsN.setAt {w : World} {B n x : Nat} {A : Option Addr} (h : IsN w B A n x) {p : Addr} {v : Value} (hc : w.cell? p = some v) (hv : ∀ i, v ≠ .int .u32 i) (u : Value) : IsN (w.setCell p u) B A n x :=
  ⟨fun hn => by
    obtain ⟨ad, e, hb, hd⟩ := h.d hn
    refine ⟨ad, e, hb, fun j hj => ?_⟩
    rw [World.cell?_setCell_other w p _ u (fun e => hv _ (Option.some.inj (hc.symm.trans ((congrArg w.cell? e).trans (hd j hj)))))]
    exact hd j hj, h.l⟩
/-- What a call that answers a fraction and an error leaves; t: the numerator, the denominator, the error. -/
def FRes (t : Nat × Nat × Int) (w : World) (e : Ending) (w' : World) : Prop :=
  ∃ A n c A' n' c', e = .returned (.tuple #[.agg #[.slice A n c, .slice A' n' c'], .int .i64 t.2.2]) ∧ Below w.heap.size w w' ∧ IsN w' w'.heap.size A n t.1 ∧ IsN w' w'.heap.size A' n' t.2.1 ∧ n ≤ 64 ∧ n' ≤ 64 ∧ n ≤ c ∧ n' ≤ c'
/-- Two numbers, or one. -/
def DRes (q r : Nat) (w : World) (e : Ending) (w' : World) : Prop :=
  ∃ A n c A' n' c', e = .returned (.tuple #[.agg #[.slice A n c], .agg #[.slice A' n' c']]) ∧ Below w.heap.size w w' ∧ IsN w' w'.heap.size A n q ∧ IsN w' w'.heap.size A' n' r ∧ n ≤ 64 ∧ n' ≤ 64 ∧ n ≤ c ∧ n' ≤ c'
def QRes (q : Nat) (w : World) (e : Ending) (w' : World) : Prop :=
  ∃ A n c, e = .returned (.agg #[.slice A n c]) ∧ Below w.heap.size w w' ∧ IsN w' w'.heap.size A n q ∧ n ≤ 64 ∧ n ≤ c
/-- Has a number no limbs? -/
def Nt.isz (n : Nat) : Bool := ((n : Int) == 0)
theorem Nt.isz_zero : Nt.isz 0 = true := rfl
theorem Nt.isz_iff {n : Nat} : Nt.isz n = true ↔ n = 0 := by
  unfold Nt.isz
  constructor
  · intro h; have := eq_of_beq h; omega
  · rintro rfl; rfl
theorem Nt.isz_pos {n : Nat} (h : 0 < n) : Nt.isz n = false := by
  rw [Bool.eq_false_iff]; intro e; rw [Nt.isz_iff] at e; omega
theorem IsN.len_zero {w : World} {B n : Nat} {A : Option Addr} (h : IsN w B A n 0) : n = 0 := by rw [← h.l, Nt.ln_zero]
theorem IsN.len_pos {w : World} {B n x : Nat} {A : Option Addr} (h : IsN w B A n x) (hx : 0 < x) : 0 < n := by rw [← h.l]; exact Nt.ln_pos (by omega) (by omega)
theorem IsN.isz {w : World} {B n x : Nat} {A : Option Addr} (h : IsN w B A n x) : Nt.isz n = decide (x = 0) := by
  rcases Nat.eq_zero_or_pos x with rfl | hx
  · rw [h.len_zero]; rfl
  · rw [Nt.isz_pos (h.len_pos hx)]; simp; omega
theorem Fr4.set3 {N : Nat} {w W : World} {v1 v2 v3 v4 : Value} (h : Fr4 N w W v1 v2 v3 v4) (u : Value) : Fr4 N w (W.setCell ⟨N + 1 + 1, 0, none⟩ u) v1 v2 u v4 :=
  ⟨h.n1.far (by show N ≠ N + 1 + 1; omega) _, h.n2.far (by show N + 1 ≠ N + 1 + 1; omega) _, h.n3.set u, h.n4.far (by show N + 1 + 1 + 1 ≠ N + 1 + 1; omega) _, h.bel.setCell (by simp; omega) _⟩
theorem Fr4.set4 {N : Nat} {w W : World} {v1 v2 v3 v4 : Value} (h : Fr4 N w W v1 v2 v3 v4) (u : Value) : Fr4 N w (W.setCell ⟨N + 1 + 1 + 1, 0, none⟩ u) v1 v2 v3 u :=
  ⟨h.n1.far (by show N ≠ N + 1 + 1 + 1; omega) _, h.n2.far (by show N + 1 ≠ N + 1 + 1 + 1; omega) _, h.n3.far (by show N + 1 + 1 ≠ N + 1 + 1 + 1; omega) _, h.n4.set u, h.bel.setCell (by simp; omega) _⟩
theorem Fr4.drew {N : Nat} {w W : World} {v1 v2 v3 v4 : Value} (h : Fr4 N w W v1 v2 v3 v4) : Fr4 N w W.drew v1 v2 v3 v4 := ⟨h.n1, h.n2, h.n3, h.n4, h.bel.trans (below_dr _ _ 1)⟩
end Go.Proofs.Ytfjnpmkklanopaa
namespace Go.Proofs.Ytfjnpmkklanopaa
set_option maxRecDepth 20000
open Go.RowKit
set_option linter.unusedVariables false
set_option linter.unusedSimpArgs false
theorem ORes.stored {w W : World} {bs : List (Nat × List Value × TypeId)} {ns : List (Option Addr × Nat × Nat)} {R n c x : Nat} {T : TypeId} {A : Option Addr} (K : Ks w W bs ns) (hR : (R, [.slice none 0 0], T) ∈ bs) (hw : w.heap.size ≤ R)
    (hn : IsN W W.heap.size A n x) (h1 : n ≤ 64) (h2 : n ≤ c) : ORes x w (.returned (.agg #[.slice A n c])) (W.setCell ⟨R, 0, none⟩ (.slice A n c)) :=
  ⟨A, n, c, rfl, K.bel.setCell hw _, (hn.setAt (K.cell0 hR) (by intro i h; cases h) _).more (by rw [size_setCell]; exact Nat.le_refl _), h1, h2⟩
theorem cell_off (W : World) (b i j : Nat) (v : Value) (h : i ≠ j) : (W.setCell ⟨b, i, none⟩ v).cell? ⟨b, j, none⟩ = W.cell? ⟨b, j, none⟩ := World.cell?_setCell_other W _ _ v (fun e => h (by injection e))
theorem FRes.stored {w W : World} {bs : List (Nat × List Value × TypeId)} {ns : List (Option Addr × Nat × Nat)} {R n c p n' c' q : Nat} {er : Int} {T : TypeId} {A A' : Option Addr} (K : Ks w W bs ns) (hR : (R, [.slice none 0 0, .slice none 0 0], T) ∈ bs) (hw : w.heap.size ≤ R)
    (hn : IsN W W.heap.size A n p) (h1 : n ≤ 64) (h2 : n ≤ c) (hn' : IsN W W.heap.size A' n' q) (h1' : n' ≤ 64) (h2' : n' ≤ c') :
    FRes (p, q, er) w (.returned (.tuple #[.agg #[.slice A n c, .slice A' n' c'], .int .i64 er])) ((W.setCell ⟨R, 0, none⟩ (.slice A n c)).setCell ⟨R, 1, none⟩ (.slice A' n' c')) :=
  ⟨A, n, c, A', n', c', rfl, (K.bel.setCell hw _).setCell hw _,
    ((hn.setAt (K.cell0 hR) (by intro i h; cases h) _).setAt ((cell_off _ _ _ _ _ (by omega)).trans (K.cell1 hR)) (by intro i h; cases h) _).more (by rw [size_setCell, size_setCell]; exact Nat.le_refl _),
    ((hn'.setAt (K.cell0 hR) (by intro i h; cases h) _).setAt ((cell_off _ _ _ _ _ (by omega)).trans (K.cell1 hR)) (by intro i h; cases h) _).more (by rw [size_setCell, size_setCell]; exact Nat.le_refl _), h1, h1', h2, h2'⟩
theorem size_alloc (w : World) (o : Obj) : (w.alloc o).heap.size = w.heap.size + 1 := by simp
/-- What a cell holds, by a name. -/
def cellOf (W : World) (b i : Nat) : Value := (W.cell? ⟨b, i, none⟩).getD (.int .i64 0)
theorem cellOf_eq {W : World} {b i : Nat} {v : Value} (h : W.cell? ⟨b, i, none⟩ = some v) : W.cell? ⟨b, i, none⟩ = some (cellOf W b i) := by
  rw [cellOf, h]; rfl
/-- The two cells of a variable that may be written. -/
def Open2 (W : World) (R : Nat) : Prop := W.cell? ⟨R, 0, none⟩ = some (cellOf W R 0) ∧ W.cell? ⟨R, 1, none⟩ = some (cellOf W R 1) ∧ W.frozen? ⟨R, 0, none⟩ = false ∧ W.frozen? ⟨R, 1, none⟩ = false
theorem Ks.open2 {w W : World} {bs : List (Nat × List Value × TypeId)} {ns : List (Option Addr × Nat × Nat)} {R : Nat} {u v : Value} {l : List Value} {T : TypeId} (h : Ks w W bs ns) (hp : (R, u :: v :: l, T) ∈ bs) : Open2 W R :=
  ⟨cellOf_eq (h.cell0 hp), cellOf_eq (h.cell1 hp), h.free hp 0, h.free hp 1⟩
theorem cell_put {W : World} {a : Addr} {u v : Value} (h : W.cell? a = some u) : (W.setCell a v).cell? a = some v := World.cell?_setCell_same W a v h
theorem Open2.put {W : World} {R : Nat} (h : Open2 W R) (u v : Value) : Open2 ((W.setCell ⟨R, 0, none⟩ u).setCell ⟨R, 1, none⟩ v) R := by
  obtain ⟨h0, h1, f0, f1⟩ := h
  have e1 : ((W.setCell ⟨R, 0, none⟩ u).setCell ⟨R, 1, none⟩ v).cell? ⟨R, 1, none⟩ = some v := cell_put ((cell_off _ _ _ _ _ (by omega)).trans h1)
  have e0 : ((W.setCell ⟨R, 0, none⟩ u).setCell ⟨R, 1, none⟩ v).cell? ⟨R, 0, none⟩ = some u := (cell_off _ _ _ _ _ (by omega)).trans (cell_put h0)
  refine ⟨cellOf_eq e0, cellOf_eq e1, ?_, ?_⟩ <;> simpa
theorem kM {w W : World} {v1 v3 v4 : Value} {b1 b2 b3 b4 : Nat} {u v : Value} {l2 : List Value} {T1 T2 T3 T4 : TypeId} {ns : List (Option Addr × Nat × Nat)} (h : Hid (Ks w W [(b1, [v1], T1), (b2, u :: v :: l2, T2), (b3, [v3], T3), (b4, [v4], T4)] ns)) :
    W.cell? ⟨b1, 0, none⟩ = some v1 ∧ W.cell? ⟨b3, 0, none⟩ = some v3 ∧ W.cell? ⟨b4, 0, none⟩ = some v4 ∧ W.cell? ⟨b2, 0, none⟩ = some (cellOf W b2 0) ∧ W.cell? ⟨b2, 1, none⟩ = some (cellOf W b2 1) ∧ W.frozen? ⟨b2, 0, none⟩ = false ∧ W.frozen? ⟨b2, 1, none⟩ = false :=
  ⟨h.out.cell0 at0, h.out.cell0 at2, h.out.cell0 at3, h.out.open2 at1⟩
theorem kMS {W : World} {v1 v3 v4 : Value} {b1 b2 b3 b4 : Nat} {u v : Value} (n1 : Hid (b1 ≠ b2)) (n3 : Hid (b3 ≠ b2)) (n4 : Hid (b4 ≠ b2))
    (h : W.cell? ⟨b1, 0, none⟩ = some v1 ∧ W.cell? ⟨b3, 0, none⟩ = some v3 ∧ W.cell? ⟨b4, 0, none⟩ = some v4 ∧ W.cell? ⟨b2, 0, none⟩ = some (cellOf W b2 0) ∧ W.cell? ⟨b2, 1, none⟩ = some (cellOf W b2 1) ∧ W.frozen? ⟨b2, 0, none⟩ = false ∧ W.frozen? ⟨b2, 1, none⟩ = false)
    {W' : World} (hW : W' = (W.setCell ⟨b2, 0, none⟩ u).setCell ⟨b2, 1, none⟩ v) :
    W'.cell? ⟨b1, 0, none⟩ = some v1 ∧ W'.cell? ⟨b3, 0, none⟩ = some v3 ∧ W'.cell? ⟨b4, 0, none⟩ = some v4 ∧ W'.cell? ⟨b2, 0, none⟩ = some (cellOf W' b2 0) ∧ W'.cell? ⟨b2, 1, none⟩ = some (cellOf W' b2 1) ∧ W'.frozen? ⟨b2, 0, none⟩ = false ∧ W'.frozen? ⟨b2, 1, none⟩ = false := by
  subst hW
  obtain ⟨h1, h3, h4, h5⟩ := h
  exact ⟨((cell_far _ _ n1.out).trans (cell_far _ _ n1.out)).trans h1, ((cell_far _ _ n3.out).trans (cell_far _ _ n3.out)).trans h3, ((cell_far _ _ n4.out).trans (cell_far _ _ n4.out)).trans h4, Open2.put h5 u v⟩
end Go.Proofs.Ytfjnpmkklanopaa
namespace Go.Proofs.Ytfjnpmkklanopaa
set_option maxRecDepth 20000
open Go.RowKit
set_option linter.unusedVariables false
set_option linter.unusedSimpArgs false
namespace Fr
def one (g : Nat) : Bool := decide (g = 1)
theorem one_iff {g : Nat} : one g = true ↔ g = 1 := by simp [one]
/-- Are two rows of limbs a fraction in lowest terms? -/
def vld (f : Nat → Nat) (n : Nat) (f' : Nat → Nat) (n' : Nat) : Bool := Nt.both f n f' n' && decide (0 < Nt.vl 4294967296 f' n') && one (Nat.gcd (Nt.vl 4294967296 f n) (Nt.vl 4294967296 f' n'))
/-- What Make answers of two rows of limbs: numerator, denominator, error. -/
def mkT (f : Nat → Nat) (n : Nat) (f' : Nat → Nat) (n' : Nat) : Nat × Nat × Int :=
  if Nt.both f n f' n' then (if Nt.vl 4294967296 f' n' = 0 then (0, 0, 10) else (rn (Nt.vl 4294967296 f n) (Nt.vl 4294967296 f' n'), rd (Nt.vl 4294967296 f n) (Nt.vl 4294967296 f' n'), 0)) else (0, 0, 2)
end Fr
section
variable {n c n' c' x y : Nat} {A A' : Option Addr} {f f' : Nat → Nat}
theorem IsN.zero_of {w : World} {B : Nat} (h : IsN w B A n x) (hx : x = 0) : n = 0 := by subst hx; exact h.len_zero
theorem kV {w W : World} {u v v1 : Value} {b b1 : Nat} {T T1 : TypeId} {ns : List (Option Addr × Nat × Nat)} (h : Hid (Ks w W [(b1, [v1], T1), (b, [u, v], T)] ns)) :
    W.cell? ⟨b, 0, none⟩ = some u ∧ W.cell? ⟨b, 1, none⟩ = some v ∧ W.cell? ⟨b1, 0, none⟩ = some v1 := ⟨h.out.cell0 at1, h.out.cell1 at1, h.out.cell0 at0⟩
end
end Go.Proofs.Ytfjnpmkklanopaa
namespace Go.Proofs.Ytfjnpmkklanopaa
set_option maxRecDepth 20000
open Go.RowKit
set_option linter.unusedVariables false
set_option linter.unusedSimpArgs false
theorem Nt.cmp_ci (x y : Nat) : Nt.cmpI (x : Nat) (y : Nat) = Fr.ci x y := by
  unfold Nt.cmpI Fr.ci
  simp only [Int.ofNat_lt]
/-- A number's slice: n limbs of room c. -/
structure NumAt (w : World) (A : Option Addr) (n c x : Nat) : Prop where
  d : IsN w w.heap.size A n x
  h : n ≤ 64
  l : n ≤ c
theorem NumAt.on {w W : World} {A : Option Addr} {n c x : Nat} (h : NumAt w A n c x) (hb : Below w.heap.size w W) : NumAt W A n c x := ⟨h.d.on hb, h.h, h.l⟩
theorem IsN.put4 {W : World} {B N n x : Nat} {A : Option Addr} (h : IsN W B A n x) {a0 a1 a2 a3 : Option Addr} {l0 l1 l2 l3 r0 r1 r2 r3 : Nat}
    (c0 : W.cell? ⟨N, 0, none⟩ = some (.slice a0 l0 r0)) (c1 : W.cell? ⟨N, 1, none⟩ = some (.slice a1 l1 r1)) (c2 : W.cell? ⟨N + 1, 0, none⟩ = some (.slice a2 l2 r2)) (c3 : W.cell? ⟨N + 1, 1, none⟩ = some (.slice a3 l3 r3)) (u0 u1 u2 u3 : Value) :
    IsN ((((W.setCell ⟨N, 0, none⟩ u0).setCell ⟨N, 1, none⟩ u1).setCell ⟨N + 1, 0, none⟩ u2).setCell ⟨N + 1, 1, none⟩ u3) B A n x := by
  have f : ∀ (W : World) (v : Value) (i k : Nat), (W.setCell ⟨N, i, none⟩ v).cell? ⟨N + 1, k, none⟩ = W.cell? ⟨N + 1, k, none⟩ := fun W v i k => cell_far W v (by show N + 1 ≠ N; omega)
  refine (((h.setAt c0 (by intro i h; cases h) u0).setAt (v := .slice a1 l1 r1) ?_ (by intro i h; cases h) u1).setAt (v := .slice a2 l2 r2) ?_ (by intro i h; cases h) u2).setAt (v := .slice a3 l3 r3) ?_ (by intro i h; cases h) u3
  · rw [cell_off _ _ _ _ _ (by omega)]; exact c1
  · rw [f, f]; exact c2
  · rw [cell_off _ _ _ _ _ (by omega), f, f]; exact c3
theorem heap_put2 {W : World} {b : Nat} {u v u' v' : Value} {T : TypeId} (h : W.heap[b]? = some (.cells #[u, v] T (0, 0))) : ((W.setCell ⟨b, 0, none⟩ u').setCell ⟨b, 1, none⟩ v').heap[b]? = some (.cells #[u', v'] T (0, 0)) := by
  simp [World.setCell, Array.getElem?_modify, h]
theorem heap_far2 (W : World) {b c : Nat} (u v : Value) (h : b ≠ c) : ((W.setCell ⟨c, 0, none⟩ u).setCell ⟨c, 1, none⟩ v).heap[b]? = W.heap[b]? :=
  (Below.heap_setCell _ ⟨c, 1, none⟩ v b h).trans (Below.heap_setCell W ⟨c, 0, none⟩ u b h)
section
variable {n k n' k' m j m' j' a b c d : Nat} {A A' C C' : Option Addr}
end
end Go.Proofs.Ytfjnpmkklanopaa
namespace Go.Proofs.Ytfjnpmkklanopaa
set_option maxRecDepth 20000
open Go.RowKit
set_option linter.unusedVariables false
set_option linter.unusedSimpArgs false
/-- A fraction that came in: two rows of limbs. -/
structure FArg (w : World) (A : Option Addr) (n c : Nat) (f : Nat → Nat) (A' : Option Addr) (n' c' : Nat) (f' : Nat → Nat) : Prop where
  n : Arg w A n c f
  d : Arg w A' n' c' f'
theorem FArg.on {w W : World} {A A' : Option Addr} {n c n' c' : Nat} {f f' : Nat → Nat} (h : FArg w A n c f A' n' c' f') (hb : Below w.heap.size w W) : FArg W A n c f A' n' c' f' := ⟨h.n.on hb, h.d.on hb⟩
/-- A fraction in lowest terms, a / b. -/
structure FIs (w : World) (A : Option Addr) (n c : Nat) (A' : Option Addr) (n' c' a b : Nat) : Prop where
  n : NumAt w A n c a
  d : NumAt w A' n' c' b
  b0 : 0 < b
  cp : Nat.gcd a b = 1
theorem FIs.on {w W : World} {A A' : Option Addr} {n c n' c' a b : Nat} (h : FIs w A n c A' n' c' a b) (hb : Below w.heap.size w W) : FIs W A n c A' n' c' a b := ⟨h.n.on hb, h.d.on hb, h.b0, h.cp⟩
theorem NumAt.arg {w : World} {A : Option Addr} {n c x : Nat} (h : NumAt w A n c x) : Arg w A n c (Nt.dg 4294967296 x) := h.d.arg h.h h.l
theorem NumAt.vd {w : World} {A : Option Addr} {n c x : Nat} (h : NumAt w A n c x) : Nt.vd (Nt.dg 4294967296 x) n = true := by rw [h.d.vd]; simpa using h.h
theorem FIs.arg {w : World} {A A' : Option Addr} {n c n' c' a b : Nat} (h : FIs w A n c A' n' c' a b) : FArg w A n c (Nt.dg 4294967296 a) A' n' c' (Nt.dg 4294967296 b) := ⟨h.n.arg, h.d.arg⟩
theorem FIs.vld {w : World} {A A' : Option Addr} {n c n' c' a b : Nat} (h : FIs w A n c A' n' c' a b) : Fr.vld (Nt.dg 4294967296 a) n (Nt.dg 4294967296 b) n' = true := by
  rw [Fr.vld, Nt.both, h.n.vd, h.d.vd, h.n.d.val, h.d.d.val, Fr.one, decide_eq_true h.cp, decide_eq_true h.b0]; rfl
theorem FArg.is {w : World} {A A' : Option Addr} {n c n' c' : Nat} {f f' : Nat → Nat} (h : FArg w A n c f A' n' c' f') (hv : Fr.vld f n f' n' = true) : FIs w A n c A' n' c' (Nt.vl 4294967296 f n) (Nt.vl 4294967296 f' n') := by
  rw [Fr.vld, Nt.both, Bool.and_eq_true, Bool.and_eq_true, Bool.and_eq_true, decide_eq_true_iff, Fr.one_iff] at hv
  obtain ⟨⟨⟨v1, v2⟩, v3⟩, v4⟩ := hv
  exact ⟨⟨h.n.isN v1, (Nt.vd_iff.1 v1).1, h.n.cap⟩, ⟨h.d.isN v2, (Nt.vd_iff.1 v2).1, h.d.cap⟩, v3, v4⟩
theorem FRes.is {w w' : World} {A A' : Option Addr} {n c n' c' a b : Nat} (hn : IsN w' w'.heap.size A n a) (hd : IsN w' w'.heap.size A' n' b) (h : n ≤ 64) (h' : n' ≤ 64) (l : n ≤ c) (l' : n' ≤ c') (b0 : 0 < b) (cp : Nat.gcd a b = 1) : FIs w' A n c A' n' c' a b := ⟨⟨hn, h, l⟩, ⟨hd, h', l'⟩, b0, cp⟩
section
variable {n c n' c' m j m' j' a b p q : Nat} {A A' C C' : Option Addr} {f f' g g' : Nat → Nat}
namespace Fr
/-- How two fractions compare; 0 where one is none. -/
def cmpX (f : Nat → Nat) (n : Nat) (f' : Nat → Nat) (n' : Nat) (g : Nat → Nat) (m : Nat) (g' : Nat → Nat) (m' : Nat) : Int :=
  if vld f n f' n' && vld g m g' m' then ci (Nt.vl 4294967296 f n * Nt.vl 4294967296 g' m') (Nt.vl 4294967296 g m * Nt.vl 4294967296 f' n') else 0
end Fr
namespace Fr
/-- n / d in lowest terms, with OK; or d is 0. -/
def mkP (a b : Nat) : Nat × Nat × Int := if b = 0 then (0, 0, 10) else (rn a b, rd a b, 0)
end Fr
end
end Go.Proofs.Ytfjnpmkklanopaa
