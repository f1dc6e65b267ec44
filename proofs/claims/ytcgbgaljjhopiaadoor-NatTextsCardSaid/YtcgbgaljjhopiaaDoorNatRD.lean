/- The reference of layer 3: divide, bit by bit. -/
import Derived.Test.YtcgbgaljjhopiaaDoorNatRC
namespace Go.Proofs.YtcgbgaljjhopiaaDoor
set_option maxRecDepth 20000
open Go.RowKit
set_option linter.unusedVariables false
set_option linter.unusedSimpArgs false
namespace Nt
theorem bit_step (X s : Nat) (hs : s < 16) : X % 65536 / 2 ^ s % 2 = X / 2 ^ s % 2 := by
  obtain ⟨p, hp⟩ : ∃ p, s + p = 15 := ⟨15 - s, by omega⟩
  have e : 65536 = 2 ^ s * (2 * 2 ^ p) := by
    have : (65536 : Nat) = 2 ^ (s + p) * 2 := by rw [hp]
    rw [this, Nat.pow_add, Nat.mul_assoc, Nat.mul_comm 2]
  have h := Nat.div_add_mod X 65536
  have e2 : X / 2 ^ s = 2 * 2 ^ p * (X / 65536) + X % 65536 / 2 ^ s := by
    have h2 : X = 2 ^ s * (2 * 2 ^ p * (X / 65536)) + X % 65536 := by
      rw [← Nat.mul_assoc, ← e]; exact h.symm
    conv => lhs; rw [h2]
    exact Nat.mul_add_div (Nat.two_pow_pos s) _ _
  rw [e2, Nat.mul_assoc, Nat.mul_add_mod]
theorem M_step (x i s : Nat) (hs : s < 16) : x / (65536 ^ i * 2 ^ s) = 2 * (x / (65536 ^ i * 2 ^ (s + 1))) + dg 65536 x i / 2 ^ s % 2 := by
  have h1 : x / (65536 ^ i * 2 ^ s) = x / 65536 ^ i / 2 ^ s := (Nat.div_div_eq_div_mul _ _ _).symm
  have h2 : x / (65536 ^ i * 2 ^ (s + 1)) = x / 65536 ^ i / 2 ^ s / 2 := by
    rw [Nat.pow_succ, ← Nat.mul_assoc, ← Nat.div_div_eq_div_mul, ← Nat.div_div_eq_div_mul]
  rw [h1, h2]
  have h3 : dg 65536 x i / 2 ^ s % 2 = x / 65536 ^ i / 2 ^ s % 2 := bit_step _ s hs
  rw [h3]; omega
theorem div_bit {M' M t y R : Nat} (hy : 0 < y) (hM : M' = 2 * M + t) (ht : t < 2) (hR : R = 2 * (M % y) + t) :
    (R < y → M' % y = R ∧ M' / y = 2 * (M / y)) ∧ (¬ R < y → M' % y = R - y ∧ M' / y = 2 * (M / y) + 1) := by
  have h := Nat.div_add_mod M y
  have hlt := Nat.mod_lt M hy
  have e : M' = y * (2 * (M / y)) + R := by rw [hM, hR]; grind
  refine ⟨fun h1 => ?_, fun h1 => ?_⟩
  · rw [e, Nat.mul_add_mod, Nat.mul_add_div hy, Nat.mod_eq_of_lt h1, Nat.div_eq_of_lt h1]
    exact ⟨rfl, rfl⟩
  · have e2 : M' = y * (2 * (M / y) + 1) + (R - y) := by rw [e, Nat.mul_add]; omega
    have h2 : R - y < y := by omega
    rw [e2, Nat.mul_add_mod, Nat.mul_add_div hy, Nat.mod_eq_of_lt h2, Nat.div_eq_of_lt h2]
    exact ⟨rfl, rfl⟩
theorem vl_bump {B : Nat} (G : Nat → Nat) {i n : Nat} (a : Nat) (h : i < n) : vl B (upd G i (G i + a)) n = vl B G n + a * B ^ i := by
  obtain ⟨r, rfl⟩ : ∃ r, n = i + 1 + r := ⟨n - i - 1, by omega⟩
  rw [vl_split (i + 1) r, vl_split (f := G) (i + 1) r, vl_succ, vl_succ, vl_upd, upd_same,
    vl_congr (f := fun j => upd G i (G i + a) (i + 1 + j)) (g := fun j => G (i + 1 + j)) (fun j _ => upd_ne _ _ (by omega)), Nat.add_mul]
  omega
end Nt

theorem Digs.setFar {w : World} {B n : Nat} {K : IntKind} {A : Option Addr} {f : Nat → Nat} (h : Digs w B K A n f) {p : Addr} (hp : 0 < n → ∀ ad, A = some ad → ad.block ≠ p.block) (u : Value) : Digs (w.setCell p u) B K A n f := fun hn => by
  obtain ⟨ad, e, hb, hd⟩ := h hn
  refine ⟨ad, e, hb, fun j hj => ?_⟩
  rw [World.cell?_setCell_other w p _ u (fun e2 => hp hn ad e (by rw [e2, block_of_add]))]
  exact hd j hj
theorem IsH.setFar {w : World} {B n x : Nat} {A : Option Addr} (h : IsH w B A n x) {p : Addr} (hp : 0 < n → ∀ ad, A = some ad → ad.block ≠ p.block) (u : Value) : IsH (w.setCell p u) B A n x := ⟨h.d.setFar hp u, h.l⟩
/-- What stands in divide's variables: digit i in work, of which the bits from 2^s on are done. -/
structure DivK (g n i s x y : Nat) (w W : World) (G : Nat → Nat) (A : Option Addr) (nr : Nat) : Prop where
  row : Rw W g 3 .i64 n G
  lt : ∀ j, G j < 65536
  low : ∀ j, j < i → G j = 0
  here : G i + 2 ^ s ≤ 65536
  val : Nt.vl 65536 G n = x / (65536 ^ i * 2 ^ s) / y * 2 ^ s * 65536 ^ i
  r : IsH W W.heap.size A nr (x / (65536 ^ i * 2 ^ s) % y)
  far : 0 < nr → ∀ ad, A = some ad → g < ad.block
  bel : Below g w W
theorem DivK.sz {g n i s x y : Nat} {w W : World} {G : Nat → Nat} {A : Option Addr} {nr : Nat} (h : DivK g n i s x y w W G A nr) : g < W.heap.size := h.row.lt
/-- A row that reads 1. -/
theorem isH_one (w : World) : IsH (w.alloc (.cells #[.int .i64 1] 3)) (w.alloc (.cells #[.int .i64 1] 3)).heap.size (some ⟨w.heap.size, 0, none⟩) 1 1 := by
  have hl : Nt.ln 65536 1 = 1 := Nt.Len.eq (by omega) ⟨by omega, fun m hm => by
    obtain rfl : m = 0 := by omega
    simp⟩
  refine ⟨fun _ => ⟨_, rfl, by simp, fun j hj => ?_⟩, hl⟩
  obtain rfl : j = 0 := by omega
  have e : Nt.dg 65536 1 0 = 1 := by simp [Nt.dg]
  rw [add0, e]
  exact cell_of_one (heap_alloc_new w _)
theorem dv_sub (a b p : Nat) : a * (b * 2) * p + b * p = (2 * a + 1) * b * p := by grind
theorem dv_no (a b p : Nat) : a * (b * 2) * p = 2 * a * b * p := by grind
theorem ln_up {x y k : Nat} (hy : Nt.ln 65536 y ≤ k) (h : x < 65536 * y) : Nt.ln 65536 x ≤ k + 1 := by
  refine (Nt.ln_le_iff (by omega)).2 ?_
  have := (Nt.ln_le_iff (B := 65536) (by omega)).1 hy
  rw [Nat.pow_succ]; omega
/-- The quotient of a division by digits, and the remainder. -/
def HRes2 (q r : Nat) (w : World) (e : Ending) (w' : World) : Prop :=
  ∃ A n c A' n' c', e = .returned (.tuple #[.slice A n c, .slice A' n' c']) ∧ Below w.heap.size w w' ∧ IsH w' w'.heap.size A n q ∧ IsH w' w'.heap.size A' n' r ∧ (n ≤ c ∧ c ≤ 9223372036854775807) ∧ (n' ≤ c' ∧ c' ≤ 9223372036854775807)

end Go.Proofs.YtcgbgaljjhopiaaDoor
