/- Contracts of nat.Cmp, slices.Clone at []uint32 and nat.Sub. -/
import Derived.Test.YtfjnpmkklanopaaNatD
import Derived.Maps.AppendAt
import Derived.WalkSpells
namespace Go.Proofs.Ytfjnpmkklanopaa
set_option maxRecDepth 20000
open Go.RowKit
set_option linter.unusedVariables false
set_option linter.unusedSimpArgs false

/-- The variables of a call that takes two numbers. -/
structure Fr2 (N : Nat) (w W : World) (v1 v2 : Value) : Prop where
  n1 : NBox W N v1
  n2 : NBox W (N + 1) v2
  bel : Below N w W
theorem Fr2.sz {N : Nat} {w W : World} {v1 v2 : Value} (h : Fr2 N w W v1 v2) : N + 1 < W.heap.size := h.n2.lt
theorem Fr2.start (w : World) (v1 v2 : Value) : Fr2 w.heap.size w ((w.alloc (.cells #[v1] 24)).alloc (.cells #[v2] 24)) v1 v2 := by
  have z1 : (w.alloc (.cells #[v1] 24)).heap.size = w.heap.size + 1 := by simp
  have x2 := NBox.new (w.alloc (.cells #[v1] 24)) v2
  rw [z1] at x2
  exact ⟨(NBox.new w v1).alloc _, x2, ((Below.refl _ _).alloc (Nat.le_refl _) _).alloc (by rw [z1]; omega) _⟩
theorem Fr2.below {N B : Nat} {w W W' : World} {v1 v2 : Value} (h : Fr2 N w W v1 v2) (hb : Below B W W') (hB : N + 1 < B) : Fr2 N w W' v1 v2 :=
  ⟨h.n1.below hb (by omega), h.n2.below hb hB, h.bel.trans (hb.mono (by omega))⟩
theorem Fr2.next {N : Nat} {w W W' : World} {v1 v2 : Value} (h : Fr2 N w W v1 v2) (hb : Below W.heap.size W W') : Fr2 N w W' v1 v2 := h.below hb h.sz
theorem Fr2.drewN {N : Nat} {w W : World} {v1 v2 : Value} (h : Fr2 N w W v1 v2) (k : Nat) : Fr2 N w (W.drewN k) v1 v2 := ⟨h.n1, h.n2, h.bel.trans (below_dr _ _ k)⟩

theorem quiet_d {P : Program} {f : FuncId} {args : Array Value} {w : World} {a n : Nat} {v : Value} (h : Calls P f args (w.drewN (a + n)) fun e w' => e = .returned v ∧ w.drewN (a + n) = w') :
    Calls P f args (w.drewN (a + n)) fun e w'' => e = .returned v ∧ ∃ m, w'' = w.drewN (a + m) := h.mono fun _ _ ⟨he, hw⟩ => ⟨he, n, hw.symm⟩
namespace Nt
/-- Where the comparison stands when the digits from k on have been looked at. -/
def CmpSt (x y k : Nat) (o : Int) : Prop := (o = 0 ∧ x / 4294967296 ^ k = y / 4294967296 ^ k) ∨ (o ≠ 0 ∧ o = cmpI x y)
theorem cmpI_lt {a b : Int} (h : a < b) : cmpI a b = -1 := by rw [cmpI, if_pos h]
theorem cmpI_gt {a b : Int} (h : b < a) : cmpI a b = 1 := by rw [cmpI, if_neg (by omega), if_pos h]
theorem cmpI_eq (a : Int) : cmpI a a = 0 := by rw [cmpI, if_neg (by omega), if_neg (by omega)]
theorem cmpSt_start {x y n n' : Nat} (hx : ln 4294967296 x = n) (hy : ln 4294967296 y = n') : CmpSt x y n (cmpI n n') := by
  rcases Nat.lt_trichotomy n n' with h | h | h
  · have := lt_of_ln (B := 4294967296) (by omega) (x := x) (y := y) (by omega)
    exact .inr ⟨by rw [cmpI_lt (by omega)]; omega, by rw [cmpI_lt (by omega), cmpI_lt (by omega)]⟩
  · subst h
    refine .inl ⟨cmpI_eq _, ?_⟩
    rw [Nat.div_eq_of_lt (by rw [← hx]; exact ln_lt (by omega) x), Nat.div_eq_of_lt (by rw [← hy]; exact ln_lt (by omega) y)]
  · have := lt_of_ln (B := 4294967296) (by omega) (x := y) (y := x) (by omega)
    exact .inr ⟨by rw [cmpI_gt (by omega)]; omega, by rw [cmpI_gt (by omega), cmpI_gt (by omega)]⟩
theorem cmpSt_step {x y k : Nat} (h : x / 4294967296 ^ (k + 1) = y / 4294967296 ^ (k + 1)) : CmpSt x y k (cmpI (dg 4294967296 x k : Nat) (dg 4294967296 y k : Nat)) := by
  rcases Nat.lt_trichotomy (dg 4294967296 x k) (dg 4294967296 y k) with hd | hd | hd
  · have := lt_of_dg h hd
    exact .inr ⟨by rw [cmpI_lt (by omega)]; omega, by rw [cmpI_lt (by omega), cmpI_lt (by omega)]⟩
  · rw [hd]; exact .inl ⟨cmpI_eq _, div_step h hd⟩
  · have := lt_of_dg h.symm hd
    exact .inr ⟨by rw [cmpI_gt (by omega)]; omega, by rw [cmpI_gt (by omega), cmpI_gt (by omega)]⟩
theorem cmpSt_zero {x y : Nat} (h : CmpSt x y 0 0) : 0 = cmpI x y := by
  rcases h with ⟨-, h⟩ | ⟨h, -⟩
  · simp at h; rw [h]; exact (cmpI_eq _).symm
  · exact absurd rfl h
end Nt
/-! ### A copy of a number's limbs -/
theorem Rw.of_own {w : World} {N E n : Nat} {K : IntKind} {g c : Nat} {f : Nat → Nat} {xs : List Value} (h : w.ownsRow N E 1 (.slice (some ⟨g, 0, none⟩) n c) n xs) (hx : ∀ i, i < n → xs[i]? = some (.int K (f i : Nat))) : Rw w g E K n f := by
  obtain ⟨hl, hr⟩ := h
  rcases hr with ⟨hv, -⟩ | ⟨g', cap, cur, hv, hb, hg, hnc, hcap, hsz, htake⟩
  · cases hv
  · injection hv with h1 h2 h3
    injection h1 with h1
    injection h1 with h1
    subst h1
    refine ⟨cur, hg, by omega, fun i hi => ?_⟩
    have h4 := hx i hi
    rw [← htake, List.getElem?_take, if_pos (by omega)] at h4
    simpa using h4
/-- What Clone leaves: the same digits, in a row of the call's own if there are any. -/
def Cloned (n : Nat) (f : Nat → Nat) (w : World) (e : Ending) (w' : World) : Prop :=
  ∃ A c, e = .returned (.slice A n c) ∧ Below w.heap.size w w' ∧ n ≤ c ∧ c ≤ 9223372036854775807 ∧ (0 < n → ∃ g, A = some ⟨g, 0, none⟩ ∧ w.heap.size ≤ g ∧ Rw w' g 58 .u32 n f)
/-! ### Differences -/
theorem nat_subtractProduct_nil {nb c cb : Nat} {A A' : Option Addr} (fac : Int) (w : World) :
    Calls Try.prog 71 #[.slice A' 0 c, .slice A nb cb, .int .u32 fac] w fun e w' => e = .returned (.int .u32 0) ∧ w = w' := by
  go_enter Try.func71, Try.ntmps71
  go_wp2_with fail
  go_loop [7, 15] (fun s i => s = .int .u32 0 ∧ i = .int .i64 0) (fun _ _ => 0)
  case atStart => exact ⟨rfl, rfl⟩
  case round =>
    obtain ⟨rfl, rfl⟩ := hrel
    go_wp2
    go_ret
    exact ⟨rfl, rfl⟩
end Go.Proofs.Ytfjnpmkklanopaa
