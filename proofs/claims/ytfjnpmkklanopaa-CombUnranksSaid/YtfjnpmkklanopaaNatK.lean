/- What the laws of stage 3 share: a state that calls keep, contracts for every argument, the chapter's examples. -/
import Derived.Test.YtfjnpmkklanopaaNatJ
import Derived.Test.YtfjnpmkklanopaaNatRH
import Derived.Test.YtfjnpmkklanopaaNatRI
import Derived.Test.YtfjnpmkklanopaaNatRF
import Derived.Test.YtfjnpmkklanopaaNatI
namespace Go.Proofs.Ytfjnpmkklanopaa
set_option maxRecDepth 20000
open Go.RowKit
set_option linter.unusedVariables false
set_option linter.unusedSimpArgs false

/-- Variables that hold numbers' structs, and numbers: what a call keeps. -/
structure Kp (w W : World) (bs : List (Nat × Value)) (ns : List (Option Addr × Nat × Nat)) : Prop where
  bel : Below w.heap.size w W
  b : ∀ p ∈ bs, NBox W p.1 p.2
  n : ∀ p ∈ ns, IsN W W.heap.size p.1 p.2.1 p.2.2
section
variable {w W W' : World} {bs : List (Nat × Value)} {ns : List (Option Addr × Nat × Nat)}
theorem Kp.start (w : World) : Kp w w [] [] := ⟨Below.refl _ _, (fun _ h => nomatch h), (fun _ h => nomatch h)⟩
theorem Kp.call (h : Kp w W bs ns) (hb : Below W.heap.size W W') : Kp w W' bs ns :=
  ⟨h.bel.trans (hb.mono h.bel.size), fun p hp => (h.b p hp).below hb (h.b p hp).lt, fun p hp => ((h.n p hp).below hb).more hb.size⟩
theorem Kp.num (h : Kp w W bs ns) {A : Option Addr} {n x : Nat} (hn : IsN W W.heap.size A n x) : Kp w W bs ((A, n, x) :: ns) :=
  ⟨h.bel, h.b, fun p hp => by
    rcases List.mem_cons.1 hp with rfl | hp
    · exact hn
    · exact h.n p hp⟩
theorem Kp.box (h : Kp w W bs ns) (v : Value) : Kp w (W.alloc (.cells #[v] 24)) ((W.heap.size, v) :: bs) ns :=
  have h2 := h.call ((Below.refl W.heap.size W).alloc (Nat.le_refl _) (.cells #[v] 24))
  ⟨h2.bel, fun p hp => by
    rcases List.mem_cons.1 hp with rfl | hp
    · exact NBox.new W v
    · exact h2.b p hp, h2.n⟩
end
/-- An argument that is a struct of limbs. -/
structure Arg (w : World) (A : Option Addr) (n c : Nat) (f : Nat → Nat) : Prop where
  d : Digs w w.heap.size .u32 A n f
  big : n ≤ 9223372036854775807
  cap : n ≤ c
  lt : ∀ i, i < n → f i < 4294967296
theorem Arg.on {w W : World} {A : Option Addr} {n c : Nat} {f : Nat → Nat} (h : Arg w A n c f) (hb : Below w.heap.size w W) : Arg W A n c f :=
  ⟨(h.d.below hb).more hb.size, h.big, h.cap, h.lt⟩
theorem IsN.arg {w : World} {A : Option Addr} {n c x : Nat} (h : IsN w w.heap.size A n x) (h1 : n ≤ 64) (h2 : n ≤ c) : Arg w A n c (Nt.dg 4294967296 x) :=
  ⟨h.d, by omega, h2, fun i _ => Nt.dg_lt (by omega) x i⟩
theorem Arg.isN {w : World} {A : Option Addr} {n c : Nat} {f : Nat → Nat} (h : Arg w A n c f) (hv : Nt.vd f n = true) : IsN w w.heap.size A n (Nt.vl 4294967296 f n) := h.d.isN h.lt hv
namespace Nt
def both (f : Nat → Nat) (n : Nat) (f' : Nat → Nat) (n' : Nat) : Bool := vd f n && vd f' n'
def addX (f : Nat → Nat) (n : Nat) (f' : Nat → Nat) (n' : Nat) : Nat := if both f n f' n' then bv (vl 4294967296 f n + vl 4294967296 f' n') else 0
def addE (f : Nat → Nat) (n : Nat) (f' : Nat → Nat) (n' : Nat) : Int := if both f n f' n' then be (vl 4294967296 f n + vl 4294967296 f' n') else 2
def mulX (f : Nat → Nat) (n : Nat) (f' : Nat → Nat) (n' : Nat) : Nat := if both f n f' n' then bv (vl 4294967296 f n * vl 4294967296 f' n') else 0
def mulE (f : Nat → Nat) (n : Nat) (f' : Nat → Nat) (n' : Nat) : Int := if both f n f' n' then be (vl 4294967296 f n * vl 4294967296 f' n') else 2
def subX (f : Nat → Nat) (n : Nat) (f' : Nat → Nat) (n' : Nat) : Nat := if both f n f' n' then vl 4294967296 f n - vl 4294967296 f' n' else 0
def subE (f : Nat → Nat) (n : Nat) (f' : Nat → Nat) (n' : Nat) : Int := if both f n f' n' then (if vl 4294967296 f n < vl 4294967296 f' n' then 2 else 0) else 2
def gcdX (f : Nat → Nat) (n : Nat) (f' : Nat → Nat) (n' : Nat) : Nat := if both f n f' n' then Nat.gcd (vl 4294967296 f n) (vl 4294967296 f' n') else 0
def gcdE (f : Nat → Nat) (n : Nat) (f' : Nat → Nat) (n' : Nat) : Int := if both f n f' n' then 0 else 2
def divX (f : Nat → Nat) (n : Nat) (f' : Nat → Nat) (n' : Nat) : Nat := if both f n f' n' then vl 4294967296 f n / vl 4294967296 f' n' else 0
def modX (f : Nat → Nat) (n : Nat) (f' : Nat → Nat) (n' : Nat) : Nat := if both f n f' n' then (if vl 4294967296 f' n' = 0 then 0 else vl 4294967296 f n % vl 4294967296 f' n') else 0
def divE (f : Nat → Nat) (n : Nat) (f' : Nat → Nat) (n' : Nat) : Int := if both f n f' n' then (if vl 4294967296 f' n' = 0 then 10 else 0) else 2
def cmpX (f : Nat → Nat) (n : Nat) (f' : Nat → Nat) (n' : Nat) : Int := if both f n f' n' then cmpI (vl 4294967296 f n : Nat) (vl 4294967296 f' n' : Nat) else 0
end Nt
section
variable {n c n' c' : Nat} {A A' : Option Addr} {f f' : Nat → Nat}
theorem ref3_Add_any (w : World) (h : Arg w A n c f) (h' : Arg w A' n' c' f') :
    Calls Try.prog 25 #[.agg #[.slice A n c], .agg #[.slice A' n' c']] w (NRes (Nt.addX f n f' n') (Nt.addE f n f' n') w) := by
  unfold Nt.addX Nt.addE Nt.both
  cases hv : (Nt.vd f n && Nt.vd f' n')
  · exact ref3_Add_bad w h.d h'.d h.big h'.big hv
  · obtain ⟨v1, v2⟩ := Bool.and_eq_true_iff.1 hv
    exact ref3_Add_ok w (h.isN v1) (h'.isN v2) (Nt.vd_iff.1 v1).1 (Nt.vd_iff.1 v2).1
theorem nat_Mul_any (w : World) (h : Arg w A n c f) (h' : Arg w A' n' c' f') :
    Calls Try.prog 36 #[.agg #[.slice A n c], .agg #[.slice A' n' c']] w (NRes (Nt.mulX f n f' n') (Nt.mulE f n f' n') w) := by
  unfold Nt.mulX Nt.mulE Nt.both
  cases hv : (Nt.vd f n && Nt.vd f' n')
  · exact nat_Mul_bad w h.d h'.d h.big h'.big hv
  · obtain ⟨v1, v2⟩ := Bool.and_eq_true_iff.1 hv
    exact nat_Mul_ok w (h.isN v1) (h'.isN v2) (Nt.vd_iff.1 v1).1 (Nt.vd_iff.1 v2).1
theorem ref3_Mul_any (w : World) (h : Arg w A n c f) (h' : Arg w A' n' c' f') :
    Calls Try.prog 31 #[.agg #[.slice A n c], .agg #[.slice A' n' c']] w (NRes (Nt.mulX f n f' n') (Nt.mulE f n f' n') w) := by
  unfold Nt.mulX Nt.mulE Nt.both
  cases hv : (Nt.vd f n && Nt.vd f' n')
  · exact ref3_Mul_bad w h.d h'.d h.big h'.big hv
  · obtain ⟨v1, v2⟩ := Bool.and_eq_true_iff.1 hv
    exact ref3_Mul_ok w (h.isN v1) (h'.isN v2) (Nt.vd_iff.1 v1).1 (Nt.vd_iff.1 v2).1
theorem nat_DivMod_any (w : World) (h : Arg w A n c f) (h' : Arg w A' n' c' f') :
    Calls Try.prog 47 #[.agg #[.slice A n c], .agg #[.slice A' n' c']] w (NRes2 (Nt.divX f n f' n') (Nt.modX f n f' n') (Nt.divE f n f' n') w) := by
  unfold Nt.divX Nt.modX Nt.divE Nt.both
  cases hv : (Nt.vd f n && Nt.vd f' n')
  · exact nat_DivMod_bad w h.d h'.d h.big h'.big hv
  · obtain ⟨v1, v2⟩ := Bool.and_eq_true_iff.1 hv
    have a := h.isN v1
    have a' := h'.isN v2
    by_cases hl : Nt.vl 4294967296 f' n' = 0
    · simp only [if_pos hl, if_true, hl, Nat.div_zero]
      exact nat_DivMod_zero w a a' (Nt.vd_iff.1 v1).1 (Nt.vd_iff.1 v2).1 hl
    · simp only [if_neg hl, if_true]
      exact nat_DivMod_ok w a a' (Nt.vd_iff.1 v1).1 (Nt.vd_iff.1 v2).1 h.cap (by omega)
theorem ref3_DivMod_any (w : World) (h : Arg w A n c f) (h' : Arg w A' n' c' f') :
    Calls Try.prog 32 #[.agg #[.slice A n c], .agg #[.slice A' n' c']] w (NRes2 (Nt.divX f n f' n') (Nt.modX f n f' n') (Nt.divE f n f' n') w) := by
  unfold Nt.divX Nt.modX Nt.divE Nt.both
  cases hv : (Nt.vd f n && Nt.vd f' n')
  · exact ref3_DivMod_bad w h.d h'.d h.big h'.big hv
  · obtain ⟨v1, v2⟩ := Bool.and_eq_true_iff.1 hv
    have a := h.isN v1
    have a' := h'.isN v2
    by_cases hl : Nt.vl 4294967296 f' n' = 0
    · simp only [if_pos hl, if_true, hl, Nat.div_zero]
      exact ref3_DivMod_zero w a a' (Nt.vd_iff.1 v1).1 (Nt.vd_iff.1 v2).1 hl
    · simp only [if_neg hl, if_true]
      exact ref3_DivMod_ok w a a' (Nt.vd_iff.1 v1).1 (Nt.vd_iff.1 v2).1 (by omega)
end
end Go.Proofs.Ytfjnpmkklanopaa
