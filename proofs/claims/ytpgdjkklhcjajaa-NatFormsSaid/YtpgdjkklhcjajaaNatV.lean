/- What NatForms' walk needs besides. -/
import Derived.Test.YtpgdjkklhcjajaaNatU
namespace Go.Proofs.Ytpgdjkklhcjajaa
open Go.RowKit
set_option linter.unusedVariables false
set_option linter.unusedSimpArgs false
def Nt.uB (f : Nat → Nat) (n : Nat) : Bool := Nt.vd f n && decide (n ≤ 2)
def Nt.uX (f : Nat → Nat) (n : Nat) : Int := if Nt.uB f n then (Nt.vl 4294967296 f n : Nat) else 0
theorem nat_Uint_any {n c : Nat} {A : Option Addr} {f : Nat → Nat} (w : World) (h : Arg w A n c f) :
    Calls Try.prog 10 #[.agg #[.slice A n c]] w (URes (Nt.uX f n) (Nt.uB f n) w) := by
  unfold Nt.uX
  cases hv : Nt.uB f n
  · exact nat_Uint_no w h hv
  · obtain ⟨a, b⟩ := Bool.and_eq_true_iff.1 hv
    exact nat_Uint_yes w (h.isN a) (of_decide_eq_true b)
theorem ref3_Uint_any {n c : Nat} {A : Option Addr} {f : Nat → Nat} (w : World) (h : Arg w A n c f) :
    Calls Try.prog 11 #[.agg #[.slice A n c]] w (URes (Nt.uX f n) (Nt.uB f n) w) := by
  unfold Nt.uX
  cases hv : Nt.uB f n
  · exact ref3_Uint_no w h hv
  · obtain ⟨a, b⟩ := Bool.and_eq_true_iff.1 hv
    exact ref3_Uint_yes w (h.isN a) (of_decide_eq_true b)
theorem Nt.cmpI_swap (a b : Int) : Nt.cmpI b a = -Nt.cmpI a b := by unfold Nt.cmpI; split <;> split <;> omega
theorem Nt.cmpX_swap (f : Nat → Nat) (n : Nat) (f' : Nat → Nat) (n' : Nat) : Nt.cmpX f' n' f n = -Nt.cmpX f n f' n' := by
  unfold Nt.cmpX Nt.both
  rw [Bool.and_comm]
  cases (Nt.vd f n && Nt.vd f' n')
  · rfl
  · exact Nt.cmpI_swap _ _
theorem Nt.cmpX_neg (f : Nat → Nat) (n : Nat) (f' : Nat → Nat) (n' : Nat) : IntKind.wrap .i64 (-Nt.cmpX f n f' n') = -Nt.cmpX f n f' n' := by
  have : -1 ≤ Nt.cmpX f n f' n' ∧ Nt.cmpX f n f' n' ≤ 1 := by
    unfold Nt.cmpX Nt.cmpI
    split
    · split
      · omega
      · split <;> omega
    · omega
  rw [IntKind.wrap_i64]; omega
theorem kQ {w W : World} {a b : Value} {ns : List (Option Addr × Nat × Nat)} (h : Hid (Kp w W [(w.heap.size + 1, b), (w.heap.size, a)] ns)) :
    W.cell? ⟨w.heap.size, 0, none⟩ = some a ∧ W.cell? ⟨w.heap.size + 1, 0, none⟩ = some b :=
  ⟨(h.out.b (w.heap.size, a) (by simp)).cell, (h.out.b (w.heap.size + 1, b) (by simp)).cell⟩
end Go.Proofs.Ytpgdjkklhcjajaa
