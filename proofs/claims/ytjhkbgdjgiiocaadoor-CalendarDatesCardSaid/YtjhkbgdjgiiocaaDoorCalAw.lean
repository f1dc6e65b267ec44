/- Layer 6: what the laws share: dated; the chapter's examples. -/
import Derived.Test.YtjhkbgdjgiiocaaDoorCalZ
namespace Go.Proofs.YtjhkbgdjgiiocaaDoor
set_option maxRecDepth 20000
open Go.RowKit
set_option linter.unusedVariables false
set_option linter.unusedSimpArgs false
namespace Cl
theorem ev_dated : dayV 2000 3 1 = 60 ∧ dayE 2000 3 1 = 0 := by decide
theorem ev_period : perA 1500 1 = 1440 ∧ perB 1500 1 = 2879 ∧ perE 1500 1 = 0 := by decide
theorem civ_at {n y m d : Nat} (h : IsCiv n y m d) : yr n = y ∧ mo n = m ∧ dy n = d := by
  obtain ⟨a, b, c⟩ := civ_eq h
  exact ⟨a.symm, b.symm, c.symm⟩
theorem ev_age : ageV 31 397 = 1 ∧ ageE 31 397 = 0 := by
  obtain ⟨a1, a2, a3⟩ := civ_at (n := 31) (y := 2000) (m := 2) (d := 1) ⟨by decide, by decide, by decide, by decide, by decide, by decide⟩
  obtain ⟨b1, b2, b3⟩ := civ_at (n := 397) (y := 2001) (m := 2) (d := 1) ⟨by decide, by decide, by decide, by decide, by decide, by decide⟩
  have o : ageO 31 397 = true := by decide
  have g : age 31 397 = 1 := by unfold age; rw [a1, a2, a3, b1, b2, b3]; decide
  unfold ageV ageE
  rw [o, if_pos rfl, if_pos rfl]
  exact ⟨by show ((age 31 397 : Nat) : Int) = 1; rw [g]; rfl, rfl⟩
end Cl
theorem law6_dated (w : World) (hE : CEnv w) : Calls Tryd.prog 15 #[] w fun e w' => e = .returned (.bool true) ∧ Below w.heap.size w w' := by
  have B0 := Lib.hid (Below.refl w.heap.size w)
  have c1 := fun W (hW : Below w.heap.size w W) => cal_Day 2000 3 1 W (hE.on hW)
  rw [Cl.ev_dated.1, Cl.ev_dated.2] at c1
  have C1 := Lib.hid c1
  clear c1
  go_enter Tryd.func15, Tryd.ntmps15
  go_wp2_with fail
  refine (C1.out _ B0.out).mono ?_
  rintro e w1 ⟨rfl, B1⟩
  have K1 := Lib.hid B1
  clear B1
  go_wp2_with fail
  go_ret
  exact ⟨rfl, K1.out⟩
end Go.Proofs.YtjhkbgdjgiiocaaDoor
