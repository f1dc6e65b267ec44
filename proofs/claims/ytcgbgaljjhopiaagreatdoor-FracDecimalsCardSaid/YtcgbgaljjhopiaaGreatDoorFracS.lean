/- The reference's product, of any length, and limb. -/
import Derived.Test.YtcgbgaljjhopiaaGreatDoorFracR
import Derived.IntWalk
namespace Go.Proofs.YtcgbgaljjhopiaaGreatDoor
set_option maxRecDepth 20000
open Go.RowKit
set_option linter.unusedVariables false
set_option linter.unusedSimpArgs false
/-- What product leaves: the limbs of a product. -/
def Prod (l z : Nat) (w : World) (e : Ending) (w' : World) : Prop :=
  ∃ A G, e = .returned (.slice A l l) ∧ Below w.heap.size w w' ∧ Digs w' w'.heap.size .u32 A l G ∧ (∀ i, G i < 4294967296) ∧ (∀ i, l ≤ i → G i = 0) ∧ Nt.vl 4294967296 G l = z
theorem AddInv.to_so {g i m t fc car : Nat} {b F G : Nat → Nat} {w wr : World} (h : AddInv g i m m t fc b F car w wr G) : AddInv g (Nt.so i m) m m t fc b F car w wr G := by
  by_cases h0 : m = 0
  · subst h0
    exact ⟨h.row, fun j hj => h.same j (by omega), h.lt, by simpa [Nt.vl_zero] using h.val, h.gr⟩
  · rw [Nt.so, if_neg h0]; exact h
theorem prod_wraps {y a b c : Int} (y0 : 0 ≤ y) (y1 : y < 4294967296) (a0 : 0 ≤ a) (a1 : a < 4294967296) (b0 : 0 ≤ b) (b1 : b < 4294967296) (c0 : 0 ≤ c) (c1 : c < 4294967296) :
    IntKind.u64.wrap (IntKind.u64.wrap (y + IntKind.u64.wrap (a * b)) + c) = a * b + y + c := by
  obtain ⟨p0, p1⟩ := Nt.prod_bd a0 a1 b0 b1
  rw [Nt.w64 p0 (by omega), Nt.w64 (x := y + a * b) (by omega) (by omega), Nt.w64 (by omega) (by omega)]
  omega
theorem prod_ends {t T : Int} (h : t = T) (t0 : 0 ≤ T) (t1 : T < 18446744073709551616) : t.tmod 4294967296 % 4294967296 = T % 4294967296 ∧ IntKind.u64.wrap (t.tdiv 4294967296) = T / 4294967296 := by
  subst h
  rw [Int.tmod_eq_emod_of_nonneg t0, Int.tdiv_eq_ediv_of_nonneg t0, Nt.w64 (by omega) (by omega)]
  exact ⟨by omega, rfl⟩
end Go.Proofs.YtcgbgaljjhopiaaGreatDoor
