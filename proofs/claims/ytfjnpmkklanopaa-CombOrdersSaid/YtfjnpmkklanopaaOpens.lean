/- A slice of ints that came in, opened: it reads as a list of ints. -/
import Derived.Test.YtfjnpmkklanopaaMonA
import Derived.ChangeSlices
import Derived.WideShapes
import Derived.ChangeAt
import Derived.OpenShut
namespace Go.Proofs.Ytfjnpmkklanopaa
set_option maxRecDepth 20000
open Go.RowKit Go.ChangeShapes Go.WideShapes Go.ChangeAt Go.WideElems
theorem ints_opened {H : Type} {enc : TypeId × Value → H} {W : World} {a : Option Addr} {len cap : Nat} {d : DataW H} {p : List MemPlace}
    (h : DataW.Trod enc Try.prog W 0 (fun _ => true) true 37 (.slice a len cap) d p) :
    ∃ zs, Ints W W.heap.size a len zs ∧ len ≤ 9223372036854775807 ∧ ∀ i, i < len → -9223372036854775808 ≤ zs.getD i 0 ∧ zs.getD i 0 ≤ 9223372036854775807 := by
  obtain ⟨fuel, hf⟩ := h
  rcases open_ints Try.underlying37 Try.underlying3 (by kernel_rfl) hf with ⟨hcs, _⟩ | ⟨x, l, c, zs, hcs, _, hl, hm, hz, _, hcell, hwz⟩
  · simp [Value.cells] at hcs
    obtain ⟨rfl, rfl, rfl⟩ := hcs
    exact ⟨[], Ints.none_, by omega, fun i hi => absurd hi (by omega)⟩
  · simp [Value.cells] at hcs
    obtain ⟨rfl, rfl, rfl⟩ := hcs
    have hz2 : zs.length = cap := by simpa using hz
    have e : ∀ j, j < len → (zs.take len).getD j 0 = zs.getD j 0 := fun j hj => by simp [List.getD, hj]
    unfold maxLen at hm
    refine ⟨zs.take len, ⟨by rw [List.length_take]; omega, fun h0 => ⟨x, rfl, ?_, fun j hj => ?_⟩⟩, by omega, fun i hi => ?_⟩
    · have := World.block_lt_of_cell? W _ (hcell 0 (by omega))
      rwa [block_of_add] at this
    · rw [e j hj]; exact hcell j (by omega)
    · rw [e i hi]
      have h2 : zs.getD i 0 ∈ zs := by
        have h3 : i < zs.length := by omega
        simp only [List.getD, List.getElem?_eq_getElem h3, Option.getD_some]
        exact List.getElem_mem h3
      exact bounds_i64 (hwz _ h2)
end Go.Proofs.Ytfjnpmkklanopaa
