/- A struct of limbs that came in, opened; and what the plain rows' frames need. -/
import Derived.Test.YtfjnpmkklanopaaNatK
import Derived.Test.YtfjnpmkklanopaaOwn
import Derived.WalkKit
import Derived.ProofKit
import Derived.OpenShut
import Derived.ShutString
import Derived.ChangeOld
import Derived.ChangeSame
import Derived.ChangeSlices
import Derived.ChangeAt
import Derived.WideShapes
import Derived.Below
import Derived.Carry
namespace Go.Proofs.Ytfjnpmkklanopaa
set_option maxRecDepth 20000
open Go.RowKit Go.ChangeShapes Go.WideShapes Go.ChangeAt Go.WideElems
theorem nat_opened {H : Type} {enc : TypeId × Value → H} {W : World} {r : Reach} {base : Nat} {v : Value} {d : DataW H} {p : List MemPlace}
    (hv : Value.okWide Try.prog W r base 24 v) (h : DataW.Trod enc Try.prog W 0 (fun _ => true) true 24 v d p) :
    ∃ A n c f, v = .agg #[.slice A n c] ∧ Arg W A n c f := by
  obtain ⟨cs, rfl, hcs⟩ := okWide_struct Try.underlying24 hv
  rw [show Try.prog.cellsOf 24 = 1 by kernel_rfl] at hcs
  obtain ⟨c0, rfl⟩ : ∃ c0, cs = #[c0] := by
    obtain ⟨l⟩ := cs
    match l, hcs with
    | [c0], _ => exact ⟨c0, rfl⟩
  obtain ⟨fuel, hf⟩ := h
  obtain ⟨y0, m, -, -, hy⟩ := trod_struct1 Try.underlying24 hf
  rw [show Try.prog.cellsOf 22 = 1 by kernel_rfl] at hy
  have hy2 : DataW.trod enc Try.prog W 0 (fun _ => true) true m 22 [c0] = some y0 := by simpa [Value.cells] using hy
  rcases open_ints Try.underlying22 Try.underlying58 (by kernel_rfl) hy2 with ⟨hcs, _⟩ | ⟨x, l, c, zs, hcs, _, hl, hm, hz, _, hcell, hwz⟩
  · obtain rfl : c0 = .slice none 0 0 := by simpa using hcs
    exact ⟨none, 0, 0, fun _ => 0, rfl, ⟨Digs.zero, by omega, by omega, fun _ _ => by omega⟩⟩
  · obtain rfl : c0 = .slice (some x) l c := by simpa using hcs
    have hz2 : zs.length = c := by simpa using hz
    have hb : ∀ i, i < c → 0 ≤ zs.getD i 0 ∧ zs.getD i 0 ≤ 4294967295 := fun i hi => by
      have h3 : i < zs.length := by omega
      have h2 : zs.getD i 0 ∈ zs := by
        simp only [List.getD, List.getElem?_eq_getElem h3, Option.getD_some]
        exact List.getElem_mem h3
      exact bounds_u32 (hwz _ h2)
    unfold maxLen at hm
    refine ⟨some x, l, c, fun i => (zs.getD i 0).toNat, rfl, ⟨fun h0 => ⟨x, rfl, ?_, fun j hj => ?_⟩, by omega, hl, fun i hi => ?_⟩⟩
    · have := World.block_lt_of_cell? W _ (hcell 0 (by omega))
      rwa [block_of_add] at this
    · rw [hcell j (by omega)]
      have := hb j (by omega)
      rw [Int.toNat_of_nonneg this.1]
    · have := hb i (by omega)
      show (zs.getD i 0).toNat < 4294967296
      omega
end Go.Proofs.Ytfjnpmkklanopaa
