/- Arguments that are slices of ints or bytes, opened. -/
import Derived.Test.YtdleleanaihcoaaArgs
import Derived.Test.YtdleleanaihcoaaByt
namespace Go.Proofs.Ytdleleanaihcoaa
set_option maxRecDepth 20000
open Go.RowKit Go.ChangeShapes Go.WideShapes Go.ChangeAt Go.WideElems
set_option linter.unusedVariables false
set_option linter.unusedSimpArgs false
/-- A list out of what there is for each place. -/
theorem list_of {α : Type} {P : Nat → α → Prop} : ∀ n, (∀ i, i < n → ∃ x, P i x) → ∃ L : List α, L.length = n ∧ ∀ i x, L[i]? = some x → P i x
  | 0, _ => ⟨[], rfl, fun i x h => by simp at h⟩
  | n + 1, h => by
    obtain ⟨L, h1, h2⟩ := list_of n fun i hi => h i (by omega)
    obtain ⟨y, hy⟩ := h n (by omega)
    refine ⟨L ++ [y], by simp [h1], fun i x hx => ?_⟩
    by_cases hi : i < L.length
    · rw [List.getElem?_append_left hi] at hx; exact h2 i x hx
    · rw [List.getElem?_append_right (by omega)] at hx
      have hi2 : i - L.length = 0 := by
        have := (List.getElem?_eq_some_iff.1 hx).1
        simp at this; omega
      rw [hi2] at hx
      simp at hx
      rw [← hx, show i = n by omega]; exact hy
theorem ints_of_rd {w : World} {B : Nat} {cs : List Value} {d : Dat} (h : Rd w B (.sl (.int .i64)) cs d) :
    ∃ A len cap zs, cs = [.slice A len cap] ∧ len ≤ cap ∧ cap ≤ 9223372036854775807 ∧ Ints w B A len zs ∧ (∀ y, y ∈ zs → -9223372036854775808 ≤ y ∧ y ≤ 9223372036854775807) := by
  obtain ⟨A, len, cap, f, rfl, -, hlc, hcm, hx⟩ := h
  obtain ⟨zs, hz1, hz2⟩ := list_of (P := fun i (y : Int) => (-9223372036854775808 ≤ y ∧ y ≤ 9223372036854775807) ∧ ∀ ad, A = some ad → w.cell? (ad.add i) = some (.int .i64 y)) len fun i hi => by
    obtain ⟨ad, e, hb, hc⟩ := hx (by omega)
    obtain ⟨vs, hl, hv, n, rfl, -, hw⟩ := hc i hi
    exact ⟨n, bounds_i64 hw, fun ad' e' => by
      obtain rfl : ad = ad' := by rw [e] at e'; exact Option.some.inj e'
      have := hv 0 _ rfl
      simpa [Ty.n] using this⟩
  refine ⟨A, len, cap, zs, rfl, hlc, hcm, ⟨hz1, fun h0 => ?_⟩, fun y hy => ?_⟩
  · obtain ⟨ad, e, hb, -⟩ := hx h0
    refine ⟨ad, e, hb, fun j hj => ?_⟩
    have hj2 : zs[j]? = some (zs.getD j 0) := by rw [List.getD, List.getElem?_eq_getElem (by omega : j < zs.length)]; rfl
    exact (hz2 j _ hj2).2 ad e
  · obtain ⟨i, hi, e⟩ := List.getElem_of_mem hy
    exact (hz2 i y (by rw [List.getElem?_eq_getElem hi, e])).1
theorem byts_of_rd {w : World} {B : Nat} {cs : List Value} {d : Dat} (h : Rd w B (.sl (.int .u8)) cs d) :
    ∃ A len cap L, cs = [.slice A len cap] ∧ len ≤ cap ∧ cap ≤ 9223372036854775807 ∧ Byts w B A len L := by
  obtain ⟨A, len, cap, f, rfl, -, hlc, hcm, hx⟩ := h
  obtain ⟨zs, hz1, hz2⟩ := list_of (P := fun i (y : UInt8) => ∀ ad, A = some ad → w.cell? (ad.add i) = some (bv y)) len fun i hi => by
    obtain ⟨ad, e, hb, hc⟩ := hx (by omega)
    obtain ⟨vs, hl, hv, n, rfl, -, hw⟩ := hc i hi
    obtain ⟨b0, b1⟩ := bounds_u8 hw
    exact ⟨UInt8.ofNat n.toNat, fun ad' e' => by
      obtain rfl : ad = ad' := by rw [e] at e'; exact Option.some.inj e'
      have := hv 0 _ rfl
      have e2 : bv (UInt8.ofNat n.toNat) = .int .u8 n := by
        unfold bv
        rw [UInt8.toNat_ofNat', Nat.mod_eq_of_lt (by omega), Int.toNat_of_nonneg b0]
      rw [e2]
      simpa [Ty.n] using this⟩
  refine ⟨A, len, cap, zs, rfl, hlc, hcm, ⟨hz1, fun h0 => ?_⟩⟩
  obtain ⟨ad, e, hb, -⟩ := hx h0
  exact ⟨ad, e, hb, fun j c hj => hz2 j c hj ad e⟩
end Go.Proofs.Ytdleleanaihcoaa
