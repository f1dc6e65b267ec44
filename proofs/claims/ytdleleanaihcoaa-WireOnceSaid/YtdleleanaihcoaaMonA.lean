/- Contracts of layer 2's small functions: money.Valid, money.Part, money.Round, money.Even, money.isDigit, money.digit and the reference's twins; a slice of ints that reads as a list; money.allValid, the sums. -/
import Derived.Test.YtdleleanaihcoaaNumA
import Derived.Test.YtdleleanaihcoaaMonMath
import Derived.Below
import Derived.Lib.Hide
import Derived.LoopTactic
import Derived.Deep.QuietTactic
import Derived.BigQuiet
import Derived.Outline
namespace Go.Proofs.Ytdleleanaihcoaa
set_option maxRecDepth 20000
open Go.RowKit

/-! ### A slice of ints that reads as a list -/
theorem block_of_add (a : Addr) (n : Nat) : (a.add n).block = a.block := by unfold Addr.add; split <;> rfl
/-- The slice value '.slice A n c' holds the ints zs, and lies below block B. -/
def Ints (w : World) (B : Nat) (A : Option Addr) (n : Nat) (zs : List Int) : Prop :=
  zs.length = n ∧ (0 < n → ∃ ad, A = some ad ∧ ad.block < B ∧ ∀ j, j < n → w.cell? (ad.add j) = some (.int .i64 (zs.getD j 0)))
section
variable {w w' : World} {B B' n : Nat} {A : Option Addr} {zs : List Int}
theorem Ints.len (h : Ints w B A n zs) : zs.length = n := h.1
theorem Ints.none_ : Ints w B A 0 [] := ⟨rfl, fun h => absurd h (by omega)⟩
theorem Ints.at_ (h : Ints w B A n zs) {k : Nat} (hk : k < n) : ∃ ad x, A = some ad ∧ ad.block < B ∧ w.cell? (ad.add k) = some (.int .i64 x) ∧ Hid (x = zs.getD k 0) := by
  obtain ⟨ad, e, hb, hc⟩ := h.2 (by omega)
  exact ⟨ad, _, e, hb, hc k hk, rfl⟩
theorem Ints.keep (h : Ints w B A n zs) (hk : ∀ p : Addr, p.block < B → w'.cell? p = w.cell? p) : Ints w' B A n zs :=
  ⟨h.1, fun hn => by
    obtain ⟨ad, e, hb, hc⟩ := h.2 hn
    exact ⟨ad, e, hb, fun j hj => (hk _ (by rw [block_of_add]; exact hb)).trans (hc j hj)⟩⟩
theorem Ints.more (h : Ints w B A n zs) (hB : B ≤ B') : Ints w B' A n zs :=
  ⟨h.1, fun hn => by
    obtain ⟨ad, e, hb, hc⟩ := h.2 hn
    exact ⟨ad, e, by omega, hc⟩⟩
theorem Ints.below (h : Ints w B A n zs) (hb : Below B w w') : Ints w' B A n zs := h.keep fun _ hp => hb.cell hp
theorem Ints.drew (h : Ints w B A n zs) : Ints w.drew B A n zs := h
theorem Ints.drewN (h : Ints w B A n zs) (k : Nat) : Ints (w.drewN k) B A n zs := h
end

/-- A callee that leaves the world alone, within a region that draws. -/
theorem quiet_l {P : Program} {f : FuncId} {args : Array Value} {w : World} {n : Nat} {v : Value} (h : Calls P f args (w.drewN n) fun e w' => e = .returned v ∧ w.drewN n = w') :
    Calls P f args (w.drewN n) fun e w'' => e = .returned v ∧ ∃ m, w'' = w.drewN m := h.mono fun _ _ ⟨he, hw⟩ => ⟨he, n, hw.symm⟩

/-! ### Amounts -/
/-! ### Lists of amounts -/
namespace Mn
theorem all_take {zs : List Int} {k : Nat} (h : k < zs.length) (h1 : (zs.take k).all vld = true) (h2 : vld (zs.getD k 0) = true) : (zs.take (k + 1)).all vld = true := by
  rw [List.take_succ_eq_append_getElem h, List.all_append, h1]
  simp [List.getD, h] at h2
  simp [h2]
theorem all_not {zs : List Int} {k : Nat} (h : k < zs.length) (h2 : vld (zs.getD k 0) = false) : zs.all vld = false := by
  rw [Bool.eq_false_iff]
  intro e
  rw [List.all_eq_true] at e
  have := e zs[k] (List.getElem_mem h)
  simp [List.getD, h] at h2
  rw [h2] at this
  cases this
theorem all_getD {zs : List Int} (h : zs.all vld = true) {k : Nat} (hk : k < zs.length) : 0 ≤ zs.getD k 0 ∧ zs.getD k 0 ≤ 1000000000000 := by
  rw [List.all_eq_true] at h
  have := (vld_iff _).1 (h zs[k] (List.getElem_mem hk))
  simpa [List.getD, hk] using this
end Mn
end Go.Proofs.Ytdleleanaihcoaa
