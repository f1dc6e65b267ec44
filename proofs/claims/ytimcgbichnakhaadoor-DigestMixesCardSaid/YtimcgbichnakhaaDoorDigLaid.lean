/- What the lists of stage 7's rows give: the tables of rounds and of digits read as they were laid. And the world of the rows' witness: the heap that the door's own run leaves. -/
import Derived.Test.YtimcgbichnakhaaDoorDigZ
import Derived.Test.YtimcgbichnakhaaDoorOwn
import Derived.Test.YtimcgbichnakhaaDoorCards
import Derived.Test.YtimcgbichnakhaaDoorTie
import Derived.ProofKit
import Derived.OpenShut
import Derived.ShutString
import Derived.LaidMore
import Derived.Lib.LaidTab
import Derived.Lib.ItoaLen
import Derived.Lib.Strings
import Derived.Stop.LaidErr
import Derived.Stop.Joined
import Derived.SizedLaws
import Derived.ChangeArms
import Derived.Carry
namespace Go.Proofs.YtimcgbichnakhaaDoor
set_option maxRecDepth 20000
open Go.RowKit Go.ChangeShapes Go.WideShapes Go.ChangeAt
theorem g_rounds_type : (Tryd.prog.globals[0]?).map (·.type) = some 41 := by kernel_rfl
theorem g_rounds_cells : Tryd.prog.cellsOf 41 = 6 := by kernel_rfl
theorem g_round_cells : Tryd.prog.cellsOf 40 = 3 := by kernel_rfl
theorem g_uint_cells : Tryd.prog.cellsOf 38 = 1 := by kernel_rfl
theorem g_u64_cells7 : Tryd.prog.cellsOf 23 = 1 := by kernel_rfl
theorem g_digits_type : (Tryd.prog.globals[1]?).map (·.type) = some 43 := by kernel_rfl
theorem g_digits_cells : Tryd.prog.cellsOf 43 = 16 := by kernel_rfl
theorem g_u8_cells7 : Tryd.prog.cellsOf 5 = 1 := by kernel_rfl
theorem digits_data : Rows.laid_lottery_digest_digits (H := Unit) = Lib.tabData .u8 dt := by kernel_rfl
section
variable {enc : TypeId × Value → Unit} {w : World} {base : Nat} {sp : Nat → Bool} {held : Bool} {fuel : Nat}
theorem lit_of {k : IntKind} {t : TypeId} {z : Int} {cs : List Value} {x : DataW Unit × List MemPlace} (ht : Tryd.prog.underlying t = some (.int k)) (h : DataW.trod enc Tryd.prog w base sp held fuel t cs = some x) (hx : x.1 = .lit (.int k z)) : cs = [.int k z] := by
  obtain ⟨n, rfl, h2, -⟩ := DataW.trod_int ht h
  rw [h2] at hx
  simp only [DataW.lit.injEq, Lit.int.injEq, true_and] at hx
  rw [hx]
theorem round_cells {a b c : Int} {cs : List Value} {x : DataW Unit × List MemPlace} (h : DataW.trod enc Tryd.prog w base sp held fuel 40 cs = some x) (hx : x.1 = .agg [.lit (.int .u64 a), .lit (.int .u64 b), .lit (.int .u64 c)]) : cs = [.int .u64 a, .int .u64 b, .int .u64 c] := by
  obtain ⟨xs, n, rfl, h2, hl, hn, hat⟩ := DataW.trod_struct Tryd.underlying40 h
  rw [h2] at hx
  obtain ⟨x0, x1, x2, rfl⟩ : ∃ x0 x1 x2, xs = [x0, x1, x2] := by
    match xs, hn with
    | [x0, x1, x2], _ => exact ⟨_, _, _, rfl⟩
  simp only [List.map_cons, List.map_nil, DataW.agg.injEq, List.cons.injEq, and_true] at hx
  obtain ⟨e0, e1, e2⟩ := hx
  rw [g_round_cells] at hl
  obtain ⟨c0, c1, c2, rfl⟩ : ∃ x0 x1 x2, cs = [x0, x1, x2] := by
    match cs, hl with
    | [x0, x1, x2], _ => exact ⟨_, _, _, rfl⟩
  have a0 : DataW.trod enc Tryd.prog w base sp held n 38 (([c0, c1, c2].drop 0).take (Tryd.prog.cellsOf 38)) = some x0 := hat 0 _ rfl
  have a1 : DataW.trod enc Tryd.prog w base sp held n 23 (([c0, c1, c2].drop 1).take (Tryd.prog.cellsOf 23)) = some x1 := hat 1 _ rfl
  have a2 : DataW.trod enc Tryd.prog w base sp held n 23 (([c0, c1, c2].drop 2).take (Tryd.prog.cellsOf 23)) = some x2 := hat 2 _ rfl
  rw [g_uint_cells] at a0
  rw [g_u64_cells7] at a1 a2
  have l0 : [c0] = [.int .u64 a] := lit_of Tryd.underlying38 a0 e0
  have l1 : [c1] = [.int .u64 b] := lit_of Tryd.underlying23 a1 e1
  have l2 : [c2] = [.int .u64 c] := lit_of Tryd.underlying23 a2 e2
  injection l0 with l0
  injection l1 with l1
  injection l2 with l2
  rw [l0, l1, l2]
theorem rounds_cells {cs : List Value} {p : List MemPlace} (h : DataW.trod enc Tryd.prog w base sp held fuel 41 cs = some (Rows.laid_lottery_digest_rounds, p)) : cs = rt.map fun z => Value.int .u64 z := by
  obtain ⟨xs, n, rfl, h2, hl, hn, hat⟩ := DataW.trod_array Tryd.underlying41 h
  have hx := congrArg Prod.fst h2
  obtain ⟨x0, x1, rfl⟩ : ∃ x0 x1, xs = [x0, x1] := by
    match xs, hn with
    | [x0, x1], _ => exact ⟨_, _, rfl⟩
  unfold Rows.laid_lottery_digest_rounds at hx
  simp only [List.map_cons, List.map_nil, DataW.agg.injEq, List.cons.injEq, and_true] at hx
  obtain ⟨e0, e1⟩ := hx
  rw [g_rounds_cells] at hl
  obtain ⟨c0, c1, c2, c3, c4, c5, rfl⟩ : ∃ x0 x1 x2 x3 x4 x5, cs = [x0, x1, x2, x3, x4, x5] := by
    match cs, hl with
    | [x0, x1, x2, x3, x4, x5], _ => exact ⟨_, _, _, _, _, _, rfl⟩
  have a0 := hat 0 (by omega)
  have a1 := hat 1 (by omega)
  simp only [g_round_cells] at a0 a1
  have l0 : [c0, c1, c2] = _ := round_cells a0 e0.symm
  have l1 : [c3, c4, c5] = _ := round_cells a1 e1.symm
  show [c0, c1, c2] ++ [c3, c4, c5] = _
  rw [l0, l1]
  rfl
end
theorem rounds_of_list {W : World} {r : List (String × DataW Unit)} (h : laidMet Tryd.prog (("lottery/digest.rounds", Rows.laid_lottery_digest_rounds) :: r) W) : Lib.TabIs Tryd.prog W "lottery/digest.rounds" .u64 rt := by
  obtain ⟨ps, ⟨g', t', cs, fuel, p, q, hg', ht', hvar, hd, _, _⟩, _⟩ := h
  obtain rfl := Option.some.inj (g_rounds.symm.trans hg')
  obtain rfl := Option.some.inj (g_rounds_type.symm.trans ht')
  unfold Lib.TabIs
  rw [hvar, ← rounds_cells hd]
theorem digits_of_list {W : World} {r : List (String × DataW Unit)} (h : laidMet Tryd.prog (("lottery/digest.digits", Rows.laid_lottery_digest_digits) :: r) W) : Lib.TabIs Tryd.prog W "lottery/digest.digits" .u8 dt := by
  rw [digits_data] at h
  exact Lib.tabIs_of_head g_digits g_digits_type Tryd.underlying43 Tryd.underlying5 g_u8_cells7 g_digits_cells h
theorem digenv {W : World} (h : laidMetH Tryd.prog Rows.digestSumsRow.laid W) : DEnv W := by
  rw [MakeChecks.laidMetH_plain _ _ _ (by kernel_rfl)] at h
  exact denv_mk (rounds_of_list h) (digits_of_list h.tail)
theorem digmet (os : Os) (args : Array Value) : laidMetH Tryd.prog Rows.digestSumsRow.laid ((World.doorLaid Tryd.prog 21 os).forCall (fun _ _ => 0) ⟨#[], args, []⟩).memory :=
  laidMetH_of_parts3 (fuel := 8) (laidMet_of_run' 8 (by kernel_rfl) (by kernel_rfl)) (by kernel_rfl) (by kernel_rfl)
end Go.Proofs.YtimcgbichnakhaaDoor
