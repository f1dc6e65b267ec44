/- What the rows' lists give: the table of powers of ten reads as it was laid; strconv's error variable holds a value of an interface's type. And the world of the rows' witness: the heap that the door's own run leaves. -/
import Derived.Test.YtcgbgaljjhopiaaGreatDoorGN
import Derived.Test.YtcgbgaljjhopiaaGreatDoorNatO
import Derived.Test.YtcgbgaljjhopiaaGreatDoorCards
import Derived.Test.YtcgbgaljjhopiaaGreatDoorTie
import Derived.ProofKit
import Derived.OpenShut
import Derived.ShutString
import Derived.LaidMore
import Derived.Lib.LaidTab
import Derived.Lib.ItoaLen
import Derived.Stop.LaidErr
import Derived.Stop.Joined
import Derived.SizedLaws
import Derived.ChangeArms
import Derived.Carry
namespace Go.Proofs.YtcgbgaljjhopiaaGreatDoor
set_option maxRecDepth 20000
open Go.RowKit Go.ChangeShapes Go.WideShapes Go.ChangeAt
theorem g_pow : Tryz.prog.globalNamed "internal/strconv.uint64pow10" = some 5 := by kernel_rfl
theorem g_pow_type : (Tryz.prog.globals[5]?).map (·.type) = some 136 := by kernel_rfl
theorem g_pow_cells : Tryz.prog.cellsOf 136 = 20 := by kernel_rfl
theorem g_u64_cells : Tryz.prog.cellsOf 47 = 1 := by kernel_rfl
theorem g_err : Tryz.prog.globalNamed "strconv.ErrRange" = some 2 := by kernel_rfl
theorem g_err_type : (Tryz.prog.globals[2]?).map (·.type) = some 69 := by kernel_rfl
theorem g_es_cells : Tryz.prog.cellsOf 129 = 1 := by kernel_rfl
theorem g_str_cells : Tryz.prog.cellsOf 9 = 1 := by kernel_rfl
theorem star : "*" ++ "errors.errorString" = "*errors.errorString" := by decide
theorem es_row (u : TypeId) (h : Tryz.prog.typeName? 3 u = some "*errors.errorString") : u = 127 :=
  typeName_ptr_named (nm := "errors.errorString") (by rw [star]; kernel_rfl) (by kernel_rfl) (by decide) u (by rw [star]; exact h)
theorem pow_data : Rows.laid_internal_strconv_uint64pow10 (H := Unit) = Lib.tabData .u64 Lib.pow10Tab := by kernel_rfl

/-- The list of a row of this seat, behind its first tables: the table of powers of ten, then ErrRange. -/
theorem env_of_list {W : World} {r : List (String × DataW Unit)} (h : laidMet Tryz.prog (("internal/strconv.uint64pow10", Rows.laid_internal_strconv_uint64pow10) :: ("strconv.ErrRange", Rows.laid_strconv_ErrRange) :: r) W) : Env W := by
  rw [pow_data] at h
  refine env_mk (Lib.tabIs_of_head g_pow g_pow_type Tryz.underlying136 Tryz.underlying47 g_u64_cells g_pow_cells h) ?_
  obtain ⟨a0, s0, hv0, -, -, -⟩ := laid_sentinel h.tail g_err g_err_type Tryz.underlying69 es_row Tryz.underlying127 Tryz.underlying129 rfl rfl Tryz.underlying9 g_es_cells g_str_cells
  exact ⟨_, by have h0 := World.var?_cell g_err hv0 0; simpa using h0, Or.inr ⟨_, _, rfl⟩⟩
theorem env_of_laid {W : World} (h : laidMetH Tryz.prog [("math/bits.deBruijn32tab", Rows.laid_math_bits_deBruijn32tab), ("math/bits.deBruijn64tab", Rows.laid_math_bits_deBruijn64tab), ("internal/strconv.uint64pow10", Rows.laid_internal_strconv_uint64pow10), ("strconv.ErrRange", Rows.laid_strconv_ErrRange), ("strconv.ErrSyntax", Rows.laid_strconv_ErrSyntax)] W) : Env W := by
  rw [MakeChecks.laidMetH_plain _ _ _ (by kernel_rfl)] at h
  exact env_of_list h.tail.tail
theorem door_met (os : Os) (args : Array Value) : laidMetH Tryz.prog [("math/bits.deBruijn32tab", Rows.laid_math_bits_deBruijn32tab), ("math/bits.deBruijn64tab", Rows.laid_math_bits_deBruijn64tab), ("internal/strconv.uint64pow10", Rows.laid_internal_strconv_uint64pow10), ("strconv.ErrRange", Rows.laid_strconv_ErrRange), ("strconv.ErrSyntax", Rows.laid_strconv_ErrSyntax)] ((World.doorLaid Tryz.prog 62 os).forCall (fun _ _ => 0) ⟨#[], args, []⟩).memory :=
  laidMetH_of_parts3 (fuel := 8) (laidMet_of_run' 8 (by kernel_rfl) (by kernel_rfl)) (by kernel_rfl) (by kernel_rfl)
end Go.Proofs.YtcgbgaljjhopiaaGreatDoor
