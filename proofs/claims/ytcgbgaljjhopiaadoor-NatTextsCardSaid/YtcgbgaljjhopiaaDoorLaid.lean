/- What the rows' lists give: the table of powers of ten reads as it was laid; strconv's error variable holds a value of an interface's type. And the world of the rows' witness: the heap that the door's own run leaves. -/
import Derived.Test.YtcgbgaljjhopiaaDoorGN
import Derived.Test.YtcgbgaljjhopiaaDoorNatO
import Derived.Test.YtcgbgaljjhopiaaDoorCards
import Derived.Test.YtcgbgaljjhopiaaDoorTie
import Derived.ProofKit
import Derived.OpenShut
import Derived.ShutString
import Derived.LaidMore
import Derived.Lib.LaidTab
import Derived.Lib.ItoaLen
import Derived.Stop.LaidErr
import Derived.Stop.Joined
import Derived.SizedLaws
import Derived.ChangeArms
import Derived.Carry
namespace Go.Proofs.YtcgbgaljjhopiaaDoor
set_option maxRecDepth 20000
open Go.RowKit Go.ChangeShapes Go.WideShapes Go.ChangeAt
theorem g_pow : Tryd.prog.globalNamed "internal/strconv.uint64pow10" = some 5 := by kernel_rfl
theorem g_pow_type : (Tryd.prog.globals[5]?).map (·.type) = some 103 := by kernel_rfl
theorem g_pow_cells : Tryd.prog.cellsOf 103 = 20 := by kernel_rfl
theorem g_u64_cells : Tryd.prog.cellsOf 45 = 1 := by kernel_rfl
theorem g_err : Tryd.prog.globalNamed "strconv.ErrRange" = some 1 := by kernel_rfl
theorem g_err_type : (Tryd.prog.globals[1]?).map (·.type) = some 47 := by kernel_rfl
theorem g_es_cells : Tryd.prog.cellsOf 95 = 1 := by kernel_rfl
theorem g_str_cells : Tryd.prog.cellsOf 9 = 1 := by kernel_rfl
theorem star : "*" ++ "errors.errorString" = "*errors.errorString" := by decide
theorem es_row (u : TypeId) (h : Tryd.prog.typeName? 3 u = some "*errors.errorString") : u = 93 :=
  typeName_ptr_named (nm := "errors.errorString") (by rw [star]; kernel_rfl) (by kernel_rfl) (by decide) u (by rw [star]; exact h)
theorem pow_data : Rows.laid_internal_strconv_uint64pow10 (H := Unit) = Lib.tabData .u64 Lib.pow10Tab := by kernel_rfl

/-- The list of a row of this seat, behind its first tables: the table of powers of ten, then ErrRange. -/
theorem env_of_list {W : World} {r : List (String × DataW Unit)} (h : laidMet Tryd.prog (("internal/strconv.uint64pow10", Rows.laid_internal_strconv_uint64pow10) :: ("strconv.ErrRange", Rows.laid_strconv_ErrRange) :: r) W) : Env W := by
  rw [pow_data] at h
  refine env_mk (Lib.tabIs_of_head g_pow g_pow_type Tryd.underlying103 Tryd.underlying45 g_u64_cells g_pow_cells h) ?_
  obtain ⟨a0, s0, hv0, -, -, -⟩ := laid_sentinel h.tail g_err g_err_type Tryd.underlying47 es_row Tryd.underlying93 Tryd.underlying95 rfl rfl Tryd.underlying9 g_es_cells g_str_cells
  exact ⟨_, by have h0 := World.var?_cell g_err hv0 0; simpa using h0, Or.inr ⟨_, _, rfl⟩⟩
theorem env_of_laid {W : World} (h : laidMetH Tryd.prog [("math/bits.deBruijn32tab", Rows.laid_math_bits_deBruijn32tab), ("math/bits.deBruijn64tab", Rows.laid_math_bits_deBruijn64tab), ("internal/strconv.uint64pow10", Rows.laid_internal_strconv_uint64pow10), ("strconv.ErrRange", Rows.laid_strconv_ErrRange), ("strconv.ErrSyntax", Rows.laid_strconv_ErrSyntax)] W) : Env W := by
  rw [MakeChecks.laidMetH_plain _ _ _ (by kernel_rfl)] at h
  exact env_of_list h.tail.tail
theorem door_met (os : Os) (args : Array Value) : laidMetH Tryd.prog [("math/bits.deBruijn32tab", Rows.laid_math_bits_deBruijn32tab), ("math/bits.deBruijn64tab", Rows.laid_math_bits_deBruijn64tab), ("internal/strconv.uint64pow10", Rows.laid_internal_strconv_uint64pow10), ("strconv.ErrRange", Rows.laid_strconv_ErrRange), ("strconv.ErrSyntax", Rows.laid_strconv_ErrSyntax)] ((World.doorLaid Tryd.prog 62 os).forCall (fun _ _ => 0) ⟨#[], args, []⟩).memory :=
  laidMetH_of_parts3 (fuel := 8) (laidMet_of_run' 8 (by kernel_rfl) (by kernel_rfl)) (by kernel_rfl) (by kernel_rfl)
end Go.Proofs.YtcgbgaljjhopiaaDoor
