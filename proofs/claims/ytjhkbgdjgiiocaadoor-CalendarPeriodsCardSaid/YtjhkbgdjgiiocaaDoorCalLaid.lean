/- What the lists of stage 6's rows give: the tables read as they were laid. And the world of the rows' witness: the heap that the door's own run leaves. -/
import Derived.Test.YtjhkbgdjgiiocaaDoorCalZ
import Derived.Test.YtjhkbgdjgiiocaaDoorOwn
import Derived.Test.YtjhkbgdjgiiocaaDoorCards
import Derived.Test.YtjhkbgdjgiiocaaDoorTie
import Derived.ProofKit
import Derived.OpenShut
import Derived.ShutString
import Derived.LaidMore
import Derived.Lib.LaidTab
import Derived.Lib.ItoaLen
import Derived.Stop.LaidErr
import Derived.Stop.Joined
import Derived.SizedLaws
import Derived.ChangeArms
import Derived.Carry
namespace Go.Proofs.YtjhkbgdjgiiocaaDoor
set_option maxRecDepth 20000
open Go.RowKit Go.ChangeShapes Go.WideShapes Go.ChangeAt
theorem g_mon_type : (Tryd.prog.globals[0]?).map (·.type) = some 54 := by kernel_rfl
theorem g_mon_cells : Tryd.prog.cellsOf 54 = 13 := by kernel_rfl
theorem g_int_cells : Tryd.prog.cellsOf 3 = 1 := by kernel_rfl
theorem g_pow : Tryd.prog.globalNamed "internal/strconv.uint64pow10" = some 2 := by kernel_rfl
theorem g_pow_type : (Tryd.prog.globals[2]?).map (·.type) = some 86 := by kernel_rfl
theorem g_pow_cells : Tryd.prog.cellsOf 86 = 20 := by kernel_rfl
theorem g_u64_cells : Tryd.prog.cellsOf 72 = 1 := by kernel_rfl
theorem mon_data : Rows.laid_lottery_calendar_daysToMonth (H := Unit) = Lib.tabData .i64 Cl.monTab := by kernel_rfl
theorem pow_data : Rows.laid_internal_strconv_uint64pow10 (H := Unit) = Lib.tabData .u64 Lib.pow10Tab := by kernel_rfl
theorem mon_of_list {W : World} {r : List (String × DataW Unit)} (h : laidMet Tryd.prog (("lottery/calendar.daysToMonth", Rows.laid_lottery_calendar_daysToMonth) :: r) W) : CEnv W := by
  rw [mon_data] at h
  exact cenv_mk (Lib.tabIs_of_head g_mon g_mon_type Tryd.underlying54 Tryd.underlying3 g_int_cells g_mon_cells h)
theorem pow_of_list {W : World} {r : List (String × DataW Unit)} (h : laidMet Tryd.prog (("internal/strconv.uint64pow10", Rows.laid_internal_strconv_uint64pow10) :: r) W) : PEnv W := by
  rw [pow_data] at h
  exact penv_mk (Lib.tabIs_of_head g_pow g_pow_type Tryd.underlying86 Tryd.underlying72 g_u64_cells g_pow_cells h)
theorem calenv {W : World} (h : laidMetH Tryd.prog Rows.calendarDatesRow.laid W) : CEnv W := by
  rw [MakeChecks.laidMetH_plain _ _ _ (by kernel_rfl)] at h
  exact mon_of_list h
theorem calenv4 {W : World} (h : laidMetH Tryd.prog Rows.calendarTextsRow.laid W) : CEnv W ∧ PEnv W := by
  rw [MakeChecks.laidMetH_plain _ _ _ (by kernel_rfl)] at h
  exact ⟨mon_of_list h.tail.tail.tail, pow_of_list h.tail.tail⟩
theorem calmet (os : Os) (args : Array Value) : laidMetH Tryd.prog Rows.calendarDatesRow.laid ((World.doorLaid Tryd.prog 29 os).forCall (fun _ _ => 0) ⟨#[], args, []⟩).memory :=
  laidMetH_of_parts3 (fuel := 8) (laidMet_of_run' 8 (by kernel_rfl) (by kernel_rfl)) (by kernel_rfl) (by kernel_rfl)
theorem calmet4 (os : Os) (args : Array Value) : laidMetH Tryd.prog Rows.calendarTextsRow.laid ((World.doorLaid Tryd.prog 29 os).forCall (fun _ _ => 0) ⟨#[], args, []⟩).memory :=
  laidMetH_of_parts3 (fuel := 8) (laidMet_of_run' 8 (by kernel_rfl) (by kernel_rfl)) (by kernel_rfl) (by kernel_rfl)
end Go.Proofs.YtjhkbgdjgiiocaaDoor
