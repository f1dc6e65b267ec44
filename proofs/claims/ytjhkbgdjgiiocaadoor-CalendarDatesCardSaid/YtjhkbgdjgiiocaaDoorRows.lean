/-
  NARROWER THAN 'FOR EVERY INPUT', by the rows' own cells (each row's printed sentence says how): CalendarDates: laid · CalendarInverts: laid · CalendarAges: laid · CalendarPeriods: laid · CalendarParts: laid · CalendarTexts: laid.
  DERIVED. THE GIVEN ROWS OF THIS SEAT. 6 by the template 'for every input the law returns true; each argument reads behind the call as it read before'; 0 by the template 'total and deterministic' (their statements: YtjhkbgdjgiiocaaDoorTotals.lean).
  GIVEN WITH THE SEED: the statements are not yours to turn. If you find one false, say at which input.
  Laid BY PROGRAM, IN A SANDBOX (cutbox-rows.mjs): the forced cells as the released guide's own fill.sh prints them over the translation db5685e315127509… (all of the seat's roots in one cut). By AI agents, Wed Nov 11 2026. No macro, syntax, notation, axiom, sorry.
-/
import Derived.Test.YtjhkbgdjgiiocaaDoorChecked
import GoSem.Claim
import GoSem.ClaimJoined
import GoSem.ClaimMapViews
import Derived.JoinedTies
import Derived.KernelRfl
namespace Go.Proofs.YtjhkbgdjgiiocaaDoor
/- THE CELL 'sum', in the pinned program and in every row, IS THE sha256 OF THE DUMP (.gsa) THAT YtjhkbgdjgiiocaaDoorProg.lean LOADS. Nothing in Lean hashes anything: it is a label: what it is worth is what the hold of that sum in a sandbox is worth. -/
noncomputable def Tryd.pinned : Pinned := { name := "ytjhkbgdjgiiocaadoor", sum := "db5685e3151275099746ad7f4db5a383f277435b835ab997abc08ed6e9ba1210", checked := Tryd.checked }
namespace Rows
def none {H : Type} : Left H := { results := [], args := [] }

/- WHAT THE LISTED PACKAGE-LEVEL VARIABLES READ AS WHEN THE CALL BEGINS. Each datum BY PROGRAM (the guide's laid-datum.mjs) off the statement by which the dump's own 'gosem.cut.vars' lays the variable. In a bare row this is a premise. The card (YtjhkbgdjgiiocaaDoorCards.lean) ties it to the program's text. -/
def laid_lottery_calendar_daysToMonth {H : Type} : DataW H := .agg [.lit (.int .i64 0), .lit (.int .i64 31), .lit (.int .i64 59), .lit (.int .i64 90), .lit (.int .i64 120), .lit (.int .i64 151), .lit (.int .i64 181), .lit (.int .i64 212), .lit (.int .i64 243), .lit (.int .i64 273), .lit (.int .i64 304), .lit (.int .i64 334), .lit (.int .i64 365)]
def laid_math_bits_deBruijn32tab {H : Type} : DataW H := .agg [.lit (.int .u8 0), .lit (.int .u8 1), .lit (.int .u8 28), .lit (.int .u8 2), .lit (.int .u8 29), .lit (.int .u8 14), .lit (.int .u8 24), .lit (.int .u8 3), .lit (.int .u8 30), .lit (.int .u8 22), .lit (.int .u8 20), .lit (.int .u8 15), .lit (.int .u8 25), .lit (.int .u8 17), .lit (.int .u8 4), .lit (.int .u8 8), .lit (.int .u8 31), .lit (.int .u8 27), .lit (.int .u8 13), .lit (.int .u8 23), .lit (.int .u8 21), .lit (.int .u8 19), .lit (.int .u8 16), .lit (.int .u8 7), .lit (.int .u8 26), .lit (.int .u8 12), .lit (.int .u8 18), .lit (.int .u8 6), .lit (.int .u8 11), .lit (.int .u8 5), .lit (.int .u8 10), .lit (.int .u8 9)]
def laid_math_bits_deBruijn64tab {H : Type} : DataW H := .agg [.lit (.int .u8 0), .lit (.int .u8 1), .lit (.int .u8 56), .lit (.int .u8 2), .lit (.int .u8 57), .lit (.int .u8 49), .lit (.int .u8 28), .lit (.int .u8 3), .lit (.int .u8 61), .lit (.int .u8 58), .lit (.int .u8 42), .lit (.int .u8 50), .lit (.int .u8 38), .lit (.int .u8 29), .lit (.int .u8 17), .lit (.int .u8 4), .lit (.int .u8 62), .lit (.int .u8 47), .lit (.int .u8 59), .lit (.int .u8 36), .lit (.int .u8 45), .lit (.int .u8 43), .lit (.int .u8 51), .lit (.int .u8 22), .lit (.int .u8 53), .lit (.int .u8 39), .lit (.int .u8 33), .lit (.int .u8 30), .lit (.int .u8 24), .lit (.int .u8 18), .lit (.int .u8 12), .lit (.int .u8 5), .lit (.int .u8 63), .lit (.int .u8 55), .lit (.int .u8 48), .lit (.int .u8 27), .lit (.int .u8 60), .lit (.int .u8 41), .lit (.int .u8 37), .lit (.int .u8 16), .lit (.int .u8 46), .lit (.int .u8 35), .lit (.int .u8 44), .lit (.int .u8 21), .lit (.int .u8 52), .lit (.int .u8 32), .lit (.int .u8 23), .lit (.int .u8 11), .lit (.int .u8 54), .lit (.int .u8 26), .lit (.int .u8 40), .lit (.int .u8 15), .lit (.int .u8 34), .lit (.int .u8 20), .lit (.int .u8 31), .lit (.int .u8 10), .lit (.int .u8 25), .lit (.int .u8 14), .lit (.int .u8 19), .lit (.int .u8 9), .lit (.int .u8 13), .lit (.int .u8 8), .lit (.int .u8 7), .lit (.int .u8 6)]
def laid_internal_strconv_uint64pow10 {H : Type} : DataW H := .agg [.lit (.int .u64 1), .lit (.int .u64 10), .lit (.int .u64 100), .lit (.int .u64 1000), .lit (.int .u64 10000), .lit (.int .u64 100000), .lit (.int .u64 1000000), .lit (.int .u64 10000000), .lit (.int .u64 100000000), .lit (.int .u64 1000000000), .lit (.int .u64 10000000000), .lit (.int .u64 100000000000), .lit (.int .u64 1000000000000), .lit (.int .u64 10000000000000), .lit (.int .u64 100000000000000), .lit (.int .u64 1000000000000000), .lit (.int .u64 10000000000000000), .lit (.int .u64 100000000000000000), .lit (.int .u64 1000000000000000000), .lit (.int .u64 10000000000000000000)]

/-- 'lotterylaw06.CalendarDates': WHATEVER THE INPUT: true; the input reads as it did. -/
def calendarDatesSpec : ChangeSpec := { name := "calendarDates", fn := fun _ => fun
  | [d1, d2, d3, d4] => { results := [.lit (.bool true)], args := [d1, d2, d3, d4] }
  | _ => none }
def calendarDatesRow : OpenClaim := { program := "ytjhkbgdjgiiocaadoor", sum := "db5685e3151275099746ad7f4db5a383f277435b835ab997abc08ed6e9ba1210", func := "lottery/lotterylaw06.CalendarDates", spec := "calendarDates", named := ["lottery/calendar.daysToMonth"], apart := false, laid := [("lottery/calendar.daysToMonth", laid_lottery_calendar_daysToMonth)] }
def CalendarDatesSaid : Prop := calendarDatesRow.holds Tryd.pinned (OpenSpec.ofChange calendarDatesSpec)

/-- ITS FALSE NEIGHBOUR: 'it returns false'. Refute it at one input. -/
def calendarDatesWrong : ChangeSpec := { name := "calendarDates", fn := fun _ => fun
  | [d1, d2, d3, d4] => { results := [.lit (.bool false)], args := [d1, d2, d3, d4] }
  | _ => none }
def CalendarDatesWrongFalsely : Prop := calendarDatesRow.holds Tryd.pinned (OpenSpec.ofChange calendarDatesWrong)

/-- 'lotterylaw06.CalendarInverts': WHATEVER THE INPUT: true; the input reads as it did. -/
def calendarInvertsSpec : ChangeSpec := { name := "calendarInverts", fn := fun _ => fun
  | [d] => { results := [.lit (.bool true)], args := [d] }
  | _ => none }
def calendarInvertsRow : OpenClaim := { program := "ytjhkbgdjgiiocaadoor", sum := "db5685e3151275099746ad7f4db5a383f277435b835ab997abc08ed6e9ba1210", func := "lottery/lotterylaw06.CalendarInverts", spec := "calendarInverts", named := ["lottery/calendar.daysToMonth"], apart := false, laid := [("lottery/calendar.daysToMonth", laid_lottery_calendar_daysToMonth)] }
def CalendarInvertsSaid : Prop := calendarInvertsRow.holds Tryd.pinned (OpenSpec.ofChange calendarInvertsSpec)

/-- ITS FALSE NEIGHBOUR: 'it returns false'. Refute it at one input. -/
def calendarInvertsWrong : ChangeSpec := { name := "calendarInverts", fn := fun _ => fun
  | [d] => { results := [.lit (.bool false)], args := [d] }
  | _ => none }
def CalendarInvertsWrongFalsely : Prop := calendarInvertsRow.holds Tryd.pinned (OpenSpec.ofChange calendarInvertsWrong)

/-- 'lotterylaw06.CalendarAges': WHATEVER THE INPUT: true; the input reads as it did. -/
def calendarAgesSpec : ChangeSpec := { name := "calendarAges", fn := fun _ => fun
  | [d1, d2] => { results := [.lit (.bool true)], args := [d1, d2] }
  | _ => none }
def calendarAgesRow : OpenClaim := { program := "ytjhkbgdjgiiocaadoor", sum := "db5685e3151275099746ad7f4db5a383f277435b835ab997abc08ed6e9ba1210", func := "lottery/lotterylaw06.CalendarAges", spec := "calendarAges", named := ["lottery/calendar.daysToMonth"], apart := false, laid := [("lottery/calendar.daysToMonth", laid_lottery_calendar_daysToMonth)] }
def CalendarAgesSaid : Prop := calendarAgesRow.holds Tryd.pinned (OpenSpec.ofChange calendarAgesSpec)

/-- ITS FALSE NEIGHBOUR: 'it returns false'. Refute it at one input. -/
def calendarAgesWrong : ChangeSpec := { name := "calendarAges", fn := fun _ => fun
  | [d1, d2] => { results := [.lit (.bool false)], args := [d1, d2] }
  | _ => none }
def CalendarAgesWrongFalsely : Prop := calendarAgesRow.holds Tryd.pinned (OpenSpec.ofChange calendarAgesWrong)

/-- 'lotterylaw06.CalendarPeriods': WHATEVER THE INPUT: true; the input reads as it did. -/
def calendarPeriodsSpec : ChangeSpec := { name := "calendarPeriods", fn := fun _ => fun
  | [d1, d2] => { results := [.lit (.bool true)], args := [d1, d2] }
  | _ => none }
def calendarPeriodsRow : OpenClaim := { program := "ytjhkbgdjgiiocaadoor", sum := "db5685e3151275099746ad7f4db5a383f277435b835ab997abc08ed6e9ba1210", func := "lottery/lotterylaw06.CalendarPeriods", spec := "calendarPeriods", named := ["lottery/calendar.daysToMonth"], apart := false, laid := [("lottery/calendar.daysToMonth", laid_lottery_calendar_daysToMonth)] }
def CalendarPeriodsSaid : Prop := calendarPeriodsRow.holds Tryd.pinned (OpenSpec.ofChange calendarPeriodsSpec)

/-- ITS FALSE NEIGHBOUR: 'it returns false'. Refute it at one input. -/
def calendarPeriodsWrong : ChangeSpec := { name := "calendarPeriods", fn := fun _ => fun
  | [d1, d2] => { results := [.lit (.bool false)], args := [d1, d2] }
  | _ => none }
def CalendarPeriodsWrongFalsely : Prop := calendarPeriodsRow.holds Tryd.pinned (OpenSpec.ofChange calendarPeriodsWrong)

/-- 'lotterylaw06.CalendarParts': WHATEVER THE INPUT: true; the input reads as it did. -/
def calendarPartsSpec : ChangeSpec := { name := "calendarParts", fn := fun _ => fun
  | [d1, d2, d3] => { results := [.lit (.bool true)], args := [d1, d2, d3] }
  | _ => none }
def calendarPartsRow : OpenClaim := { program := "ytjhkbgdjgiiocaadoor", sum := "db5685e3151275099746ad7f4db5a383f277435b835ab997abc08ed6e9ba1210", func := "lottery/lotterylaw06.CalendarParts", spec := "calendarParts", named := ["lottery/calendar.daysToMonth"], apart := false, laid := [("lottery/calendar.daysToMonth", laid_lottery_calendar_daysToMonth)] }
def CalendarPartsSaid : Prop := calendarPartsRow.holds Tryd.pinned (OpenSpec.ofChange calendarPartsSpec)

/-- ITS FALSE NEIGHBOUR: 'it returns false'. Refute it at one input. -/
def calendarPartsWrong : ChangeSpec := { name := "calendarParts", fn := fun _ => fun
  | [d1, d2, d3] => { results := [.lit (.bool false)], args := [d1, d2, d3] }
  | _ => none }
def CalendarPartsWrongFalsely : Prop := calendarPartsRow.holds Tryd.pinned (OpenSpec.ofChange calendarPartsWrong)

/-- 'lotterylaw06.CalendarTexts': WHATEVER THE INPUT: true; the input reads as it did. -/
def calendarTextsSpec : ChangeSpec := { name := "calendarTexts", fn := fun _ => fun
  | [d1, d2] => { results := [.lit (.bool true)], args := [d1, d2] }
  | _ => none }
def calendarTextsRow : OpenClaim := { program := "ytjhkbgdjgiiocaadoor", sum := "db5685e3151275099746ad7f4db5a383f277435b835ab997abc08ed6e9ba1210", func := "lottery/lotterylaw06.CalendarTexts", spec := "calendarTexts", inPlace := ["internal/abi.NoEscape", "internal/bytealg.MakeNoZero"], named := ["lottery/calendar.daysToMonth", "internal/strconv.uint64pow10", "math/bits.deBruijn32tab", "math/bits.deBruijn64tab"], apart := false, laid := [("math/bits.deBruijn32tab", laid_math_bits_deBruijn32tab), ("math/bits.deBruijn64tab", laid_math_bits_deBruijn64tab), ("internal/strconv.uint64pow10", laid_internal_strconv_uint64pow10), ("lottery/calendar.daysToMonth", laid_lottery_calendar_daysToMonth)] }
def CalendarTextsSaid : Prop := calendarTextsRow.holds Tryd.pinned (OpenSpec.ofChange calendarTextsSpec)

/-- ITS FALSE NEIGHBOUR: 'it returns false'. Refute it at one input. -/
def calendarTextsWrong : ChangeSpec := { name := "calendarTexts", fn := fun _ => fun
  | [d1, d2] => { results := [.lit (.bool false)], args := [d1, d2] }
  | _ => none }
def CalendarTextsWrongFalsely : Prop := calendarTextsRow.holds Tryd.pinned (OpenSpec.ofChange calendarTextsWrong)

/- THE SECOND FORM. 'bulk': how many values and letters a reading holds, each counted each time it is reached (what is shared counts as often as it is met; a slice's spare places count too). A statement '..UptoSaid' is the law's where the arguments, and the package variables that the reading takes, are together of bulk at most 1048576: NARROWER than '..Said'. Prove '..Said' where nothing that the law and all that it calls make is longer than what came in: it says more and counts as full. Else prove '..UptoSaid'. A law counts once. -/
mutual
def uptoBulk {H : Type} : DataW H → Nat
  | .lit (.string bytes) => bytes.length + 1
  | .lit _ => 1
  | .nil => 1
  | .ptr d => uptoBulk d + 1
  | .slice elems spare => uptoBulkAll elems + uptoBulkAll spare + 1
  | .agg parts => uptoBulkAll parts + 1
  | .iface _ d => uptoBulk d + 1
  | .map entries => uptoBulkEntries entries + 1
  | .held _ => 1
def uptoBulkAll {H : Type} : List (DataW H) → Nat
  | [] => 0
  | d :: r => uptoBulk d + uptoBulkAll r
def uptoBulkEntries {H : Type} : List (Lit × DataW H) → Nat
  | [] => 0
  | x :: r => uptoBulkEntry x + uptoBulkEntries r
def uptoBulkEntry {H : Type} : Lit × DataW H → Nat
  | (.string bytes, d) => bytes.length + uptoBulk d + 1
  | (_, d) => uptoBulk d + 1
 end
def uptoSmall : (H : Type) → List (DataW H) → Bool := fun _ ds => decide (uptoBulkAll ds ≤ 1048576)
def OpenSpec.upto (s : _root_.Go.ChangeSpec) : _root_.Go.OpenSpec := { _root_.Go.OpenSpec.ofChange s with cond := some uptoSmall }

/-- 'lotterylaw06.CalendarDates', WHERE WHAT IT READS IS OF BULK AT MOST 1048576: true; the input reads as it did. -/
def calendarDatesUptoRow : OpenClaim := { program := "ytjhkbgdjgiiocaadoor", sum := "db5685e3151275099746ad7f4db5a383f277435b835ab997abc08ed6e9ba1210", func := "lottery/lotterylaw06.CalendarDates", spec := "calendarDates", named := ["lottery/calendar.daysToMonth"], apart := false, laid := [("lottery/calendar.daysToMonth", laid_lottery_calendar_daysToMonth)], narrowed := true }
def CalendarDatesUptoSaid : Prop := calendarDatesUptoRow.holds Tryd.pinned (OpenSpec.upto calendarDatesSpec)

/-- 'lotterylaw06.CalendarInverts', WHERE WHAT IT READS IS OF BULK AT MOST 1048576: true; the input reads as it did. -/
def calendarInvertsUptoRow : OpenClaim := { program := "ytjhkbgdjgiiocaadoor", sum := "db5685e3151275099746ad7f4db5a383f277435b835ab997abc08ed6e9ba1210", func := "lottery/lotterylaw06.CalendarInverts", spec := "calendarInverts", named := ["lottery/calendar.daysToMonth"], apart := false, laid := [("lottery/calendar.daysToMonth", laid_lottery_calendar_daysToMonth)], narrowed := true }
def CalendarInvertsUptoSaid : Prop := calendarInvertsUptoRow.holds Tryd.pinned (OpenSpec.upto calendarInvertsSpec)

/-- 'lotterylaw06.CalendarAges', WHERE WHAT IT READS IS OF BULK AT MOST 1048576: true; the input reads as it did. -/
def calendarAgesUptoRow : OpenClaim := { program := "ytjhkbgdjgiiocaadoor", sum := "db5685e3151275099746ad7f4db5a383f277435b835ab997abc08ed6e9ba1210", func := "lottery/lotterylaw06.CalendarAges", spec := "calendarAges", named := ["lottery/calendar.daysToMonth"], apart := false, laid := [("lottery/calendar.daysToMonth", laid_lottery_calendar_daysToMonth)], narrowed := true }
def CalendarAgesUptoSaid : Prop := calendarAgesUptoRow.holds Tryd.pinned (OpenSpec.upto calendarAgesSpec)

/-- 'lotterylaw06.CalendarPeriods', WHERE WHAT IT READS IS OF BULK AT MOST 1048576: true; the input reads as it did. -/
def calendarPeriodsUptoRow : OpenClaim := { program := "ytjhkbgdjgiiocaadoor", sum := "db5685e3151275099746ad7f4db5a383f277435b835ab997abc08ed6e9ba1210", func := "lottery/lotterylaw06.CalendarPeriods", spec := "calendarPeriods", named := ["lottery/calendar.daysToMonth"], apart := false, laid := [("lottery/calendar.daysToMonth", laid_lottery_calendar_daysToMonth)], narrowed := true }
def CalendarPeriodsUptoSaid : Prop := calendarPeriodsUptoRow.holds Tryd.pinned (OpenSpec.upto calendarPeriodsSpec)

/-- 'lotterylaw06.CalendarParts', WHERE WHAT IT READS IS OF BULK AT MOST 1048576: true; the input reads as it did. -/
def calendarPartsUptoRow : OpenClaim := { program := "ytjhkbgdjgiiocaadoor", sum := "db5685e3151275099746ad7f4db5a383f277435b835ab997abc08ed6e9ba1210", func := "lottery/lotterylaw06.CalendarParts", spec := "calendarParts", named := ["lottery/calendar.daysToMonth"], apart := false, laid := [("lottery/calendar.daysToMonth", laid_lottery_calendar_daysToMonth)], narrowed := true }
def CalendarPartsUptoSaid : Prop := calendarPartsUptoRow.holds Tryd.pinned (OpenSpec.upto calendarPartsSpec)

/-- 'lotterylaw06.CalendarTexts', WHERE WHAT IT READS IS OF BULK AT MOST 1048576: true; the input reads as it did. -/
def calendarTextsUptoRow : OpenClaim := { program := "ytjhkbgdjgiiocaadoor", sum := "db5685e3151275099746ad7f4db5a383f277435b835ab997abc08ed6e9ba1210", func := "lottery/lotterylaw06.CalendarTexts", spec := "calendarTexts", inPlace := ["internal/abi.NoEscape", "internal/bytealg.MakeNoZero"], named := ["lottery/calendar.daysToMonth", "internal/strconv.uint64pow10", "math/bits.deBruijn32tab", "math/bits.deBruijn64tab"], apart := false, laid := [("math/bits.deBruijn32tab", laid_math_bits_deBruijn32tab), ("math/bits.deBruijn64tab", laid_math_bits_deBruijn64tab), ("internal/strconv.uint64pow10", laid_internal_strconv_uint64pow10), ("lottery/calendar.daysToMonth", laid_lottery_calendar_daysToMonth)], narrowed := true }
def CalendarTextsUptoSaid : Prop := calendarTextsUptoRow.holds Tryd.pinned (OpenSpec.upto calendarTextsSpec)

end Rows
end Go.Proofs.YtjhkbgdjgiiocaaDoor
