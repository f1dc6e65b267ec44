/- nat.Parse: texts that are too long, and texts that are no numbers. -/
import Derived.Test.YtcgbgaljjhopiaaDoorNatX
import Derived.Test.YtcgbgaljjhopiaaDoorNatY
namespace Go.Proofs.YtcgbgaljjhopiaaDoor
set_option maxRecDepth 20000
open Go.RowKit
set_option linter.unusedVariables false
set_option linter.unusedSimpArgs false
theorem nat_Parse_long (s : ByteArray) (hs : s.size ≤ 281474976710656) (w : World) (hl : 620 < s.size) :
    Calls Tryd.prog 4 #[.string s] w (NRes 0 3 w) := by
  have hb0 := (Below.refl w.heap.size w).alloc (Nat.le_refl _) (.cells #[.slice none 0 0] 24)
  have HB0 := Lib.hid hb0
  have hl2 : (620 : Int) < (s.size : Int) := by omega
  clear hb0
  go_enter Tryd.func4, Tryd.ntmps4
  go_wp2_with fail
  refine bodyPost_ret (v := .tuple #[.agg #[.slice none 0 0], .int .i64 3]) (by simp [results, Tryd.results4, go_sem]) rfl ?_
  exact ⟨none, 0, 0, rfl, HB0.out, IsN.zero, by omega, by omega⟩
theorem nat_Parse_bad (s : ByteArray) (w : World) (hl : s.size ≤ 620) (hd : Nm.decU s.data.toList = false) :
    Calls Tryd.prog 4 #[.string s] w (NRes 0 1 w) := by
  have hb0 := (Below.refl w.heap.size w).alloc (Nat.le_refl _) (.cells #[.slice none 0 0] 24)
  have HB0 := Lib.hid hb0
  have cd := fun W => nat_isDecimal s (by omega) W
  rw [hd] at cd
  have CD := Lib.hid cd
  have hl2 : (s.size : Int) ≤ 620 := by omega
  clear hb0 cd hd
  go_enter Tryd.func4, Tryd.ntmps4
  go_wp2_with fail
  refine (CD.out _).mono ?_
  rintro e w' ⟨rfl, rfl⟩
  go_wp2_with fail
  refine bodyPost_ret (v := .tuple #[.agg #[.slice none 0 0], .int .i64 1]) (by simp [results, Tryd.results4, go_sem]) rfl ?_
  exact ⟨none, 0, 0, rfl, HB0.out, IsN.zero, by omega, by omega⟩
end Go.Proofs.YtcgbgaljjhopiaaDoor
