/- The examples of layer 1's chapter: the statements' own check of them returns true, in every world in which the library's table of powers of ten and its error variable read as they were laid. -/
import Derived.Test.YtckimajnhdefcaaDoorNumR
import Derived.Test.YtckimajnhdefcaaDoorNumP
import Derived.Test.YtckimajnhdefcaaDoorNumF
namespace Go.Proofs.YtckimajnhdefcaaDoor
open Go.RowKit

/-- What the package-level variables hold, now and behind whatever turns nothing of what is there. -/
def Env (w : World) : Prop := ∀ w', Below w.heap.size w w' → Lib.TabIs Tryd.prog w' "internal/strconv.uint64pow10" .u64 Lib.pow10Tab ∧ ErrVar 3 w'
theorem Env.here {w : World} (h : Env w) : Lib.TabIs Tryd.prog w "internal/strconv.uint64pow10" .u64 Lib.pow10Tab ∧ ErrVar 3 w := h w (Below.refl _ _)
theorem Env.on {w w1 : World} (h : Env w) (hb : Below w.heap.size w w1) : Env w1 := fun w' h' => h w' (below_then hb h')
theorem env_mk {w : World} (ht : Lib.TabIs Tryd.prog w "internal/strconv.uint64pow10" .u64 Lib.pow10Tab) (he : ErrVar 3 w) : Env w := fun w' hb =>
  ⟨Lib.tabBelow_of_tabIs ht w' hb, by
    obtain ⟨ev, h1, h2⟩ := he
    exact ⟨ev, by rw [hb.cell (p := ⟨3, 0, none⟩) (Lib.lt_of_cell h1)]; exact h1, h2⟩⟩

def minus12 : ByteArray := ⟨#[45, 49, 50]⟩
def zeros7 : ByteArray := ⟨#[48, 48, 55]⟩
theorem aw_par1 : Nm.parV minus12.data.toList = -12 ∧ Nm.parE minus12.data.toList = 0 := by decide
theorem aw_par2 : Nm.parE zeros7.data.toList = 1 := by decide
theorem aw_fmt : (⟨(Lib.itoa (-12)).toArray⟩ : ByteArray) = ⟨#[45, 49, 50]⟩ := by
  have e : Lib.itoa (-12) = [45, 49, 50] := by
    rw [Lib.itoa, if_pos (by decide), show (-12 : Int).natAbs = 12 from rfl, Lib.decDigits, dif_neg (by decide), Lib.decDigits, dif_pos (by decide)]; rfl
  rw [e]
theorem aw_pow : Nm.powV (-2097152) 3 = -9223372036854775808 ∧ Nm.powE (-2097152) 3 = 0 := by decide
theorem aw_gcd : Nm.gcdV 12 (-18) = 6 := by decide
theorem aw_md : Nm.mdQ 7 3 2 = 10 ∧ Nm.mdR 7 3 2 = 1 ∧ Nm.mdE 7 3 2 = 0 := by decide
theorem aw_add : Nm.cv (9223372036854775807 + 1) = 0 ∧ Nm.ce (9223372036854775807 + 1) = 9 := by decide
theorem aw_sub : Nm.cv (-9223372036854775808 - -1) = -9223372036854775807 ∧ Nm.ce (-9223372036854775808 - -1) = 0 := by decide
theorem aw_mul : Nm.cv (-9223372036854775808 * -1) = 0 ∧ Nm.ce (-9223372036854775808 * -1) = 9 := by decide

end Go.Proofs.YtckimajnhdefcaaDoor
