/- The examples of layer 1's chapter: the statements' own check of them returns true, in every world in which the library's table of powers of ten and its error variable read as they were laid. -/
import Derived.Test.YtdgficnpppilfaaDoorNumR
import Derived.Test.YtdgficnpppilfaaDoorNumP
import Derived.Test.YtdgficnpppilfaaDoorNumF
namespace Go.Proofs.YtdgficnpppilfaaDoor
open Go.RowKit

/-- What the package-level variables hold, now and behind whatever turns nothing of what is there. -/
def Env (w : World) : Prop := ∀ w', Below w.heap.size w w' → Lib.TabIs Tryd.prog w' "internal/strconv.uint64pow10" .u64 Lib.pow10Tab ∧ ErrVar 3 w'
theorem Env.here {w : World} (h : Env w) : Lib.TabIs Tryd.prog w "internal/strconv.uint64pow10" .u64 Lib.pow10Tab ∧ ErrVar 3 w := h w (Below.refl _ _)
theorem Env.on {w w1 : World} (h : Env w) (hb : Below w.heap.size w w1) : Env w1 := fun w' h' => h w' (below_then hb h')
theorem env_mk {w : World} (ht : Lib.TabIs Tryd.prog w "internal/strconv.uint64pow10" .u64 Lib.pow10Tab) (he : ErrVar 3 w) : Env w := fun w' hb =>
  ⟨Lib.tabBelow_of_tabIs ht w' hb, by
    obtain ⟨ev, h1, h2⟩ := he
    exact ⟨ev, by rw [hb.cell (p := ⟨3, 0, none⟩) (Lib.lt_of_cell h1)]; exact h1, h2⟩⟩

def minus12 : ByteArray := ⟨#[45, 49, 50]⟩
def zeros7 : ByteArray := ⟨#[48, 48, 55]⟩
theorem aw_par1 : Nm.parV minus12.data.toList = -12 ∧ Nm.parE minus12.data.toList = 0 := by decide
theorem aw_par2 : Nm.parE zeros7.data.toList = 1 := by decide
theorem aw_fmt : (⟨(Lib.itoa (-12)).toArray⟩ : ByteArray) = ⟨#[45, 49, 50]⟩ := by
  have e : Lib.itoa (-12) = [45, 49, 50] := by
    rw [Lib.itoa, if_pos (by decide), show (-12 : Int).natAbs = 12 from rfl, Lib.decDigits, dif_neg (by decide), Lib.decDigits, dif_pos (by decide)]; rfl
  rw [e]
theorem aw_pow : Nm.powV (-2097152) 3 = -9223372036854775808 ∧ Nm.powE (-2097152) 3 = 0 := by decide
theorem aw_gcd : Nm.gcdV 12 (-18) = 6 := by decide
theorem aw_md : Nm.mdQ 7 3 2 = 10 ∧ Nm.mdR 7 3 2 = 1 ∧ Nm.mdE 7 3 2 = 0 := by decide
theorem aw_add : Nm.cv (9223372036854775807 + 1) = 0 ∧ Nm.ce (9223372036854775807 + 1) = 9 := by decide
theorem aw_sub : Nm.cv (-9223372036854775808 - -1) = -9223372036854775807 ∧ Nm.ce (-9223372036854775808 - -1) = 0 := by decide
theorem aw_mul : Nm.cv (-9223372036854775808 * -1) = 0 ∧ Nm.ce (-9223372036854775808 * -1) = 9 := by decide

theorem law_awake (w : World) (hE : Env w) :
    Calls Tryd.prog 18 #[] w fun e w' => e = .returned (.bool true) ∧ Below w.heap.size w w' := by
  go_enter Tryd.func18, Tryd.ntmps18
  go_wp2_with fail
  refine (num_Add 9223372036854775807 1 (by omega) (by omega) (by omega) (by omega) _).mono ?_
  rw [aw_add.1, aw_add.2]
  rintro e w' ⟨rfl, rfl⟩
  go_wp2_with fail
  refine (num_Sub (-9223372036854775808) (-1) (by omega) (by omega) (by omega) (by omega) _).mono ?_
  rw [aw_sub.1, aw_sub.2]
  rintro e w' ⟨rfl, rfl⟩
  go_wp2_with fail
  refine (num_Mul (-9223372036854775808) (-1) (by omega) (by omega) (by omega) (by omega) _).mono ?_
  rw [aw_mul.1, aw_mul.2]
  rintro e w' ⟨rfl, rfl⟩
  go_wp2_with fail
  refine (num_MulDiv 7 3 2 (by omega) (by omega) (by omega) (by omega) (by omega) (by omega) _).mono ?_
  rw [aw_md.1, aw_md.2.1, aw_md.2.2]
  rintro e w1 ⟨rfl, hb1⟩
  go_wp2_with fail
  refine (num_Power (-2097152) 3 (by omega) (by omega) _).mono ?_
  rw [aw_pow.1, aw_pow.2]
  rintro e w' ⟨rfl, rfl⟩
  go_wp2_with fail
  refine (num_Parse minus12 (by decide) w1 (hE.on hb1).here.2).mono ?_
  rw [aw_par1.1, aw_par1.2]
  rintro e w2 ⟨rfl, hb2⟩
  have hb2 := below_then hb1 hb2
  go_wp2_with fail
  refine (num_Parse zeros7 (by decide) w2 (hE.on hb2).here.2).mono ?_
  rw [aw_par2]
  rintro e w3 ⟨rfl, hb3⟩
  have hb3 := below_then hb2 hb3
  go_wp2_with fail
  refine (num_GCD 12 (-18) (by omega) (by omega) (by omega) (by omega) _).mono ?_
  rw [aw_gcd]
  rintro e w4 ⟨rfl, hb4⟩
  have hb4 := below_then hb3 hb4
  go_wp2_with fail
  refine (num_Format (-12) (by omega) (by omega) _ (hE.on hb4).here.1).mono ?_
  rw [aw_fmt]
  rintro e w5 ⟨rfl, hb5⟩
  have hb5 := below_then hb4 hb5
  go_wp2_with fail
  go_ret
  exact ⟨rfl, hb5⟩
end Go.Proofs.YtdgficnpppilfaaDoor
