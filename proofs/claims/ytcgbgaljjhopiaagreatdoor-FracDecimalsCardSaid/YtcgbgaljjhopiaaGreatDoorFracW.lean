/- frac.Decimal for every argument; the reference's Decimal where it ends early. (Written by tools/frac15.py.) -/
import Derived.Test.YtcgbgaljjhopiaaGreatDoorFC
import Derived.Test.YtcgbgaljjhopiaaGreatDoorFracR
namespace Go.Proofs.YtcgbgaljjhopiaaGreatDoor
set_option maxRecDepth 20000
open Go.RowKit
set_option linter.unusedVariables false
set_option linter.unusedSimpArgs false
namespace Fr
/-- What Decimal answers of a fraction in lowest terms, for every number of places. -/
def decT (a b : Nat) (v : Int) : ByteArray × Int := if v < 0 ∨ 18 < v then (ByteArray.empty, 2) else if Nt.fits (a * 10 ^ v.toNat) then (decS (a * 10 ^ v.toNat / b) v.toNat, 0) else (ByteArray.empty, 9)
def decX (f : Nat → Nat) (n : Nat) (f' : Nat → Nat) (n' : Nat) (v : Int) : ByteArray × Int := if vld f n f' n' then decT (Nt.vl 4294967296 f n) (Nt.vl 4294967296 f' n') v else (ByteArray.empty, 2)
end Fr
section
variable {n c n' c' a b p : Nat} {A A' : Option Addr} {f f' : Nat → Nat}
theorem frac_Decimal_any (v : Int) (w : World) (h : FArg w A n c f A' n' c' f') (hE : Env w) :
    Calls Tryz.prog 6 #[.agg #[.slice A n c, .slice A' n' c'], .int .i64 v] w (TRes (Fr.decX f n f' n' v).1 (Fr.decX f n f' n' v).2 w) := by
  unfold Fr.decX
  cases hv : Fr.vld f n f' n'
  · exact frac_Decimal_bad v w h hv
  · have g := h.is hv
    rw [if_pos rfl]
    unfold Fr.decT
    by_cases h1 : v < 0
    · rw [if_pos (.inl h1)]; exact frac_Decimal_neg v w g h1
    · by_cases h2 : 18 < v
      · rw [if_pos (.inr h2)]; exact frac_Decimal_big v w g h2
      · rw [if_neg (by omega)]
        cases h3 : Nt.fits (Nt.vl 4294967296 f n * 10 ^ v.toNat)
        · exact frac_Decimal_over v w g (by omega) (by omega) hE h3
        · rw [if_pos rfl]
          by_cases h4 : v.toNat = 0
          · exact frac_Decimal_whole v w g (by omega) (by omega) hE h3 h4
          · exact frac_Decimal_parts v w g (by omega) (by omega) hE h3 (by omega)
theorem ref4_Decimal_bad (v : Int) (w : World) (h : FArg w A n c f A' n' c' f') (hv : Fr.vld f n f' n' = false) :
    Calls Tryz.prog 7 #[.agg #[.slice A n c, .slice A' n' c'], .int .i64 v] w (TRes ByteArray.empty 2 w) := by
  have v1 := fun W (hb : Below w.heap.size w W) => ref4_Valid_arg W (h.on hb)
  rw [hv] at v1
  have V1 := Lib.hid v1
  clear v1 hv h
  have k0 := (Ks.start w).box [.slice A n c, .slice A' n' c'] 26
  have K0 := Lib.hid k0
  clear k0
  go_enter Tryz.func7, Tryz.ntmps7
  go_wp2_with fail
  refine (V1.out _ K0.out.bel).mono ?_
  rintro e w1 ⟨rfl, B1⟩
  have k1 := K0.out.call B1
  have K1 := Lib.hid k1
  clear k1 B1 
  have x0_0 := K1.out.cell0 at0
  have x0_1 := K1.out.cell1 at0
  go_wp2_with fail
  go_ret2
  exact ⟨rfl, K1.out.bel⟩
theorem ref4_Decimal_neg (v : Int) (w : World) (h : FIs w A n c A' n' c' a b) (hv : v < 0) :
    Calls Tryz.prog 7 #[.agg #[.slice A n c, .slice A' n' c'], .int .i64 v] w (TRes ByteArray.empty 2 w) := by
  have V1 := Lib.hid fun W (hb : Below w.heap.size w W) => ref4_Valid_is W (h.on hb)
  clear h
  have k0 := (Ks.start w).box [.slice A n c, .slice A' n' c'] 26
  have K0 := Lib.hid k0
  clear k0
  go_enter Tryz.func7, Tryz.ntmps7
  go_wp2_with fail
  refine (V1.out _ K0.out.bel).mono ?_
  rintro e w1 ⟨rfl, B1⟩
  have k1 := K0.out.call B1
  have K1 := Lib.hid k1
  clear k1 B1 
  have x0_0 := K1.out.cell0 at0
  have x0_1 := K1.out.cell1 at0
  go_wp2_with fail
  go_ret2
  exact ⟨rfl, K1.out.bel⟩
theorem ref4_Decimal_big (v : Int) (w : World) (h : FIs w A n c A' n' c' a b) (hv : 18 < v) :
    Calls Tryz.prog 7 #[.agg #[.slice A n c, .slice A' n' c'], .int .i64 v] w (TRes ByteArray.empty 2 w) := by
  have V1 := Lib.hid fun W (hb : Below w.heap.size w W) => ref4_Valid_is W (h.on hb)
  clear h
  have hv0 : ¬ v < 0 := by omega
  have k0 := (Ks.start w).box [.slice A n c, .slice A' n' c'] 26
  have K0 := Lib.hid k0
  clear k0
  go_enter Tryz.func7, Tryz.ntmps7
  go_wp2_with fail
  refine (V1.out _ K0.out.bel).mono ?_
  rintro e w1 ⟨rfl, B1⟩
  have k1 := K0.out.call B1
  have K1 := Lib.hid k1
  clear k1 B1 
  have x0_0 := K1.out.cell0 at0
  have x0_1 := K1.out.cell1 at0
  go_wp2_with fail
  go_ret2
  exact ⟨rfl, K1.out.bel⟩
end
end Go.Proofs.YtcgbgaljjhopiaaGreatDoor
