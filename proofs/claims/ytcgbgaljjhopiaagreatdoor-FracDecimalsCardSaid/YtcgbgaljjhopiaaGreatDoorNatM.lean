/- What the laws' walks need besides. -/
import Derived.Test.YtcgbgaljjhopiaaGreatDoorNatL
namespace Go.Proofs.YtcgbgaljjhopiaaGreatDoor
set_option maxRecDepth 20000
open Go.RowKit
set_option linter.unusedVariables false
set_option linter.unusedSimpArgs false
theorem Nt.fits_mono {a b : Nat} (h : a ≤ b) (hb : Nt.fits b = true) : Nt.fits a = true := Nt.fits_iff.2 (Nat.le_trans (Nt.ln_mono (by omega) h) (Nt.fits_iff.1 hb))
theorem Nt.bv_fit {a : Nat} (h : Nt.fits a = true) : Nt.bv a = a := by simp [Nt.bv, h]
theorem Nt.be_fit {a : Nat} (h : Nt.fits a = true) : Nt.be a = 0 := by simp [Nt.be, h]
theorem IsN.fit {w : World} {B n x : Nat} {A : Option Addr} (h : IsN w B A n x) (hn : n ≤ 64) : Nt.fits x = true := Nt.fits_iff.2 (by rw [h.l]; exact hn)
section
variable {n c n' c' x y : Nat} {A A' : Option Addr}
theorem nat_Add_fit (w : World) (h : IsN w w.heap.size A n x) (hn : n ≤ 64) (h' : IsN w w.heap.size A' n' y) (hn' : n' ≤ 64) (hf : Nt.fits (x + y) = true) :
    Calls Tryz.prog 32 #[.agg #[.slice A n c], .agg #[.slice A' n' c']] w (NRes (x + y) 0 w) := by
  have := nat_Add_ok (c := c) (c' := c') w h h' hn hn'
  rwa [Nt.bv_fit hf, Nt.be_fit hf] at this
theorem nat_Mul_fit (w : World) (h : IsN w w.heap.size A n x) (hn : n ≤ 64) (h' : IsN w w.heap.size A' n' y) (hn' : n' ≤ 64) (hf : Nt.fits (x * y) = true) :
    Calls Tryz.prog 20 #[.agg #[.slice A n c], .agg #[.slice A' n' c']] w (NRes (x * y) 0 w) := by
  have := nat_Mul_ok (c := c) (c' := c') w h h' hn hn'
  rwa [Nt.bv_fit hf, Nt.be_fit hf] at this
theorem nat_Sub_back (w : World) (h : IsN w w.heap.size A n (x + y)) (hn : n ≤ 64) (hc : n ≤ c) (h' : IsN w w.heap.size A' n' x) (hn' : n' ≤ 64) :
    Calls Tryz.prog 34 #[.agg #[.slice A n c], .agg #[.slice A' n' c']] w (NRes y 0 w) := by
  have := nat_Sub_ok (c' := c') w h h' hn hn' hc (by omega)
  rwa [show x + y - x = y by omega] at this
theorem nat_Cmp_same (w : World) (h : IsN w w.heap.size A n x) (hn : n ≤ 64) (h' : IsN w w.heap.size A' n' x) (hn' : n' ≤ 64) :
    Calls Tryz.prog 40 #[.agg #[.slice A n c], .agg #[.slice A' n' c']] w fun e w' => e = .returned (.int .i64 0) ∧ Below w.heap.size w w' := by
  have := nat_Cmp_ok (c := c) (c' := c') w h h' hn hn'
  rwa [show Nt.cmpI (x : Nat) (x : Nat) = 0 by simp [Nt.cmpI]] at this
theorem nat_Cmp_less (w : World) (h : IsN w w.heap.size A n x) (hn : n ≤ 64) (h' : IsN w w.heap.size A' n' y) (hn' : n' ≤ 64) (hl : x < y) :
    Calls Tryz.prog 40 #[.agg #[.slice A n c], .agg #[.slice A' n' c']] w fun e w' => e = .returned (.int .i64 (-1)) ∧ Below w.heap.size w w' := by
  have := nat_Cmp_ok (c := c) (c' := c') w h h' hn hn'
  rwa [show Nt.cmpI (x : Nat) (y : Nat) = -1 by rw [Nt.cmpI, if_pos (by omega)]] at this
theorem IsN.on {w W : World} {A : Option Addr} {n x : Nat} (h : IsN w w.heap.size A n x) (hb : Below w.heap.size w W) : IsN W W.heap.size A n x := (h.below hb).more hb.size
theorem nat_Mul_to {z : Nat} (w : World) (h : IsN w w.heap.size A n x) (hn : n ≤ 64) (h' : IsN w w.heap.size A' n' y) (hn' : n' ≤ 64) (hf : Nt.fits (x * y) = true) (hz : x * y = z) :
    Calls Tryz.prog 20 #[.agg #[.slice A n c], .agg #[.slice A' n' c']] w (NRes z 0 w) := hz ▸ nat_Mul_fit w h hn h' hn' hf
theorem nat_Add_to {z : Nat} (w : World) (h : IsN w w.heap.size A n x) (hn : n ≤ 64) (h' : IsN w w.heap.size A' n' y) (hn' : n' ≤ 64) (hf : Nt.fits z = true) (hz : x + y = z) :
    Calls Tryz.prog 32 #[.agg #[.slice A n c], .agg #[.slice A' n' c']] w (NRes z 0 w) := by
  subst hz
  exact nat_Add_fit w h hn h' hn' hf
theorem nat_Sub_to {z : Nat} (w : World) (h : IsN w w.heap.size A n x) (hn : n ≤ 64) (hc : n ≤ c) (h' : IsN w w.heap.size A' n' y) (hn' : n' ≤ 64) (hz : y ≤ x ∧ x - y = z) :
    Calls Tryz.prog 34 #[.agg #[.slice A n c], .agg #[.slice A' n' c']] w (NRes z 0 w) := by
  obtain ⟨h1, rfl⟩ := hz
  exact nat_Sub_ok w h h' hn hn' hc h1
theorem nat_DivMod_exact (w : World) (h : IsN w w.heap.size A n x) (hn : n ≤ 64) (hc : n ≤ c) (h' : IsN w w.heap.size A' n' y) (hn' : n' ≤ 64) (hy : 0 < y) (hd : y ∣ x) :
    Calls Tryz.prog 79 #[.agg #[.slice A n c], .agg #[.slice A' n' c']] w (NRes2 (x / y) 0 0 w) := by
  have := nat_DivMod_ok (c' := c') w h h' hn hn' hc hy
  rwa [Nat.mod_eq_zero_of_dvd hd] at this
theorem nat_Valid_yes (w : World) (h : IsN w w.heap.size A n x) (hn : n ≤ 64) :
    Calls Tryz.prog 51 #[.agg #[.slice A n c]] w fun e w' => e = .returned (.bool true) ∧ Below w.heap.size w w' := by
  have := nat_Valid (c := c) w h.d (by omega)
  rwa [show Nt.vd (Nt.dg 4294967296 x) n = true by rw [h.vd]; simpa using hn] at this
end
end Go.Proofs.YtcgbgaljjhopiaaGreatDoor
