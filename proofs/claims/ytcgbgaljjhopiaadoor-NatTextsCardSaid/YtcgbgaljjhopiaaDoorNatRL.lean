/- Format and Parse for every argument; the texts of numbers of up to 64 limbs. (Written by tools/nat17.py.) -/
import Derived.Test.YtcgbgaljjhopiaaDoorNatRK
import Derived.Test.YtcgbgaljjhopiaaDoorNatRJ
namespace Go.Proofs.YtcgbgaljjhopiaaDoor
set_option maxRecDepth 20000
open Go.RowKit
set_option linter.unusedVariables false
set_option linter.unusedSimpArgs false
namespace Nm
theorem pow_gen (p : Nat) : (2 : Nat) ^ (53 * p + 34) ≤ 10 ^ (16 * p + 11) := by
  rw [Nat.pow_add, Nat.pow_add, Nat.pow_mul, Nat.pow_mul]
  exact Nat.mul_le_mul (Nat.pow_le_pow_left (by decide) p) (by decide)
theorem txt_620 {x : Nat} (h : Nt.ln 4294967296 x ≤ 64) : (Lib.decDigits x).length ≤ 620 := by
  obtain ⟨m, hm⟩ : ∃ m, m = 64 := ⟨_, rfl⟩
  obtain ⟨p, hp⟩ : ∃ p, p = 38 := ⟨_, rfl⟩
  have h1 : x < 4294967296 ^ m := (Nt.ln_le_iff (by omega)).1 (by omega)
  have h2 : (4294967296 : Nat) ^ m = 2 ^ (53 * p + 34) := by
    rw [show (4294967296 : Nat) = 2 ^ 32 by decide, ← Nat.pow_mul, show 32 * m = 53 * p + 34 by omega]
  have h4 : x < 10 ^ (16 * p + 11) := by
    rw [h2] at h1
    exact Nat.lt_of_lt_of_le h1 (pow_gen p)
  have := Nm.digits_len (by omega) h4
  omega
theorem txt_7 : Nm.txt 7 = ⟨#[55]⟩ := by
  show (⟨(Lib.decDigits 7).toArray⟩ : ByteArray) = _
  rw [Lib.decDigits, dif_pos (by omega)]; rfl
theorem parN_txt {x : Nat} (h : Nt.ln 4294967296 x ≤ 64) : parN (Nm.txt x).data.toList = (x, 0) := by
  have e : (Nm.txt x).data.toList = Lib.decDigits x := Nm.txt_list x
  have hf : Nt.fits x = true := Nt.fits_iff.2 h
  rw [e, parN_ok (by have := txt_620 h; omega) (Nm.decU_digits x), Nm.val_digits, Nt.bv, Nt.be, hf]; rfl
/-- A text that Parse accepts is the text of its number. -/
theorem parN_back {s : ByteArray} (h : (parN s.data.toList).2 = 0) : Nm.txt (parN s.data.toList).1 = s ∧ Nt.ln 4294967296 (parN s.data.toList).1 ≤ 64 := by
  by_cases hl : 620 < s.data.toList.length
  · rw [parN_long hl] at h; exact absurd h (by decide)
  · cases hd : decU s.data.toList
    · rw [parN_bad hl hd] at h; exact absurd h (by decide)
    · rw [parN_ok hl hd] at h ⊢
      cases hf : Nt.fits (val 0 s.data.toList)
      · rw [Nt.be, hf] at h; exact absurd (show (9 : Int) = 0 from h) (by decide)
      · rw [Nt.bv, hf]
        refine ⟨?_, Nt.fits_iff.1 hf⟩
        show (⟨(Lib.decDigits (val 0 s.data.toList)).toArray⟩ : ByteArray) = s
        rw [digits_val _ _ rfl hd]
theorem parN_few (l : List UInt8) : Nt.ln 4294967296 (parN l).1 ≤ 64 := by
  by_cases hl : 620 < l.length
  · rw [parN_long hl, Nt.ln_zero]; omega
  · cases hd : decU l
    · rw [parN_bad hl hd, Nt.ln_zero]; omega
    · rw [parN_ok hl hd]
      cases hf : Nt.fits (val 0 l)
      · rw [Nt.bv, hf]; show Nt.ln _ 0 ≤ 64; rw [Nt.ln_zero]; omega
      · rw [Nt.bv, hf]; exact Nt.fits_iff.1 hf
end Nm
/-- What Format answers of a list of limbs. -/
def Nt.fmt (f : Nat → Nat) (n : Nat) : ByteArray := if Nt.vd f n then Nm.txt (Nt.vl 4294967296 f n) else ByteArray.empty
section
variable {n c : Nat} {A : Option Addr} {f : Nat → Nat}
theorem Arg.isN_of {w : World} (h : Arg w A n c f) (hv : Nt.vd f n = true) : IsN w w.heap.size A n (Nt.vl 4294967296 f n) ∧ n ≤ 64 ∧ n ≤ c := ⟨h.isN hv, (Nt.vd_iff.1 hv).1, h.cap⟩
theorem nat_Format_any (w : World) (h : Arg w A n c f) (hE : Env w) :
    Calls Tryd.prog 7 #[.agg #[.slice A n c]] w fun e w' => e = .returned (.string (Nt.fmt f n)) ∧ Below w.heap.size w w' := by
  unfold Nt.fmt
  cases hv : Nt.vd f n
  · exact nat_Format_bad w h hv
  · obtain ⟨h1, h2, h3⟩ := h.isN_of hv
    exact nat_Format w h1 h2 h3 hE
theorem ref3_Format_any (w : World) (h : Arg w A n c f) :
    Calls Tryd.prog 8 #[.agg #[.slice A n c]] w fun e w' => e = .returned (.string (Nt.fmt f n)) ∧ Below w.heap.size w w' := by
  unfold Nt.fmt
  cases hv : Nt.vd f n
  · have c1 := fun W (hb : Below w.heap.size w W) => ref3_Valid (c := c) W (h.on hb).d h.big
    rw [hv] at c1
    have C1 := Lib.hid c1
    have HB := Lib.hid ((Below.refl w.heap.size w).alloc (Nat.le_refl _) (.cells #[.slice A n c] 24))
    clear c1 h hv
    go_enter Tryd.func8, Tryd.ntmps8
    go_wp2_with fail
    refine (C1.out _ HB.out).mono ?_
    rintro e w1 ⟨rfl, hb1⟩
    have B1 := Lib.hid (HB.out.trans (hb1.mono HB.out.size))
    clear hb1
    go_wp2_with fail
    go_ret
    exact ⟨rfl, B1.out⟩
  · obtain ⟨h1, h2, h3⟩ := h.isN_of hv
    exact ref3_Format w h1 h2
end
end Go.Proofs.YtcgbgaljjhopiaaDoor
