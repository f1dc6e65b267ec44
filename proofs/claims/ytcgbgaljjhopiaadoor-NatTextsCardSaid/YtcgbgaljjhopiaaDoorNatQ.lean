/- nat.Format: the decimal digits of a number of any size. -/
import Derived.Test.YtcgbgaljjhopiaaDoorNatT
import Derived.Test.YtcgbgaljjhopiaaDoorNatH
import Derived.Test.YtcgbgaljjhopiaaDoorNatM
import Derived.Test.YtcgbgaljjhopiaaDoorGN
import Derived.Test.YtcgbgaljjhopiaaDoorMonText
import Derived.Lib.Repeat
namespace Go.Proofs.YtcgbgaljjhopiaaDoor
set_option maxRecDepth 20000
open Go.RowKit
set_option linter.unusedVariables false
set_option linter.unusedSimpArgs false
/-- The decimal text of a number. -/
def Nm.txt (x : Nat) : ByteArray := ⟨(Lib.decDigits x).toArray⟩
theorem Nm.txt_list (x : Nat) : (Nm.txt x).data.toList = Lib.decDigits x := rfl
theorem Nm.txt_size (x : Nat) : (Nm.txt x).size = (Lib.decDigits x).length := by rw [Lib.size_eq, Nm.txt_list]
theorem Nm.rep_one (c : UInt8) (k : Nat) : Lib.repeatL [c] k = List.replicate k c := by
  induction k with
  | zero => rfl
  | succ k ih => rw [Lib.repeatL, ih, List.replicate_succ]; rfl
theorem Nm.lt_digits {x n : Nat} (h : Nt.ln 4294967296 x ≤ n) : x < 10 ^ (10 * n + 1) := by
  have h1 := (Nt.ln_le_iff (B := 4294967296) (by omega)).1 h
  have h2 : 4294967296 ^ n ≤ (10 ^ 10) ^ n := Nat.pow_le_pow_left (by decide) n
  rw [← Nat.pow_mul] at h2
  have h3 : 10 ^ (10 * n) ≤ 10 ^ (10 * n + 1) := Nat.pow_le_pow_right (by omega) (by omega)
  omega
theorem Nm.txt_le {x n : Nat} (h : Nt.ln 4294967296 x ≤ n) : (Nm.txt x).size ≤ 10 * n + 1 := by
  rw [Nm.txt_size]; exact Nm.digits_len (by omega) (Nm.lt_digits h)
/-- The text of a number of two parts: the upper one, zeros, the lower one. -/
theorem Nm.txt_two {x : Nat} (hq : 0 < x / 1000000000) :
    Nm.txt (x / 1000000000) ++ (⟨(Lib.repeatL [48] (9 - (Nm.txt (x % 1000000000)).size)).toArray⟩ : ByteArray) ++ Nm.txt (x % 1000000000) = Nm.txt x := by
  have h := Nm.digits_two (q := x / 1000000000) (r := x % 1000000000) (k := 9) hq (by omega) (Nat.mod_lt _ (by omega))
  rw [show x / 1000000000 * 10 ^ 9 + x % 1000000000 = x by have := Nat.div_add_mod x 1000000000; omega] at h
  refine ByteArray.ext ?_
  rw [Nm.txt_size, Nm.rep_one]
  simp only [Nm.txt, ByteArray.data_append, List.append_toArray, h, List.append_assoc]
theorem isN_lit (w : World) (a : Int) (x : Nat) (ha : a = (x : Nat)) (h0 : 0 < x) (h1 : x < 4294967296) : IsN (w.alloc (.cells #[.int .u32 a] 32)) (w.alloc (.cells #[.int .u32 a] 32)).heap.size (some ⟨w.heap.size, 0, none⟩) 1 x :=
  ⟨digs_one w a (Nt.dg 4294967296 x) (by rw [dgw0]; omega), Nt.Len.eq (by omega) ⟨by omega, fun m hm => by
    obtain rfl : m = 0 := by omega
    simp; omega⟩⟩
theorem repeat_at (s : ByteArray) {v : Int} (c : Nat) (hv : v = (c : Nat)) (w : World) (hc : c ≤ 1000) (hs : s.size = 1) :
    Calls Tryd.prog 28 #[.string s, .int .i64 v] w fun e w' => e = .returned (.string ⟨(Lib.repeatL s.data.toList c).toArray⟩) ∧ Below w.heap.size w w' := by
  subst hv
  exact Tryd.strings_Repeat s c w (by omega) (by rw [hs]; omega)
theorem IsN.len {w : World} {B n x : Nat} {A : Option Addr} (h : IsN w B A n x) {k : Nat} (hx : x < 4294967296 ^ k) : n ≤ k := by rw [← h.l]; exact (Nt.ln_le_iff (by omega)).2 hx
theorem IsN.le {w W : World} {B B' n m x y : Nat} {A A' : Option Addr} (h : IsN w B A n x) (h' : IsN W B' A' m y) (hx : x ≤ y) : n ≤ m := by rw [← h.l, ← h'.l]; exact Nt.ln_mono (by omega) hx
def Said (x : Nat) (w : World) (e : Ending) (w' : World) : Prop := e = .returned (.string (Nm.txt x)) ∧ Below w.heap.size w w'
set_option maxHeartbeats 400000 in
theorem nat_decimal (k : Nat) : ∀ {x n c : Nat} {A : Option Addr} (w : World), x < k → IsN w w.heap.size A n x → n ≤ 64 → n ≤ c → Env w →
    Calls Tryd.prog 18 #[.slice A n c] w (Said x w) := by
  induction k with
  | zero => intro x n c A w hx; omega
  | succ k ih =>
    intro x n c A w hx h hn hc hE
    have h0 := isN_lit w 1000000000 1000000000 rfl (by omega) (by omega)
    have hb0 : Below w.heap.size w (w.alloc (.cells #[.int .u32 1000000000] 32)) := (Below.refl _ _).alloc (Nat.le_refl _) _
    have cd := nat_divide (c := c) (c' := 1) _ ((h.below hb0).more hb0.size) h0 (by omega) (by omega) hc (by omega)
    have HE := Lib.hid hE
    have HB := Lib.hid hb0
    have H := Lib.hid h
    have CD := Lib.hid cd
    clear h0 hb0 cd h hE
    go_enter Tryd.func18, Tryd.ntmps18
    go_wp2_with fail
    refine CD.out.mono ?_
    rintro e w1 ⟨A1, q, A2, r, rfl, hb1, hq, hr⟩
    have hq64 : q ≤ 64 := Nat.le_trans (hq.le H.out (Nat.div_le_self _ _)) hn
    obtain ⟨d, ed⟩ : ∃ d : Int, d = ((x % 1000000000 : Nat) : Int) := ⟨_, rfl⟩
    have d0 : 0 ≤ d := by omega
    have d1 : d < 1000000000 := by omega
    have B1 := Lib.hid (HB.out.trans (hb1.mono (by simp)))
    have r1 : r ≤ 1 := hr.len (by have := Nat.mod_lt x (show 1000000000 > 0 by omega); omega)
    have cl := nat_limb (c := r) (n := r) (A := A2) (f := Nt.dg 4294967296 (x % 1000000000)) 0 0 w1 hr.d (fun j hj => hr.out hj) (by omega) rfl
    rw [dgw0, show (x % 1000000000) % 4294967296 = x % 1000000000 by omega, ← ed] at cl
    have CL := Lib.hid cl
    have HQ := Lib.hid hq
    have ED := Lib.hid ed
    clear cl hq ed hr hb1
    go_wp2_with fail
    refine CL.out.mono ?_
    rintro e w' ⟨rfl, rfl⟩
    go_wp2_with fail
    refine (num_Format d (by omega) (by omega) _ (HE.out.on B1.out).here.1).mono ?_
    rintro e w2 ⟨rfl, hb2⟩
    have B2 := Lib.hid (B1.out.trans (hb2.mono B1.out.size))
    have Q2 := Lib.hid (HQ.out.on hb2)
    obtain ⟨D, eD⟩ : ∃ D : ByteArray, D = ⟨(Lib.itoa d).toArray⟩ := ⟨_, rfl⟩
    rw [← eD]
    have hD : D = Nm.txt (x % 1000000000) := by
      rw [eD, Mn.itoa_pos d0, show d.toNat = x % 1000000000 by have := ED.out; omega]; rfl
    have hD9 : D.size ≤ 9 := by rw [hD, Nm.txt_size]; exact Nm.digits_len (by omega) (Nat.mod_lt _ (by omega))
    have DD := Lib.hid hD
    clear eD hD hb2
    by_cases hz : x / 1000000000 = 0
    · have hq0 : q = 0 := by have := HQ.out.l; rw [hz, Nt.ln_zero] at this; exact this.symm
      have F : Hid (D = Nm.txt x) := by
        show _ = _
        rw [DD.out]; congr 1; have := Nat.div_add_mod x 1000000000; omega
      subst hq0
      clear hz
      go_wp2_with fail
      go_ret
      exact ⟨ret_str F.out, B2.out⟩
    · have hq0 : 0 < q := by
        rcases Nat.eq_zero_or_pos q with e | e
        · have := HQ.out.val; rw [e] at this; exact absurd this.symm hz
        · exact e
      have hq1 : ((q : Int) == 0) = false := by simp; omega
      have ci := ih (x := x / 1000000000) (c := q) w2 (by have := Nat.div_lt_self (n := x) (k := 1000000000) (by omega) (by omega); omega) Q2.out hq64 (Nat.le_refl _) (HE.out.on B2.out)
      have F : Hid (Nm.txt (x / 1000000000) ++ ⟨(Lib.repeatL [48] (9 - D.size)).toArray⟩ ++ D = Nm.txt x) := by
        show _ = _
        rw [DD.out]; exact Nm.txt_two (by omega)
      have CI := Lib.hid ci
      obtain ⟨U, eU⟩ : ∃ U : ByteArray, U = Nm.txt (x / 1000000000) := ⟨_, rfl⟩
      have hU : U.size ≤ 10 * 64 + 1 := by rw [eU]; exact Nm.txt_le (by rw [HQ.out.l]; exact hq64)
      obtain ⟨V, eV⟩ : ∃ V : ByteArray, V = ⟨(Lib.repeatL [48] (9 - D.size)).toArray⟩ := ⟨_, rfl⟩
      have hV : V.size ≤ 9 := by rw [eV, Lib.size_eq]; simp [Lib.repeatL_length]
      rw [← eU, ← eV] at F
      have CR : Hid (∀ W, Calls Tryd.prog 28 #[.string ⟨#[48]⟩, .int .i64 (9 - (D.size : Int))] W fun e w' => e = .returned (.string V) ∧ Below W.heap.size W w') := fun W => by
        have := repeat_at ⟨#[48]⟩ (v := 9 - (D.size : Int)) (9 - D.size) (by omega) W (by omega) rfl
        rw [show (⟨#[48]⟩ : ByteArray).data.toList = [48] from rfl, ← eV] at this
        exact this
      have EU := Lib.hid eU
      clear ci hz eU eV ih
      go_wp2_with fail
      refine CI.out.mono ?_
      rintro e w3 ⟨rfl, hb3⟩
      rw [← EU.out]
      have B3 := Lib.hid (B2.out.trans (hb3.mono B2.out.size))
      clear hb3
      go_wp2_with fail
      refine (CR.out _).mono ?_
      rintro e w4 ⟨rfl, hb4⟩
      have B4 := Lib.hid (B3.out.trans (hb4.mono B3.out.size))
      clear hb4
      go_wp2_with fail
      go_ret
      exact ⟨ret_str F.out, B4.out⟩
theorem nat_Format_bad {n c : Nat} {A : Option Addr} {f : Nat → Nat} (w : World) (h : Arg w A n c f) (hv : Nt.vd f n = false) :
    Calls Tryd.prog 7 #[.agg #[.slice A n c]] w fun e w' => e = .returned (.string ByteArray.empty) ∧ Below w.heap.size w w' := by
  have hb := (Below.refl w.heap.size w).alloc (Nat.le_refl _) (.cells #[.slice A n c] 24)
  have c1 := nat_Valid (c := c) _ (h.on hb).d h.big
  rw [hv] at c1
  have C1 := Lib.hid c1
  have HB := Lib.hid hb
  clear c1 hb h hv
  go_enter Tryd.func7, Tryd.ntmps7
  go_wp2_with fail
  refine C1.out.mono ?_
  rintro e w1 ⟨rfl, hb1⟩
  have B1 := Lib.hid (HB.out.trans (hb1.mono HB.out.size))
  clear hb1
  go_wp2_with fail
  go_ret
  exact ⟨rfl, B1.out⟩
theorem nat_Format {n c x : Nat} {A : Option Addr} (w : World) (h : IsN w w.heap.size A n x) (hn : n ≤ 64) (hc : n ≤ c) (hE : Env w) :
    Calls Tryd.prog 7 #[.agg #[.slice A n c]] w (Said x w) := by
  have k0 := (Kp.start w).box (.slice A n c)
  have c1 := nat_Valid_yes (c := c) _ (h.on k0.bel) hn
  have C1 := Lib.hid c1
  have K0 := Lib.hid k0
  have H := Lib.hid h
  have HE := Lib.hid hE
  clear c1 k0 h hE
  go_enter Tryd.func7, Tryd.ntmps7
  go_wp2_with fail
  refine C1.out.mono ?_
  rintro e w1 ⟨rfl, hb1⟩
  have K1 := Lib.hid (K0.out.call hb1)
  have x0 := (K1.out.b (w.heap.size, .slice A n c) (by simp)).cell
  clear hb1
  go_wp2_with fail
  refine (nat_decimal (x + 1) _ (Nat.lt_succ_self _) (H.out.on K1.out.bel) hn hc (HE.out.on K1.out.bel)).mono ?_
  rintro e w2 ⟨rfl, hb2⟩
  have B2 := Lib.hid (K1.out.bel.trans (hb2.mono K1.out.bel.size))
  clear hb2
  go_wp2_with fail
  go_ret
  exact ⟨rfl, B2.out⟩
end Go.Proofs.YtcgbgaljjhopiaaDoor
