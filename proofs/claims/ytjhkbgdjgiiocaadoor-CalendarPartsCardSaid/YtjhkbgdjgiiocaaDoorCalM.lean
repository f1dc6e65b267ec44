/- Layer 6, the project's package calendar: padded, Format. -/
import Derived.Test.YtjhkbgdjgiiocaaDoorCalK
import Derived.Test.YtjhkbgdjgiiocaaDoorGN
import Derived.Lib.Repeat
import Derived.Lib.ItoaNum
namespace Go.Proofs.YtjhkbgdjgiiocaaDoor
set_option maxRecDepth 20000
open Go.RowKit
set_option linter.unusedVariables false
set_option linter.unusedSimpArgs false
namespace Cl
theorem itoa_1 {n : Nat} (h : n < 10) : Lib.itoa (n : Int) = [UInt8.ofNat (48 + n)] := by
  rw [Lib.itoa, if_neg (by omega), Int.toNat_natCast, Lib.decDigits, dif_pos h]
theorem dec_2 {n : Nat} (h : 10 ≤ n) (h' : n < 100) : Lib.decDigits n = [UInt8.ofNat (48 + n / 10), UInt8.ofNat (48 + n % 10)] := by
  rw [Lib.decDigits, dif_neg (by omega), Lib.decDigits, dif_pos (by omega)]; rfl
theorem itoa_2 {n : Nat} (h : 10 ≤ n) (h' : n < 100) : Lib.itoa (n : Int) = [UInt8.ofNat (48 + n / 10), UInt8.ofNat (48 + n % 10)] := by
  rw [Lib.itoa, if_neg (by omega), Int.toNat_natCast, dec_2 h h']
theorem itoa_4 {n : Nat} (h : 1000 ≤ n) (h' : n < 10000) : Lib.itoa (n : Int) = [UInt8.ofNat (48 + n / 100 / 10), UInt8.ofNat (48 + n / 100 % 10), UInt8.ofNat (48 + n % 100 / 10), UInt8.ofNat (48 + n % 100 % 10)] := by
  rw [Lib.itoa, if_neg (by omega), Int.toNat_natCast, Lib.decDigits, dif_neg (by omega), Lib.decDigits, dif_neg (by omega), show n / 10 / 10 = n / 100 by omega, dec_2 (by omega) (by omega), show n / 10 % 10 = n % 100 / 10 by omega, show n % 10 = n % 100 % 10 by omega]; rfl
/-- A year with four digits. -/
def tw4 (n : Nat) : ByteArray := tw (n / 100) ++ tw (n % 100)
theorem pad_1 {n : Nat} (h : n < 10) : (⟨(Lib.repeatL [48] 1).toArray⟩ : ByteArray) ++ ⟨(Lib.itoa (n : Int)).toArray⟩ = tw n := by
  rw [itoa_1 h]
  unfold tw
  rw [show n / 10 = 0 by omega, show n % 10 = n by omega]
  rfl
theorem pad_2 {n : Nat} (h : 10 ≤ n) (h' : n < 100) : (⟨(Lib.repeatL [48] 0).toArray⟩ : ByteArray) ++ ⟨(Lib.itoa (n : Int)).toArray⟩ = tw n := by
  rw [itoa_2 h h']
  rfl
theorem pad_4 {n : Nat} (h : 1000 ≤ n) (h' : n < 10000) : (⟨(Lib.repeatL [48] 0).toArray⟩ : ByteArray) ++ ⟨(Lib.itoa (n : Int)).toArray⟩ = tw4 n := by
  rw [itoa_4 h h']
  rfl
end Cl
/-- The library's table of powers of ten reads as it was laid, now and behind whatever turns nothing of what is there. -/
def PEnv (w : World) : Prop := ∀ w', Below w.heap.size w w' → Lib.TabIs Tryd.prog w' "internal/strconv.uint64pow10" .u64 Lib.pow10Tab
theorem PEnv.here {w : World} (h : PEnv w) : Lib.TabIs Tryd.prog w "internal/strconv.uint64pow10" .u64 Lib.pow10Tab := h w (Below.refl _ _)
theorem PEnv.on {w w1 : World} (h : PEnv w) (hb : Below w.heap.size w w1) : PEnv w1 := fun w' h' => h w' (bth hb h')
theorem penv_mk {w : World} (ht : Lib.TabIs Tryd.prog w "internal/strconv.uint64pow10" .u64 Lib.pow10Tab) : PEnv w := fun w' hb => Lib.tabBelow_of_tabIs ht w' hb
theorem cal_rep {v : Int} (c : Nat) (hv : v = (c : Nat)) (w : World) (hc : c ≤ 1000) :
    Calls Tryd.prog 46 #[.string ⟨#[48]⟩, .int .i64 v] w fun e w' => e = .returned (.string ⟨(Lib.repeatL [48] c).toArray⟩) ∧ Below w.heap.size w w' := by
  subst hv
  exact Tryd.strings_Repeat ⟨#[48]⟩ c w (by omega) (by rw [show (⟨#[48]⟩ : ByteArray).size = 1 from rfl]; omega)
theorem cal_padded {n k c z : Nat} {r : ByteArray} (w : World) (hT : PEnv w) (hn : n ≤ 9999) (hz : (Lib.itoa (n : Int)).length = z) (hk : k ≤ 4) (hc : k = z + c) (hr : (⟨(Lib.repeatL [48] c).toArray⟩ : ByteArray) ++ ⟨(Lib.itoa (n : Int)).toArray⟩ = r) :
    Calls Tryd.prog 37 #[.int .i64 (n : Int), .int .i64 (k : Int)] w fun e w' => e = .returned (.string r) ∧ Below w.heap.size w w' := by
  have B0 := Lib.hid (Below.refl w.heap.size w)
  have C1 := Lib.hid (num_Format (n : Int) (by omega) (by omega) w hT.here)
  have C2 := Lib.hid fun W (v : Int) (hv : v = (c : Nat)) => cal_rep c hv W (by omega)
  obtain ⟨x, ex⟩ : ∃ x, x = (⟨(Lib.itoa (n : Int)).toArray⟩ : ByteArray) := ⟨_, rfl⟩
  obtain ⟨y, ey⟩ : ∃ y, y = (⟨(Lib.repeatL [48] c).toArray⟩ : ByteArray) := ⟨_, rfl⟩
  have hx : x.size = z := by rw [ex, ← hz]; exact Array.size_eq_length_toList.trans (by simp)
  have hy : y.size = c := by rw [ey]; show (Lib.repeatL [48] c).toArray.size = _; rw [List.size_toArray, Lib.repeatL_length]; simp
  rw [← ex] at C1 hr
  rw [← ey] at C2 hr
  have F := Lib.hid hr
  have f1 : (k : Int) - (x.size : Int) = (c : Nat) := by omega
  clear ex ey hr hz
  go_enter Tryd.func37, Tryd.ntmps37
  go_wp2_with fail
  refine C1.out.mono ?_
  rintro e w1 ⟨rfl, B1⟩
  have K1 := Lib.hid B1
  clear B1
  go_wp2_with fail
  refine (C2.out _ _ (by omega)).mono ?_
  rintro e w2 ⟨rfl, B2⟩
  have K2 := Lib.hid (bth K1.out B2)
  clear B2
  go_wp2_with fail
  go_ret
  exact ⟨ret_st F.out, K2.out⟩
theorem cal_pad2 (n : Nat) (w : World) (hT : PEnv w) (hn : n ≤ 99) : Calls Tryd.prog 37 #[.int .i64 (n : Int), .int .i64 2] w fun e w' => e = .returned (.string (Cl.tw n)) ∧ Below w.heap.size w w' := by
  by_cases h : n < 10
  · exact cal_padded (k := 2) (c := 1) (z := 1) w hT (by omega) (by rw [Cl.itoa_1 h]; rfl) (by omega) (by omega) (Cl.pad_1 h)
  · exact cal_padded (k := 2) (c := 0) (z := 2) w hT (by omega) (by rw [Cl.itoa_2 (by omega) (by omega)]; rfl) (by omega) (by omega) (Cl.pad_2 (by omega) (by omega))
theorem cal_pad4 (n : Nat) (w : World) (hT : PEnv w) (hn : 1000 ≤ n) (hn' : n ≤ 9999) : Calls Tryd.prog 37 #[.int .i64 (n : Int), .int .i64 4] w fun e w' => e = .returned (.string (Cl.tw4 n)) ∧ Below w.heap.size w w' :=
  cal_padded (k := 4) (c := 0) (z := 4) w hT (by omega) (by rw [Cl.itoa_4 (by omega) (by omega)]; rfl) (by omega) (by omega) (Cl.pad_4 (by omega) (by omega))
set_option maxHeartbeats 1000000 in
theorem cal_Format (t : Int) (w : World) (hE : CEnv w) (hT : PEnv w) : Calls Tryd.prog 20 #[.int .i64 t] w fun e w' => e = .returned (.tuple #[.string (Cl.fmtV t), .int .i64 (Cl.fmtE t)]) ∧ Below w.heap.size w w' := by
  cases hi : Cl.ist t
  · have I1 := Lib.hid fun W => cal_isTime hi W
    have E1 : Hid ((⟨#[]⟩ : ByteArray) = Cl.fmtV t) := by show _ = _; rw [Cl.fmtV, hi]; rfl
    have E2 : Hid (2 = Cl.fmtE t) := by show _ = _; rw [Cl.fmtE, hi]; rfl
    clear hi
    go_enter Tryd.func20, Tryd.ntmps20
    go_wp2_with fail
    refine (I1.out _).mono ?_
    rintro e w' ⟨rfl, rfl⟩
    go_wp2_with fail
    go_ret2
    exact ⟨ret2_str E1.out E2.out, Below.refl _ _⟩
  · have I1 := Lib.hid fun W => cal_isTime hi W
    obtain ⟨t0, t1⟩ := Cl.ist_iff.1 hi
    obtain ⟨T, rfl⟩ : ∃ T : Nat, t = (T : Int) := ⟨t.toNat, by omega⟩
    have E2 : Hid (0 = Cl.fmtE (T : Int)) := by show _ = _; rw [Cl.fmtE, hi]; rfl
    have hV : Cl.fmtV (T : Int) = Cl.fmtS T := by rw [Cl.fmtV, hi, Int.toNat_natCast]; rfl
    unfold Cl.fmtS at hV
    obtain ⟨d, ed⟩ : ∃ d, d = T / 1440 := ⟨_, rfl⟩
    rw [← ed] at hV
    have cc := cal_dateOf d w hE (by omega)
    obtain ⟨y, ey⟩ : ∃ y, y = Cl.yr d := ⟨_, rfl⟩
    obtain ⟨m, em⟩ : ∃ m, m = Cl.mo d := ⟨_, rfl⟩
    obtain ⟨q, eq⟩ : ∃ q, q = Cl.dy d := ⟨_, rfl⟩
    have hb := Cl.dy_bd d
    have hyb := Cl.yr_bd (n := d) (by omega)
    rw [← ey, ← em, ← eq] at cc
    rw [← ey, ← em, ← eq] at hV
    rw [← eq, ← em] at hb
    rw [← ey] at hyb
    obtain ⟨b1, b2, b3, b4⟩ := hb
    obtain ⟨b5, b6⟩ := hyb
    obtain ⟨h1, eh1⟩ : ∃ c, c = T % 1440 := ⟨_, rfl⟩
    obtain ⟨h2, eh2⟩ : ∃ c, c = h1 / 60 := ⟨_, rfl⟩
    obtain ⟨h3, eh3⟩ : ∃ c, c = T % 60 := ⟨_, rfl⟩
    rw [← eh1, ← eh2, ← eh3, show Cl.tw (y / 100) ++ Cl.tw (y % 100) = Cl.tw4 y from rfl] at hV
    have f1 : (T : Int) / 1440 = (d : Int) := by omega
    have f4 : (T : Int) % 1440 = (h1 : Int) := by omega
    have f5 : (h1 : Int) / 60 = (h2 : Int) := by omega
    have f6 : (h1 : Int) % 60 = (h3 : Int) := by omega
    have CC := Lib.hid cc
    have W1 := Lib.hid fun W (hW : Below w.heap.size w W) => cal_pad4 y W (hT.on hW) (by omega) (by omega)
    have W3 := Lib.hid fun W (hW : Below w.heap.size w W) => cal_pad2 m W (hT.on hW) (by omega)
    have W4 := Lib.hid fun W (hW : Below w.heap.size w W) => cal_pad2 q W (hT.on hW) (by omega)
    have W5 := Lib.hid fun W (hW : Below w.heap.size w W) => cal_pad2 h2 W (hT.on hW) (by omega)
    have W6 := Lib.hid fun W (hW : Below w.heap.size w W) => cal_pad2 h3 W (hT.on hW) (by omega)
    have s1 : (Cl.tw4 y).size = 4 := rfl
    have s3 := Cl.tw_size m
    have s4 := Cl.tw_size q
    have s5 := Cl.tw_size h2
    have s6 := Cl.tw_size h3
    obtain ⟨a1, ea1⟩ : ∃ a, a = Cl.tw4 y := ⟨_, rfl⟩
    obtain ⟨a3, ea3⟩ : ∃ a, a = Cl.tw m := ⟨_, rfl⟩
    obtain ⟨a4, ea4⟩ : ∃ a, a = Cl.tw q := ⟨_, rfl⟩
    obtain ⟨a5, ea5⟩ : ∃ a, a = Cl.tw h2 := ⟨_, rfl⟩
    obtain ⟨a6, ea6⟩ : ∃ a, a = Cl.tw h3 := ⟨_, rfl⟩
    rw [← ea1, ← ea3, ← ea4, ← ea5, ← ea6] at hV
    rw [← ea1] at W1 s1
    rw [← ea3] at W3 s3
    rw [← ea4] at W4 s4
    rw [← ea5] at W5 s5
    rw [← ea6] at W6 s6
    have E1 := Lib.hid hV
    have B0 := Lib.hid (Below.refl w.heap.size w)
    clear hi hV ed ey em eq eh1 eh2 eh3 ea1 ea3 ea4 ea5 ea6 cc
    go_enter Tryd.func20, Tryd.ntmps20
    go_wp2_with fail
    refine (I1.out _).mono ?_
    rintro e w' ⟨rfl, rfl⟩
    go_wp2_with fail
    refine CC.out.mono ?_
    rintro e w' ⟨rfl, rfl⟩
    go_wp2_with fail
    refine (W1.out _ B0.out).mono ?_
    rintro e w2 ⟨rfl, B2⟩
    have K2 := Lib.hid B2
    clear B2
    go_wp2_with fail
    refine (W3.out _ K2.out).mono ?_
    rintro e w4 ⟨rfl, B4⟩
    have K4 := Lib.hid (bth K2.out B4)
    clear B4
    go_wp2_with fail
    refine (W4.out _ K4.out).mono ?_
    rintro e w5 ⟨rfl, B5⟩
    have K5 := Lib.hid (bth K4.out B5)
    clear B5
    go_wp2_with fail
    refine (W5.out _ K5.out).mono ?_
    rintro e w6 ⟨rfl, B6⟩
    have K6 := Lib.hid (bth K5.out B6)
    clear B6
    go_wp2_with fail
    refine (W6.out _ K6.out).mono ?_
    rintro e w7 ⟨rfl, B7⟩
    have K7 := Lib.hid (bth K6.out B7)
    clear B7
    go_wp2_with fail
    go_ret2
    exact ⟨ret2_str E1.out.symm E2.out, K7.out⟩
end Go.Proofs.YtjhkbgdjgiiocaaDoor
