/- Layer 6: texts of times: the reference's two, Format. -/
import Derived.Test.YtjhkbgdjgiiocaaDoorCalB
import Derived.Test.YtjhkbgdjgiiocaaDoorOwn
import Derived.Laws.BytesArg
namespace Go.Proofs.YtjhkbgdjgiiocaaDoor
set_option maxRecDepth 20000
open Go.RowKit
set_option linter.unusedVariables false
set_option linter.unusedSimpArgs false
namespace Cl
/-- A number below 100 with two digits. -/
def tw (n : Nat) : ByteArray := ⟨#[UInt8.ofNat (48 + n / 10), UInt8.ofNat (48 + n % 10)]⟩
theorem tw_size (n : Nat) : (tw n).size = 2 := rfl
/-- The text of a time. -/
def fmtS (t : Nat) : ByteArray :=
  tw (yr (t / 1440) / 100) ++ tw (yr (t / 1440) % 100) ++ ⟨#[45]⟩ ++ tw (mo (t / 1440)) ++ ⟨#[45]⟩ ++ tw (dy (t / 1440)) ++ ⟨#[32]⟩ ++ tw (t % 1440 / 60) ++ ⟨#[58]⟩ ++ tw (t % 60)
def fmtV (t : Int) : ByteArray := if ist t then fmtS t.toNat else ⟨#[]⟩
def fmtE (t : Int) : Int := if ist t then 0 else 2
end Cl
theorem ret_st {a b : ByteArray} (h : a = b) : Ending.returned (.string a) = .returned (.string b) := by rw [h]
theorem ret2_str {a b : ByteArray} {k : IntKind} {x y : Int} (h : a = b) (h' : x = y) : Ending.returned (.tuple #[.string a, .int k x]) = .returned (.tuple #[.string b, .int k y]) := by rw [h, h']
theorem ref6_two (n : Nat) (w : World) (hn : n ≤ 99) : Calls Tryd.prog 38 #[.int .i64 (n : Int)] w fun e w' => e = .returned (.string (Cl.tw n)) ∧ Below w.heap.size w w' := by
  obtain ⟨a, ea⟩ : ∃ a : Nat, a = n / 10 := ⟨_, rfl⟩
  obtain ⟨b, eb⟩ : ∃ b : Nat, b = n % 10 := ⟨_, rfl⟩
  have ha : (n : Int) / 10 = (a : Int) := by omega
  have hb : (n : Int) % 10 = (b : Int) := by omega
  have hb' : (n : Int).tmod 10 = (b : Int) := by rw [Int.tmod_eq_emod_of_nonneg (by omega)]; exact hb
  have a9 : a ≤ 9 := by omega
  have b9 : b ≤ 9 := by omega
  have E : Hid (strOfNums [48 + (a : Int), 48 + (b : Int)] = Cl.tw n) := by
    show _ = _
    unfold Cl.tw strOfNums
    rw [← ea, ← eb]
    have e1 : (48 + (a : Int)).toNat = 48 + a := by omega
    have e2 : (48 + (b : Int)).toNat = 48 + b := by omega
    simp [e1, e2]
  have cv := run_convert_bytes_arg (P := Tryd.prog) (w.alloc (.cells #[.int .u8 (48 + (a : Int)), .int .u8 (48 + (b : Int))] 5)) 53 5 rfl rfl w.heap.size 0 2 2 [48 + (a : Int), 48 + (b : Int)] rfl (fun i hi => by
    rw [cell_of_row _ _ _ _ _ _ (heap_alloc_new w _)]
    match i, hi with
    | 0, _ => rfl
    | 1, _ => rfl) 9 rfl
  clear ea eb
  go_enter Tryd.func38, Tryd.ntmps38
  go_wp2_with fail
  go_ret
  exact ⟨ret_st E.out, (Below.refl _ _).alloc (Nat.le_refl _) _⟩
set_option maxHeartbeats 1000000 in
theorem ref6_Format (t : Int) (w : World) : Calls Tryd.prog 21 #[.int .i64 t] w fun e w' => e = .returned (.tuple #[.string (Cl.fmtV t), .int .i64 (Cl.fmtE t)]) ∧ Below w.heap.size w w' := by
  cases hi : Cl.ist t
  · have I1 := Lib.hid fun W => ref6_isTime hi W
    have E1 : Hid ((⟨#[]⟩ : ByteArray) = Cl.fmtV t) := by show _ = _; rw [Cl.fmtV, hi]; rfl
    have E2 : Hid (2 = Cl.fmtE t) := by show _ = _; rw [Cl.fmtE, hi]; rfl
    clear hi
    go_enter Tryd.func21, Tryd.ntmps21
    go_wp2_with fail
    refine (I1.out _).mono ?_
    rintro e w' ⟨rfl, rfl⟩
    go_wp2_with fail
    go_ret2
    exact ⟨ret2_str E1.out E2.out, Below.refl _ _⟩
  · have I1 := Lib.hid fun W => ref6_isTime hi W
    obtain ⟨t0, t1⟩ := Cl.ist_iff.1 hi
    obtain ⟨T, rfl⟩ : ∃ T : Nat, t = (T : Int) := ⟨t.toNat, by omega⟩
    have E2 : Hid (0 = Cl.fmtE (T : Int)) := by show _ = _; rw [Cl.fmtE, hi]; rfl
    have hV : Cl.fmtV (T : Int) = Cl.fmtS T := by rw [Cl.fmtV, hi, Int.toNat_natCast]; rfl
    unfold Cl.fmtS at hV
    obtain ⟨d, ed⟩ : ∃ d, d = T / 1440 := ⟨_, rfl⟩
    rw [← ed] at hV
    have cc := fun W => ref6_Civil d W (by omega)
    obtain ⟨y, ey⟩ : ∃ y, y = Cl.yr d := ⟨_, rfl⟩
    obtain ⟨m, em⟩ : ∃ m, m = Cl.mo d := ⟨_, rfl⟩
    obtain ⟨q, eq⟩ : ∃ q, q = Cl.dy d := ⟨_, rfl⟩
    have hb := Cl.dy_bd d
    have hyb := Cl.yr_bd (n := d) (by omega)
    rw [← ey, ← em, ← eq] at cc
    rw [← ey, ← em, ← eq] at hV
    rw [← eq, ← em] at hb
    rw [← ey] at hyb
    obtain ⟨b1, b2, b3, b4⟩ := hb
    obtain ⟨b5, b6⟩ := hyb
    obtain ⟨c1, ec1⟩ : ∃ c, c = y / 100 := ⟨_, rfl⟩
    obtain ⟨c2, ec2⟩ : ∃ c, c = y % 100 := ⟨_, rfl⟩
    obtain ⟨h1, eh1⟩ : ∃ c, c = T % 1440 := ⟨_, rfl⟩
    obtain ⟨h2, eh2⟩ : ∃ c, c = h1 / 60 := ⟨_, rfl⟩
    obtain ⟨h3, eh3⟩ : ∃ c, c = T % 60 := ⟨_, rfl⟩
    rw [← ec1, ← ec2, ← eh1, ← eh2, ← eh3] at hV
    have f1 : (T : Int) / 1440 = (d : Int) := by omega
    have f2 : (y : Int) / 100 = (c1 : Int) := by omega
    have f3 : (y : Int) % 100 = (c2 : Int) := by omega
    have f4 : (T : Int) % 1440 = (h1 : Int) := by omega
    have f5 : (h1 : Int) / 60 = (h2 : Int) := by omega
    have f6 : (T : Int) % 60 = (h3 : Int) := by omega
    have CC := Lib.hid cc
    have W1 := Lib.hid fun W => ref6_two c1 W (by omega)
    have W2 := Lib.hid fun W => ref6_two c2 W (by omega)
    have W3 := Lib.hid fun W => ref6_two m W (by omega)
    have W4 := Lib.hid fun W => ref6_two q W (by omega)
    have W5 := Lib.hid fun W => ref6_two h2 W (by omega)
    have W6 := Lib.hid fun W => ref6_two h3 W (by omega)
    have s1 := Cl.tw_size c1
    have s2 := Cl.tw_size c2
    have s3 := Cl.tw_size m
    have s4 := Cl.tw_size q
    have s5 := Cl.tw_size h2
    have s6 := Cl.tw_size h3
    obtain ⟨a1, ea1⟩ : ∃ a, a = Cl.tw c1 := ⟨_, rfl⟩
    obtain ⟨a2, ea2⟩ : ∃ a, a = Cl.tw c2 := ⟨_, rfl⟩
    obtain ⟨a3, ea3⟩ : ∃ a, a = Cl.tw m := ⟨_, rfl⟩
    obtain ⟨a4, ea4⟩ : ∃ a, a = Cl.tw q := ⟨_, rfl⟩
    obtain ⟨a5, ea5⟩ : ∃ a, a = Cl.tw h2 := ⟨_, rfl⟩
    obtain ⟨a6, ea6⟩ : ∃ a, a = Cl.tw h3 := ⟨_, rfl⟩
    rw [← ea1, ← ea2, ← ea3, ← ea4, ← ea5, ← ea6] at hV
    rw [← ea1] at W1 s1
    rw [← ea2] at W2 s2
    rw [← ea3] at W3 s3
    rw [← ea4] at W4 s4
    rw [← ea5] at W5 s5
    rw [← ea6] at W6 s6
    have E1 := Lib.hid hV
    clear hi hV ed ey em eq ec1 ec2 eh1 eh2 eh3 ea1 ea2 ea3 ea4 ea5 ea6 cc
    go_enter Tryd.func21, Tryd.ntmps21
    go_wp2_with fail
    refine (I1.out _).mono ?_
    rintro e w' ⟨rfl, rfl⟩
    go_wp2_with fail
    refine (CC.out _).mono ?_
    rintro e w1 ⟨rfl, B1⟩
    have K1 := Lib.hid B1
    clear B1
    go_wp2_with fail
    refine (W1.out _).mono ?_
    rintro e w2 ⟨rfl, B2⟩
    have K2 := Lib.hid (K1.out.trans (B2.mono K1.out.size))
    clear B2
    go_wp2_with fail
    refine (W2.out _).mono ?_
    rintro e w3 ⟨rfl, B3⟩
    have K3 := Lib.hid (K2.out.trans (B3.mono K2.out.size))
    clear B3
    go_wp2_with fail
    refine (W3.out _).mono ?_
    rintro e w4 ⟨rfl, B4⟩
    have K4 := Lib.hid (K3.out.trans (B4.mono K3.out.size))
    clear B4
    go_wp2_with fail
    refine (W4.out _).mono ?_
    rintro e w5 ⟨rfl, B5⟩
    have K5 := Lib.hid (K4.out.trans (B5.mono K4.out.size))
    clear B5
    go_wp2_with fail
    refine (W5.out _).mono ?_
    rintro e w6 ⟨rfl, B6⟩
    have K6 := Lib.hid (K5.out.trans (B6.mono K5.out.size))
    clear B6
    go_wp2_with fail
    refine (W6.out _).mono ?_
    rintro e w7 ⟨rfl, B7⟩
    have K7 := Lib.hid (K6.out.trans (B7.mono K6.out.size))
    clear B7
    go_wp2_with fail
    go_ret2
    exact ⟨ret2_str E1.out.symm E2.out, K7.out⟩
end Go.Proofs.YtjhkbgdjgiiocaaDoor
