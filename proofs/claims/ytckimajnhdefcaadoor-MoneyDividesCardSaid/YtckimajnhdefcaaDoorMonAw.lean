/- The examples of layer 2's chapter: the statements' own check of them returns true, in every world in which the library's table of powers of ten and its error variable read as they were laid. And what both splits leave, said alike. -/
import Derived.Test.YtckimajnhdefcaaDoorMonG
import Derived.Test.YtckimajnhdefcaaDoorMonU
import Derived.Test.YtckimajnhdefcaaDoorMonC
namespace Go.Proofs.YtckimajnhdefcaaDoor
open Go.RowKit

/-- What a split leaves: the parts; of what was there nothing has turned. -/
def Split2 (m : Int) (zs : List Int) (n : Nat) (w : World) (e : Ending) (w' : World) : Prop :=
  ∃ A c, e = .returned (.tuple #[.slice A n c, .int .i64 0]) ∧ Below w.heap.size w w' ∧ Ints w' w'.heap.size A n (Mn.parts m zs)
theorem money_Split_ok {n c : Nat} {A : Option Addr} {zs : List Int} (m : Int) (w : World) (h : Ints w w.heap.size A n zs) (hE : Mn.twE m zs = 0) :
    Calls Tryd.prog 22 #[.int .i64 m, .slice A n c] w (Split2 m zs n w) :=
  (money_Split_yes m w h hE).mono fun _ _ ⟨he, hb, hr⟩ => ⟨_, n, he, hb, by
    have := hr.ints hr.lt
    rw [Mn.parts_len, h.len] at this
    exact this⟩
theorem ref2_Split_ok {n c : Nat} {A : Option Addr} {zs : List Int} (m : Int) (w : World) (h : Ints w w.heap.size A n zs) (hE : Mn.twE m zs = 0) :
    Calls Tryd.prog 23 #[.int .i64 m, .slice A n c] w (Split2 m zs n w) :=
  (ref2_Split_yes m w h hE).mono fun _ _ ⟨_, cap, he, hb, ho⟩ => ⟨_, cap, he, hb, ho.ints⟩

theorem row_lit (w : World) (xs : List Int) : Row (w.alloc (.cells (xs.map (Value.int .i64)).toArray 3)) w.heap.size xs := by
  have h := World.rowIs_alloc w (xs.map (Value.int .i64)).toArray 3 (fun i => .int .i64 (xs.getD i 0)) (fun i hi => by
    have h2 : i < xs.length := by simpa using hi
    simp [List.getD, h2])
  unfold Row
  simpa using h
theorem ints_lit (w : World) (xs : List Int) : Ints (w.alloc (.cells (xs.map (Value.int .i64)).toArray 3)) (w.alloc (.cells (xs.map (Value.int .i64)).toArray 3)).heap.size (some ⟨w.heap.size, 0, none⟩) xs.length xs :=
  (row_lit w xs).ints (by simp)

def t1234 : ByteArray := ⟨#[49, 50, 46, 51, 52]⟩
theorem aw2_split : Mn.parts 10 [1, 2, 4] = [1, 3, 6] ∧ Mn.twE 10 [1, 2, 4] = 0 := by decide
theorem aw2_parse : Mn.mparV t1234.data.toList = 1234 ∧ Mn.mparE t1234.data.toList = 0 := by decide
theorem aw2_round : Mn.rdQ 1234 100 = 1200 ∧ Mn.rdR 1234 100 = 34 ∧ Mn.rdE 1234 100 = 0 := by decide
theorem aw2_format : Mn.mfmtS 1234 = ⟨#[49, 50, 46, 51, 52]⟩ := by
  have e : Lib.decDigits 12 = [49, 50] := by
    rw [Lib.decDigits, dif_neg (by decide), Lib.decDigits, dif_pos (by decide)]; rfl
  rw [Mn.mfmtS, show Mn.vld 1234 = true by decide, if_pos rfl, Mn.mfmt, show ((1234 : Int) / 100).toNat = 12 by decide, e]; rfl
theorem aw2_valid : Mn.vld 5 = true := by decide

theorem law2_awake (w : World) (hE : Env w) :
    Calls Tryd.prog 11 #[] w fun e w' => e = .returned (.bool true) ∧ Below w.heap.size w w' := by
  have HE := Lib.hid hE
  clear hE
  have i1 := ints_lit w [1, 2, 4]
  have c1 := money_Split_ok (c := 3) 10 _ i1 aw2_split.2
  have hb0 : Below w.heap.size w (w.alloc (.cells #[.int .i64 1, .int .i64 2, .int .i64 4] 3)) := (Below.refl _ _).alloc (Nat.le_refl _) _
  have C1 := Lib.hid c1
  have HB0 := Lib.hid hb0
  clear i1 c1 hb0
  go_enter Tryd.func11, Tryd.ntmps11
  go_wp2_with fail
  refine C1.out.mono ?_
  rintro e w1 ⟨A, c, rfl, hb1, hi1⟩
  rw [aw2_split.1] at hi1
  have hb1 := HB0.out.trans (hb1.mono (by simp))
  have HI1 := Lib.hid hi1
  have HB1 := Lib.hid hb1
  clear hi1 hb1
  go_wp2_with fail
  refine (money_Parse t1234 (by decide) w1 (HE.out.on HB1.out).here.2).mono ?_
  rw [aw2_parse.1, aw2_parse.2]
  rintro e w2 ⟨rfl, hb2⟩
  have HI2 := Lib.hid ((HI1.out.below hb2).more hb2.size)
  have HB2 := Lib.hid (HB1.out.trans (hb2.mono HB1.out.size))
  clear hb2
  go_wp2_with fail
  refine (money_Round 1234 100 w2).mono ?_
  rw [aw2_round.1, aw2_round.2.1, aw2_round.2.2]
  rintro e w' ⟨rfl, rfl⟩
  have i2 := ints_lit w2 [1, 3, 6]
  have hb3 : Below w2.heap.size w2 (w2.alloc (.cells #[.int .i64 1, .int .i64 3, .int .i64 6] 3)) := (Below.refl _ _).alloc (Nat.le_refl _) _
  have c2 := law2_same (c := c) (c' := 3) _ (HI2.out.below hb3) i2 (by decide) rfl
  have C2 := Lib.hid c2
  have HB3 := Lib.hid (HB2.out.trans (hb3.mono HB2.out.size))
  clear i2 hb3 c2
  go_wp2_with fail
  refine C2.out.mono ?_
  rintro e w3 ⟨rfl, dk, rfl⟩
  have HB4 := Lib.hid (HB3.out.trans (below_draws _ _ dk))
  go_wp2_with fail
  refine (money_Format 1234 _ (HE.out.on HB4.out)).mono ?_
  rw [aw2_format]
  rintro e w4 ⟨rfl, hb4⟩
  have HB5 := Lib.hid (HB4.out.trans (hb4.mono HB4.out.size))
  clear hb4
  go_wp2_with fail
  refine (money_Valid 5 w4).mono ?_
  rw [aw2_valid]
  rintro e w' ⟨rfl, rfl⟩
  go_wp2_with fail
  go_ret
  exact ⟨rfl, HB5.out⟩

/-- The statements' helper: q times n plus r is m. -/
theorem law2_total (q n r m : Int) (q0 : 0 ≤ q) (n0 : 0 ≤ n) (r0 : 0 ≤ r) (hq : q ≤ 9223372036854775807) (hn : n ≤ 9223372036854775807) (h : q * n + r = m) (hm : m ≤ 1000000000000) (w : World) :
    Calls Tryd.prog 26 #[.int .i64 q, .int .i64 n, .int .i64 r, .int .i64 m] w fun e w' => e = .returned (.bool true) ∧ w = w' := by
  have p0 := Int.mul_nonneg q0 n0
  have c1 := fun w => ref_Mul q n (by omega) (by omega) (by omega) (by omega) w
  obtain ⟨p, ep⟩ : ∃ p, p = q * n := ⟨_, rfl⟩
  rw [← ep] at p0 h
  have e1 : Nm.cv (q * n) = p := by rw [← ep]; exact Nm.cv_in (by omega)
  have e2 : Nm.ce (q * n) = 0 := by rw [← ep]; exact Nm.ce_in (by omega)
  have c2 := fun w => ref_Add p r (by omega) (by omega) (by omega) (by omega) w
  rw [h] at c2
  rw [Nm.cv_in (by omega), Nm.ce_in (by omega)] at c2
  rw [e1, e2] at c1
  have C1 := Lib.hid c1
  have C2 := Lib.hid c2
  clear c1 c2 e1 e2 ep h
  go_enter Tryd.func26, Tryd.ntmps26
  go_wp2_with (first | (go_at_call 41; refine (C1.out _).mono ?_; rintro e w' ⟨rfl, rfl⟩) | (go_at_call 42; refine (C2.out _).mono ?_; rintro e w' ⟨rfl, rfl⟩))
  go_ret
  exact ⟨rfl, rfl⟩
end Go.Proofs.YtckimajnhdefcaaDoor
