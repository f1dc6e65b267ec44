/- The reference's Parse of every text. (Written by tools/nat16.py.) -/
import Derived.Test.YtcgbgaljjhopiaaDoorNatRE
import Derived.Test.YtcgbgaljjhopiaaDoorNatW
import Derived.Test.YtcgbgaljjhopiaaDoorNatP
import Derived.Deep.Cut
import Derived.Deep.CutRange
import Derived.Deep.RegionHeld3
namespace Go.Proofs.YtcgbgaljjhopiaaDoor
set_option maxRecDepth 20000
open Go.RowKit
set_option linter.unusedVariables false
set_option linter.unusedSimpArgs false
namespace Nm
/-- What Parse answers of a text, the number and the error. -/
def parN (l : List UInt8) : Nat × Int := if 620 < l.length then (0, 3) else if decU l then (Nt.bv (val 0 l), Nt.be (val 0 l)) else (0, 1)
theorem parN_long {l : List UInt8} (h : 620 < l.length) : parN l = (0, 3) := if_pos h
theorem parN_bad {l : List UInt8} (h : ¬ 620 < l.length) (hd : decU l = false) : parN l = (0, 1) := by rw [parN, if_neg h, hd]; rfl
theorem parN_ok {l : List UInt8} (h : ¬ 620 < l.length) (hd : decU l = true) : parN l = (Nt.bv (val 0 l), Nt.be (val 0 l)) := by rw [parN, if_neg h, hd]; rfl
/-- How many halves the number of so many digits has at most. -/
theorem val_halves {l : List UInt8} (h : l.all isDig = true) (hl : l.length ≤ 620) : Nt.ln 65536 (val 0 l) ≤ 155 := by
  obtain ⟨m, hm⟩ : ∃ m, m = 155 := ⟨_, rfl⟩
  rw [← hm]
  refine (Nt.ln_le_iff (by omega)).2 ?_
  have h1 := val_lt l 0 h
  have h2 : 10 ^ l.length ≤ 10 ^ (4 * m) := Nat.pow_le_pow_right (by omega) (by omega)
  have h3 : 10 ^ (4 * m) = (10 ^ 4) ^ m := Nat.pow_mul 10 4 m
  have h4 : (10 ^ 4) ^ m ≤ 65536 ^ m := Nat.pow_le_pow_left (by decide) m
  have h5 : val 0 l < 10 ^ l.length := by rw [Nat.zero_add, Nat.one_mul] at h1; exact h1
  exact Nat.lt_of_lt_of_le h5 (Nat.le_trans h2 (h3 ▸ h4))
end Nm
/-- A block that is a row of one int. -/
def LitH (W : World) (g : Nat) (v : Int) : Prop := W.heap[g]? = some (.cells #[.int .i64 v] 3 (0, 0))
section
variable {w W W' : World} {g d x N : Nat} {v : Int}
theorem lit_new (hg : g = W.heap.size) : LitH (W.alloc (.cells #[.int .i64 v] 3)) g v := by subst hg; exact heap_alloc_new W _
theorem lit_neq {u : Int} (hu : u = v) (hg : g = W.heap.size) : LitH (W.alloc (.cells #[.int .i64 u] 3)) g v := by subst hu; exact lit_new hg
theorem LitH.lt (h : LitH W g v) : g < W.heap.size := lt_of_block h
theorem LitH.below (h : LitH W g v) (hb : Below W.heap.size W W') : LitH W' g v := (hb.block g h.lt).trans h
theorem lit_al {o : Obj} (h : LitH W g v) : LitH (W.alloc o) g v := h.below ((Below.refl _ _).alloc (Nat.le_refl _) _)
theorem lit_dr (h : LitH W g v) : LitH W.drew g v := h
theorem LitH.digs (h : LitH W g v) (hv : v = (d : Nat)) : Digs W W.heap.size .i64 (some ⟨g, 0, none⟩) 1 (fun _ => d) := fun _ => ⟨_, rfl, h.lt, fun j hj => by
  obtain rfl : j = 0 := by omega
  rw [add0, ← hv]
  exact cell_of_one h⟩
theorem LitH.isH (h : LitH W g v) (hv : v = (x : Nat)) (h0 : 0 < x) (h1 : x < 65536) : IsH W W.heap.size (some ⟨g, 0, none⟩) 1 x := by
  have hl : Nt.ln 65536 x = 1 := Nt.Len.eq (by omega) ⟨by omega, fun m hm => by
    obtain rfl : m = 0 := by omega
    simp; omega⟩
  refine ⟨(h.digs hv).congr fun j hj => ?_, hl⟩
  obtain rfl : j = 0 := by omega
  simp [Nt.dg]; omega
theorem bl_al {o : Obj} (h : Below w.heap.size w W) : Below w.heap.size w (W.alloc o) := h.alloc h.size o
theorem bthen (h : Below w.heap.size w W) (h' : Below W.heap.size W W') : Below w.heap.size w W' := h.trans (h'.mono h.size)
theorem trim_lit (h : Digs W W.heap.size .i64 (some ⟨g, 0, none⟩) 1 (fun _ => d)) (hd : d < 65536) : IsH W W.heap.size (some ⟨g, 0, none⟩) (Nt.tl (fun _ => d) 1) d := by
  have := h.isH_tl (fun _ _ => hd)
  rwa [Nt.vl_one] at this
end
/-- What the round of Parse leaves in its row. -/
def OutH (x : Nat) (W0 : World) (s : Value) (wx : World) : Prop := ∃ A n c, s = .slice A n c ∧ Below W0.heap.size W0 wx ∧ IsH wx wx.heap.size A n x ∧ n ≤ c ∧ c ≤ 9223372036854775807
theorem ref3_Parse_long (s : ByteArray) (hs : s.size ≤ 281474976710656) (w : World) (hl : 620 < s.size) :
    Calls Tryd.prog 5 #[.string s] w (NRes 0 3 w) := by
  have hb0 := (Below.refl w.heap.size w).alloc (Nat.le_refl _) (.cells #[.slice none 0 0] 24)
  have HB0 := Lib.hid hb0
  have hl2 : (620 : Int) < (s.size : Int) := by omega
  clear hb0
  go_enter Tryd.func5, Tryd.ntmps5
  go_wp2_with fail
  refine bodyPost_ret (v := .tuple #[.agg #[.slice none 0 0], .int .i64 3]) (by simp [results, Tryd.results5, go_sem]) rfl ?_
  exact ⟨none, 0, 0, rfl, HB0.out, IsN.zero, by omega, by omega⟩
theorem ref3_Parse_empty (s : ByteArray) (w : World) (he : s.data.toList = []) :
    Calls Tryd.prog 5 #[.string s] w (NRes 0 1 w) := by
  have hb0 := (Below.refl w.heap.size w).alloc (Nat.le_refl _) (.cells #[.slice none 0 0] 24)
  have HB0 := Lib.hid hb0
  have hsz : s.size = 0 := by rw [Lib.size_eq, he]; rfl
  have hl2 : (s.size : Int) ≤ 620 := by omega
  have hE : s.toList.isEmpty = true := by rw [Lib.toList_data, he]; rfl
  clear hb0 he
  go_enter Tryd.func5, Tryd.ntmps5
  go_wp2_with fail
  refine bodyPost_ret (v := .tuple #[.agg #[.slice none 0 0], .int .i64 1]) (by simp [results, Tryd.results5, go_sem]) rfl ?_
  exact ⟨none, 0, 0, rfl, HB0.out, IsN.zero, by omega, by omega⟩
theorem ref3_Parse_lead (s : ByteArray) (w : World) (hl : s.size ≤ 620) (hpos : 0 < s.size) (he : s.toList.isEmpty = false) (h0 : ((s[0].toNat : Int) == 48) = true) (h1 : 1 < s.size) :
    Calls Tryd.prog 5 #[.string s] w (NRes 0 1 w) := by
  have hb0 := (Below.refl w.heap.size w).alloc (Nat.le_refl _) (.cells #[.slice none 0 0] 24)
  have HB0 := Lib.hid hb0
  have hl2 : (s.size : Int) ≤ 620 := by omega
  clear hb0
  go_enter Tryd.func5, Tryd.ntmps5
  go_wp2_with fail
  refine bodyPost_ret (v := .tuple #[.agg #[.slice none 0 0], .int .i64 1]) (by simp [results, Tryd.results5, go_sem]) rfl ?_
  exact ⟨none, 0, 0, rfl, HB0.out, IsN.zero, by omega, by omega⟩
theorem bthen' {w W W' : World} (h : Below w.heap.size w W) (h' : Below W.heap.size W W') : Below w.heap.size w W' := bthen h h'
theorem bl_al' {w W : World} {o : Obj} (h : Below w.heap.size w W) : Below w.heap.size w (W.alloc o) := bl_al h
set_option maxHeartbeats 2000000 in
theorem ref3_Parse_one (s : ByteArray) (w : World) (hl : s.size ≤ 620) (hpos : 0 < s.size) (he : s.toList.isEmpty = false) (h0 : ((s[0].toNat : Int) == 48) = true) (h1 : ¬ 1 < s.size) (F : Hid (s.data.toList.all Nm.isDig = Nm.decU s.data.toList)) :
    Calls Tryd.prog 5 #[.string s] w (NRes (Nm.parN s.data.toList).1 (Nm.parN s.data.toList).2 w) := by
  have hl2 : (s.size : Int) ≤ 620 := by omega
  have HN0 := Lib.hid (NBox.new w (.slice none 0 0))
  have HB0 := Lib.hid ((Below.refl w.heap.size w).alloc (Nat.le_refl _) (.cells #[.slice none 0 0] 24))
  go_enter Tryd.func5, Tryd.ntmps5
  go_wp2_with fail
  go_loopw [4, 5] (fun a i W => ∃ (k n c : Nat) (A : Option Addr), a = .slice A n c ∧ i = .int .i64 k ∧ k ≤ s.size ∧ n ≤ c ∧ c ≤ 9223372036854775807 ∧ n ≤ 155 ∧ Hid ((s.data.toList.take k).all Nm.isDig = true) ∧ Hid (IsH W W.heap.size A n (Nm.val 0 (s.data.toList.take k))) ∧ Hid (NBox W w.heap.size (.slice none 0 0)) ∧ Hid (Below w.heap.size w W)) (fun _ i _ => s.size - (intOf i).toNat)
  case atStart => exact ⟨0, 0, 0, none, rfl, rfl, by omega, by omega, by omega, by omega, rfl, IsH.zero, HN0.out, HB0.out⟩
  case round =>
    obtain ⟨k, n, c, A, rfl, rfl, hk, hnc, hcm, hn, HK, HI, HX, HB⟩ := hrel
    by_cases hlt : k < s.size
    · have hT := Nm.bytes_take hlt
      by_cases hd : 48 ≤ s[k].toNat ∧ s[k].toNat ≤ 57
      · obtain ⟨hd1, hd2⟩ := hd
        have HK2 : Hid ((s.data.toList.take (k + 1)).all Nm.isDig = true) := by
          show _ = _
          rw [hT, List.all_append, HK.out]
          simp only [List.all_cons, List.all_nil, Bool.and_true, Bool.true_and]
          exact (Nm.isDig_iff _).2 ⟨hd1, hd2⟩
        obtain ⟨d, hd⟩ : ∃ d, d = s[k].toNat - 48 := ⟨_, rfl⟩
        have HDI : (s[k].toNat : Int) - 48 = (d : Nat) := by omega
        have d9 : d < 65536 := by omega
        have hw : IntKind.i64.wrap (IntKind.i64.wrap (s[k].toNat : Int) - 48) = (s[k].toNat : Int) - 48 := by rw [IntKind.wrap_i64, IntKind.wrap_i64]; omega
        obtain ⟨x, hx⟩ : ∃ x, x = Nm.val 0 (s.data.toList.take k) := ⟨_, rfl⟩
        have HV : Hid (Nm.val 0 (s.data.toList.take (k + 1)) = x * 10 + d) := by show _ = _; rw [hT, Nm.val_snoc, hx, hd]
        have HM : Hid (∀ n2, Nt.ln 65536 (x * 10) = n2 → n2 ≤ 156) := by
          intro n2 e
          rw [← e]
          rcases Nat.eq_zero_or_pos x with x0 | x0
          · rw [x0, Nat.zero_mul, Nt.ln_zero]; omega
          · exact ln_up (k := 155) (y := x) (by rw [hx, HI.out.l]; exact hn) (by omega)
        rw [← hx] at HI
        have HN1 : Hid (Nt.ln 65536 (x * 10 + d) ≤ 155) := by
          show _ ≤ _
          rw [← HV.out]
          exact Nm.val_halves HK2.out (by rw [List.length_take, ← Lib.size_eq]; omega)
        have HDD : Hid (d = s[k].toNat - 48) := hd
        clear hT hx hd
        go_wp2_with fail
        go_region_held3 (fun _ => True) (trivial)
          (first
            | (go_at_call 15; (with_reducible refine (ref3_mul (c' := 1) (n' := 1) (y := 10) _ (HI.out.next (by repeat (first | (with_reducible exact Below.refl _ _) | (with_reducible assumption) | (with_reducible refine Below.drew ?_) | (with_reducible refine bl_al ?_)))) (LitH.isH (v := 10) (by repeat (first | (with_reducible assumption) | (with_reducible exact lit_new (by simp)) | (with_reducible refine l2 _ _ ?_) | (with_reducible refine lit_dr ?_) | (with_reducible refine lit_al ?_))) rfl (by omega) (by omega)) (by omega) (by omega)).mono ?_); rintro e w2 ⟨A2, n2, c2, rfl, B2, D2, q2, -⟩; have l2 : ∀ g v, LitH _ g v → LitH w2 g v := (fun g v h => LitH.below h B2); have b2 : Below wr.heap.size wr w2 := bthen (by repeat (first | (with_reducible exact Below.refl _ _) | (with_reducible assumption) | (with_reducible refine Below.drew ?_) | (with_reducible refine bl_al ?_))) B2; have n2b : n2 ≤ 156 := HM.out n2 D2.l; have H2 := Lib.hid D2; clear B2 D2)
            | (go_at_call 16; (with_reducible refine (ref3_trim (f := fun _ => d) _ (LitH.digs (v := (d : Int)) (by repeat (first | (with_reducible assumption) | (with_reducible exact lit_new (by simp)) | (with_reducible refine l2 _ _ ?_) | (with_reducible refine lit_dr ?_) | (with_reducible refine lit_al ?_))) rfl) (Nat.le_refl 1) (by omega)).mono ?_); rintro e w' ⟨rfl, rfl⟩)
            | (go_at_call 14; (with_reducible refine (ref3_add _ (H2.out.next (by repeat (first | (with_reducible exact Below.refl _ _) | (with_reducible assumption) | (with_reducible refine Below.drew ?_) | (with_reducible refine bl_al ?_)))) (trim_lit (LitH.digs (v := (d : Int)) (by repeat (first | (with_reducible assumption) | (with_reducible exact lit_new (by simp)) | (with_reducible refine l2 _ _ ?_) | (with_reducible refine lit_dr ?_) | (with_reducible refine lit_al ?_))) rfl) (by omega)) (by omega) (by have := Nt.tl_le (fun _ => d) 1; omega)).mono ?_); rintro e w4 ⟨A4, n4, c4, rfl, B4, D4, q4, -⟩; have b4 : Below wr.heap.size wr w4 := bthen (by repeat (first | (with_reducible exact Below.refl _ _) | (with_reducible assumption) | (with_reducible refine Below.drew ?_) | (with_reducible refine bl_al ?_))) B4; have H4 := Lib.hid D4; clear B4 D4)
            | fail)
        all_goals (
          have X5 := Lib.hid (HX.out.below b4 HX.out.lt)
          have B5 := Lib.hid (bthen' HB.out b4)
          have n5b : n4 ≤ 155 := by rw [← H4.out.l]; exact HN1.out
          rw [← HV.out] at H4
          clear b4
          go_wp2_with fail
          go_roundw
          case rel => exact ⟨k + 1, n4, c4, A4, rfl, by go_num, by omega, q4.1, q4.2, n5b, HK2, H4, X5, B5⟩
          case measure => simp [intOf]; omega)
      · have F2 : Hid (Nm.parN s.data.toList = (0, 1)) := by
          refine Nm.parN_bad (by rw [← Lib.size_eq]; omega) ?_
          rw [← F.out, Bool.eq_false_iff]
          intro ha
          exact hd ((Nm.isDig_iff _).1 (Nm.bytes_all _ ha k hlt))
        have xc := HX.out.cell
        have xf := HX.out.free
        clear hT
        by_cases hd1 : s[k].toNat < 48
        · clear hd
          go_wp2_with fail
          refine bodyPost_ret (v := .tuple #[.agg #[.slice none 0 0], .int .i64 1]) (by simp [results, Tryd.results5, go_sem, xc]) rfl ?_
          rw [F2.out]
          exact ⟨none, 0, 0, rfl, HB.out.setCell (Nat.le_refl _) _, IsN.zero, by omega, by omega⟩
        · have hd2 : 57 < s[k].toNat := by omega
          clear hd
          go_wp2_with fail
          refine bodyPost_ret (v := .tuple #[.agg #[.slice none 0 0], .int .i64 1]) (by simp [results, Tryd.results5, go_sem, xc]) rfl ?_
          rw [F2.out]
          exact ⟨none, 0, 0, rfl, HB.out.setCell (Nat.le_refl _) _, IsN.zero, by omega, by omega⟩
    · have F2 : Hid (Nm.parN s.data.toList = (Nt.bv (Nm.val 0 s.data.toList), Nt.be (Nm.val 0 s.data.toList))) := by
        refine Nm.parN_ok (by rw [← Lib.size_eq]; omega) ?_
        rw [← F.out]
        have := HK.out
        rw [List.take_of_length_le (by rw [← Lib.size_eq]; omega)] at this
        exact this
      have hi := HI.out
      rw [List.take_of_length_le (by rw [← Lib.size_eq]; omega)] at hi
      obtain ⟨x, hx⟩ : ∃ x, x = Nm.val 0 s.data.toList := ⟨_, rfl⟩
      rw [← hx] at hi F2
      have cw := ref3_Whole_H (c := c) wr hi ⟨hnc, hcm⟩
      cases hf : Nt.fits x
      · rw [hf] at cw
        have CW := Lib.hid cw
        have F3 : Hid (Nm.parN s.data.toList = (0, 9)) := by
          show _ = _
          rw [F2.out, Nt.bv, Nt.be, hf]; rfl
        clear cw hi hx
        go_wp2_with fail
        refine CW.out.mono ?_
        rintro e w6 ⟨A6, n6, c6, rfl, B6, D6, h6, l6⟩
        have X6 := (HX.out.below B6 HX.out.lt).alloc (.cells #[.slice A6 n6 c6] 24)
        have xc := X6.cell
        have xf := X6.free
        have B7 := Lib.hid (bl_al' (o := .cells #[.slice A6 n6 c6] 24) (bthen' HB.out B6))
        clear B6 D6 X6
        go_wp2_with fail
        refine bodyPost_ret (v := .tuple #[.agg #[.slice none 0 0], .int .i64 9]) (by simp [results, Tryd.results5, go_sem, xc]) rfl ?_
        rw [F3.out]
        exact ⟨none, 0, 0, rfl, B7.out.setCell (Nat.le_refl _) _, IsN.zero, by omega, by omega⟩
      · rw [hf, show Nt.bv x = x by rw [Nt.bv, hf]; rfl] at cw
        have CW := Lib.hid cw
        have F3 : Hid (Nm.parN s.data.toList = (x, 0)) := by
          show _ = _
          rw [F2.out, Nt.bv, Nt.be, hf]; rfl
        clear cw hi hx
        go_wp2_with fail
        refine CW.out.mono ?_
        rintro e w6 ⟨A6, n6, c6, rfl, B6, D6, h6, l6⟩
        have X6 := (HX.out.below B6 HX.out.lt).alloc (.cells #[.slice A6 n6 c6] 24)
        have xc := X6.cell
        have xf := X6.free
        have B7 := Lib.hid (bl_al' (o := .cells #[.slice A6 n6 c6] 24) (bthen' HB.out B6))
        have D7 := Lib.hid (((D6.alloc (.cells #[.slice A6 n6 c6] 24)).setBox xc (.slice A6 n6 c6)).more (B' := ((w6.alloc (.cells #[.slice A6 n6 c6] 24)).setCell ⟨w.heap.size, 0, none⟩ (.slice A6 n6 c6)).heap.size) (by rw [size_setCell]; exact Nat.le_refl _))
        clear B6 D6 X6
        go_wp2_with fail
        refine bodyPost_ret (v := .tuple #[.agg #[.slice A6 n6 c6], .int .i64 0]) (by simp [results, Tryd.results5, go_sem, xc]) rfl ?_
        rw [F3.out]
        exact ⟨A6, n6, c6, rfl, B7.out.setCell (Nat.le_refl _) _, D7.out, h6, l6⟩
set_option maxHeartbeats 2000000 in
theorem ref3_Parse_plain (s : ByteArray) (w : World) (hl : s.size ≤ 620) (hpos : 0 < s.size) (he : s.toList.isEmpty = false) (h0 : ((s[0].toNat : Int) == 48) = false) (F : Hid (s.data.toList.all Nm.isDig = Nm.decU s.data.toList)) :
    Calls Tryd.prog 5 #[.string s] w (NRes (Nm.parN s.data.toList).1 (Nm.parN s.data.toList).2 w) := by
  have hl2 : (s.size : Int) ≤ 620 := by omega
  have HN0 := Lib.hid (NBox.new w (.slice none 0 0))
  have HB0 := Lib.hid ((Below.refl w.heap.size w).alloc (Nat.le_refl _) (.cells #[.slice none 0 0] 24))
  go_enter Tryd.func5, Tryd.ntmps5
  go_wp2_with fail
  go_loopw [4, 5] (fun a i W => ∃ (k n c : Nat) (A : Option Addr), a = .slice A n c ∧ i = .int .i64 k ∧ k ≤ s.size ∧ n ≤ c ∧ c ≤ 9223372036854775807 ∧ n ≤ 155 ∧ Hid ((s.data.toList.take k).all Nm.isDig = true) ∧ Hid (IsH W W.heap.size A n (Nm.val 0 (s.data.toList.take k))) ∧ Hid (NBox W w.heap.size (.slice none 0 0)) ∧ Hid (Below w.heap.size w W)) (fun _ i _ => s.size - (intOf i).toNat)
  case atStart => exact ⟨0, 0, 0, none, rfl, rfl, by omega, by omega, by omega, by omega, rfl, IsH.zero, HN0.out, HB0.out⟩
  case round =>
    obtain ⟨k, n, c, A, rfl, rfl, hk, hnc, hcm, hn, HK, HI, HX, HB⟩ := hrel
    by_cases hlt : k < s.size
    · have hT := Nm.bytes_take hlt
      by_cases hd : 48 ≤ s[k].toNat ∧ s[k].toNat ≤ 57
      · obtain ⟨hd1, hd2⟩ := hd
        have HK2 : Hid ((s.data.toList.take (k + 1)).all Nm.isDig = true) := by
          show _ = _
          rw [hT, List.all_append, HK.out]
          simp only [List.all_cons, List.all_nil, Bool.and_true, Bool.true_and]
          exact (Nm.isDig_iff _).2 ⟨hd1, hd2⟩
        obtain ⟨d, hd⟩ : ∃ d, d = s[k].toNat - 48 := ⟨_, rfl⟩
        have HDI : (s[k].toNat : Int) - 48 = (d : Nat) := by omega
        have d9 : d < 65536 := by omega
        have hw : IntKind.i64.wrap (IntKind.i64.wrap (s[k].toNat : Int) - 48) = (s[k].toNat : Int) - 48 := by rw [IntKind.wrap_i64, IntKind.wrap_i64]; omega
        obtain ⟨x, hx⟩ : ∃ x, x = Nm.val 0 (s.data.toList.take k) := ⟨_, rfl⟩
        have HV : Hid (Nm.val 0 (s.data.toList.take (k + 1)) = x * 10 + d) := by show _ = _; rw [hT, Nm.val_snoc, hx, hd]
        have HM : Hid (∀ n2, Nt.ln 65536 (x * 10) = n2 → n2 ≤ 156) := by
          intro n2 e
          rw [← e]
          rcases Nat.eq_zero_or_pos x with x0 | x0
          · rw [x0, Nat.zero_mul, Nt.ln_zero]; omega
          · exact ln_up (k := 155) (y := x) (by rw [hx, HI.out.l]; exact hn) (by omega)
        rw [← hx] at HI
        have HN1 : Hid (Nt.ln 65536 (x * 10 + d) ≤ 155) := by
          show _ ≤ _
          rw [← HV.out]
          exact Nm.val_halves HK2.out (by rw [List.length_take, ← Lib.size_eq]; omega)
        have HDD : Hid (d = s[k].toNat - 48) := hd
        clear hT hx hd
        go_wp2_with fail
        go_region_held3 (fun _ => True) (trivial)
          (first
            | (go_at_call 15; (with_reducible refine (ref3_mul (c' := 1) (n' := 1) (y := 10) _ (HI.out.next (by repeat (first | (with_reducible exact Below.refl _ _) | (with_reducible assumption) | (with_reducible refine Below.drew ?_) | (with_reducible refine bl_al ?_)))) (LitH.isH (v := 10) (by repeat (first | (with_reducible assumption) | (with_reducible exact lit_new (by simp)) | (with_reducible refine l2 _ _ ?_) | (with_reducible refine lit_dr ?_) | (with_reducible refine lit_al ?_))) rfl (by omega) (by omega)) (by omega) (by omega)).mono ?_); rintro e w2 ⟨A2, n2, c2, rfl, B2, D2, q2, -⟩; have l2 : ∀ g v, LitH _ g v → LitH w2 g v := (fun g v h => LitH.below h B2); have b2 : Below wr.heap.size wr w2 := bthen (by repeat (first | (with_reducible exact Below.refl _ _) | (with_reducible assumption) | (with_reducible refine Below.drew ?_) | (with_reducible refine bl_al ?_))) B2; have n2b : n2 ≤ 156 := HM.out n2 D2.l; have H2 := Lib.hid D2; clear B2 D2)
            | (go_at_call 16; (with_reducible refine (ref3_trim (f := fun _ => d) _ (LitH.digs (v := (d : Int)) (by repeat (first | (with_reducible assumption) | (with_reducible exact lit_new (by simp)) | (with_reducible refine l2 _ _ ?_) | (with_reducible refine lit_dr ?_) | (with_reducible refine lit_al ?_))) rfl) (Nat.le_refl 1) (by omega)).mono ?_); rintro e w' ⟨rfl, rfl⟩)
            | (go_at_call 14; (with_reducible refine (ref3_add _ (H2.out.next (by repeat (first | (with_reducible exact Below.refl _ _) | (with_reducible assumption) | (with_reducible refine Below.drew ?_) | (with_reducible refine bl_al ?_)))) (trim_lit (LitH.digs (v := (d : Int)) (by repeat (first | (with_reducible assumption) | (with_reducible exact lit_new (by simp)) | (with_reducible refine l2 _ _ ?_) | (with_reducible refine lit_dr ?_) | (with_reducible refine lit_al ?_))) rfl) (by omega)) (by omega) (by have := Nt.tl_le (fun _ => d) 1; omega)).mono ?_); rintro e w4 ⟨A4, n4, c4, rfl, B4, D4, q4, -⟩; have b4 : Below wr.heap.size wr w4 := bthen (by repeat (first | (with_reducible exact Below.refl _ _) | (with_reducible assumption) | (with_reducible refine Below.drew ?_) | (with_reducible refine bl_al ?_))) B4; have H4 := Lib.hid D4; clear B4 D4)
            | fail)
        all_goals (
          have X5 := Lib.hid (HX.out.below b4 HX.out.lt)
          have B5 := Lib.hid (bthen' HB.out b4)
          have n5b : n4 ≤ 155 := by rw [← H4.out.l]; exact HN1.out
          rw [← HV.out] at H4
          clear b4
          go_wp2_with fail
          go_roundw
          case rel => exact ⟨k + 1, n4, c4, A4, rfl, by go_num, by omega, q4.1, q4.2, n5b, HK2, H4, X5, B5⟩
          case measure => simp [intOf]; omega)
      · have F2 : Hid (Nm.parN s.data.toList = (0, 1)) := by
          refine Nm.parN_bad (by rw [← Lib.size_eq]; omega) ?_
          rw [← F.out, Bool.eq_false_iff]
          intro ha
          exact hd ((Nm.isDig_iff _).1 (Nm.bytes_all _ ha k hlt))
        have xc := HX.out.cell
        have xf := HX.out.free
        clear hT
        by_cases hd1 : s[k].toNat < 48
        · clear hd
          go_wp2_with fail
          refine bodyPost_ret (v := .tuple #[.agg #[.slice none 0 0], .int .i64 1]) (by simp [results, Tryd.results5, go_sem, xc]) rfl ?_
          rw [F2.out]
          exact ⟨none, 0, 0, rfl, HB.out.setCell (Nat.le_refl _) _, IsN.zero, by omega, by omega⟩
        · have hd2 : 57 < s[k].toNat := by omega
          clear hd
          go_wp2_with fail
          refine bodyPost_ret (v := .tuple #[.agg #[.slice none 0 0], .int .i64 1]) (by simp [results, Tryd.results5, go_sem, xc]) rfl ?_
          rw [F2.out]
          exact ⟨none, 0, 0, rfl, HB.out.setCell (Nat.le_refl _) _, IsN.zero, by omega, by omega⟩
    · have F2 : Hid (Nm.parN s.data.toList = (Nt.bv (Nm.val 0 s.data.toList), Nt.be (Nm.val 0 s.data.toList))) := by
        refine Nm.parN_ok (by rw [← Lib.size_eq]; omega) ?_
        rw [← F.out]
        have := HK.out
        rw [List.take_of_length_le (by rw [← Lib.size_eq]; omega)] at this
        exact this
      have hi := HI.out
      rw [List.take_of_length_le (by rw [← Lib.size_eq]; omega)] at hi
      obtain ⟨x, hx⟩ : ∃ x, x = Nm.val 0 s.data.toList := ⟨_, rfl⟩
      rw [← hx] at hi F2
      have cw := ref3_Whole_H (c := c) wr hi ⟨hnc, hcm⟩
      cases hf : Nt.fits x
      · rw [hf] at cw
        have CW := Lib.hid cw
        have F3 : Hid (Nm.parN s.data.toList = (0, 9)) := by
          show _ = _
          rw [F2.out, Nt.bv, Nt.be, hf]; rfl
        clear cw hi hx
        go_wp2_with fail
        refine CW.out.mono ?_
        rintro e w6 ⟨A6, n6, c6, rfl, B6, D6, h6, l6⟩
        have X6 := (HX.out.below B6 HX.out.lt).alloc (.cells #[.slice A6 n6 c6] 24)
        have xc := X6.cell
        have xf := X6.free
        have B7 := Lib.hid (bl_al' (o := .cells #[.slice A6 n6 c6] 24) (bthen' HB.out B6))
        clear B6 D6 X6
        go_wp2_with fail
        refine bodyPost_ret (v := .tuple #[.agg #[.slice none 0 0], .int .i64 9]) (by simp [results, Tryd.results5, go_sem, xc]) rfl ?_
        rw [F3.out]
        exact ⟨none, 0, 0, rfl, B7.out.setCell (Nat.le_refl _) _, IsN.zero, by omega, by omega⟩
      · rw [hf, show Nt.bv x = x by rw [Nt.bv, hf]; rfl] at cw
        have CW := Lib.hid cw
        have F3 : Hid (Nm.parN s.data.toList = (x, 0)) := by
          show _ = _
          rw [F2.out, Nt.bv, Nt.be, hf]; rfl
        clear cw hi hx
        go_wp2_with fail
        refine CW.out.mono ?_
        rintro e w6 ⟨A6, n6, c6, rfl, B6, D6, h6, l6⟩
        have X6 := (HX.out.below B6 HX.out.lt).alloc (.cells #[.slice A6 n6 c6] 24)
        have xc := X6.cell
        have xf := X6.free
        have B7 := Lib.hid (bl_al' (o := .cells #[.slice A6 n6 c6] 24) (bthen' HB.out B6))
        have D7 := Lib.hid (((D6.alloc (.cells #[.slice A6 n6 c6] 24)).setBox xc (.slice A6 n6 c6)).more (B' := ((w6.alloc (.cells #[.slice A6 n6 c6] 24)).setCell ⟨w.heap.size, 0, none⟩ (.slice A6 n6 c6)).heap.size) (by rw [size_setCell]; exact Nat.le_refl _))
        clear B6 D6 X6
        go_wp2_with fail
        refine bodyPost_ret (v := .tuple #[.agg #[.slice A6 n6 c6], .int .i64 0]) (by simp [results, Tryd.results5, go_sem, xc]) rfl ?_
        rw [F3.out]
        exact ⟨A6, n6, c6, rfl, B7.out.setCell (Nat.le_refl _) _, D7.out, h6, l6⟩
theorem ref3_Parse_any (s : ByteArray) (hs : s.size ≤ 281474976710656) (w : World) :
    Calls Tryd.prog 5 #[.string s] w (NRes (Nm.parN s.data.toList).1 (Nm.parN s.data.toList).2 w) := by
  by_cases hl : 620 < s.size
  · rw [Nm.parN_long (by rw [← Lib.size_eq]; exact hl)]
    exact ref3_Parse_long s hs w hl
  · have hl' : ¬ 620 < s.data.toList.length := by rw [← Lib.size_eq]; exact hl
    by_cases hne : s.data.toList = []
    · rw [Nm.parN_bad hl' (by rw [hne]; rfl)]
      exact ref3_Parse_empty s w hne
    · obtain ⟨he, hpos⟩ := Nm.bytes_ne hne
      by_cases h0 : ((s[0].toNat : Int) == 48) = true
      · have hhead : s.data.toList.head? = some 48 := by
          rw [Nm.bytes_head hpos]
          exact congrArg some (UInt8.toNat_inj.1 (by have h1 := beq_iff_eq.1 h0; show s[0].toNat = 48; omega))
        by_cases h1 : 1 < s.size
        · rw [Nm.parN_bad hl' (by
            rw [Bool.eq_false_iff]
            intro hd
            have := (Nm.decU_parts hd).2.2 hhead
            rw [← Lib.size_eq] at this
            omega)]
          exact ref3_Parse_lead s w (by omega) hpos he h0 h1
        · exact ref3_Parse_one s w (by omega) hpos he h0 h1 (Nm.decU_of hne (.inr (by rw [← Lib.size_eq]; omega))).symm
      · exact ref3_Parse_plain s w (by omega) hpos he (by simpa using h0) (Nm.decU_of hne (.inl (by
          rw [Nm.bytes_head hpos]
          intro e
          apply h0
          rw [Option.some.inj e]; rfl))).symm
theorem nat_Parse_any (s : ByteArray) (hs : s.size ≤ 281474976710656) (w : World) :
    Calls Tryd.prog 4 #[.string s] w (NRes (Nm.parN s.data.toList).1 (Nm.parN s.data.toList).2 w) := by
  by_cases hl : 620 < s.size
  · rw [Nm.parN_long (by rw [← Lib.size_eq]; exact hl)]
    exact nat_Parse_long s hs w hl
  · have hl' : ¬ 620 < s.data.toList.length := by rw [← Lib.size_eq]; exact hl
    cases hd : Nm.decU s.data.toList
    · rw [Nm.parN_bad hl' hd]; exact nat_Parse_bad s w (by omega) hd
    · rw [Nm.parN_ok hl' hd]; exact nat_Parse_ok s w (by omega) hd
end Go.Proofs.YtcgbgaljjhopiaaDoor
