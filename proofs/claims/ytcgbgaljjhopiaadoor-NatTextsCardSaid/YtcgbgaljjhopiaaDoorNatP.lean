/- nat.Parse of a decimal number: the number, or too great. -/
import Derived.Test.YtcgbgaljjhopiaaDoorNatZ
import Derived.Test.YtcgbgaljjhopiaaDoorNatD
import Derived.Test.YtcgbgaljjhopiaaDoorMonText
namespace Go.Proofs.YtcgbgaljjhopiaaDoor
set_option maxRecDepth 20000
open Go.RowKit
set_option linter.unusedVariables false
set_option linter.unusedSimpArgs false
/-- What is read of s: i bytes, in the limbs of block g; t is the rest. -/
structure Pars (g m : Nat) (l : List UInt8) (i : Nat) (t : ByteArray) (w W : World) (G : Nat → Nat) : Prop where
  row : Rw W g 32 .u32 m G
  lt : ∀ j, G j < 4294967296
  val : Nt.vl 4294967296 G m = Nm.val 0 (l.take i)
  rest : t.data.toList = l.drop i
  le : i ≤ l.length
  nine : i = 0 ∨ (l.length - i) % 9 = 0
  bel : Below g w W
theorem Pars.step {g m i n : Nat} {l : List UInt8} {t t' : ByteArray} {w W W' : World} {G G' : Nat → Nat} {c u : Nat} (h : Pars g m l i t w W G) (hl : l.all Nm.isDig = true) (hm : l.length ≤ 9 * m) (m0 : 0 < m)
    (hr : 0 < l.length - i) (hn : n = (l.length - i - 1) % 9 + 1) (hu : Nm.val 0 ((l.drop i).take n) = u) (ha : PartInv g m m u G c W W' G') (ht : t'.data.toList = t.data.toList.drop n) (hg : g ≤ W.heap.size) :
    Pars g m l (i + n) t' w W' G' := by
  obtain ⟨n1, n9, nr, n0, ns⟩ := Nm.part_len hr
  rw [← hn] at n1 n9 nr n0 ns
  have hle : i + n ≤ l.length := by have := h.le; omega
  have hs := Nm.val_step l i n hle (by rcases h.nine with e | e
                                       · exact .inl e
                                       · exact .inr (ns e))
  have hb := Nm.val_fits (Nm.all_take hl (i + n)) (m := m) (by rw [List.length_take]; omega)
  have hv := ha.val
  rw [h.val, ← hu, ← hs] at hv
  have hb2 : Nm.val 0 (l.take (i + n)) < 4294967296 ^ m := by
    rcases hb with hb | hb
    · exact hb
    · omega
  have c0 : c = 0 := by
    rcases Nat.eq_zero_or_pos c with e | e
    · exact e
    · have : 1 * 4294967296 ^ m ≤ c * 4294967296 ^ m := Nat.mul_le_mul_right _ e
      omega
  rw [c0, Nat.zero_mul, Nat.add_zero] at hv
  refine ⟨ha.row, ha.lt, hv, ?_, hle, .inr ?_, h.bel.trans (below_of_grown ha.gr (Nat.le_refl _) hg)⟩
  · rw [ht, h.rest, List.drop_drop]
  · rw [← n0]; congr 1; omega
def strLen : Value → Nat
  | .string s => s.size
  | _ => 0
set_option maxHeartbeats 400000 in
theorem nat_Parse_ok (s : ByteArray) (w : World) (hl : s.size ≤ 620) (hd : Nm.decU s.data.toList = true) :
    Calls Tryd.prog 4 #[.string s] w (NRes (Nt.bv (Nm.val 0 s.data.toList)) (Nt.be (Nm.val 0 s.data.toList)) w) := by
  have hb0 := NBox.new w (.slice none 0 0)
  have HB0 := Lib.hid hb0
  have cd := fun W => nat_isDecimal s (by omega) W
  rw [hd] at cd
  have CD := Lib.hid cd
  obtain ⟨p1, p2, p3⟩ := Nm.decU_parts hd
  have P2 := Lib.hid p2
  obtain ⟨l, el⟩ : ∃ l, l = s.data.toList := ⟨_, rfl⟩
  have hsz : s.size = l.length := by rw [el, ← Lib.size_eq]
  rw [← el] at P2
  have hl2 : (s.size : Int) ≤ 620 := by omega
  obtain ⟨m, em⟩ : ∃ m, m = s.size / 9 + 1 := ⟨_, rfl⟩
  have hm : (s.size : Int) / 9 + 1 = (m : Int) := by omega
  have m0 : 0 < m := by omega
  have m1 : m ≤ 100 := by omega
  have hm9 : l.length ≤ 9 * m := by omega
  have hmk := make_u32s m (by omega)
  rw [← hm] at hmk
  have EL := Lib.hid el
  have HSZ := Lib.hid hsz
  have HM := Lib.hid hm
  clear hb0 cd hd p1 p2 p3 el hsz em hm
  rw [← EL.out]
  go_enter Tryd.func4, Tryd.ntmps4
  go_wp2_with fail
  refine (CD.out _).mono ?_
  rintro e w' ⟨rfl, rfl⟩
  go_wp2_with fail
  have R0 := Rw.made (w.alloc (.cells #[.slice none 0 0] 24)) m 32 .u32
  obtain ⟨w0, ew0⟩ : ∃ w0, w0 = (w.alloc (.cells #[.slice none 0 0] 24)).alloc (.cells (madeCells #[.int .u32 0] m) 32) := ⟨_, rfl⟩
  have B0 : Hid (NBox w0 w.heap.size (.slice none 0 0)) := by rw [ew0]; exact HB0.out.alloc _
  have L0 : Hid (Below w.heap.size w w0) := by rw [ew0]; exact ((Below.refl _ _).alloc (Nat.le_refl _) _).alloc (by simp) _
  rw [← ew0] at R0 ⊢
  rw [show (w.alloc (.cells #[.slice none 0 0] 24)).heap.size = w.heap.size + 1 by simp] at R0
  have G0 := Lib.hid R0.lt
  have RR := Lib.hid R0
  clear R0 ew0 hmk
  go_loopw [0] (fun a W => ∃ (i : Nat) (t : ByteArray) (G : Nat → Nat), a = .string t ∧ t.size + i ≤ l.length ∧ l.length ≤ t.size + i ∧ Hid (Pars (w.heap.size + 1) m l i t w0 W G)) (fun a _ => strLen a)
  case atStart => exact ⟨0, s, fun _ => 0, rfl, by have := HSZ.out; omega, by have := HSZ.out; omega, RR.out, fun _ => by omega, by
    rw [List.take_zero, Nm.val_nil, Nt.vl_more (n := 0) (by omega) (fun _ _ _ => rfl), Nt.vl_zero], by rw [List.drop_zero]; exact EL.out.symm, by omega, .inl rfl, Below.refl _ _⟩
  case round =>
    obtain ⟨i, t, G, rfl, hi1, hi2, HI⟩ := hrel
    by_cases hlt : i < l.length
    · have t1 : 1 ≤ t.size := by omega
      have t2 : t.size ≤ 620 := by have := HSZ.out; omega
      have hne : (!t.toList.isEmpty) = true := by
        have : t.toList.isEmpty = false := by
          rw [Lib.toList_data, HI.out.rest]
          cases h : l.drop i with
          | nil => rw [List.drop_eq_nil_iff] at h; omega
          | cons => rfl
        rw [this]; rfl
      obtain ⟨n, en⟩ : ∃ n, n = (t.size - 1) % 9 + 1 := ⟨_, rfl⟩
      have hn : n = (l.length - i - 1) % 9 + 1 := by rw [en]; congr 2; omega
      obtain ⟨n1, n9, nr, n0, ns⟩ := Nm.part_len (r := l.length - i) (by omega)
      rw [← hn] at n1 n9 nr n0 ns
      have hx : (t.extract 0 n).data.toList = (l.drop i).take n := by rw [Mn.ext_take, HI.out.rest]
      have hxl : ((l.drop i).take n).length = n := by rw [List.length_take, List.length_drop]; omega
      have hall : ((l.drop i).take n).all Nm.isDig = true := Nm.all_take (Nm.all_drop P2.out i) n
      have ca := nat_appendPart (c := m) (u := Nm.val 0 ((l.drop i).take n)) (t.extract 0 n) wr HI.out.row HI.out.lt (by omega) (by rw [hx]; exact hall) (by rw [hx]; intro e; rw [e] at hxl; simp at hxl; omega) (by rw [hx, hxl]; exact n9) (by rw [hx])
      rw [en] at ca
      have hgs : w.heap.size + 1 ≤ wr.heap.size := Nat.le_of_lt HI.out.row.lt
      have CA := Lib.hid ca
      have EN := Lib.hid en
      have HN := Lib.hid hn
      clear ca en hn n1 n9 nr n0 ns hx hxl hall
      go_wp2_with fail
      refine CA.out.mono ?_
      rintro e w2 ⟨v, cc, G2, rfl, ha⟩
      have HA := Lib.hid ha
      clear ha
      go_wp2_with fail
      rw [← EN.out] at HA ⊢
      have hd : (t.extract n t.size).data.toList = t.data.toList.drop n := by
        rw [Lib.extract_data, List.take_of_length_le (by rw [List.length_drop, ← Lib.size_eq]; exact Nat.le_refl _)]
      have hds : (t.extract n t.size).size = t.size - n := by rw [Lib.size_eq, hd, List.length_drop, ← Lib.size_eq]
      have hn1 : 1 ≤ n := by rw [EN.out]; omega
      have hn2 : n ≤ t.size := by rw [EN.out]; omega
      refine ⟨⟨i + n, t.extract n t.size, G2, rfl, by omega, by omega, HI.out.step P2.out hm9 m0 (by omega) HN.out rfl HA.out hd hgs⟩, ?_⟩
      show (t.extract n t.size).size < t.size
      omega
    · have hne : (!t.toList.isEmpty) = false := by
        have : t.toList.isEmpty = true := by
          rw [Lib.toList_data, HI.out.rest, List.drop_eq_nil_iff.2 (by omega)]; rfl
        rw [this]; rfl
      have hd5 := HI.out.row.digs (B := wr.heap.size) (off := 0) (n := m) HI.out.row.lt (by omega)
      have e6 : (fun i => G (0 + i)) = G := by funext i; rw [Nat.zero_add]
      rw [e6] at hd5
      have cb := nat_bounded (c := m) _ hd5 (fun i _ => HI.out.lt i) (Nat.le_refl _) (by omega)
      have hval : Nt.vl 4294967296 G m = Nm.val 0 l := by rw [HI.out.val, List.take_of_length_le (by omega)]
      rw [hval] at cb
      have CB := Lib.hid cb
      have B1 : Hid (NBox wr w.heap.size (.slice none 0 0)) := B0.out.below HI.out.bel (by omega)
      have L1 : Hid (Below w.heap.size w wr) := L0.out.trans (HI.out.bel.mono (by omega))
      clear hval hd5 e6 cb
      go_wp2_with fail
      refine CB.out.mono ?_
      rintro e w6 ⟨A3, n3, c3, rfl, hb6, hn6, hle6, hnc6⟩
      have F6 := Lib.hid (B1.out.below hb6 (by have := G0.out; have := L0.out.size; have := HI.out.bel.size; omega))
      have L6 := Lib.hid (L1.out.trans (hb6.mono L1.out.size))
      have t3 := F6.out.cell
      have z3' := F6.out.free
      have HN := Lib.hid (hn6.setBox t3 (.slice A3 n3 c3))
      clear hb6 hn6
      go_wp2_with fail
      refine bodyPost_ret (v := .tuple #[.agg #[.slice A3 n3 c3], .int .i64 (Nt.be (Nm.val 0 l))]) (by simp [results, Tryd.results4, go_sem, t3]) rfl ?_
      exact ⟨A3, n3, c3, rfl, L6.out.setCell (by simp) _, HN.out.more (by rw [size_setCell]; exact Nat.le_refl _), hle6, hnc6⟩
end Go.Proofs.YtcgbgaljjhopiaaDoor
