/- Layer 8, the laws: write, over any writer of the project; and over none. -/
import Derived.Test.YtdleleanaihcoaaWireZ
namespace Go.Proofs.Ytdleleanaihcoaa
set_option maxRecDepth 20000
open Go.RowKit
set_option linter.unusedVariables false
set_option linter.unusedSimpArgs false
theorem bel8 {w W W' : World} (h : Below w.heap.size w W) (h' : Below W.heap.size W W') : Below w.heap.size w W' := h.trans (h'.mono h.size)
theorem Grows.refl (W : World) (fp : Nat → Prop) : Grows W fp fp := fun _ h => .inl h
/-- Blocks that were there and are no part of fp are no part of what grows out of fp. -/
theorem Grows.off {W : World} {fp fp' : Nat → Prop} (h : Grows W fp fp') {N : Nat} (hN : N ≤ W.heap.size) : ∀ b, b < N ∧ ¬ fp b → ¬ fp' b := fun b hb e => by
  rcases h b e with h1 | h1
  · exact hb.2 h1
  · omega
theorem WSt.go {W w w' : World} {p : Nat} {fp fp1 : Nat → Prop} {M : List UInt8} (t : Turns fp w W) (g : Grows w fp fp1) (h : ∃ fp', WrP w' p M fp' ∧ Turns fp1 W w' ∧ Grows W fp1 fp') : ∃ fp', WrP w' p M fp' ∧ Turns fp w w' ∧ Grows w fp fp' := by
  obtain ⟨fp', h1, h2, h3⟩ := h
  exact ⟨fp', h1, t.trans h2 fun b hb hf => (g b hf).resolve_right (by omega), g.trans h3 t.size⟩
set_option maxHeartbeats 1000000 in
theorem law8_write {p n c : Nat} {fp : Nat → Prop} {L0 : List UInt8} {A : Option Addr} {L : List It} (w : World) (h : WrP w p L0 fp) (hI : Its w (fun b => b < w.heap.size ∧ ¬ fp b) A n L) (hc : n ≤ c) (hc1 : c ≤ 9223372036854775807) (hn : n ≤ 200) (hl : L0.length ≤ 100000000) (hs : L.all (Wr.little 20000) = true) :
    Calls Try.prog 15 #[.pointer (some ⟨p, 0, none⟩), .slice A n c] w (WSt WrP w p fp (L0 ++ Wr.itsB L)) := by
  have HI := Lib.hid hI
  have HS := Lib.hid hs
  have n1 : (n : Int) ≤ 9223372036854775807 := by omega
  have J0 : Hid (WrP w p (L0 ++ Wr.itsB (L.take 0)) fp) := by show WrP _ _ (L0 ++ []) _; rw [List.append_nil]; exact h
  have L0n : Hid ((L0 ++ Wr.itsB (L.take 0)).length ≤ 100000000 + 200010 * 0) := by show (L0 ++ []).length ≤ _; rw [List.append_nil]; omega
  clear hI hs h hl
  go_enter Try.func15, Try.ntmps15
  go_wp2_with fail
  go_loopw [7] (fun i W => ∃ (k : Nat) (fp1 : Nat → Prop), k ≤ n ∧ i = .int .i64 (k : Int) ∧ Hid (WrP W p (L0 ++ Wr.itsB (L.take k)) fp1) ∧ Hid (Turns fp w W) ∧ Hid (Grows w fp fp1) ∧ Hid ((L0 ++ Wr.itsB (L.take k)).length ≤ 100000000 + 200010 * k)) (fun i _ => n - (intOf i).toNat)
  case atStart => exact ⟨0, fp, by omega, rfl, J0, Turns.refl _, Grows.refl _ _, L0n⟩
  case round =>
    obtain ⟨k, fp1, hk, rfl, HW, HT, HG, HL⟩ := hrel
    by_cases hlt : k < n
    · have hi := HI.out.turn HT.out fun b hb => hb.2
      obtain ⟨ad, x, rfl, hP, hx, d0, d1, d2, d3, d4, hok⟩ := hi.at_ hlt
      have hls : Wr.little 20000 x = true := List.all_eq_true.1 HS.out x (List.mem_of_getElem? hx)
      have hls2 := hls
      rw [Wr.little, Bool.and_eq_true, decide_eq_true_iff, decide_eq_true_iff] at hls2
      obtain ⟨l1, l2⟩ := hls2
      have hsn : Wr.itsB (L.take (k + 1)) = Wr.itsB (L.take k) ++ Wr.itB x := by rw [List.take_add_one, hx]; exact Wr.itsB_snoc _ _
      have hlen := Wr.itB_len hls ⟨hok.n0, hok.n1⟩ hok.u1 hok.z (by omega)
      have HL2 : Hid ((L0 ++ Wr.itsB (L.take (k + 1))).length ≤ 100000000 + 200010 * (k + 1)) := by
        show _ ≤ _
        have := HL.out
        rw [hsn, ← List.append_assoc, List.length_append]; omega
      have hl5 : (L0 ++ Wr.itsB (L.take k)).length ≤ 500000000000 := by have := HL.out; omega
      have HSN := Lib.hid hsn
      have k0 := hok.k0
      have k1 := hok.k1
      have n0 := hok.n0
      have n1' := hok.n1
      have u1 : x.u ≤ 18446744073709551615 := by have := hok.u1; omega
      have lb2 := hok.c1
      by_cases e1 : x.k = 1
      · have b1 : (x.k == 1) = true := by rw [beq_iff_eq]; exact e1
        have E : Hid (Wr.itB x = Wr.encI x.n) := if_pos e1
        have U := Lib.hid (wire_Int x.n hok.n0 hok.n1 wr HW.out hl5)
        clear hx hok hsn hlen hls e1 hi
        go_wp2_with fail
        refine U.out.mono ?_
        rintro e w1 ⟨rfl, h1⟩
        have H1 := Lib.hid (WSt.go HT.out HG.out h1)
        clear h1
        go_wp2_with fail
        obtain ⟨fp2, q1, q2, q3⟩ := H1.out
        rw [List.append_assoc, ← E.out, ← HSN.out] at q1
        have Q1 := Lib.hid q1
        have Q2 := Lib.hid q2
        have Q3 := Lib.hid q3
        clear q1 q2 q3
        go_roundw
        case rel => exact ⟨k + 1, fp2, by omega, by go_num, Q1, Q2, Q3, HL2⟩
        case measure => simp [intOf]; omega
      · have b1 : (x.k == 1) = false := by rw [beq_eq_false_iff_ne]; exact e1
        by_cases e2 : x.k = 2
        · have b2 : (x.k == 2) = true := by rw [beq_iff_eq]; exact e2
          have E : Hid (Wr.itB x = Wr.enc x.u) := (if_neg e1).trans (if_pos e2)
          have U := Lib.hid (wire_Uint x.u hok.u1 wr HW.out hl5)
          clear hx hok hsn hlen hls e1 e2 hi
          go_wp2_with fail
          refine U.out.mono ?_
          rintro e w1 ⟨rfl, h1⟩
          have H1 := Lib.hid (WSt.go HT.out HG.out h1)
          clear h1
          go_wp2_with fail
          obtain ⟨fp2, q1, q2, q3⟩ := H1.out
          rw [List.append_assoc, ← E.out, ← HSN.out] at q1
          have Q1 := Lib.hid q1
          have Q2 := Lib.hid q2
          have Q3 := Lib.hid q3
          clear q1 q2 q3
          go_roundw
          case rel => exact ⟨k + 1, fp2, by omega, by go_num, Q1, Q2, Q3, HL2⟩
          case measure => simp [intOf]; omega
        · have b2 : (x.k == 2) = false := by rw [beq_eq_false_iff_ne]; exact e2
          by_cases e3 : x.k = 3
          · have b3 : (x.k == 3) = true := by rw [beq_iff_eq]; exact e3
            have E : Hid (Wr.itB x = Wr.encT x.s.data.toList) := (if_neg e1).trans ((if_neg e2).trans (if_pos e3))
            have U := Lib.hid (wire_WText x.s (by omega) wr HW.out hl5)
            clear hx hok hsn hlen hls e1 e2 e3 hi
            go_wp2_with fail
            refine U.out.mono ?_
            rintro e w1 ⟨rfl, h1⟩
            have H1 := Lib.hid (WSt.go HT.out HG.out h1)
            clear h1
            go_wp2_with fail
            obtain ⟨fp2, q1, q2, q3⟩ := H1.out
            rw [List.append_assoc, ← E.out, ← HSN.out] at q1
            have Q1 := Lib.hid q1
            have Q2 := Lib.hid q2
            have Q3 := Lib.hid q3
            clear q1 q2 q3
            go_roundw
            case rel => exact ⟨k + 1, fp2, by omega, by go_num, Q1, Q2, Q3, HL2⟩
            case measure => simp [intOf]; omega
          · have b3 : (x.k == 3) = false := by rw [beq_eq_false_iff_ne]; exact e3
            have E : Hid (Wr.itB x = Wr.encL x.l) := (if_neg e1).trans ((if_neg e2).trans (if_neg e3))
            have U := Lib.hid (wire_WInts (c := x.c) wr HW.out hok.i (fun ad e h0 => HG.out.off (Nat.le_refl _) _ (hok.a ad e h0)) (by omega) hok.c0 hok.c1 hok.z hl5)
            clear hx hok hsn hlen hls e1 e2 e3 hi
            go_wp2_with fail
            refine U.out.mono ?_
            rintro e w1 ⟨rfl, h1⟩
            have H1 := Lib.hid (WSt.go HT.out HG.out h1)
            clear h1
            go_wp2_with fail
            obtain ⟨fp2, q1, q2, q3⟩ := H1.out
            rw [List.append_assoc, ← E.out, ← HSN.out] at q1
            have Q1 := Lib.hid q1
            have Q2 := Lib.hid q2
            have Q3 := Lib.hid q3
            clear q1 q2 q3
            go_roundw
            case rel => exact ⟨k + 1, fp2, by omega, by go_num, Q1, Q2, Q3, HL2⟩
            case measure => simp [intOf]; omega
    · have hge : ¬ (k : Int) < (n : Int) := by omega
      have hw := HW.out
      rw [List.take_of_length_le (by rw [HI.out.1]; omega)] at hw
      have W1 := Lib.hid hw
      clear hw
      go_wp2_with fail
      go_end0
      exact ⟨rfl, fp1, W1.out, HT.out, HG.out⟩
end Go.Proofs.Ytdleleanaihcoaa
