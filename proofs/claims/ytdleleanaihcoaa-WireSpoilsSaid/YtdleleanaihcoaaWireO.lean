/- Layer 8, the laws: a writer or a reader of the call's own; the chapter's examples. -/
import Derived.Test.YtdleleanaihcoaaWireN
import Derived.Test.YtdleleanaihcoaaWireF
import Derived.Lib.SlBytesConst
namespace Go.Proofs.Ytdleleanaihcoaa
set_option maxRecDepth 20000
open Go.RowKit
set_option linter.unusedVariables false
set_option linter.unusedSimpArgs false
/-- A writer made since w0, and nothing that was there then has turned. -/
def WAt (w0 W : World) (p : Nat) (L : List UInt8) : Prop := Below w0.heap.size w0 W ∧ ∃ fp, WrP W p L fp ∧ ∀ b, fp b → w0.heap.size ≤ b
def RAt (w0 W : World) (p : Nat) (s : Wr.St) : Prop := Below w0.heap.size w0 W ∧ ∃ fp, RdP W p s fp ∧ ∀ b, fp b → w0.heap.size ≤ b
section
variable {w0 W W' : World} {p f : Nat} {L M : List UInt8} {s s' : Wr.St} {r : Value} {args : Array Value}
theorem WAt.on (h : WAt w0 W p L) (hb : Below W.heap.size W W') : WAt w0 W' p L := by
  obtain ⟨h0, fp, h1, h2⟩ := h
  exact ⟨bel8 h0 hb, fp, h1.keep (fq := noB) (Turns.of_below hb) fun _ _ e => e.elim, h2⟩
theorem RAt.on (h : RAt w0 W p s) (hb : Below W.heap.size W W') : RAt w0 W' p s := by
  obtain ⟨h0, fp, h1, h2⟩ := h
  exact ⟨bel8 h0 hb, fp, h1.on hb, h2⟩
theorem WAt.al (h : WAt w0 W p L) (o : Obj) : WAt w0 (W.alloc o) p L := h.on ((Below.refl _ _).alloc (Nat.le_refl _) o)
theorem RAt.al (h : RAt w0 W p s) (o : Obj) : RAt w0 (W.alloc o) p s := h.on ((Below.refl _ _).alloc (Nat.le_refl _) o)
theorem WAt.call (h : WAt w0 W p L) (hs : ∀ fp, WrP W p L fp → (∀ b, fp b → w0.heap.size ≤ b) → Calls Try.prog f args W (WSt WrP W p fp M)) :
    Calls Try.prog f args W fun e w' => e = .returned (.tuple #[]) ∧ WAt w0 w' p M := by
  obtain ⟨h0, fp, h1, h2⟩ := h
  refine (hs fp h1 h2).mono ?_
  rintro e w' ⟨rfl, fp', q1, q2, q3⟩
  exact ⟨rfl, q2.on_below h0 h0.size fun b _ hb => h2 b hb, fp', q1, fun b hb => (q3 b hb).elim (h2 b) fun h => Nat.le_trans h0.size h⟩
theorem WAt.callOn (h : WAt w0 W p L) (hb : Below W.heap.size W W') (hs : ∀ fp, WrP W' p L fp → (∀ b, fp b → w0.heap.size ≤ b ∧ b < W.heap.size) → Calls Try.prog f args W' (WSt WrP W' p fp M)) :
    Calls Try.prog f args W' fun e w' => e = .returned (.tuple #[]) ∧ WAt w0 w' p M := by
  obtain ⟨h0, fp, h1, h2⟩ := h
  have h0' := bel8 h0 hb
  refine (hs fp (h1.keep (fq := noB) (Turns.of_below hb) fun _ _ e => e.elim) fun b hx => ⟨h2 b hx, h1.lt b hx⟩).mono ?_
  rintro e w' ⟨rfl, fp', q1, q2, q3⟩
  exact ⟨rfl, q2.on_below h0' h0'.size fun b _ hb => h2 b hb, fp', q1, fun b hb => (q3 b hb).elim (h2 b) fun h => Nat.le_trans h0'.size h⟩
theorem RAt.call (h : RAt w0 W p s) (hs : ∀ fp, RdP W p s fp → (∀ b, fp b → w0.heap.size ≤ b) → Calls Try.prog f args W (RSt RdP W p fp r s')) :
    Calls Try.prog f args W fun e w' => e = .returned r ∧ RAt w0 w' p s' := by
  obtain ⟨h0, fp, h1, h2⟩ := h
  refine (hs fp h1 h2).mono ?_
  rintro e w' ⟨rfl, fp', q1, q2, q3⟩
  exact ⟨rfl, q2.on_below h0 h0.size fun b _ hb => h2 b hb, fp', q1, fun b hb => (q3 b hb).elim (h2 b) fun h => Nat.le_trans h0.size h⟩
theorem RAt.ints {l : List Int} (h : RAt w0 W p s) (hs : ∀ fp, RdP W p s fp → (∀ b, fp b → w0.heap.size ≤ b) → Calls Try.prog f args W (RLSt RdP W p fp l s')) :
    Calls Try.prog f args W fun e w' => ∃ A c, e = .returned (.slice A l.length c) ∧ l.length ≤ c ∧ c ≤ 9223372036854775807 ∧ Ints w' w'.heap.size A l.length l ∧ (∀ ad, A = some ad → 0 < l.length → w0.heap.size ≤ ad.block) ∧ RAt w0 w' p s' := by
  obtain ⟨h0, fp, h1, h2⟩ := h
  refine (hs fp h1 h2).mono ?_
  rintro e w' ⟨A, c, fp', rfl, k1, k2, k3, k4, q1, q2, q3⟩
  exact ⟨A, c, rfl, k1, k2, k3, fun ad e h0' => Nat.le_trans h0.size (k4 ad e h0').1, q2.on_below h0 h0.size fun b _ hb => h2 b hb, fp', q1, fun b hb => (q3 b hb).elim (h2 b) fun h => Nat.le_trans h0.size h⟩
end
theorem ints_two (w : World) (t : TypeId) : Ints (w.alloc (.cells #[.int .i64 1, .int .i64 (-2)] t)) (w.alloc (.cells #[.int .i64 1, .int .i64 (-2)] t)).heap.size (some ⟨w.heap.size, 0, none⟩) 2 [1, -2] :=
  ⟨rfl, fun _ => ⟨_, rfl, by rw [size_alloc]; exact Nat.lt_succ_self _, fun j hj => by
    have e : (⟨w.heap.size, 0, none⟩ : Addr).add j = ⟨w.heap.size, j, none⟩ := by rw [add_at, Nat.zero_add]
    rw [e, cell_of_row _ _ _ _ _ _ (heap_alloc_new w _)]
    match j, hj with
    | 0, _ => rfl
    | 1, _ => rfl⟩⟩
namespace Wr
def exL : List UInt8 := [172, 2, 1, 2, 97, 98, 2, 2, 3]
theorem ex_1 : rdU ⟨exL, 0⟩ = (300, ⟨[1, 2, 97, 98, 2, 2, 3], 0⟩) := by kernel_rfl
theorem ex_2 : rdI ⟨[1, 2, 97, 98, 2, 2, 3], 0⟩ = (-1, ⟨[2, 97, 98, 2, 2, 3], 0⟩) := by kernel_rfl
theorem ex_3 : rdT 2 ⟨[2, 97, 98, 2, 2, 3], 0⟩ = ([97, 98], ⟨[2, 2, 3], 0⟩) := by kernel_rfl
theorem ex_4 : rdL 2 ⟨[2, 2, 3], 0⟩ = ([1, -2], ⟨[], 0⟩) := by kernel_rfl
theorem ex_5 : (frame [97, 98, 99]).length = 12 := by
  unfold frame
  rw [List.length_append, List.length_append, bg_len]
  decide +kernel
theorem ex_6 : nxL (frame [97, 98, 99]) 0 = [97, 98, 99] ∧ nxA (frame [97, 98, 99]) 0 = 12 ∧ nxE (frame [97, 98, 99]) 0 = 0 := by
  have h := nx0_frame [97, 98, 99] [] (by decide)
  rw [List.append_nil, ex_5] at h
  obtain ⟨h1, h2, h3⟩ := nx_in (L := frame [97, 98, 99]) (k := 0) (Nat.zero_le _) h
  exact ⟨h1, h2, h3⟩
theorem ex_enc : (((([] ++ enc 300) ++ encI (-1)) ++ encT [97, 98]) ++ encL [1, -2]) = exL := by decide +kernel
end Wr
theorem byts_three (w : World) (t : TypeId) : Byts (w.alloc (.cells #[.int .u8 97, .int .u8 98, .int .u8 99] t (3, 4))) (w.alloc (.cells #[.int .u8 97, .int .u8 98, .int .u8 99] t (3, 4))).heap.size (some ⟨w.heap.size, 0, none⟩) 3 [97, 98, 99] :=
  ⟨rfl, fun _ => ⟨_, rfl, by rw [size_alloc]; exact Nat.lt_succ_self _, fun j d hj => by
    have e : (⟨w.heap.size, 0, none⟩ : Addr).add j = ⟨w.heap.size, j, none⟩ := by rw [add_at, Nat.zero_add]
    rw [e, World.cell?_alloc_mark]
    match j, hj with
    | 0, hj => obtain rfl : (97 : UInt8) = d := by simpa using hj
               rfl
    | 1, hj => obtain rfl : (98 : UInt8) = d := by simpa using hj
               rfl
    | 2, hj => obtain rfl : (99 : UInt8) = d := by simpa using hj
               rfl
    | n + 3, hj => simp at hj⟩⟩
set_option maxHeartbeats 1000000 in
theorem law8_awake (w : World) : Calls Try.prog 12 #[] w fun e w' => e = .returned (.bool true) ∧ Below w.heap.size w w' := by
  go_enter Try.func12, Try.ntmps12
  go_wp2_with fail
  refine (wire_NewWriter w).mono ?_
  rintro e w1 ⟨p, fp, rfl, h1, h2, h3⟩
  have A1 : Hid (WAt w w1 p []) := ⟨h2, fp, h1, h3⟩
  clear h1 h2 h3
  go_wp2_with fail
  refine (A1.out.call fun fp h _ => wire_Uint 300 (by omega) w1 h (by simp)).mono ?_
  rintro e w2 ⟨rfl, a2⟩
  have A2 := Lib.hid a2
  clear a2
  go_wp2_with fail
  refine (A2.out.call fun fp h _ => wire_Int (-1) (by omega) (by omega) w2 h (by decide +kernel)).mono ?_
  rintro e w3 ⟨rfl, a3⟩
  have A3 := Lib.hid a3
  clear a3
  go_wp2_with fail
  refine (A3.out.call fun fp h _ => wire_WText ⟨#[97, 98]⟩ (by decide) w3 h (by decide +kernel)).mono ?_
  rintro e w4 ⟨rfl, a4⟩
  have A4 := Lib.hid a4
  have I4 := Lib.hid (ints_two w4 3)
  have B4 : Hid (Below w4.heap.size w4 (w4.alloc (.cells #[.int .i64 1, .int .i64 (-2)] 3))) := (Below.refl _ _).alloc (Nat.le_refl _) _
  clear a4
  go_wp2_with fail
  refine (A4.out.callOn B4.out fun fp h hf => wire_WInts _ h I4.out (fun ad e _ hb => by
    injection e with e
    subst e
    exact absurd (hf _ hb).2 (Nat.lt_irrefl _)) (by omega) (by omega) (by omega) (by decide) (by decide +kernel)).mono ?_
  rintro e w5 ⟨rfl, a5⟩
  rw [show ([] ++ Wr.enc 300 ++ Wr.encI (-1) ++ Wr.encT ({ data := #[97, 98] } : ByteArray).data.toList ++ Wr.encL [1, -2]) = Wr.exL from Wr.ex_enc] at a5
  have A5 := Lib.hid a5
  clear a5
  go_wp2_with fail
  refine ((A5.out.2.elim fun fp h => wire_WBytes w5 h.1 (by decide)) : Calls _ _ _ _ _).mono ?_
  rintro e w6 ⟨A, c, rfl, b6, y6, -, c6, c6'⟩
  have B6 := Lib.hid (bel8 A5.out.1 b6)
  have Y6 := Lib.hid y6
  have cv := conv_bytes (c := c) y6
  clear b6 y6
  have hl : Wr.exL.length = 9 := rfl
  rw [hl] at cv Y6 c6 ⊢
  go_wp2_with fail
  refine (wire_NewReader w6 Y6.out (by omega) c6 c6').mono ?_
  rintro e w7 ⟨q, fq, rfl, h7, b7, f7⟩
  have R7 : Hid (RAt w w7 q ⟨Wr.exL, 0⟩) := ⟨bel8 B6.out b7, fq, h7, fun b hb => Nat.le_trans B6.out.size (f7 b hb)⟩
  have Y7 := Lib.hid (Y6.out.on b7)
  clear cv
  have cv := conv_bytes (c := c) Y7.out
  clear h7 b7 f7
  have hx : (Wr.exL == [172, 2, 1, 2, 97, 98, 2, 2, 3]) = true := by decide
  go_wp2_with fail
  refine (R7.out.call fun fp h _ => wire_RUint w7 h).mono ?_
  rw [Wr.ex_1]
  rintro e w8 ⟨rfl, r8⟩
  have R8 := Lib.hid r8
  clear r8 cv
  go_wp2_with fail
  refine (R8.out.call fun fp h _ => wire_RInt w8 h).mono ?_
  rw [Wr.ex_2]
  rintro e w9 ⟨rfl, r9⟩
  have R9 := Lib.hid r9
  clear r9
  go_wp2_with fail
  refine (R9.out.call fun fp h _ => wire_RText w9 h 2 (by omega) (by omega)).mono ?_
  rw [Wr.ex_3]
  rintro e w10 ⟨rfl, r10⟩
  have R10 := Lib.hid r10
  clear r10
  go_wp2_with fail
  refine (R10.out.ints fun fp h _ => wire_RInts w10 h 2 (by omega) (by omega)).mono ?_
  rw [Wr.ex_4]
  rintro e w11 ⟨AL, cL, rfl, -, cL2, i11, -, r11⟩
  have R11 := Lib.hid (r11.al (.cells #[.int .u8 97, .int .u8 98, .int .u8 99] 5 (3, 4)))
  have Y11 := Lib.hid (byts_three w11 5)
  have I11 := Lib.hid (ints_turn i11 (fq := noB) ((Turns.refl w11).alloc (.cells #[.int .u8 97, .int .u8 98, .int .u8 99] 5 (3, 4))) fun _ _ _ e => e.elim)
  clear i11 r11
  rw [show ([1, -2] : List Int).length = 2 from rfl]
  have cs := Lib.run_convert_bytes_const (P := Try.prog) w11 38 5 #[.int .u8 97, .int .u8 98, .int .u8 99] 3 3 Try.underlying38 Try.underlying5
  go_wp2_with fail
  refine (wire_Frame (c := 3) _ Y11.out (by omega) (by omega) (by omega)).mono ?_
  rintro e w12 ⟨AF, cF, rfl, b12, y12, -, cF2, cF3⟩
  have R12 := Lib.hid (R11.out.on b12)
  have I12 := Lib.hid (ints_turn I11.out (fq := noB) (Turns.of_below b12) fun _ _ _ e => e.elim)
  rw [Wr.ex_5] at y12 cF2 ⊢
  have Y12 := Lib.hid y12
  clear b12 y12
  go_wp2_with fail
  refine (wire_Next w12 Y12.out (by omega) cF2 cF3 0 (by omega) (by omega)).mono ?_
  rw [Wr.ex_6.1, Wr.ex_6.2.1, Wr.ex_6.2.2]
  rintro e w13 ⟨AX, cX, rfl, b13, y13, -, cX2, cX3⟩
  have R13 := Lib.hid (R12.out.on b13)
  have I13 := Lib.hid (ints_turn I12.out (fq := noB) (Turns.of_below b13) fun _ _ _ e => e.elim)
  rw [show ([97, 98, 99] : List UInt8).length = 3 from rfl] at y13 cX2 ⊢
  have Y13 := Lib.hid y13
  clear b13 y13
  go_wp2_with fail
  have B14 : Below w13.heap.size w13 (w13.alloc (.cells #[.int .i64 1, .int .i64 (-2)] 3)) := (Below.refl _ _).alloc (Nat.le_refl _) _
  have R14 := Lib.hid (R13.out.on B14)
  have I14 := Lib.hid (ints_turn I13.out (fq := noB) (Turns.of_below B14) fun _ _ _ e => e.elim)
  have Y14 := Lib.hid (Y13.out.on B14)
  have T14 := Lib.hid (ints_two w13 3)
  clear B14
  refine (law8_same (c := cL) (c' := 2) _ I14.out T14.out (by decide) (by decide)).mono ?_
  rw [show (([1, -2] : List Int) == [1, -2]) = true by decide]
  rintro e w15 ⟨rfl, j, rfl⟩
  have R15 := Lib.hid (R14.out.on (below_drewN _ j))
  have Y15 := Lib.hid (Y14.out.on (below_drewN _ j))
  go_wp2_with fail
  obtain ⟨fp15, h15, -⟩ := R15.out.2
  refine (wire_Left _ h15).mono ?_
  rw [show Wr.left ⟨[], 0⟩ = 0 from rfl]
  rintro e w16 ⟨rfl, b16⟩
  have R16 := Lib.hid (R15.out.on b16)
  have Y16 := Lib.hid (Y15.out.on b16)
  clear b16 h15
  go_wp2_with fail
  obtain ⟨fp16, h16, -⟩ := R16.out.2
  refine (wire_Err _ h16).mono ?_
  rintro e w17 ⟨rfl, b17⟩
  have R17 := Lib.hid (R16.out.on b17)
  have Y17 := Lib.hid (Y16.out.on b17)
  clear b17 h16
  have cv := conv_bytes (c := cX) Y17.out
  go_wp2_with fail
  go_ret
  exact ⟨rfl, R17.out.1⟩
end Go.Proofs.Ytdleleanaihcoaa
