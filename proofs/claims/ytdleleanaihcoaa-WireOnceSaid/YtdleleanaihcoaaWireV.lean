/- Layer 8, the project's package wire: the Writer. -/
import Derived.Test.YtdleleanaihcoaaWireU
import Derived.Lib.ConvBytes
namespace Go.Proofs.Ytdleleanaihcoaa
set_option maxRecDepth 20000
open Go.RowKit
set_option linter.unusedVariables false
set_option linter.unusedSimpArgs false
/-- []byte(s): a new row that reads as the string's bytes. -/
theorem conv_any (w : World) (s : ByteArray) : ∃ w2 c, (convert 9 38 (.string s)).run Try.prog w = .ok (.slice (some ⟨w.heap.size, 0, none⟩) s.size c) w2 ∧ Below w.heap.size w w2 ∧ Byts w2 w2.heap.size (some ⟨w.heap.size, 0, none⟩) s.size s.data.toList := by
  refine ⟨Lib.bytesWorld w 5 s, grownCap w s.size 0 5, Lib.run_convert_string_bytes w _ _ _ s Try.underlying9 Try.underlying38 Try.underlying5, ⟨?_, ?_, ?_, ?_, fun b hb => Lib.bytesWorld_at_old _ _ _ _ hb⟩, Array.length_toList, fun h0 => ⟨_, rfl, ?_, fun j c hj => ?_⟩⟩
  · unfold Lib.bytesWorld World.freeze; rw [if_neg (by decide)]; rfl
  · unfold Lib.bytesWorld World.freeze; rw [if_neg (by decide)]; rfl
  · unfold Lib.bytesWorld World.freeze; rw [if_neg (by decide)]; rfl
  · rw [Lib.bytesWorld_size]; exact Nat.le_succ _
  · show w.heap.size < _; rw [Lib.bytesWorld_size]; exact Nat.lt_succ_self _
  · have hjs : j < s.size := by
      have := (List.getElem?_eq_some_iff.1 hj).1
      rw [Array.length_toList] at this
      exact this
    rw [add0, Nat.zero_add, Lib.bytesWorld_cell w _ s j hjs, List.getD_eq_getElem?_getD, hj]
    rfl
theorem RWv.al {W : World} {T : TypeId} {p : Nat} {v : Value} {L : List UInt8} (h : RWv W T p v L) (o : Obj) : RWv (W.alloc o) T p v L := h.keep (fq := noB) ((Turns.refl W).alloc o) fun _ _ e => e
theorem RWv.on {W W' : World} {T : TypeId} {p : Nat} {v : Value} {L : List UInt8} (h : RWv W T p v L) (hb : Below W.heap.size W W') : RWv W' T p v L := h.keep (fq := noB) (Turns.of_below hb) fun _ _ e => e
/-- A step behind another one that changed nothing of what was there. -/
theorem WStep.behind {W W1 W2 : World} {T : TypeId} {p : Nat} {v : Value} {M : List UInt8} {e : Ending} (hb : Below W.heap.size W W1) (h : WStep W1 T p v M e W2) : WStep W T p v M e W2 :=
  WStep.trans (Turns.of_below hb) (fun b h => .inl h) h
theorem wireV_NewWriter (w : World) : Calls Try.prog 13 #[] w fun e w' => ∃ p T, e = .returned (.pointer (some ⟨p, 0, none⟩)) ∧ RWv w' T p (.slice none 0 0) [] ∧ Below w.heap.size w w' ∧ w.heap.size ≤ p := by
  go_enter Try.func13, Try.ntmps13
  go_wp2_with fail
  go_ret
  exact ⟨_, _, rfl, ⟨heap_alloc_new w _, OwnB.nil _ _, nofun⟩, (Below.refl _ _).alloc (Nat.le_refl _) _, Nat.le_refl _⟩
theorem wireV_add {T : TypeId} {p n c : Nat} {A : Option Addr} {v : Value} {L M : List UInt8} (w : World) (h : RWv w T p v L) (hM : Byts w w.heap.size A n M) (hl : L.length + n ≤ 1000000000000) :
    Calls Try.prog 60 #[.pointer (some ⟨p, 0, none⟩), .slice A n c] w (WStep w T p v (L ++ M)) := by
  have H := Lib.hid h
  obtain ⟨A1, c1, ev, q1, q2, q3, q4⟩ := h.own.form
  subst ev
  have hc := h.cell
  have hf := h.free
  have HM := Lib.hid hM
  clear h q3 q4 hM
  go_enter Try.func60, Try.ntmps60
  go_wp2_with (at_builtin; refine Hid.out ?_)
  refine Lib.hid (wpList_appAny rfl (.tmp 10) (.tmp 11) rfl 0 (.slice A1 L.length c1) L rfl H.out.own A n c w.heap.size M rfl HM.out hl (Nat.zero_le _) ?_)
  intro v2 w2 hown hg hor
  obtain ⟨A2, c2, rfl, -, -, -, -⟩ := hown.form
  have hc2 := cell_of_one (H.out.after (Below.refl _ _) hg)
  have hf2 := free_of_one (H.out.after (Below.refl _ _) hg)
  have F := Lib.hid (H.out.app (Below.refl _ _) hown hg hor)
  obtain ⟨k, ek⟩ : ∃ k, k = (L ++ M).length := ⟨_, rfl⟩
  rw [← ek] at F ⊢
  clear hown hg hor ek
  go_wp2_with fail
  go_end0
  exact ⟨rfl, _, F.out⟩
theorem wire_add_nil (w : World) (x : Value) : Calls Try.prog 60 #[.pointer none, x] w fun e w' => e = .returned (.tuple #[]) ∧ w = w' := by
  go_enter Try.func60, Try.ntmps60
  go_wp2_with fail
  go_end0
  exact ⟨rfl, rfl⟩
set_option maxHeartbeats 1000000 in
theorem wireV_Uint {T : TypeId} {p : Nat} {v : Value} {L : List UInt8} (x : Nat) (hx : x < 18446744073709551616) (w : World) (h : RWv w T p v L) (hl : L.length ≤ 900000000000) :
    Calls Try.prog 42 #[.pointer (some ⟨p, 0, none⟩), .int .u64 (x : Int)] w (WStep w T p v (L ++ Wr.enc x)) := by
  have HX := Lib.hid (Wr.enc_ten hx)
  have HL := Lib.hid hl
  have R0 := Lib.hid h
  have hx1 : x ≤ 18446744073709551615 := by omega
  clear h hx hl
  go_enter Try.func42, Try.ntmps42
  go_wp2_with fail
  go_loopw [1] (fun a W => ∃ (X : Nat) (u : Value) (M : List UInt8), a = .int .u64 (X : Int) ∧ X ≤ 18446744073709551615 ∧ Hid (RWv W T p u (L ++ M)) ∧ Hid (Turns (fpv p v) w W) ∧ Hid (Grows w (fpv p v) (fpv p u)) ∧ Hid (Wr.enc x = M ++ Wr.enc X)) (fun a _ => (intOf a).toNat)
  case atStart => exact ⟨x, v, [], rfl, hx1, by show RWv _ _ _ _ _; rw [List.append_nil]; exact R0.out, Turns.refl _, fun b hb => .inl hb, rfl⟩
  case round =>
    obtain ⟨X, u, M, rfl, hX, R1, R2, R3, HE⟩ := hrel
    have hMl : M.length + (Wr.enc X).length ≤ 10 := by have h1 := HX.out; rw [HE.out, List.length_append] at h1; exact h1
    have hp := Wr.enc_pos X
    have HLM : Hid ((L ++ M).length + 1 ≤ 1000000000000) := by show _ ≤ _; rw [List.length_append]; have := HL.out; omega
    by_cases hlt : X < 128
    · have h1 : ¬ (128 : Int) ≤ (X : Int) := by omega
      have h2 : (X : Int) ≤ 127 := by omega
      have HY : Hid ((X : Int) = (((Wr.b8 X).toNat : Nat) : Int)) := by show _ = _; rw [Wr.b8_nat (by omega)]
      have HE2 : Hid (L ++ Wr.enc x = (L ++ M) ++ [Wr.b8 X]) := by show _ = _; rw [HE.out, Wr.enc_small hlt, List.append_assoc]
      have HB := Lib.hid ((Below.refl wr.heap.size wr).alloc (Nat.le_refl _) (.cells #[.int .u8 (X : Int)] 5))
      clear hp hMl
      go_wp2_with (go_at_call 60; refine (wireV_add _ (R1.out.al _) (Byts.one wr _ HY.out) HLM.out).mono ?_; rintro e w2 hS; have HS := Lib.hid (WStep.trans R2.out R3.out (WStep.behind HB.out hS)); obtain ⟨rfl, -⟩ := hS)
      go_end0
      rw [HE2.out]
      exact HS.out
    · have h1 : (128 : Int) ≤ (X : Int) := by omega
      obtain ⟨r, er⟩ : ∃ r : Nat, r = X % 128 := ⟨_, rfl⟩
      obtain ⟨q, eq⟩ : ∃ q : Nat, q = X / 128 := ⟨_, rfl⟩
      have hr : (X : Int) % 128 = (r : Int) := by omega
      have hr' : (X : Int).tmod 128 = (r : Int) := by rw [Int.tmod_eq_emod_of_nonneg (by omega)]; exact hr
      have hq : (X : Int) / 128 = (q : Int) := by omega
      have r1 : r ≤ 127 := by omega
      have q1 : q ≤ 18446744073709551615 := by omega
      have qX : q < X := by omega
      obtain ⟨R, eR⟩ : ∃ R : Nat, R = r + 128 := ⟨_, rfl⟩
      have hor : bits .or .u8 (r : Int) 128 = (R : Int) := by rw [eR]; exact Wr.or_128 (by omega)
      have hR : R ≤ 255 := by omega
      have HY : Hid ((R : Int) = (((Wr.b8 R).toNat : Nat) : Int)) := by show _ = _; rw [Wr.b8_nat (by omega)]
      have HE2 : Hid (Wr.enc x = (M ++ [Wr.b8 R]) ++ Wr.enc q) := by
        show _ = _
        rw [HE.out, Wr.enc_big hlt, ← er, ← eq, ← eR, List.append_assoc]; rfl
      have HB := Lib.hid ((Below.refl wr.heap.size wr).alloc (Nat.le_refl _) (.cells #[.int .u8 (R : Int)] 5))
      clear er eq eR hp hMl
      go_wp2_with (go_at_call 60; refine (wireV_add _ (R1.out.al _) (Byts.one wr _ HY.out) HLM.out).mono ?_; rintro e w2 hS; have HS := Lib.hid (WStep.trans R2.out R3.out (WStep.behind HB.out hS)); obtain ⟨rfl, -⟩ := hS)
      obtain ⟨-, u2, Q1, Q2, Q3⟩ := HS.out
      rw [List.append_assoc] at Q1
      have G1 := Lib.hid Q1
      have G2 := Lib.hid Q2
      have G3 := Lib.hid Q3
      clear Q1 Q2 Q3 HS R1 R2 R3
      go_roundw
      case rel => exact ⟨q, u2, M ++ [Wr.b8 R], rfl, q1, G1, G2, G3, HE2⟩
      case measure => simp [intOf]; omega
theorem wireV_Int {T : TypeId} {p : Nat} {v : Value} {L : List UInt8} (x : Int) (x0 : -9223372036854775808 ≤ x) (x1 : x ≤ 9223372036854775807) (w : World) (h : RWv w T p v L) (hl : L.length ≤ 900000000000) :
    Calls Try.prog 43 #[.pointer (some ⟨p, 0, none⟩), .int .i64 x] w (WStep w T p v (L ++ Wr.encI x)) := by
  have Z := Lib.hid (wire_zigzag x w x0 x1)
  have U := Lib.hid (wireV_Uint (Wr.zz x) (Wr.zz_bd x0 x1) w h hl)
  clear h
  go_enter Try.func43, Try.ntmps43
  go_wp2_with (first
    | (go_at_call 61; refine Z.out.mono ?_; rintro e w' ⟨rfl, rfl⟩)
    | (go_at_call 42; refine U.out.mono ?_; rintro e w' ⟨rfl, v', h1, h2, h3⟩; have H1 := Lib.hid h1; have H2 := Lib.hid h2; have H3 := Lib.hid h3; clear h1 h2 h3))
  go_end0
  exact ⟨rfl, v', H1.out, H2.out, H3.out⟩
theorem wireV_WText {T : TypeId} {p : Nat} {v : Value} {L : List UInt8} (s : ByteArray) (hs : s.size ≤ 9000000000) (w : World) (h : RWv w T p v L) (hl : L.length ≤ 900000000000) :
    Calls Try.prog 44 #[.pointer (some ⟨p, 0, none⟩), .string s] w (WStep w T p v (L ++ Wr.encT s.data.toList)) := by
  have hb : s.size ≤ 18446744073709551615 := by omega
  have hz : s.data.toList.length = s.size := Array.length_toList
  have U := Lib.hid (wireV_Uint s.size (by omega) w h hl)
  have hten := Wr.enc_ten (x := s.size) (by omega)
  have HL : Hid ((L ++ Wr.enc s.size).length + s.size ≤ 1000000000000) := by show _ ≤ _; rw [List.length_append]; omega
  have HE : Hid (L ++ Wr.encT s.data.toList = (L ++ Wr.enc s.size) ++ s.data.toList) := by show _ = _; unfold Wr.encT; rw [hz, List.append_assoc]
  clear h hz hten
  go_enter Try.func44, Try.ntmps44
  go_wp2_with (first
    | (go_at_call 42; refine U.out.mono ?_; rintro e w' ⟨rfl, v', h1, h2, h3⟩; obtain ⟨w2, c2, hcv, hB2, hM2⟩ := conv_any w' s; have HB2 := Lib.hid hB2; have HM2 := Lib.hid hM2; have H1 := Lib.hid (h1.on hB2); have H2 := Lib.hid h2; have H3 := Lib.hid h3; clear h1 h2 h3 hB2 hM2)
    | (go_at_call 60; refine (wireV_add _ H1.out HM2.out HL.out).mono ?_; rintro e w3 hS; have HS := Lib.hid (WStep.trans H2.out H3.out (WStep.behind HB2.out hS)); obtain ⟨rfl, -⟩ := hS))
  go_end0
  rw [HE.out]
  exact HS.out
theorem wireV_WInts {T : TypeId} {p n c : Nat} {v : Value} {L : List UInt8} {A : Option Addr} {zs : List Int} (w : World) (h : RWv w T p v L) (hI : Ints w w.heap.size A n zs) (hA : ∀ ad, A = some ad → 0 < n → ¬ fpv p v ad.block) (hn : n ≤ 9000000000) (hz : ∀ x, x ∈ zs → -9223372036854775808 ≤ x ∧ x ≤ 9223372036854775807) (hl : L.length ≤ 500000000000) :
    Calls Try.prog 45 #[.pointer (some ⟨p, 0, none⟩), .slice A n c] w (WStep w T p v (L ++ Wr.encL zs)) := by
  have hb : n ≤ 18446744073709551615 := by omega
  have HI := Lib.hid hI
  have HA := Lib.hid hA
  have HZ := Lib.hid hz
  have U := Lib.hid (wireV_Uint n (by omega) w h (by omega))
  have hten := Wr.enc_ten (x := n) (by omega)
  have HL : Hid ((L ++ Wr.enc n).length ≤ 600000000000) := by show _ ≤ _; rw [List.length_append]; omega
  have HE : Hid (L ++ Wr.encL zs = (L ++ Wr.enc n) ++ Wr.encAll zs) := by show _ = _; unfold Wr.encL; rw [hI.len, List.append_assoc]
  clear h hten hI hA hz
  go_enter Try.func45, Try.ntmps45
  go_wp2_with (first
    | (go_at_call 42; refine U.out.mono ?_; rintro e w' ⟨rfl, v', h1, h2, h3⟩; have H1 := Lib.hid h1; have H2 := Lib.hid h2; have H3 := Lib.hid h3; clear h1 h2 h3))
  go_loopw [13] (fun i W => ∃ (j : Nat) (u : Value), i = .int .i64 (j : Int) ∧ j ≤ n ∧ Hid (RWv W T p u ((L ++ Wr.enc n) ++ Wr.encAll (zs.take j))) ∧ Hid (Turns (fpv p v) w W) ∧ Hid (Grows w (fpv p v) (fpv p u))) (fun i _ => n - (intOf i).toNat)
  case atStart => exact ⟨0, v', rfl, Nat.zero_le _, by show RWv _ _ _ _ _; rw [List.take_zero]; show RWv _ _ _ _ (_ ++ []); rw [List.append_nil]; exact H1.out, H2, H3⟩
  case round =>
    obtain ⟨j, u, rfl, hj, R1, R2, R3⟩ := hrel
    by_cases hlt : j < n
    · have hI2 := ints_turn HI.out R2.out HA.out
      obtain ⟨ad, x, rfl, hb2, hcell, HX⟩ := hI2.at_ hlt
      have hx : -9223372036854775808 ≤ x ∧ x ≤ 9223372036854775807 := HZ.out x (by
        rw [HX.out, List.getD_eq_getElem?_getD, List.getElem?_eq_getElem (by rw [HI.out.len]; exact hlt)]
        exact List.getElem_mem _)
      obtain ⟨x0, x1⟩ := hx
      have hlt2 : (j : Int) < (n : Int) := by omega
      have V := Lib.hid (wireV_Int x x0 x1 wr R1.out (by
        rw [List.length_append]
        have h1 := HL.out
        have h2 : (Wr.encAll (zs.take j)).length ≤ 10 * j := Nat.le_trans (Wr.encAll_len _ fun x hx => HZ.out x (List.mem_of_mem_take hx)) (by rw [List.length_take]; omega)
        omega))
      clear hI2 hb2
      go_wp2_with (first
        | (go_at_call 43; refine V.out.mono ?_; rintro e w3 ⟨rfl, u2, h1, h2, h3⟩; have Q1 := Lib.hid h1; have Q2 := Lib.hid h2; have Q3 := Lib.hid h3; clear h1 h2 h3))
      have G1 : Hid (RWv w3 T p u2 ((L ++ Wr.enc n) ++ Wr.encAll (zs.take (j + 1)))) := by
        show RWv _ _ _ _ _
        have e : zs.take (j + 1) = zs.take j ++ [x] := by
          rw [List.take_add_one, HX.out, List.getD_eq_getElem?_getD, List.getElem?_eq_getElem (by rw [HI.out.len]; exact hlt)]; rfl
        rw [e, Wr.encAll_snoc, ← List.append_assoc]
        exact Q1.out
      have G2 := Lib.hid (R2.out.trans Q2.out fun b hb hf => (R3.out b hf).resolve_right (by omega))
      have G3 := Lib.hid (R3.out.trans Q3.out R2.out.size)
      clear Q1 Q2 Q3 R1 R2 R3
      go_wp2_with fail
      go_roundw
      case rel => exact ⟨j + 1, u2, by go_num, by omega, G1, G2, G3⟩
      case measure => simp [intOf]; omega
    · obtain rfl : j = n := by omega
      go_wp2_with fail
      go_end0
      exact ⟨rfl, u, by rw [HE.out]; have := R1.out; rw [List.take_of_length_le (by rw [HI.out.len]; exact Nat.le_refl _)] at this; exact this, R2.out, R3.out⟩
theorem wireV_WBytes {T : TypeId} {p : Nat} {v : Value} {L : List UInt8} (w : World) (h : RWv w T p v L) (hl : L.length ≤ 900000000000) :
    Calls Try.prog 20 #[.pointer (some ⟨p, 0, none⟩)] w (BRes L w) := by
  obtain ⟨A, c, rfl, q1, q2, q3, q4⟩ := h.own.form
  have hc := h.cell
  have V := Lib.hid (bytes_Clone (c := c) w q3 hl)
  clear h q3 q4
  go_enter Try.func20, Try.ntmps20
  go_wp2_with (go_at_call 48; refine V.out.mono ?_; rintro e w2 hS; have HS := Lib.hid hS; obtain ⟨A2, c2, rfl, -⟩ := hS)
  go_ret
  exact HS.out
end Go.Proofs.Ytdleleanaihcoaa
