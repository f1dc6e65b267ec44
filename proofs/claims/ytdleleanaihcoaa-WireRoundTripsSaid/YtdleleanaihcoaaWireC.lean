/- Layer 8: the reference's Writer: NewWriter, Uint, Int. -/
import Derived.Test.YtdleleanaihcoaaWireB
import Derived.OneCell
import Derived.Deep.RegionLaw
import Derived.BigQuiet
import Derived.BigRegion
namespace Go.Proofs.Ytdleleanaihcoaa
set_option maxRecDepth 20000
open Go.RowKit
set_option linter.unusedVariables false
set_option linter.unusedSimpArgs false
/-- Block p and the row that v is. -/
def fpv (p : Nat) (v : Value) : Nat → Prop := fun b => b = p ∨ v.ownBlock = some b
/-- Block p is a writer of the reference; its row v holds the bytes L. -/
structure RWv (W : World) (T : TypeId) (p : Nat) (v : Value) (L : List UInt8) : Prop where
  blk : W.heap[p]? = some (.cells #[v] T (0, 0))
  own : OwnB W 0 v L
  ne : v.ownBlock ≠ some p
section
variable {W W1 W2 W' : World} {T : TypeId} {p g n cap : Nat} {v : Value} {L M : List UInt8} {fq : Nat → Prop}
theorem RWv.lt (h : RWv W T p v L) : p < W.heap.size := lt_of_block h.blk
theorem RWv.cell (h : RWv W T p v L) : W.cell? ⟨p, 0, none⟩ = some v := cell_of_one h.blk
theorem RWv.free (h : RWv W T p v L) : W.frozen? ⟨p, 0, none⟩ = false := free_of_one h.blk
theorem RWv.fp_lt (h : RWv W T p v L) : ∀ b, fpv p v b → b < W.heap.size := fun b hb => by
  rcases hb with rfl | hb
  · exact h.lt
  · exact (h.own.lt b hb).2
/-- Where its blocks have not changed. -/
theorem RWv.keep (h : RWv W T p v L) (ht : Turns fq W W') (ha : ∀ b, fpv p v b → ¬ fq b) : RWv W' T p v L :=
  ⟨(ht.block p h.lt (ha p (.inl rfl))).trans h.blk, h.own.same fun k hk => ht.block k (h.own.lt k hk).2 (ha k (.inr hk)), h.ne⟩
/-- What a row that grew and was stored is. -/
theorem RWv.app {v' : Value} (h : RWv W T p v L) (hB : Below W.heap.size W W1) (hown : OwnB W2 0 v' M) (hg : W1.grownBy W2 v.ownBlock) (hor : ∀ k, v'.ownBlock = some k → v.ownBlock = some k ∨ W1.heap.size ≤ k) :
    RWv (W2.setCell ⟨p, 0, none⟩ v') T p v' M ∧ Turns (fpv p v) W (W2.setCell ⟨p, 0, none⟩ v') ∧ Grows W (fpv p v) (fpv p v') := by
  have hp := h.lt
  have hpg : v'.ownBlock ≠ some p := by
    intro e
    rcases hor _ e with e | e
    · exact h.ne e
    · have := hB.size; omega
  have hT : Turns (fpv p v) W W2 := ((Turns.of_below hB).grown (fp := fpv p v) hg fun b e => .inl (.inr e))
  have hb : W2.heap[p]? = some (.cells #[v] T (0, 0)) := by
    rw [hg.block p (Nat.lt_of_lt_of_le hp hB.size) (fun e => h.ne e.symm), hB.block p hp]
    exact h.blk
  refine ⟨⟨one_setCell hb, ?_, hpg⟩, hT.set (.inl (.inl rfl)) _, ?_⟩
  · refine hown.same fun k hk => Below.heap_setCell _ _ _ _ ?_
    rintro rfl
    exact hpg hk
  · intro b hb
    rcases hb with rfl | hb
    · exact .inl (.inl rfl)
    · rcases hor b hb with e | e
      · exact .inl (.inr e)
      · exact .inr (Nat.le_trans hB.size e)
theorem own_or {N : Nat} (h : v.ownBlock = some g ∨ g = N) : ∀ k, (Value.slice (some ⟨g, 0, none⟩) n cap).ownBlock = some k → v.ownBlock = some k ∨ N ≤ k := fun k hk => by
  injection hk with hk
  subst hk
  exact h.imp id fun e => by rw [e]; exact Nat.le_refl _
theorem RWv.after (h : RWv W T p v L) (hB : Below W.heap.size W W1) (hg : W1.grownBy W2 v.ownBlock) : W2.heap[p]? = some (.cells #[v] T (0, 0)) := by
  rw [hg.block p (Nat.lt_of_lt_of_le h.lt hB.size) (fun e => h.ne e.symm), hB.block p h.lt]
  exact h.blk
end
/-- What a writer's method leaves: the writer holds M. -/
def WStep (W : World) (T : TypeId) (p : Nat) (v : Value) (M : List UInt8) (e : Ending) (w' : World) : Prop :=
  e = .returned (.tuple #[]) ∧ ∃ v', RWv w' T p v' M ∧ Turns (fpv p v) W w' ∧ Grows W (fpv p v) (fpv p v')
theorem WStep.trans {W W1 W2 : World} {T : TypeId} {p : Nat} {v v1 : Value} {M : List UInt8} {e : Ending} (t : Turns (fpv p v) W W1) (g : Grows W (fpv p v) (fpv p v1)) (h : WStep W1 T p v1 M e W2) : WStep W T p v M e W2 := by
  obtain ⟨rfl, v2, h1, h2, h3⟩ := h
  exact ⟨rfl, v2, h1, t.trans h2 fun b hb hf => (g b hf).resolve_right (by omega), g.trans h3 t.size⟩
theorem ref8_NewWriter (w : World) : Calls Try.prog 14 #[] w fun e w' => ∃ p T, e = .returned (.pointer (some ⟨p, 0, none⟩)) ∧ RWv w' T p (.slice none 0 0) [] ∧ Below w.heap.size w w' ∧ w.heap.size ≤ p := by
  go_enter Try.func14, Try.ntmps14
  go_wp2_with fail
  go_ret
  exact ⟨_, _, rfl, ⟨heap_alloc_new w _, OwnB.nil _ _, nofun⟩, (Below.refl _ _).alloc (Nat.le_refl _) _, Nat.le_refl _⟩
theorem ref8_Uint {T : TypeId} {p : Nat} {v : Value} {L : List UInt8} (x : Nat) (hx : x < 18446744073709551616) (w : World) (h : RWv w T p v L) (hl : L.length ≤ 900000000000) :
    Calls Try.prog 17 #[.pointer (some ⟨p, 0, none⟩), .int .u64 (x : Int)] w (WStep w T p v (L ++ Wr.enc x)) := by
  have H := Lib.hid h
  obtain ⟨A, c, ev, q1, q2, q3, q4⟩ := h.own.form
  subst ev
  have hc := h.cell
  have hf := h.free
  have V := Lib.hid fun W => ref8_Varint x hx W
  have hx1 : x ≤ 18446744073709551615 := by omega
  have HP := Lib.hid h.lt
  have HL : Hid (L.length + (Wr.enc x).length ≤ 1000000000000) := by have := Wr.enc_ten hx; show _ ≤ _; omega
  clear h q3 q4 hx
  go_enter Try.func17, Try.ntmps17
  go_wp2_with fail
  go_region_law (first
    | (revert HM1; intro HM1; refine step_appB (by rfl) (Operand.tmp 8) (Operand.tmp 10) (by rfl) 0 (Value.slice A L.length c) L (by rfl) HO1.out ad (Wr.enc x).length c1 w1.heap.size (Wr.enc x) (by rfl) HM1.out (Wr.enc_pos x) HL.out (Nat.zero_le _) ?_; intro g cap w2 HOW2 HG2 HOR2; have hc2 := cell_of_one (H.out.after HB1.out HG2.out); have hf2 := free_of_one (H.out.after HB1.out HG2.out))
    | (go_simp; go_wp2_with (go_at_call 47; (with_reducible refine (V.out _).mono ?_); rintro e w1 ⟨A1, c1, rfl, hB1, hM1, -, k1, k2⟩; obtain ⟨ad, rfl, hb1, -⟩ := hM1.at_ (k := 0) (Wr.enc_pos x); have hc1 := (hB1.cell (p := ⟨p, 0, none⟩) HP.out).trans hc; have HB1 := Lib.hid (show Below w.heap.size w w1 from ⟨hB1.os, hB1.tape, hB1.output, hB1.size, hB1.block⟩); have HM1 := Lib.hid hM1; have HO1 : Hid (OwnB w1 0 (.slice A L.length c) L) := H.out.own.same (fun k hk => hB1.block k (H.out.own.lt k hk).2); clear hB1 hM1 hb1)))
  all_goals (
    go_wp2_with fail
    go_end0
    exact ⟨rfl, _, H.out.app HB1.out HOW2.out HG2.out (own_or HOR2.out)⟩)
theorem ref8_Int {T : TypeId} {p : Nat} {v : Value} {L : List UInt8} (x : Int) (x0 : -9223372036854775808 ≤ x) (x1 : x ≤ 9223372036854775807) (w : World) (h : RWv w T p v L) (hl : L.length ≤ 900000000000) :
    Calls Try.prog 16 #[.pointer (some ⟨p, 0, none⟩), .int .i64 x] w (WStep w T p v (L ++ Wr.encI x)) := by
  have Z := Lib.hid (ref8_Zigzag x w x0 x1)
  have U := Lib.hid (ref8_Uint (Wr.zz x) (Wr.zz_bd x0 x1) w h hl)
  clear h
  go_enter Try.func16, Try.ntmps16
  go_wp2_with (first
    | (go_at_call 46; refine Z.out.mono ?_; rintro e w' ⟨rfl, rfl⟩)
    | (go_at_call 17; refine U.out.mono ?_; rintro e w' ⟨rfl, v', h1, h2, h3⟩; have H1 := Lib.hid h1; have H2 := Lib.hid h2; have H3 := Lib.hid h3; clear h1 h2 h3))
  go_end0
  exact ⟨rfl, v', H1.out, H2.out, H3.out⟩
theorem ref8_WText {T : TypeId} {p : Nat} {v : Value} {L : List UInt8} (s : ByteArray) (hs : s.size ≤ 9000000000) (w : World) (h : RWv w T p v L) (hl : L.length ≤ 900000000000) :
    Calls Try.prog 18 #[.pointer (some ⟨p, 0, none⟩), .string s] w (WStep w T p v (L ++ Wr.encT s.data.toList)) := by
  have hb : s.size ≤ 18446744073709551615 := by omega
  have hz : s.data.toList.length = s.size := Array.length_toList
  have U := Lib.hid (ref8_Uint s.size (by omega) w h hl)
  have hten := Wr.enc_ten (x := s.size) (by omega)
  have HL : Hid ((L ++ Wr.enc s.size).length + s.size ≤ 1000000000000) := by show _ ≤ _; rw [List.length_append]; omega
  have HE : Hid (L ++ Wr.encT s.data.toList = (L ++ Wr.enc s.size) ++ s.data.toList) := by show _ = _; unfold Wr.encT; rw [hz, List.append_assoc]
  clear h hz hten
  go_enter Try.func18, Try.ntmps18
  go_wp2_with (first
    | (go_at_call 17; refine U.out.mono ?_; rintro e w' ⟨rfl, v', h1, h2, h3⟩; have H1 := Lib.hid h1; have H2 := Lib.hid h2; have H3 := Lib.hid h3; have hc := h1.cell; have hf := h1.free; clear h1 h2 h3)
    | (at_builtin; refine Hid.out ?_))
  refine Lib.hid (wpList_appS rfl (.tmp 13) (.tmp 14) rfl 0 v' _ rfl H1.out.own s rfl HL.out (Nat.zero_le _) ?_)
  intro v2 w2 hown hg hor
  obtain ⟨A2, c2, rfl, -, -, -, -⟩ := hown.form
  have hc2 := cell_of_one (H1.out.after (Below.refl _ _) hg)
  have hf2 := free_of_one (H1.out.after (Below.refl _ _) hg)
  have A := Lib.hid (H1.out.app (Below.refl _ _) hown hg hor)
  obtain ⟨k, ek⟩ : ∃ k, k = (L ++ Wr.enc s.size ++ s.data.toList).length := ⟨_, rfl⟩
  rw [← ek] at A ⊢
  clear hown hg hor ek
  go_wp2_with fail
  go_end0
  exact WStep.trans H2.out H3.out ⟨rfl, _, by rw [HE.out]; exact A.out⟩
namespace Wr
theorem encAll_len : ∀ l : List Int, (∀ x, x ∈ l → -9223372036854775808 ≤ x ∧ x ≤ 9223372036854775807) → (encAll l).length ≤ 10 * l.length
  | [], _ => Nat.zero_le _
  | x :: t, h => by
    have h1 := encAll_len t fun y hy => h y (List.mem_cons_of_mem _ hy)
    have h2 := enc_ten (zz_bd (h x List.mem_cons_self).1 (h x List.mem_cons_self).2)
    show (encI x ++ encAll t).length ≤ _
    rw [List.length_append, List.length_cons]
    unfold encI
    omega
end Wr
theorem ints_turn {W W' : World} {fq : Nat → Prop} {A : Option Addr} {n : Nat} {zs : List Int} (h : Ints W W.heap.size A n zs) (ht : Turns fq W W') (ha : ∀ ad, A = some ad → 0 < n → ¬ fq ad.block) : Ints W' W'.heap.size A n zs :=
  ⟨h.1, fun hn => by
    obtain ⟨ad, e, hb, hc⟩ := h.2 hn
    exact ⟨ad, e, Nat.lt_of_lt_of_le hb ht.size, fun j hj => (ht.cell (by rw [block_of_add]; exact hb) (by rw [block_of_add]; exact ha ad e hn)).trans (hc j hj)⟩⟩
theorem ref8_WInts {T : TypeId} {p n c : Nat} {v : Value} {L : List UInt8} {A : Option Addr} {zs : List Int} (w : World) (h : RWv w T p v L) (hI : Ints w w.heap.size A n zs) (hA : ∀ ad, A = some ad → 0 < n → ¬ fpv p v ad.block) (hn : n ≤ 9000000000) (hz : ∀ x, x ∈ zs → -9223372036854775808 ≤ x ∧ x ≤ 9223372036854775807) (hl : L.length ≤ 500000000000) :
    Calls Try.prog 19 #[.pointer (some ⟨p, 0, none⟩), .slice A n c] w (WStep w T p v (L ++ Wr.encL zs)) := by
  have hb : n ≤ 18446744073709551615 := by omega
  have HI := Lib.hid hI
  have HA := Lib.hid hA
  have HZ := Lib.hid hz
  have U := Lib.hid (ref8_Uint n (by omega) w h (by omega))
  have hten := Wr.enc_ten (x := n) (by omega)
  have HL : Hid ((L ++ Wr.enc n).length ≤ 600000000000) := by show _ ≤ _; rw [List.length_append]; omega
  have HE : Hid (L ++ Wr.encL zs = (L ++ Wr.enc n) ++ Wr.encAll zs) := by show _ = _; unfold Wr.encL; rw [hI.len, List.append_assoc]
  clear h hten hI hA hz
  go_enter Try.func19, Try.ntmps19
  go_wp2_with (first
    | (go_at_call 17; refine U.out.mono ?_; rintro e w' ⟨rfl, v', h1, h2, h3⟩; have H1 := Lib.hid h1; have H2 := Lib.hid h2; have H3 := Lib.hid h3; clear h1 h2 h3))
  go_loopw [4] (fun i W => ∃ (j : Nat) (u : Value), i = .int .i64 (j : Int) ∧ j ≤ n ∧ Hid (RWv W T p u ((L ++ Wr.enc n) ++ Wr.encAll (zs.take j))) ∧ Hid (Turns (fpv p v) w W) ∧ Hid (Grows w (fpv p v) (fpv p u))) (fun i _ => n - (intOf i).toNat)
  case atStart => exact ⟨0, v', rfl, Nat.zero_le _, by show RWv _ _ _ _ _; rw [List.take_zero]; show RWv _ _ _ _ (_ ++ []); rw [List.append_nil]; exact H1.out, H2, H3⟩
  case round =>
    obtain ⟨j, u, rfl, hj, R1, R2, R3⟩ := hrel
    by_cases hlt : j < n
    · have hI2 := ints_turn HI.out R2.out HA.out
      obtain ⟨ad, x, rfl, hb2, hcell, HX⟩ := hI2.at_ hlt
      have hx : -9223372036854775808 ≤ x ∧ x ≤ 9223372036854775807 := HZ.out x (by
        rw [HX.out, List.getD_eq_getElem?_getD, List.getElem?_eq_getElem (by rw [HI.out.len]; exact hlt)]
        exact List.getElem_mem _)
      obtain ⟨x0, x1⟩ := hx
      have hlt2 : (j : Int) < (n : Int) := by omega
      have V := Lib.hid (ref8_Int x x0 x1 wr R1.out (by
        rw [List.length_append]
        have h1 := HL.out
        have h2 : (Wr.encAll (zs.take j)).length ≤ 10 * j := Nat.le_trans (Wr.encAll_len _ fun x hx => HZ.out x (List.mem_of_mem_take hx)) (by rw [List.length_take]; omega)
        omega))
      clear hI2 hb2
      go_wp2_with (first
        | (go_at_call 16; refine V.out.mono ?_; rintro e w3 ⟨rfl, u2, h1, h2, h3⟩; have Q1 := Lib.hid h1; have Q2 := Lib.hid h2; have Q3 := Lib.hid h3; clear h1 h2 h3))
      have G1 : Hid (RWv w3 T p u2 ((L ++ Wr.enc n) ++ Wr.encAll (zs.take (j + 1)))) := by
        show RWv _ _ _ _ _
        have e : zs.take (j + 1) = zs.take j ++ [x] := by
          rw [List.take_add_one, HX.out, List.getD_eq_getElem?_getD, List.getElem?_eq_getElem (by rw [HI.out.len]; exact hlt)]; rfl
        rw [e, Wr.encAll_snoc, ← List.append_assoc]
        exact Q1.out
      have G2 := Lib.hid (R2.out.trans Q2.out fun b hb hf => (R3.out b hf).resolve_right (by omega))
      have G3 := Lib.hid (R3.out.trans Q3.out R2.out.size)
      clear Q1 Q2 Q3 R1 R2 R3
      go_wp2_with fail
      go_roundw
      case rel => exact ⟨j + 1, u2, by go_num, by omega, G1, G2, G3⟩
      case measure => simp [intOf]; omega
    · obtain rfl : j = n := by omega
      go_wp2_with fail
      go_end0
      exact ⟨rfl, u, by rw [HE.out]; have := R1.out; rw [List.take_of_length_le (by rw [HI.out.len]; exact Nat.le_refl _)] at this; exact this, R2.out, R3.out⟩
end Go.Proofs.Ytdleleanaihcoaa
