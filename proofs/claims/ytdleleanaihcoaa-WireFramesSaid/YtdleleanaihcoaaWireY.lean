/- Layer 8, the project's package wire: the Reader's list, Ints. -/
import Derived.Test.YtdleleanaihcoaaWireX
import Derived.Test.YtdleleanaihcoaaWireG
namespace Go.Proofs.Ytdleleanaihcoaa
set_option maxRecDepth 20000
open Go.RowKit
set_option linter.unusedVariables false
set_option linter.unusedSimpArgs false
namespace Wr
/-- The list that is answered: none where the reader failed. -/
def rdZ (n : Nat) (s : St) : List Int := if (rdE n s).2.err = 0 then (rdE n s).1 else []
theorem rdZ_ok {n : Nat} {s s' : St} {l : List Int} (h : rdE n s = (l, s')) (he : s'.err = 0) : rdZ n s = l := by unfold rdZ; rw [h]; exact if_pos he
theorem rdZ_no {n : Nat} {s s' : St} {l : List Int} (h : rdE n s = (l, s')) (he : s'.err ≠ 0) : rdZ n s = [] := by unfold rdZ; rw [h]; exact if_neg he
theorem rdZ_zero (s : St) : rdZ 0 s = [] := by unfold rdZ; split <;> rfl
end Wr
/-- What a reader's method leaves that answers a list. -/
def RPL (W : World) (T : TypeId) (p : Nat) (A : Option Addr) (l : List Int) (s : Wr.St) (e : Ending) (w' : World) : Prop :=
  ∃ B c, e = .returned (.slice B l.length c) ∧ l.length ≤ c ∧ c ≤ 9223372036854775807 ∧ Ints w' w'.heap.size B l.length l ∧ (∀ ad, B = some ad → W.heap.size ≤ ad.block) ∧ ∃ A' c', RPv w' T p A' c' s ∧ Turns (fpr p A) W w' ∧ ∀ b, fpr p A' b → fpr p A b
set_option maxHeartbeats 1000000 in
theorem wireR_list {T : TypeId} {p c : Nat} {A : Option Addr} {s : Wr.St} (X : Nat) (hX : X ≤ 18446744073709551615) (w : World) (h : RPv w T p A c s) (hs : s.err = 0 ∨ X = 0) :
    Calls Try.prog 55 #[.pointer (some ⟨p, 0, none⟩), .int .u64 (X : Int), .func (.func 24) #[.pointer (some ⟨p, 0, none⟩)] #[]] w (RPL w T p A (Wr.rdZ X s) (Wr.rdE X s).2) := by
  have HF := Lib.hid h.fp_lt
  have HM := Lib.hid h.small
  have HS := Lib.hid hs
  have R0 := Lib.hid h
  have hX1 : (X : Int) ≤ 18446744073709551615 := by omega
  have GOOD : Hid (∀ l s', Wr.rdE X s = (l, s') → s'.err = 0 → Wr.rdZ X s = l ∧ (Wr.rdE X s).2 = s') := fun l s' h he => ⟨Wr.rdZ_ok h he, by rw [h]⟩
  have BAD : Hid (∀ l s', Wr.rdE X s = (l, s') → s'.err ≠ 0 → Wr.rdZ X s = [] ∧ (Wr.rdE X s).2 = s') := fun l s' h he => ⟨Wr.rdZ_no h he, by rw [h]⟩
  clear h hs
  go_enter Try.func55, Try.ntmps55
  go_wp2_with fail
  go_loopw [7, 10] (fun r i W => ∃ (j c1 c2 : Nat) (B A2 : Option Addr) (l : List Int) (s2 : Wr.St), i = .int .u64 (j : Int) ∧ j ≤ X ∧ r = .slice B j c1 ∧ Hid (l.length = j) ∧ Hid (RPv W T p A2 c2 s2) ∧ Hid (Turns (fpr p A) w W) ∧ Hid (∀ b, fpr p A2 b → fpr p A b) ∧ Hid (OwnZ W w.heap.size (.slice B j c1) l) ∧ j ≤ 900000000002 ∧ Hid (j + s2.rest.length ≤ s.rest.length) ∧ Hid (s2.err = 0 ∨ X = 0) ∧ Hid (Wr.rdE X s = (l ++ (Wr.rdE (X - j) s2).1, (Wr.rdE (X - j) s2).2))) (fun _ i _ => X - (intOf i).toNat)
  case atStart =>
    refine ⟨0, 0, c, none, A, [], s, rfl, Nat.zero_le _, rfl, rfl, R0, Turns.refl _, fun _ h => h, OwnZ.nil _ _, by omega, ?_, HS, ?_⟩
    · show _ ≤ _; omega
    · show _ = _; rw [Nat.sub_zero, List.nil_append]
  case round =>
    obtain ⟨j, c1, c2, B, A2, l, s2, rfl, hj, rfl, HL, R1, R2, R3, RO, hjb, HN, HZ, HE⟩ := hrel
    obtain ⟨Rr, er⟩ := s2
    by_cases hlt : j < X
    · obtain rfl : er = 0 := HZ.out.resolve_right (by omega)
      have hlt2 : (j : Int) < (X : Int) := by omega
      have V := Lib.hid (wireR_Int wr R1.out)
      obtain ⟨y, ey⟩ : ∃ y, y = (Wr.rdI ⟨Rr, 0⟩).1 := ⟨_, rfl⟩
      obtain ⟨s3, e3⟩ : ∃ s3, s3 = (Wr.rdI ⟨Rr, 0⟩).2 := ⟨_, rfl⟩
      rw [← ey, ← e3] at V
      have EY := Lib.hid ey
      have E3 := Lib.hid e3
      clear ey e3
      go_wp2_with fail
      refine V.out.mono ?_
      rintro e w3 ⟨rfl, A3, c3, h1, h2, h3⟩
      obtain ⟨R3', er3⟩ := s3
      have k1 : w3.cell? ⟨p, 1, none⟩ = some (.int .i64 er3) := h1.c1
      have Q1 := Lib.hid h1
      have Q2 := Lib.hid h2
      have Q3 : Hid (∀ b, fpr p A3 b → fpr p A b) := fun b hb => R3.out b (h3 b hb)
      clear h1 h2 h3
      have hout : ∀ b, fpr p A b → ¬ (Value.slice B j c1).ownBlock = some b := fun b hb e => by
        have h1 := HF.out b hb
        have h2 := (RO.out.lt b e).1
        omega
      have RO3 : OwnZ w3 w.heap.size (.slice B j c1) l := RO.out.same fun k hk => Q2.out.block k (RO.out.lt k hk).2 fun hf => hout k (R3.out k hf) hk
      have T3 : Turns (fpr p A) w w3 := R2.out.trans Q2.out fun b hb h => R3.out b h
      have E6 : Wr.rdE X s = ((l ++ [y]) ++ (Wr.rdE (X - (j + 1)) ⟨R3', er3⟩).1, (Wr.rdE (X - (j + 1)) ⟨R3', er3⟩).2) := by
        have h1 := HE.out
        rw [show X - j = (X - (j + 1)) + 1 by omega, Wr.rdE_more rfl, ← EY.out, ← E3.out] at h1
        rw [List.append_assoc]
        exact h1
      by_cases he : er3 = 0
      · subst he
        have hlb : l.length ≤ 1000000000000 := by have := HL.out; omega
        have HLB := Lib.hid hlb
        have HOUT := Lib.hid hout
        have HRO3 := Lib.hid RO3
        have HT3 := Lib.hid T3
        have G6 := Lib.hid E6
        clear hlb hout RO3 T3 E6
        go_wp2_with (at_builtin; refine Hid.out ?_)
        refine Lib.hid (wpList_appZ rfl (.tmp 19) (.tmp 21) rfl w.heap.size (.slice B j c1) l y rfl HRO3.out rfl HLB.out HT3.out.size ?_)
        intro v2 w4 hown hg
        have G1 : Hid (RPv w4 T p A3 c3 ⟨R3', 0⟩) := Q1.out.keep (fq := fun b => (Value.slice B j c1).ownBlock = some b) (((Turns.refl w3).alloc _).grown hg fun b e => .inl e) fun b hb => HOUT.out b (Q3.out b hb)
        have G2 : Hid (Turns (fpr p A) w w4) := (HT3.out.alloc _).grown hg fun b e => .inr (RO.out.lt b e).1
        obtain ⟨B2, c2', rfl, -, -, -, -⟩ := hown.form
        have hl2 : (l ++ [y]).length = j + 1 := by rw [List.length_append, HL.out]; rfl
        rw [hl2] at hown ⊢
        have G3 := Lib.hid hown
        have G4 := Lib.hid hl2
        have G5 : Hid ((j + 1) + R3'.length ≤ s.rest.length) := by
          show _ ≤ _
          have h1 : j + Rr.length ≤ s.rest.length := HN.out
          have h2 := Wr.rdI_less (s := ⟨Rr, 0⟩) rfl (by rw [← E3.out])
          rw [← E3.out] at h2
          have h3 : R3'.length < Rr.length := h2
          omega
        have hjb2 : j + 1 ≤ 900000000002 := by
          have h1 := G5.out
          have h2 := HM.out
          omega
        clear hown hg hl2 Q1 Q2 R1 R2 R3 RO HN HE HL
        go_wp2_with fail
        go_roundw
        case rel => exact ⟨j + 1, c2', c3, B2, A3, l ++ [y], ⟨R3', 0⟩, by go_num, by omega, by go_num, G4, G1, G2, Q3, G3, hjb2, G5, .inl rfl, G6⟩
        case measure => simp [intOf]; omega
      · have hb : (er3 == 0) = false := by rw [beq_eq_false_iff_ne]; exact he
        have FB : Hid (RPL w T p A (Wr.rdZ X s) (Wr.rdE X s).2 (.returned (.slice none 0 0)) w3) := by
          show RPL _ _ _ _ _ _ _ _
          rw [Wr.rdE_stop (n := X - (j + 1)) (s := ⟨R3', er3⟩) he, List.append_nil] at E6
          obtain ⟨q1, q2⟩ := BAD.out _ _ E6 he
          rw [q1, q2]
          exact ⟨none, 0, rfl, Nat.le_refl _, by omega, Ints.none_, nofun, A3, c3, Q1.out, T3, Q3.out⟩
        clear E6 hout RO3 T3 HE HN HL R1 R2 RO GOOD BAD he
        go_wp2_with fail
        go_ret
        exact FB.out
    · obtain rfl : j = X := by omega
      have FG : Hid (RPL w T p A (Wr.rdZ j s) (Wr.rdE j s).2 (.returned (.slice B j c1)) wr) := by
        show RPL _ _ _ _ _ _ _ _
        have h1 := HE.out
        rw [Nat.sub_self] at h1
        have hE : Wr.rdE j s = (l, ⟨Rr, er⟩) := by
          have h2 : Wr.rdE j s = (l ++ [], ⟨Rr, er⟩) := h1
          rw [List.append_nil] at h2
          exact h2
        have hz : Wr.rdZ j s = l ∧ (Wr.rdE j s).2 = ⟨Rr, er⟩ := by
          by_cases he : er = 0
          · exact GOOD.out _ _ hE he
          · have h0 : j = 0 := HZ.out.resolve_left he
            obtain ⟨q1, q2⟩ := BAD.out _ _ hE he
            refine ⟨q1.trans ?_, q2⟩
            have := HL.out
            rw [h0] at this
            exact (List.length_eq_zero_iff.1 this).symm
        rw [hz.1, hz.2]
        obtain ⟨A', c', e, z1, z2, z3, z4⟩ := RO.out.form
        injection e with e1 e2 e3
        subst e1 e3
        exact ⟨B, c1, by rw [HL.out], z1, z2, z3, z4, A2, c2, R1.out, R2.out, R3.out⟩
      clear HE HN HL R1 R2 RO GOOD BAD
      go_wp2_with fail
      go_ret
      exact FG.out
theorem wireR_Ints {T : TypeId} {p c : Nat} {A : Option Addr} {s : Wr.St} (w : World) (h : RPv w T p A c s) (most : Int) (m0 : -9223372036854775808 ≤ most) (m1 : most ≤ 9223372036854775807) :
    Calls Try.prog 31 #[.pointer (some ⟨p, 0, none⟩), .int .i64 most] w (RPL w T p A (Wr.rdL most s).1 (Wr.rdL most s).2) := by
  have U := Lib.hid (wireR_length w h most m0 m1)
  obtain ⟨X, eX⟩ : ∃ X, X = Wr.lv most s := ⟨_, rfl⟩
  obtain ⟨s1, es⟩ : ∃ s1, s1 = (Wr.rdN most s).2 := ⟨_, rfl⟩
  have hX : X ≤ 18446744073709551615 := by have := Wr.lv_bd most s; omega
  have hs : s1.err = 0 ∨ X = 0 := by
    by_cases he : s1.err = 0
    · exact .inl he
    · exact .inr (by rw [eX]; exact Wr.lv_no (by rw [← es]; exact he))
  have E : Hid (Wr.rdL most s = (Wr.rdZ X s1, (Wr.rdE X s1).2)) := by
    show _ = _
    by_cases he : s1.err = 0
    · have hXe : X = (Wr.rdN most s).1 := by rw [eX]; exact Wr.lv_ok (by rw [← es]; exact he)
      unfold Wr.rdL Wr.rdZ
      rw [← hXe, ← es]
      split <;> rfl
    · have h0 := hs.resolve_left he
      rw [h0, Wr.rdZ_zero]
      have h1 : Wr.rdE (Wr.rdN most s).1 (Wr.rdN most s).2 = ([], s1) := by rw [← es]; exact Wr.rdE_stop he
      rw [Wr.rdL_no h1 he]
      rfl
  have hmf : ∀ (fn : Fn) (first cap : Array Value) (w : World), (Instr.makeFunc fn first cap).run Try.prog w = .ok (.func fn first cap) w := fun _ _ _ _ => rfl
  rw [← eX, ← es] at U
  rw [E.out]
  clear h eX es E
  go_enter Try.func31, Try.ntmps31
  go_wp2_with fail
  refine U.out.mono ?_
  rintro e w' ⟨rfl, A1, c1, h1, h2, h3⟩
  have V := Lib.hid (wireR_list X hX w' h1 hs)
  have H2 := Lib.hid h2
  have H3 := Lib.hid h3
  clear h1 h2 h3 hs
  go_wp2_with (go_at_call 55; refine V.out.mono ?_; rintro e w2 ⟨B, c2, rfl, q1, q2, q3, q4, A3, c3, q5, q6, q7⟩; have F : Hid (RPL w T p A (Wr.rdZ X s1) (Wr.rdE X s1).2 (.returned (.slice B (Wr.rdZ X s1).length c2)) w2) := ⟨B, c2, rfl, q1, q2, q3, fun ad e => Nat.le_trans H2.out.size (q4 ad e), A3, c3, q5, H2.out.trans q6 (fun b _ hf => H3.out b hf), fun b hb => H3.out b (q7 b hb)⟩; clear q1 q2 q3 q4 q5 q6 q7)
  go_ret
  exact F.out
end Go.Proofs.Ytdleleanaihcoaa
