/- Layer 8: the reference's Reader: Ints. -/
import Derived.Test.YtdleleanaihcoaaWireF
import Derived.Test.YtdleleanaihcoaaZRow
namespace Go.Proofs.Ytdleleanaihcoaa
set_option maxRecDepth 20000
open Go.RowKit
set_option linter.unusedVariables false
set_option linter.unusedSimpArgs false
namespace Wr
theorem rdE_stop {n : Nat} {s : St} (h : s.err ≠ 0) : rdE n s = ([], s) := by
  cases n with
  | zero => rfl
  | succ n => show (if s.err = 0 then _ else _) = _; rw [if_neg h]
theorem rdE_more {n : Nat} {s : St} (h : s.err = 0) : rdE (n + 1) s = ((rdI s).1 :: (rdE n (rdI s).2).1, (rdE n (rdI s).2).2) := by
  show (if s.err = 0 then _ else _) = _
  rw [if_pos h]
theorem rdI_bd (s : St) : -9223372036854775808 ≤ (rdI s).1 ∧ (rdI s).1 ≤ 9223372036854775807 := sg_bd (rdU_bd s)
/-- What is read without an error is at least one byte. -/
theorem rdI_less {s : St} (h0 : s.err = 0) (h : (rdI s).2.err = 0) : (rdI s).2.rest.length < s.rest.length := by
  have h1 := (rdU_once h0 h).2
  have h2 := enc_pos (rdU s).1
  have h3 := congrArg List.length h1
  rw [List.length_append] at h3
  show (rdU s).2.rest.length < _
  omega
theorem rdI_rest (s : St) : (rdI s).2.rest.length ≤ s.rest.length := by
  show (rdU s).2.rest.length ≤ _
  unfold rdU
  split
  · split
    · show (s.rest.drop _).length ≤ _
      rw [List.length_drop]; omega
    · exact Nat.le_refl _
  · exact Nat.le_refl _
theorem rdL_ok {most : Int} {s : St} {l : List Int} {s' : St} (h : rdE (rdN most s).1 (rdN most s).2 = (l, s')) (he : s'.err = 0) : rdL most s = (l, s') := by unfold rdL; rw [h]; exact if_pos he
theorem rdL_no {most : Int} {s : St} {l : List Int} {s' : St} (h : rdE (rdN most s).1 (rdN most s).2 = (l, s')) (he : s'.err ≠ 0) : rdL most s = ([], s') := by unfold rdL; rw [h]; exact if_neg he
/-- 1 where an error is kept. -/
def ex (s : St) : Nat := if s.err = 0 then 0 else 1
theorem ex_zero {R : List UInt8} : ex ⟨R, 0⟩ = 0 := rfl
theorem ex_one {s : St} (h : s.err ≠ 0) : ex s = 1 := if_neg h
end Wr
/-- What a reader's method leaves that answers a list. -/
def RLStep (W : World) (T : TypeId) (p : Nat) (v : Value) (M : List UInt8) (l : List Int) (s : Wr.St) (e : Ending) (w' : World) : Prop :=
  ∃ A c, e = .returned (.slice A l.length c) ∧ l.length ≤ c ∧ c ≤ 9223372036854775807 ∧ Ints w' w'.heap.size A l.length l ∧ (∀ ad, A = some ad → W.heap.size ≤ ad.block) ∧ (∃ at', RRv w' T p v M at' s) ∧ Turns (fpv p v) W w'
theorem ref8_RInts {T : TypeId} {p at' : Nat} {v : Value} {M : List UInt8} {s : Wr.St} (w : World) (h : RRv w T p v M at' s) (most : Int) (m0 : -9223372036854775808 ≤ most) (m1 : most ≤ 9223372036854775807) :
    Calls Try.prog 32 #[.pointer (some ⟨p, 0, none⟩), .int .i64 most] w (RLStep w T p v M (Wr.rdL most s).1 (Wr.rdL most s).2) := by
  have U := Lib.hid (ref8_size w h most m0 m1)
  obtain ⟨X, eX⟩ : ∃ X, X = (Wr.rdN most s).1 := ⟨_, rfl⟩
  obtain ⟨s1, es⟩ : ∃ s1, s1 = (Wr.rdN most s).2 := ⟨_, rfl⟩
  have hX : X ≤ 18446744073709551615 := by have := Wr.rdN_bd most s; omega
  have hX1 : (X : Int) ≤ 18446744073709551615 := by omega
  have GOOD : Hid (∀ l s', Wr.rdE X s1 = (l, s') → s'.err = 0 → Wr.rdL most s = (l, s')) := fun l s' h he => Wr.rdL_ok (by rw [← eX, ← es]; exact h) he
  have BAD : Hid (∀ l s', Wr.rdE X s1 = (l, s') → s'.err ≠ 0 → Wr.rdL most s = ([], s')) := fun l s' h he => Wr.rdL_no (by rw [← eX, ← es]; exact h) he
  rw [← eX, ← es] at U
  have HF := Lib.hid h.fp_lt
  have HM := Lib.hid h.small
  clear h eX es
  go_enter Try.func32, Try.ntmps32
  go_wp2_with (go_at_call 54; refine U.out.mono ?_; rintro e w' ⟨rfl, ⟨a1, h1⟩, h2⟩; have H1 := Lib.hid h1; have H2 := Lib.hid h2; clear h1 h2)
  go_loopw [6, 7] (fun r i W => ∃ (j c : Nat) (A : Option Addr) (l : List Int) (a2 : Nat) (s2 : Wr.St), i = .int .u64 (j : Int) ∧ j ≤ X ∧ r = .slice A j c ∧ Hid (l.length = j) ∧ Hid (RRv W T p v M a2 s2) ∧ Hid (Turns (fpv p v) w W) ∧ Hid (OwnZ W w.heap.size (.slice A j c) l) ∧ j ≤ 900000000002 ∧ Hid (j + s2.rest.length ≤ M.length + Wr.ex s2) ∧ Hid (Wr.rdE X s1 = (l ++ (Wr.rdE (X - j) s2).1, (Wr.rdE (X - j) s2).2))) (fun _ i _ => X - (intOf i).toNat)
  case atStart =>
    refine ⟨0, 0, none, [], a1, s1, rfl, Nat.zero_le _, rfl, rfl, H1, H2, OwnZ.nil _ _, by omega, ?_, ?_⟩
    · show _ ≤ _
      have := H1.out.rest
      rw [this, List.length_drop]
      omega
    · show _ = _
      rw [Nat.sub_zero, List.nil_append]
  case round =>
    obtain ⟨j, c, A, l, a2, s2, rfl, hj, rfl, HL, R1, R2, RO, hjb, HN, HE⟩ := hrel
    obtain ⟨Rr, er⟩ := s2
    have c2 : wr.cell? ⟨p, 2, none⟩ = some (.int .i64 er) := R1.out.c2
    by_cases hgo : j < X ∧ er = 0
    · obtain ⟨hlt, rfl⟩ := hgo
      have hlt2 : (j : Int) < (X : Int) := by omega
      have V := Lib.hid (ref8_RInt wr R1.out)
      obtain ⟨y, ey⟩ : ∃ y, y = (Wr.rdI ⟨Rr, 0⟩).1 := ⟨_, rfl⟩
      obtain ⟨s3, e3⟩ : ∃ s3, s3 = (Wr.rdI ⟨Rr, 0⟩).2 := ⟨_, rfl⟩
      rw [← ey, ← e3] at V
      have EY := Lib.hid ey
      have E3 := Lib.hid e3
      clear ey e3
      go_wp2_with (first
        | (go_at_call 25; refine V.out.mono ?_; rintro e w3 ⟨rfl, ⟨a3, h1⟩, h2⟩; have Q1 := Lib.hid h1; have Q2 := Lib.hid h2; clear h1 h2)
        | (at_builtin; refine Hid.out ?_))
      have hout : ∀ b, fpv p v b → ¬ (Value.slice A j c).ownBlock = some b := fun b hb e => by
        have h1 := HF.out b hb
        have h2 := (RO.out.lt b e).1
        omega
      have RO3 : OwnZ w3 w.heap.size (.slice A j c) l := RO.out.same fun k hk => Q2.out.block k (RO.out.lt k hk).2 fun hf => hout k hf hk
      have T3 : Turns (fpv p v) w w3 := R2.out.trans Q2.out fun b hb h => h
      have hlb : l.length ≤ 1000000000000 := by have := HL.out; omega
      refine Lib.hid (wpList_appZ rfl (.tmp 23) (.tmp 26) rfl w.heap.size (.slice A j c) l y rfl RO3 rfl hlb T3.size ?_)
      intro v2 w4 hown hg
      have G1 : Hid (RRv w4 T p v M a3 s3) := Q1.out.keep (fq := fun b => (Value.slice A j c).ownBlock = some b) (((Turns.refl w3).alloc _).grown hg fun b e => .inl e) hout
      have G2 : Hid (Turns (fpv p v) w w4) := (T3.alloc _).grown hg fun b e => .inr (RO.out.lt b e).1
      obtain ⟨A2, c2', rfl, -, -, -, -⟩ := hown.form
      have hl2 : (l ++ [y]).length = j + 1 := by rw [List.length_append, HL.out]; rfl
      rw [hl2] at hown ⊢
      have G3 := Lib.hid hown
      have G4 := Lib.hid hl2
      have G5 : Hid ((j + 1) + s3.rest.length ≤ M.length + Wr.ex s3) := by
        show _ ≤ _
        have h1 := HN.out
        rw [Wr.ex_zero] at h1
        by_cases he : s3.err = 0
        · have h2 := Wr.rdI_less (s := ⟨Rr, 0⟩) rfl (by rw [← E3.out]; exact he)
          rw [← E3.out] at h2
          have h3 : s3.rest.length < Rr.length := h2
          omega
        · rw [Wr.ex_one he]
          have h2 := Wr.rdI_rest ⟨Rr, 0⟩
          rw [← E3.out] at h2
          have h3 : s3.rest.length ≤ Rr.length := h2
          omega
      have G6 : Hid (Wr.rdE X s1 = ((l ++ [y]) ++ (Wr.rdE (X - (j + 1)) s3).1, (Wr.rdE (X - (j + 1)) s3).2)) := by
        show _ = _
        have h1 := HE.out
        rw [show X - j = (X - (j + 1)) + 1 by omega, Wr.rdE_more rfl, ← EY.out, ← E3.out] at h1
        rw [List.append_assoc]
        exact h1
      have hjb2 : j + 1 ≤ 900000000002 := by
        have h1 := HN.out
        have h2 := HM.out
        rw [Wr.ex_zero] at h1
        have h3 : j + Rr.length ≤ M.length + 0 := h1
        omega
      clear hown hg hl2 RO3 T3 hlb hout Q1 Q2 R1 R2 RO HN HE HL
      go_wp2_with fail
      go_roundw
      case rel => exact ⟨j + 1, c2', A2, l ++ [y], a3, s3, by go_num, by omega, by go_num, G4, G1, G2, G3, hjb2, G5, G6⟩
      case measure => simp [intOf]; omega
    · have hE : Wr.rdE X s1 = (l, ⟨Rr, er⟩) := by
        have h1 := HE.out
        by_cases hlt : j < X
        · rw [Wr.rdE_stop (n := X - j) (s := ⟨Rr, er⟩) fun e => hgo ⟨hlt, e⟩, List.append_nil] at h1
          exact h1
        · rw [show X - j = 0 by omega] at h1
          have h2 : Wr.rdE X s1 = (l ++ [], ⟨Rr, er⟩) := h1
          rw [List.append_nil] at h2
          exact h2
      have FG : Hid (er = 0 → ∀ k, RLStep w T p v M (Wr.rdL most s).1 (Wr.rdL most s).2 (.returned (.slice A j c)) (wr.drewN k)) := fun he k => by
        rw [GOOD.out _ _ hE he]
        obtain ⟨A', c', e, z1, z2, z3, z4⟩ := RO.out.form
        injection e with e1 e2 e3
        subst e1 e3
        exact ⟨A, c, by rw [HL.out], z1, z2, z3, z4, ⟨a2, R1.out.drewN k⟩, R2.out.drewN k⟩
      have FB : Hid (er ≠ 0 → ∀ k, RLStep w T p v M (Wr.rdL most s).1 (Wr.rdL most s).2 (.returned (.slice none 0 0)) (wr.drewN k)) := fun he k => by
        rw [BAD.out _ _ hE he]
        exact ⟨none, 0, rfl, Nat.le_refl _, by omega, Ints.none_, nofun, ⟨a2, R1.out.drewN k⟩, R2.out.drewN k⟩
      clear hE HE HN HL R2 RO GOOD BAD
      by_cases he : er = 0
      · subst he
        have hlt2 : ¬ (j : Int) < (X : Int) := by omega
        have F := Lib.hid (FG.out rfl)
        clear FG FB R1 hgo
        go_wp2_with fail
        go_ret
        exact F.out 0
      · have hb : (er == 0) = false := by rw [beq_eq_false_iff_ne]; exact he
        have F := Lib.hid (FB.out he)
        clear FG FB R1 hgo he
        by_cases hlt : j < X
        · have hlt2 : (j : Int) < (X : Int) := by omega
          go_wp2_with fail
          go_ret
          exact F.out 0
        · have hlt2 : ¬ (j : Int) < (X : Int) := by omega
          go_wp2_with fail
          go_ret
          exact F.out 0
end Go.Proofs.Ytdleleanaihcoaa
