/- Layer 8, the project's package wire: the Reader's Int, length, Text, list, Ints. -/
import Derived.Test.YtdleleanaihcoaaWireW
import Derived.Laws.Entries
namespace Go.Proofs.Ytdleleanaihcoaa
set_option maxRecDepth 20000
open Go.RowKit
set_option linter.unusedVariables false
set_option linter.unusedSimpArgs false
theorem wireR_Int {T : TypeId} {p c : Nat} {A : Option Addr} {s : Wr.St} (w : World) (h : RPv w T p A c s) :
    Calls Try.prog 24 #[.pointer (some ⟨p, 0, none⟩)] w (RPS w T p A (.int .i64 (Wr.rdI s).1) (Wr.rdI s).2) := by
  have U := Lib.hid (wireR_Uint w h)
  obtain ⟨X, eX⟩ : ∃ X, X = (Wr.rdU s).1 := ⟨_, rfl⟩
  have hX : X ≤ 18446744073709551615 := by have := Wr.rdU_bd s; omega
  rw [← eX] at U
  have S := Lib.hid fun W => wire_unzigzag X W hX
  have FIN : Hid (∀ w', (∃ A' c', RPv w' T p A' c' (Wr.rdU s).2 ∧ Turns (fpr p A) w w' ∧ ∀ b, fpr p A' b → fpr p A b) → RPS w T p A (.int .i64 (Wr.rdI s).1) (Wr.rdI s).2 (.returned (.int .i64 (Wr.sg X))) w') := by
    intro w' h1
    rw [eX]
    exact ⟨rfl, h1⟩
  clear h eX
  go_enter Try.func24, Try.ntmps24
  go_wp2_with (first
    | (go_at_call 26; refine U.out.mono ?_; rintro e w' ⟨rfl, h1⟩; have F := Lib.hid (FIN.out _ h1); clear h1)
    | (go_at_call 49; refine (S.out _).mono ?_; rintro e w' ⟨rfl, rfl⟩))
  go_ret
  exact F.out
namespace Wr
/-- What the project's length answers: 0 where it fails. -/
def lv (most : Int) (s : St) : Nat := if (rdN most s).2.err = 0 then (rdN most s).1 else 0
theorem lv_ok {most : Int} {s : St} (h : (rdN most s).2.err = 0) : lv most s = (rdN most s).1 := if_pos h
theorem lv_no {most : Int} {s : St} (h : (rdN most s).2.err ≠ 0) : lv most s = 0 := if_neg h
theorem rdU_zero {s : St} (h : (rdU s).2.err ≠ 0) : (rdU s).1 = 0 := by
  unfold rdU at h ⊢
  split
  · split
    · rename_i h1 h2
      rw [if_pos h1, if_pos h2] at h
      exact absurd rfl h
    · rfl
  · rfl
theorem lv_bd (most : Int) (s : St) : lv most s < 18446744073709551616 := by
  unfold lv
  split
  · exact rdN_bd most s
  · decide
end Wr
theorem wireR_length {T : TypeId} {p c : Nat} {A : Option Addr} {s : Wr.St} (w : World) (h : RPv w T p A c s) (most : Int) (m0 : -9223372036854775808 ≤ most) (m1 : most ≤ 9223372036854775807) :
    Calls Try.prog 53 #[.pointer (some ⟨p, 0, none⟩), .int .i64 most] w (RPS w T p A (.int .u64 ((Wr.lv most s : Nat) : Int)) (Wr.rdN most s).2) := by
  have U := Lib.hid (wireR_Uint w h)
  have Z := Wr.rdU_zero (s := s)
  obtain ⟨X, eX⟩ : ∃ X, X = (Wr.rdU s).1 := ⟨_, rfl⟩
  obtain ⟨s1, es⟩ : ∃ s1, s1 = (Wr.rdU s).2 := ⟨_, rfl⟩
  have hX : X ≤ 18446744073709551615 := by have := Wr.rdU_bd s; omega
  have hX1 : (X : Int) ≤ 18446744073709551615 := by omega
  rw [← eX, ← es] at Z
  obtain ⟨K, eK⟩ : ∃ K : Nat, (K : Int) = max most 0 := ⟨(max most 0).toNat, by omega⟩
  have hK1 : K ≤ 9223372036854775807 := by omega
  by_cases hl : s1.err = 0 ∧ max most 0 < (X : Int)
  · have hN : Wr.rdN most s = (X, ⟨s1.rest, 3⟩) := by rw [eX, es]; exact Wr.rdN_lim (by rw [← eX, ← es]; exact hl)
    have hv : Wr.lv most s = 0 := Wr.lv_no (by rw [hN]; exact (by decide : (3 : Int) ≠ 0))
    rw [hN, hv]
    rw [← eX, ← es] at U
    have hlt : (K : Int) < (X : Int) := by omega
    clear h eX es Z hl hN hv
    by_cases hm : most < 0
    · obtain rfl : K = 0 := by omega
      have hlt0 : (0 : Int) < (X : Int) := by omega
      go_enter Try.func53, Try.ntmps53
      go_wp2_with (go_at_call 26; refine U.out.mono ?_; rintro e w' ⟨rfl, A1, c1, h1, h2, h3⟩; have f1 := h1.free 1; have k1 := h1.c1; have H1 := Lib.hid h1; have H2 := Lib.hid h2; have H3 := Lib.hid h3; clear h1 h2 h3)
      go_ret
      exact ⟨rfl, _, _, H1.out.fail 3, H2.out.set (.inl (.inl rfl)) _, H3.out⟩
    · obtain rfl : most = (K : Int) := by omega
      clear eK
      go_enter Try.func53, Try.ntmps53
      go_wp2_with (go_at_call 26; refine U.out.mono ?_; rintro e w' ⟨rfl, A1, c1, h1, h2, h3⟩; have f1 := h1.free 1; have k1 := h1.c1; have H1 := Lib.hid h1; have H2 := Lib.hid h2; have H3 := Lib.hid h3; clear h1 h2 h3)
      go_ret
      exact ⟨rfl, _, _, H1.out.fail 3, H2.out.set (.inl (.inl rfl)) _, H3.out⟩
  · have hN : Wr.rdN most s = (X, s1) := by rw [eX, es]; exact Wr.rdN_no (by rw [← eX, ← es]; exact hl)
    have hv : Wr.lv most s = X := by
      by_cases he : s1.err = 0
      · rw [Wr.lv_ok (by rw [hN]; exact he), hN]
      · rw [Wr.lv_no (by rw [hN]; exact he), Z he]
    have hge : ¬ (K : Int) < (X : Int) := by
      intro h1
      by_cases he : s1.err = 0
      · exact hl ⟨he, by omega⟩
      · have := Z he; omega
    rw [hN, hv]
    rw [← eX, ← es] at U
    clear h eX es Z hl hN hv
    by_cases hm : most < 0
    · obtain rfl : X = 0 := by omega
      go_enter Try.func53, Try.ntmps53
      go_wp2_with (go_at_call 26; refine U.out.mono ?_; rintro e w' ⟨rfl, h1⟩; have H1 := Lib.hid h1; clear h1)
      go_ret
      exact ⟨rfl, H1.out⟩
    · obtain rfl : most = (K : Int) := by omega
      clear eK
      go_enter Try.func53, Try.ntmps53
      go_wp2_with (go_at_call 26; refine U.out.mono ?_; rintro e w' ⟨rfl, h1⟩; have H1 := Lib.hid h1; clear h1)
      go_ret
      exact ⟨rfl, H1.out⟩
theorem RPS.behind {W W1 W2 : World} {T : TypeId} {p : Nat} {A A1 : Option Addr} {r : Value} {s : Wr.St} {e : Ending} (t : Turns (fpr p A) W W1) (g : ∀ b, fpr p A1 b → fpr p A b) (h : RPS W1 T p A1 r s e W2) : RPS W T p A r s e W2 := by
  obtain ⟨rfl, A2, c2, h1, h2, h3⟩ := h
  exact ⟨rfl, A2, c2, h1, t.trans h2 fun b _ hf => g b hf, fun b hb => g b (h3 b hb)⟩
theorem wireR_Text {T : TypeId} {p c : Nat} {A : Option Addr} {s : Wr.St} (w : World) (h : RPv w T p A c s) (most : Int) (m0 : -9223372036854775808 ≤ most) (m1 : most ≤ 9223372036854775807) :
    Calls Try.prog 28 #[.pointer (some ⟨p, 0, none⟩), .int .i64 most] w (RPS w T p A (.string ⟨(Wr.rdT most s).1.toArray⟩) (Wr.rdT most s).2) := by
  have U := Lib.hid (wireR_length w h most m0 m1)
  obtain ⟨X, eX⟩ : ∃ X, X = Wr.lv most s := ⟨_, rfl⟩
  obtain ⟨s1, es⟩ : ∃ s1, s1 = (Wr.rdN most s).2 := ⟨_, rfl⟩
  have hX : X ≤ 18446744073709551615 := by have := Wr.lv_bd most s; omega
  have OKX : s1.err = 0 → X = (Wr.rdN most s).1 := fun h => by rw [eX]; exact Wr.lv_ok (by rw [← es]; exact h)
  obtain ⟨R, er⟩ := s1
  have BAD : Hid (er ≠ 0 → Wr.rdT most s = ([], ⟨R, er⟩)) := fun h => by rw [es]; exact Wr.rdT_bad (by rw [← es]; exact h)
  have SHORT : Hid (er = 0 → ¬ X ≤ R.length → Wr.rdT most s = ([], ⟨R, 28⟩)) := fun h h' => by rw [show R = (Wr.rdN most s).2.rest by rw [← es]]; exact Wr.rdT_short (by rw [← es]; exact h) (by rw [← es, ← OKX h]; exact h')
  have OK : Hid (er = 0 → X ≤ R.length → Wr.rdT most s = (R.take X, ⟨R.drop X, 0⟩)) := fun h h' => by rw [show R = (Wr.rdN most s).2.rest by rw [← es], OKX h]; exact Wr.rdT_ok (by rw [← es]; exact h) (by rw [← es, ← OKX h]; exact h')
  rw [← eX, ← es] at U
  clear h eX es OKX
  by_cases he : er = 0
  · subst he
    by_cases hle : X ≤ R.length
    · rw [OK.out rfl hle]
      clear OK BAD SHORT
      have hle2 : ¬ (R.length : Int) < (X : Int) := by omega
      go_enter Try.func28, Try.ntmps28
      go_wp2_with fail
      refine U.out.mono ?_
      rintro e w' ⟨rfl, A1, c1, h1, h2, h3⟩
      have hR1 : R.length ≤ 900000000000 := h1.small
      have hRc : R.length ≤ c1 := h1.nc
      have hXc : (X : Int) ≤ (c1 : Int) := by omega
      have hXn : (X : Int) ≤ (R.length : Int) := by omega
      have k0 : w'.cell? ⟨p, 0, none⟩ = some (.slice A1 R.length c1) := h1.c0
      have k1 : w'.cell? ⟨p, 1, none⟩ = some (.int .i64 0) := h1.c1
      have f0 := h1.free 0
      have V := Lib.hid (wireR_Err w' h1)
      have Y : Hid (Byts w' w'.heap.size A1 X (R.take X)) := byts_pre h1.byt hle
      have S : Hid (RPv (w'.setCell ⟨p, 0, none⟩ (.slice (if c1 = X then A1 else A1.map (·.add X)) (R.length - X) (c1 - X))) T p (if c1 = X then A1 else A1.map (·.add X)) (c1 - X) ⟨R.drop X, 0⟩) := h1.step (l := X) hle
      have H2 := Lib.hid h2
      have H3 := Lib.hid h3
      clear h1 h2 h3 hRc
      rcases A1 with _ | ad
      · have hcv : (convert 38 9 (.slice none X c1)).run Try.prog w' = .ok (.string ⟨(R.take X).toArray⟩) w' := conv_bytes Y.out
        have S2 := S.out
        rw [if_none] at S2
        have S3 := Lib.hid S2
        clear S S2
        go_wp2_with (go_at_call 35; refine V.out.mono ?_; rintro e w1 ⟨rfl, rfl⟩)
        go_ret
        exact ⟨rfl, _, _, S3.out, H2.out.set (.inl (.inl rfl)) _, H3.out⟩
      · have hcv : (convert 38 9 (.slice (some ad) X c1)).run Try.prog w' = .ok (.string ⟨(R.take X).toArray⟩) w' := conv_bytes Y.out
        obtain ⟨D, eD⟩ : ∃ D, (if c1 = X then some ad else some (ad.add X)) = D := ⟨_, rfl⟩
        have G : Hid (∀ b, fpr p D b → fpr p (some ad) b) := by rw [← eD]; exact fpr_from (A := some ad)
        have S2 := S.out
        rw [show (if c1 = X then some ad else Option.map (·.add X) (some ad)) = D from eD] at S2
        have S3 := Lib.hid S2
        clear S S2
        go_wp2_with (go_at_call 35; refine V.out.mono ?_; rintro e w1 ⟨rfl, rfl⟩)
        go_ret
        exact ⟨rfl, _, _, S3.out, H2.out.set (.inl (.inl rfl)) _, fun b hb => H3.out b (G.out b hb)⟩
    · rw [SHORT.out rfl hle]
      clear OK BAD SHORT
      have hle2 : (R.length : Int) < (X : Int) := by omega
      go_enter Try.func28, Try.ntmps28
      go_wp2_with (first
        | (go_at_call 53; refine U.out.mono ?_; rintro e w' ⟨rfl, A1, c1, h1, h2, h3⟩; have hR1 : R.length ≤ 900000000000 := h1.small; have k0 : w'.cell? ⟨p, 0, none⟩ = some (.slice A1 R.length c1) := h1.c0; have k1 := h1.c1; have f1 := h1.free 1; have V := Lib.hid (wireR_Err w' h1); have H1 := Lib.hid h1; have H2 := Lib.hid h2; have H3 := Lib.hid h3; clear h1 h2 h3)
        | (go_at_call 35; refine V.out.mono ?_; rintro e w1 ⟨rfl, rfl⟩))
      go_ret
      exact ⟨rfl, _, _, H1.out.fail 28, H2.out.set (.inl (.inl rfl)) _, H3.out⟩
  · rw [BAD.out he]
    have hb : (er == 0) = false := by rw [beq_eq_false_iff_ne]; exact he
    clear OK BAD SHORT
    go_enter Try.func28, Try.ntmps28
    go_wp2_with (first
      | (go_at_call 53; refine U.out.mono ?_; rintro e w' ⟨rfl, A1, c1, h1, h2, h3⟩; have V := Lib.hid (wireR_Err w' h1); have H1 := Lib.hid h1; have H2 := Lib.hid h2; have H3 := Lib.hid h3; clear h1 h2 h3)
      | (go_at_call 35; refine V.out.mono ?_; rintro e w1 ⟨rfl, rfl⟩))
    go_ret
    exact ⟨rfl, _, _, H1.out, H2.out, H3.out⟩
end Go.Proofs.Ytdleleanaihcoaa
