/- Layer 8: the reference's Reader: Text, Ints. -/
import Derived.Test.YtdleleanaihcoaaWireE
import Derived.Laws.IdiomStrings
import Derived.Laws.BytesArg
import Derived.IntWalk
namespace Go.Proofs.Ytdleleanaihcoaa
set_option maxRecDepth 20000
open Go.RowKit
set_option linter.unusedVariables false
set_option linter.unusedSimpArgs false
theorem add_at (g a j : Nat) : (⟨g, a, none⟩ : Addr).add j = ⟨g, a + j, none⟩ := by unfold Addr.add; split <;> simp_all
/-- A slice of a row of bytes. -/
theorem byts_sub {W : World} {B g n c a X : Nat} {M : List UInt8} (h : Byts W B (some ⟨g, 0, none⟩) n M) (hax : a + X ≤ n) (hc : n ≤ c) : Byts W B (if c = a then some ⟨g, 0, none⟩ else some ⟨g, a, none⟩) X ((M.drop a).take X) := by
  refine ⟨by rw [List.length_take, List.length_drop, h.1]; omega, fun h0 => ?_⟩
  rw [if_neg (by omega)]
  obtain ⟨ad, e, hb, hcell⟩ := h.2 (by omega)
  injection e with e
  subst e
  refine ⟨_, rfl, hb, fun j d hj => ?_⟩
  have hjx : j < X := by
    have := (List.getElem?_eq_some_iff.1 hj).1
    rw [List.length_take] at this
    omega
  rw [List.getElem?_take, if_pos hjx, List.getElem?_drop] at hj
  rw [add_at]
  have := hcell _ d hj
  rw [add_at, Nat.zero_add] at this
  exact this
namespace Wr
theorem rdN_bd (most : Int) (s : St) : (rdN most s).1 < 18446744073709551616 := by
  unfold rdN
  split
  · exact rdU_bd s
  · exact rdU_bd s
theorem rdT_bad {most : Int} {s : St} (h : (rdN most s).2.err ≠ 0) : rdT most s = ([], (rdN most s).2) := if_neg h
theorem rdT_short {most : Int} {s : St} (h : (rdN most s).2.err = 0) (h' : ¬ (rdN most s).1 ≤ (rdN most s).2.rest.length) : rdT most s = ([], ⟨(rdN most s).2.rest, 28⟩) := by unfold rdT; rw [if_pos h, if_neg h']
theorem rdT_ok {most : Int} {s : St} (h : (rdN most s).2.err = 0) (h' : (rdN most s).1 ≤ (rdN most s).2.rest.length) : rdT most s = ((rdN most s).2.rest.take (rdN most s).1, ⟨(rdN most s).2.rest.drop (rdN most s).1, 0⟩) := by unfold rdT; rw [if_pos h, if_pos h']
end Wr
theorem RRv.drewN {W : World} {T : TypeId} {p at' : Nat} {v : Value} {M : List UInt8} {s : Wr.St} (h : RRv W T p v M at' s) (k : Nat) : RRv (W.drewN k) T p v M at' s := ⟨h.blk, h.own.drewN k, h.ne, h.le, h.rest, h.small⟩
theorem ref8_RText {T : TypeId} {p at' : Nat} {v : Value} {M : List UInt8} {s : Wr.St} (w : World) (h : RRv w T p v M at' s) (most : Int) (m0 : -9223372036854775808 ≤ most) (m1 : most ≤ 9223372036854775807) :
    Calls Try.prog 29 #[.pointer (some ⟨p, 0, none⟩), .int .i64 most] w (RStep w T p v M (.string ⟨(Wr.rdT most s).1.toArray⟩) (Wr.rdT most s).2) := by
  have U := Lib.hid (ref8_size w h most m0 m1)
  obtain ⟨X, eX⟩ : ∃ X, X = (Wr.rdN most s).1 := ⟨_, rfl⟩
  obtain ⟨s1, es⟩ : ∃ s1, s1 = (Wr.rdN most s).2 := ⟨_, rfl⟩
  have hX : X ≤ 18446744073709551615 := by have := Wr.rdN_bd most s; omega
  obtain ⟨R, er⟩ := s1
  have BAD : Hid (er ≠ 0 → Wr.rdT most s = ([], ⟨R, er⟩)) := fun h => by rw [es]; exact Wr.rdT_bad (by rw [← es]; exact h)
  have SHORT : Hid (er = 0 → ¬ X ≤ R.length → Wr.rdT most s = ([], ⟨R, 28⟩)) := fun h h' => by rw [show R = (Wr.rdN most s).2.rest by rw [← es]]; exact Wr.rdT_short (by rw [← es]; exact h) (by rw [← es, ← eX]; exact h')
  have OK : Hid (er = 0 → X ≤ R.length → Wr.rdT most s = (R.take X, ⟨R.drop X, 0⟩)) := fun h h' => by rw [show R = (Wr.rdN most s).2.rest by rw [← es], eX]; exact Wr.rdT_ok (by rw [← es]; exact h) (by rw [← es, ← eX]; exact h')
  rw [← eX, ← es] at U
  obtain ⟨A, c, rfl, q1, q2, q3, q4⟩ := h.own.form
  have HV := Lib.hid q3
  clear q3
  clear h eX es
  by_cases he : er = 0
  · subst he
    by_cases hle : X ≤ R.length
    · rw [OK.out rfl hle]
      clear OK BAD SHORT
      rcases q4 with rfl | ⟨g, rfl⟩
      · have hM0 : M.length = 0 := by
          rcases Nat.eq_zero_or_pos M.length with e | e
          · exact e
          · obtain ⟨ad, e, -⟩ := HV.out.2 e; cases e
        have hM : M = [] := List.length_eq_zero_iff.1 hM0
        subst hM
        clear HV
        go_enter Try.func29, Try.ntmps29
        go_wp2_with (go_at_call 54; refine U.out.mono ?_; rintro e w' ⟨rfl, ⟨a1, h1⟩, h2⟩; obtain rfl : a1 = 0 := (by have := h1.le; simpa using this); obtain rfl : R = [] := (by have := h1.rest; simpa using this); obtain rfl : X = 0 := (by simpa using hle); have c0 := h1.c0; have c1 := h1.c1; have c2 : w'.cell? ⟨p, 2, none⟩ = some (.int .i64 0) := h1.c2; have f1 := h1.free 1; have hcv : ∀ k x, (convert 38 9 (.slice none 0 x)).run Try.prog (w'.drewN k) = .ok (.string ⟨#[]⟩) (w'.drewN k) := (fun k x => conv_bytes (B := 0) (L := []) Byts.none_); have H1 := Lib.hid h1; have H2 := Lib.hid h2; clear h1 h2)
        go_quiet (fail)
        go_wp2_with fail
        go_quiet (fail)
        go_wp2_with fail
        go_ret
        exact ⟨rfl, ⟨0, (H1.out.drewN _).step (k := 0) (X := 0) (Nat.le_refl _) rfl⟩, (H2.out.drewN _).set (.inl (.inl rfl)) _⟩
      · go_enter Try.func29, Try.ntmps29
        go_wp2_with (go_at_call 54; refine U.out.mono ?_; rintro e w' ⟨rfl, ⟨a1, h1⟩, h2⟩; have c0 := h1.c0; have c1 := h1.c1; have c2 : w'.cell? ⟨p, 2, none⟩ = some (.int .i64 0) := h1.c2; have f1 := h1.free 1; have hle1 := h1.le; have hsm := h1.small; have hRM : R = M.drop a1 := h1.rest; have hR : R.length = M.length - a1 := (by rw [hRM, List.length_drop]); have hX2 : ¬ ((M.length : Int) - (a1 : Int)) < (X : Int) := (by omega); have hX3 : (0 : Int) ≤ (M.length : Int) - (a1 : Int) := (by omega); have hX5 : (X : Int) ≤ 9223372036854775807 := (by omega); obtain ⟨E, eE⟩ : ∃ E : Nat, E = a1 + X := ⟨_, rfl⟩; have gX : IntKind.i64.wrap (X : Int) = (X : Int) := (by rw [IntWalk.i64_in _ (by omega)]); have gE : IntKind.i64.wrap ((a1 : Int) + (X : Int)) = (E : Int) := (by rw [IntWalk.i64_in _ (by omega)]; omega); have b1 : a1 ≤ E := (by omega); have b3 : (E : Int) ≤ (c : Int) := (by omega); have b5 : E - a1 = X := (by omega); obtain ⟨A', eA, hcv⟩ : ∃ A', (if c = a1 then some (⟨g, 0, none⟩ : Addr) else some ⟨g, a1, none⟩) = A' ∧ ∀ k, (convert 38 9 (.slice A' X (c - a1))).run Try.prog (w'.drewN k) = .ok (.string ⟨(R.take X).toArray⟩) (w'.drewN k) := ⟨_, rfl, fun k => (by rw [hRM]; exact conv_bytes (byts_sub (h1.own.bytes.drewN k) (by omega) q1))⟩; have HE : Hid (E = a1 + X) := eE; have HXR : Hid (X ≤ R.length) := hle; have H1 := Lib.hid h1; have H2 := Lib.hid h2; clear h1 h2 hR hRM eE)
        go_quiet (fail)
        go_wp2_with fail
        go_quiet (fail)
        go_wp2_with fail
        go_ret
        exact ⟨rfl, ⟨_, (H1.out.drewN _).step HXR.out (X := (E : Int)) (by rw [HE.out])⟩, (H2.out.drewN _).set (.inl (.inl rfl)) _⟩
    · rw [SHORT.out rfl hle]
      clear OK BAD SHORT
      go_enter Try.func29, Try.ntmps29
      go_wp2_with (go_at_call 54; refine U.out.mono ?_; rintro e w' ⟨rfl, ⟨a1, h1⟩, h2⟩; have c0 := h1.c0; have c1 := h1.c1; have c2 : w'.cell? ⟨p, 2, none⟩ = some (.int .i64 0) := h1.c2; have f2 := h1.free 2; have hle1 := h1.le; have hsm := h1.small; have hR : R.length = M.length - a1 := (by rw [show R = M.drop a1 from h1.rest, List.length_drop]); have hX2 : ((M.length : Int) - (a1 : Int)) < (X : Int) := (by omega); have hX3 : (0 : Int) ≤ (M.length : Int) - (a1 : Int) := (by omega); have H1 := Lib.hid h1; have H2 := Lib.hid h2; clear h1 h2 hR)
      go_quiet (fail)
      go_wp2_with fail
      go_ret
      exact ⟨rfl, ⟨a1, (H1.out.drewN _).fail 28⟩, (H2.out.drewN _).set (.inl (.inl rfl)) _⟩
  · rw [BAD.out he]
    have hb : (er == 0) = false := by rw [beq_eq_false_iff_ne]; exact he
    clear OK BAD SHORT
    go_enter Try.func29, Try.ntmps29
    go_wp2_with (go_at_call 54; refine U.out.mono ?_; rintro e w' ⟨rfl, ⟨a1, h1⟩, h2⟩; have c2 : w'.cell? ⟨p, 2, none⟩ = some (.int .i64 er) := h1.c2; have H1 := Lib.hid h1; have H2 := Lib.hid h2; clear h1 h2)
    go_quiet (fail)
    go_wp2_with fail
    go_ret
    exact ⟨rfl, ⟨a1, H1.out.drewN _⟩, H2.out.drewN _⟩
end Go.Proofs.Ytdleleanaihcoaa
