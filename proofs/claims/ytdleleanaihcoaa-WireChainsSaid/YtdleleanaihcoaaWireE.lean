/- Layer 8: the reference's Reader: NewReader, Int, size, Left, Err. -/
import Derived.Test.YtdleleanaihcoaaWireD
namespace Go.Proofs.Ytdleleanaihcoaa
set_option maxRecDepth 20000
open Go.RowKit
set_option linter.unusedVariables false
set_option linter.unusedSimpArgs false
namespace Wr
theorem tk_bd (L : List UInt8) : (tk 0 L).1 < 18446744073709551616 := by
  rcases tk_err 0 L with h | ⟨h, -⟩
  · have := (tk_once 0 L (tk 0 L).1 (tk 0 L).2.1 (by omega) (by rw [← h])).1
    rw [lim_zero] at this
    exact this
  · rw [h]; show (0 : Nat) < 18446744073709551616; decide
theorem rdU_bd (s : St) : (rdU s).1 < 18446744073709551616 := by
  unfold rdU
  split
  · split
    · exact tk_bd _
    · show (0 : Nat) < 18446744073709551616; decide
  · show (0 : Nat) < 18446744073709551616; decide
theorem rdN_no {most : Int} {s : St} (h : ¬ ((rdU s).2.err = 0 ∧ max most 0 < ((rdU s).1 : Int))) : rdN most s = rdU s := if_neg h
theorem rdN_lim {most : Int} {s : St} (h : (rdU s).2.err = 0 ∧ max most 0 < ((rdU s).1 : Int)) : rdN most s = ((rdU s).1, ⟨(rdU s).2.rest, 3⟩) := if_pos h
end Wr
theorem alloc_new1 (w : World) (o o' : Obj) : ((w.alloc o).alloc o').heap[w.heap.size + 1]? = some o' := by have h := heap_alloc_new (w.alloc o) o'; rw [size_alloc] at h; exact h
theorem ref8_NewReader {A : Option Addr} {n c : Nat} {L : List UInt8} (w : World) (h : Byts w w.heap.size A n L) (hn : n ≤ 900000000000) :
    Calls Try.prog 23 #[.slice A n c] w fun e w' => ∃ p T v, e = .returned (.pointer (some ⟨p, 0, none⟩)) ∧ RRv w' T p v L 0 ⟨L, 0⟩ ∧ Below w.heap.size w w' ∧ (∀ b, fpv p v b → w.heap.size ≤ b) := by
  have HB := Lib.hid (fun o => ((Below.refl w.heap.size w).alloc (Nat.le_refl _) o : Below w.heap.size w (w.alloc o)))
  have HL := Lib.hid h.len
  rcases A with _ | ad
  · have hL : n = 0 := by
      rcases Nat.eq_zero_or_pos n with e | e
      · exact e
      · obtain ⟨ad, e, -⟩ := h.2 e; cases e
    subst hL
    have hL0 : L = [] := List.length_eq_zero_iff.1 h.len
    subst hL0
    clear h
    go_enter Try.func23, Try.ntmps23
    go_wp2_with fail
    go_ret
    refine ⟨_, _, _, rfl, ⟨alloc_new1 _ _ _, (OwnB.empty w).alloc _ |>.base (fun k hk => Nat.zero_le _), ?_, Nat.le_refl _, rfl, by decide⟩, (HB.out _).alloc (by rw [size_alloc]; exact Nat.le_succ _) _, ?_⟩
    · intro e
      have e2 : w.heap.size = w.heap.size + 1 := by injection e
      exact absurd e2 (by omega)
    · intro b hb
      rcases hb with rfl | hb
      · exact Nat.le_succ _
      · injection hb with hb
        exact Nat.le_of_eq hb
  · have HM := Lib.hid (fun o => h.below (HB.out o))
    have hs : L.length ≤ 900000000000 := by rw [h.len]; exact hn
    have HS := Lib.hid hs
    clear h hs
    go_enter Try.func23, Try.ntmps23
    go_wp2_with (at_builtin; refine Hid.out ?_)
    refine Lib.hid (wpList_appB rfl (.tmp 3) (.tmp 4) rfl w.heap.size _ [] rfl (OwnB.empty w) ad n c w.heap.size L rfl (HM.out _) (by simp; omega) (by rw [size_alloc]; exact Nat.le_succ _) ?_)
    intro v' w2 hown hg hloc
    have HB2 := Lib.hid ((HB.out _).grown hg (by rw [size_alloc]; exact Nat.le_succ _) (fun k hk => by injection hk with hk; exact Nat.le_of_eq hk))
    obtain ⟨A2, c2, rfl, z1, z2, z3, -⟩ := hown.form
    have HO := Lib.hid hown
    rw [List.nil_append, HL.out]
    rw [List.nil_append, HL.out] at HO
    clear hown hg hloc z1 z2 z3
    go_wp2_with fail
    go_ret
    refine ⟨_, _, _, rfl, ⟨heap_alloc_new _ _, (HO.out.alloc _).base (fun k hk => Nat.zero_le _), ?_, Nat.zero_le _, rfl, HS.out⟩, HB2.out.alloc HB2.out.size _, ?_⟩
    · intro e
      exact absurd (HO.out.lt _ e).2 (by omega)
    · intro b hb
      rcases hb with rfl | hb
      · exact HB2.out.size
      · exact (HO.out.lt _ hb).1
theorem ref8_RInt {T : TypeId} {p at' : Nat} {v : Value} {M : List UInt8} {s : Wr.St} (w : World) (h : RRv w T p v M at' s) :
    Calls Try.prog 25 #[.pointer (some ⟨p, 0, none⟩)] w (RStep w T p v M (.int .i64 (Wr.rdI s).1) (Wr.rdI s).2) := by
  have U := Lib.hid (ref8_RUint w h)
  obtain ⟨X, eX⟩ : ∃ X, X = (Wr.rdU s).1 := ⟨_, rfl⟩
  have hX : X ≤ 18446744073709551615 := by have := Wr.rdU_bd s; omega
  rw [← eX] at U
  have S := Lib.hid fun W => ref8_Signed X W hX
  have FIN : Hid (∀ w', (∃ at', RRv w' T p v M at' (Wr.rdU s).2) → Turns (fpv p v) w w' → RStep w T p v M (.int .i64 (Wr.rdI s).1) (Wr.rdI s).2 (.returned (.int .i64 (Wr.sg X))) w') := by
    intro w' h1 h2
    rw [eX]
    exact ⟨rfl, h1, h2⟩
  clear h eX
  go_enter Try.func25, Try.ntmps25
  go_wp2_with (first
    | (go_at_call 27; refine U.out.mono ?_; rintro e w' ⟨rfl, h1, h2⟩; have F := Lib.hid (FIN.out _ h1 h2); clear h1 h2)
    | (go_at_call 50; refine (S.out _).mono ?_; rintro e w' ⟨rfl, rfl⟩))
  go_ret
  exact F.out
theorem ref8_Left {T : TypeId} {p at' : Nat} {v : Value} {M : List UInt8} {s : Wr.St} (w : World) (h : RRv w T p v M at' s) :
    Calls Try.prog 34 #[.pointer (some ⟨p, 0, none⟩)] w fun e w' => e = .returned (.int .i64 (Wr.left s)) ∧ ∃ k, w' = w.drewN k := by
  obtain ⟨A, c, rfl, q1, q2, q3, q4⟩ := h.own.form
  have hc0 := h.c0
  have hc1 := h.c1
  have hc2 := h.c2
  have hl := h.le
  have hs := h.small
  by_cases he : s.err = 0
  · have E : Hid ((M.length : Int) - (at' : Int) = Wr.left s) := by
      show _ = _
      unfold Wr.left
      rw [if_pos he, h.rest, List.length_drop]
      omega
    rw [he] at hc2
    clear h q3 q4 he
    go_enter Try.func34, Try.ntmps34
    go_wp2_with fail
    go_quiet (fail)
    go_wp2_with fail
    go_ret
    exact ⟨ret_int E.out, _, rfl⟩
  · have E : Hid (0 = Wr.left s) := by show _ = _; unfold Wr.left; rw [if_neg he]
    have hb : (s.err == 0) = false := by rw [beq_eq_false_iff_ne]; exact he
    clear h q3 q4
    go_enter Try.func34, Try.ntmps34
    go_wp2_with fail
    go_ret
    exact ⟨ret_int E.out, 0, rfl⟩
theorem ref8_Err {T : TypeId} {p at' : Nat} {v : Value} {M : List UInt8} {s : Wr.St} (w : World) (h : RRv w T p v M at' s) :
    Calls Try.prog 36 #[.pointer (some ⟨p, 0, none⟩)] w fun e w' => e = .returned (.int .i64 s.err) ∧ w = w' := by
  have hc2 := h.c2
  go_enter Try.func36, Try.ntmps36
  go_wp2_with fail
  go_ret
  exact ⟨rfl, rfl⟩
theorem ref8_size {T : TypeId} {p at' : Nat} {v : Value} {M : List UInt8} {s : Wr.St} (w : World) (h : RRv w T p v M at' s) (most : Int) (m0 : -9223372036854775808 ≤ most) (m1 : most ≤ 9223372036854775807) :
    Calls Try.prog 54 #[.pointer (some ⟨p, 0, none⟩), .int .i64 most] w (RStep w T p v M (.int .u64 ((Wr.rdN most s).1 : Nat)) (Wr.rdN most s).2) := by
  have U := Lib.hid (ref8_RUint w h)
  obtain ⟨X, eX⟩ : ∃ X, X = (Wr.rdU s).1 := ⟨_, rfl⟩
  obtain ⟨s1, es⟩ : ∃ s1, s1 = (Wr.rdU s).2 := ⟨_, rfl⟩
  have hX : X ≤ 18446744073709551615 := by have := Wr.rdU_bd s; omega
  have hX1 : (X : Int) ≤ 18446744073709551615 := by omega
  have NO : Hid (¬ (s1.err = 0 ∧ max most 0 < (X : Int)) → Wr.rdN most s = (X, s1)) := by
    intro hn
    rw [eX, es]
    exact Wr.rdN_no (by rw [← eX, ← es]; exact hn)
  have YES : Hid (s1.err = 0 ∧ max most 0 < (X : Int) → Wr.rdN most s = (X, ⟨s1.rest, 3⟩)) := by
    intro hn
    rw [eX, es]
    exact Wr.rdN_lim (by rw [← eX, ← es]; exact hn)
  rw [← eX, ← es] at U
  clear h eX es
  obtain ⟨R, er⟩ := s1
  by_cases hl : er = 0 ∧ max most 0 < (X : Int)
  · rw [YES.out hl]
    obtain ⟨rfl, hl⟩ := hl
    by_cases hm : most < 0
    · have hX0 : 0 < X := by omega
      have hX2 : (0 : Int) < (X : Int) := by omega
      clear hl YES NO
      go_enter Try.func54, Try.ntmps54
      go_wp2_with (go_at_call 27; refine U.out.mono ?_; rintro e w' ⟨rfl, ⟨a1, h1⟩, h2⟩; have c2 : w'.cell? ⟨p, 2, none⟩ = some (.int .i64 0) := h1.c2; have f2 := h1.free 2; have H1 := Lib.hid h1; have H2 := Lib.hid h2; clear h1 h2)
      go_ret
      exact ⟨rfl, ⟨a1, H1.out.fail 3⟩, H2.out.trans (H1.out.turns_set 2 _) fun _ _ h => h⟩
    · have hm2 : 0 ≤ most := by omega
      have hX2 : most < (X : Int) := by omega
      clear hl YES NO
      go_enter Try.func54, Try.ntmps54
      go_wp2_with (go_at_call 27; refine U.out.mono ?_; rintro e w' ⟨rfl, ⟨a1, h1⟩, h2⟩; have c2 : w'.cell? ⟨p, 2, none⟩ = some (.int .i64 0) := h1.c2; have f2 := h1.free 2; have H1 := Lib.hid h1; have H2 := Lib.hid h2; clear h1 h2)
      go_ret
      exact ⟨rfl, ⟨a1, H1.out.fail 3⟩, H2.out.trans (H1.out.turns_set 2 _) fun _ _ h => h⟩
  · rw [NO.out hl]
    by_cases he : er = 0
    · subst he
      by_cases hm : most < 0
      · obtain rfl : X = 0 := by omega
        clear hl YES NO
        go_enter Try.func54, Try.ntmps54
        go_wp2_with (go_at_call 27; refine U.out.mono ?_; rintro e w' ⟨rfl, ⟨a1, h1⟩, h2⟩; have c2 : w'.cell? ⟨p, 2, none⟩ = some (.int .i64 0) := h1.c2; have f2 := h1.free 2; have H1 := Lib.hid h1; have H2 := Lib.hid h2; clear h1 h2)
        go_ret
        exact ⟨rfl, ⟨a1, H1.out⟩, H2.out⟩
      · have hm2 : 0 ≤ most := by omega
        have hX2 : ¬ most < (X : Int) := by omega
        clear hl YES NO
        go_enter Try.func54, Try.ntmps54
        go_wp2_with (go_at_call 27; refine U.out.mono ?_; rintro e w' ⟨rfl, ⟨a1, h1⟩, h2⟩; have c2 : w'.cell? ⟨p, 2, none⟩ = some (.int .i64 0) := h1.c2; have f2 := h1.free 2; have H1 := Lib.hid h1; have H2 := Lib.hid h2; clear h1 h2)
        go_ret
        exact ⟨rfl, ⟨a1, H1.out⟩, H2.out⟩
    · have hb : (er == 0) = false := by rw [beq_eq_false_iff_ne]; exact he
      clear hl YES NO he
      go_enter Try.func54, Try.ntmps54
      go_wp2_with (go_at_call 27; refine U.out.mono ?_; rintro e w' ⟨rfl, ⟨a1, h1⟩, h2⟩; have c2 : w'.cell? ⟨p, 2, none⟩ = some (.int .i64 er) := h1.c2; have f2 := h1.free 2; have H1 := Lib.hid h1; have H2 := Lib.hid h2; clear h1 h2)
      go_ret
      exact ⟨rfl, ⟨a1, H1.out⟩, H2.out⟩
end Go.Proofs.Ytdleleanaihcoaa
