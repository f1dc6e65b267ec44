/- Layer 8: what the laws' function same answers. -/
import Derived.Test.YtdleleanaihcoaaWireD
import Derived.Deep.QuietTactic
import Derived.BigQuiet
import Derived.Test.YtdleleanaihcoaaMonA
import Derived.IntWalk
namespace Go.Proofs.Ytdleleanaihcoaa
set_option maxRecDepth 20000
open Go.RowKit
set_option linter.unusedVariables false
set_option linter.unusedSimpArgs false
theorem Wr.drop_at {zs : List Int} {k : Nat} (h : k < zs.length) : zs.drop k = zs.getD k 0 :: zs.drop (k + 1) := by
  rw [List.drop_eq_getElem_cons h, List.getD_eq_getElem?_getD, List.getElem?_eq_getElem h]; rfl
set_option maxHeartbeats 1000000 in
theorem law8_same {B B' len len' c c' : Nat} {A A' : Option Addr} {zs ys : List Int} (w : World) (h : Ints w B A len zs) (h' : Ints w B' A' len' ys) (hl : len ≤ 9223372036854775807) (hl' : len' ≤ 9223372036854775807) :
    Calls Try.prog 30 #[.slice A len c, .slice A' len' c'] w fun e w' => e = .returned (.bool (zs == ys)) ∧ ∃ j, w' = w.drewN j := by
  have H := Lib.hid h
  have H' := Lib.hid h'
  clear h h'
  by_cases hlen : len = len'
  · subst hlen
    have hg : ((len : Int) == (len : Int)) = true := by simp
    go_enter Try.func30, Try.ntmps30
    go_wp2_with fail
    go_loopw [13] (fun i W => ∃ (k r : Nat), k ≤ len ∧ i = .int .i64 (k : Int) ∧ Hid ((zs == ys) = (zs.drop k == ys.drop k)) ∧ W = w.drewN r) (fun i _ => len - (intOf i).toNat)
    case atStart => exact ⟨0, 0, by omega, rfl, by show _ = _; rw [List.drop_zero, List.drop_zero], rfl⟩
    case round =>
      obtain ⟨k, r, hk, rfl, HK, rfl⟩ := hrel
      by_cases hlt : k < len
      · obtain ⟨ad, x, rfl, hb, hc, HX⟩ := H.out.at_ hlt
        obtain ⟨ad', y, rfl, hb', hc', HY⟩ := H'.out.at_ hlt
        have d1 := Wr.drop_at (zs := zs) (k := k) (by rw [H.out.len]; exact hlt)
        have d2 := Wr.drop_at (zs := ys) (k := k) (by rw [H'.out.len]; exact hlt)
        rw [← HX.out] at d1
        rw [← HY.out] at d2
        cases hxy : (x == y)
        · have F : Hid (false = (zs == ys)) := by show _ = _; rw [HK.out, d1, d2, List.cons_beq_cons, hxy]; rfl
          clear d1 d2
          go_wp2_with fail
          go_quiet (fail)
          go_wp2_with fail
          go_ret
          exact ⟨ret_bool F.out, _, World.drewN_drewN _ _ _⟩
        · have F : Hid ((zs == ys) = (zs.drop (k + 1) == ys.drop (k + 1))) := by show _ = _; rw [HK.out, d1, d2, List.cons_beq_cons, hxy]; rfl
          clear d1 d2
          go_wp2_with fail
          go_quiet (fail)
          go_wp2_with fail
          go_roundw
          case rel => exact ⟨k + 1, _, by omega, by go_num, F, rfl⟩
          case measure => simp [intOf]; omega
      · have F : Hid (true = (zs == ys)) := by
          show _ = _
          rw [HK.out, List.drop_of_length_le (by rw [H.out.len]; omega), List.drop_of_length_le (by rw [H'.out.len]; omega)]; rfl
        go_wp2_with fail
        go_ret
        exact ⟨ret_bool F.out, r, rfl⟩
  · have F : Hid (false = (zs == ys)) := by
      show _ = _
      rw [eq_comm, Bool.eq_false_iff]
      intro e
      have := eq_of_beq e
      subst this
      exact hlen (H.out.len.symm.trans H'.out.len)
    have hg : ((len : Int) == (len' : Int)) = false := by simp; omega
    go_enter Try.func30, Try.ntmps30
    go_wp2_with fail
    go_ret
    exact ⟨ret_bool F.out, 0, rfl⟩
end Go.Proofs.Ytdleleanaihcoaa
