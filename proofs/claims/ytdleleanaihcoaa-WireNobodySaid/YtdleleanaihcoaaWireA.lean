/- Layer 8: the reference's Varint, Zigzag, Signed, Take. -/
import Derived.Test.YtdleleanaihcoaaByt
import Derived.Test.YtdleleanaihcoaaWireMath
namespace Go.Proofs.Ytdleleanaihcoaa
set_option maxRecDepth 20000
open Go.RowKit
set_option linter.unusedVariables false
set_option linter.unusedSimpArgs false
theorem below_app {w W W' : World} {t : TypeId} {l : Array Value} {g : Option Nat} (h : Below w.heap.size w W) (hg : (W.alloc (.cells l t)).grownBy W' g) (hk : ∀ k, g = some k → w.heap.size ≤ k) : Below w.heap.size w W' :=
  (h.alloc h.size _).grown hg (by rw [size_alloc]; exact Nat.le_succ_of_le h.size) hk
set_option maxHeartbeats 1000000 in
theorem ref8_Varint (x : Nat) (hx : x < 18446744073709551616) (w : World) : Calls Try.prog 47 #[.int .u64 (x : Int)] w (BRes (Wr.enc x) w) := by
  have hten := Wr.enc_ten hx
  have HX := Lib.hid hten
  have hx1 : x ≤ 18446744073709551615 := by omega
  clear hten hx
  go_enter Try.func47, Try.ntmps47
  go_wp2_with fail
  go_loopw [0, 3] (fun a b W => ∃ (X c k : Nat) (A : Option Addr) (M : List UInt8), a = .int .u64 (X : Int) ∧ X ≤ 18446744073709551615 ∧ b = .slice A k c ∧ k ≤ 10 ∧ Hid (M.length = k) ∧ Hid (OwnB W w.heap.size (.slice A k c) M) ∧ Hid (Below w.heap.size w W) ∧ Hid (Wr.enc x = M ++ Wr.enc X)) (fun a _ _ => (intOf a).toNat)
  case atStart => exact ⟨x, 0, 0, none, [], rfl, hx1, rfl, by omega, rfl, OwnB.nil _ _, Below.refl _ _, rfl⟩
  case round =>
    obtain ⟨X, c, k, A, M, rfl, hX, rfl, hk, HM, HO, HB, HE⟩ := hrel
    have HS := Lib.hid HB.out.size
    have HK := Lib.hid fun g (e : (Value.slice A k c).ownBlock = some g) => (HO.out.lt g e).1
    have hk10 : M.length + (Wr.enc X).length ≤ 10 := by have h1 := HX.out; rw [HE.out, List.length_append] at h1; exact h1
    have hp := Wr.enc_pos X
    by_cases hlt : X < 128
    · have h1 : ¬ (128 : Int) ≤ (X : Int) := by omega
      have h2 : (X : Int) ≤ 127 := by omega
      have hY : (X : Int) = (((Wr.b8 X).toNat : Nat) : Int) := by rw [Wr.b8_nat (by omega)]
      have HY := Lib.hid hY
      have HE2 : Hid (Wr.enc x = M ++ [Wr.b8 X]) := by show _ = _; rw [HE.out, Wr.enc_small hlt]
      have hml : M.length + 1 ≤ 1000000000000 := by omega
      clear hY hp hk10
      go_wp2_with (at_builtin; refine Hid.out ?_)
      refine Lib.hid (wpList_appB rfl (.tmp 15) (.tmp 18) rfl w.heap.size (.slice A k c) M rfl (HO.out.alloc _) ⟨wr.heap.size, 0, none⟩ 1 1 _ [Wr.b8 X] rfl (Byts.one wr _ HY.out) hml (by rw [size_alloc]; exact Nat.le_succ_of_le HS.out) ?_)
      intro v' w2 hown hg hloc
      obtain ⟨A2, c2, rfl, q1, q2, q3, -⟩ := hown.form
      have hl2 : (M ++ [Wr.b8 X]).length = M.length + 1 := by rw [List.length_append]; rfl
      have fin : BRes (Wr.enc x) w (.returned (.slice A2 (M.length + 1) c2)) w2 := by
        rw [HE2.out]
        exact ⟨A2, c2, by rw [hl2], below_app HB.out hg HK.out, q3, hown, q1, q2⟩
      have FIN := Lib.hid fin
      clear hown hg hloc q3 fin hl2
      go_wp2_with fail
      go_ret
      exact FIN.out
    · have h1 : (128 : Int) ≤ (X : Int) := by omega
      obtain ⟨r, er⟩ : ∃ r : Nat, r = X % 128 := ⟨_, rfl⟩
      obtain ⟨q, eq⟩ : ∃ q : Nat, q = X / 128 := ⟨_, rfl⟩
      have hr : (X : Int) % 128 = (r : Int) := by omega
      have hr' : (X : Int).tmod 128 = (r : Int) := by rw [Int.tmod_eq_emod_of_nonneg (by omega)]; exact hr
      have hq : (X : Int) / 128 = (q : Int) := by omega
      have r1 : r ≤ 127 := by omega
      have q1 : q ≤ 18446744073709551615 := by omega
      have qX : q < X := by omega
      have hY : (r : Int) + 128 = (((Wr.b8 (r + 128)).toNat : Nat) : Int) := by rw [Wr.b8_nat (by omega)]; omega
      have HY := Lib.hid hY
      have HE2 : Hid (Wr.enc x = (M ++ [Wr.b8 (r + 128)]) ++ Wr.enc q) := by
        show _ = _
        rw [HE.out, Wr.enc_big hlt, ← er, ← eq, List.append_assoc]; rfl
      have hml : M.length + 1 ≤ 1000000000000 := by omega
      have hk2 : k + 1 ≤ 10 := by have := HM.out; omega
      clear hY er eq hp hk10
      go_wp2_with (at_builtin; refine Hid.out ?_)
      refine Lib.hid (wpList_appB rfl (.tmp 6) (.tmp 11) rfl w.heap.size (.slice A k c) M rfl (HO.out.alloc _) ⟨wr.heap.size, 0, none⟩ 1 1 _ [Wr.b8 (r + 128)] rfl (Byts.one wr _ HY.out) hml (by rw [size_alloc]; exact Nat.le_succ_of_le HS.out) ?_)
      intro v' w2 hown hg hloc
      obtain ⟨A2, c2, rfl, z1, z2, -, -⟩ := hown.form
      have hl2 : (M ++ [Wr.b8 (r + 128)]).length = k + 1 := by rw [List.length_append, HM.out]; rfl
      have HO2 : Hid (OwnB w2 w.heap.size (.slice A2 (k + 1) c2) (M ++ [Wr.b8 (r + 128)])) := by rw [hl2] at hown; exact hown
      have HB2 := Lib.hid (below_app HB.out hg HK.out)
      have HL2 := Lib.hid hl2
      rw [hl2]
      clear hown hg hloc hl2 z1 z2
      go_wp2_with fail
      go_roundw
      case rel => exact ⟨q, c2, k + 1, A2, M ++ [Wr.b8 (r + 128)], rfl, q1, rfl, hk2, HL2, HO2, HB2, HE2⟩
      case measure => simp [intOf]; omega
theorem ref8_Zigzag (x : Int) (w : World) (x0 : -9223372036854775808 ≤ x) (x1 : x ≤ 9223372036854775807) : Calls Try.prog 46 #[.int .i64 x] w fun e w' => e = .returned (.int .u64 (Wr.zz x : Nat)) ∧ w = w' := by
  by_cases h : x < 0
  · have E : Hid (2 * (-(x + 1)) + 1 = ((Wr.zz x : Nat) : Int)) := by show _ = _; unfold Wr.zz; rw [if_pos h]; omega
    go_enter Try.func46, Try.ntmps46
    go_wp2_with fail
    go_ret
    exact ⟨ret_int E.out, rfl⟩
  · have E : Hid (2 * x = ((Wr.zz x : Nat) : Int)) := by show _ = _; unfold Wr.zz; rw [if_neg h]; omega
    have h0 : 0 ≤ x := by omega
    go_enter Try.func46, Try.ntmps46
    go_wp2_with fail
    go_ret
    exact ⟨ret_int E.out, rfl⟩
theorem ref8_Signed (u : Nat) (w : World) (hu : u ≤ 18446744073709551615) : Calls Try.prog 50 #[.int .u64 (u : Int)] w fun e w' => e = .returned (.int .i64 (Wr.sg u)) ∧ w = w' := by
  obtain ⟨q, eq⟩ : ∃ q : Nat, q = u / 2 := ⟨_, rfl⟩
  have hq : (u : Int) / 2 = (q : Int) := by omega
  have q1 : q ≤ 9223372036854775807 := by omega
  by_cases h : u % 2 = 1
  · have E : Hid (-(q : Int) - 1 = Wr.sg u) := by show _ = _; unfold Wr.sg; rw [if_pos h, ← eq]
    have hr : (u : Int) % 2 = 1 := by omega
    have hr' : (u : Int).tmod 2 = 1 := by rw [Int.tmod_eq_emod_of_nonneg (by omega)]; exact hr
    clear eq h
    go_enter Try.func50, Try.ntmps50
    go_wp2_with fail
    go_ret
    exact ⟨ret_int E.out, rfl⟩
  · have E : Hid ((q : Int) = Wr.sg u) := by show _ = _; unfold Wr.sg; rw [if_neg h, ← eq]
    have hr : (u : Int) % 2 = 0 := by omega
    have hr' : (u : Int).tmod 2 = 0 := by rw [Int.tmod_eq_emod_of_nonneg (by omega)]; exact hr
    clear eq h
    go_enter Try.func50, Try.ntmps50
    go_wp2_with fail
    go_ret
    exact ⟨ret_int E.out, rfl⟩
end Go.Proofs.Ytdleleanaihcoaa
