/- The reference of layer 3: add, sub. -/
import Derived.Test.YtfjnpmkklanopaaNatR
namespace Go.Proofs.Ytfjnpmkklanopaa
set_option maxRecDepth 20000
open Go.RowKit
set_option linter.unusedVariables false
set_option linter.unusedSimpArgs false

namespace Nt
theorem add_next {V c P a x y r q A B : Nat} (h : V + c * P = A + B) (hs : a = q * 65536 + r) (ha : a = x + y + c) : V + r * P + q * (P * 65536) = (A + x * P) + (B + y * P) := by
  have h2 : (x + y + c) * P = (q * 65536 + r) * P := by rw [← ha, hs]
  grind
theorem sub_next {V c P x y r q A B : Nat} (h : V + B = A + c * P) (hs : r + y + c = x + q * 65536) : V + r * P + (B + y * P) = (A + x * P) + q * (P * 65536) := by
  have h2 : (r + y + c) * P = (x + q * 65536) * P := by rw [hs]
  grind
end Nt
/-- What stands in a row of digits that grows, k digits done, c carried: together they are the sum's first digits. -/
structure AddH (N k x y c : Nat) (w W : World) (v : Value) (G : Nat → Nat) : Prop where
  own : OwnD W N 3 .i64 v k G
  lt : ∀ i, G i < 65536
  val : Nt.vl 65536 G k + c * 65536 ^ k = Nt.vl 65536 (Nt.dg 65536 x) k + Nt.vl 65536 (Nt.dg 65536 y) k
  bel : Below N w W
structure SubH (N k x y c : Nat) (w W : World) (v : Value) (G : Nat → Nat) : Prop where
  own : OwnD W N 3 .i64 v k G
  lt : ∀ i, G i < 65536
  val : Nt.vl 65536 G k + Nt.vl 65536 (Nt.dg 65536 y) k = Nt.vl 65536 (Nt.dg 65536 x) k + c * 65536 ^ k
  bel : Below N w W
theorem AddH.step {N k x y c q r : Nat} {w W W' : World} {v v' : Value} {G : Nat → Nat} (h : AddH N k x y c w W v G) (hs : Nt.dg 65536 x k + Nt.dg 65536 y k + c = q * 65536 + r) (hr : r < 65536)
    (ho : OwnD W' N 3 .i64 v' (k + 1) (upd G k r)) (hb : Below N W W') : AddH N (k + 1) x y q w W' v' (upd G k r) :=
  ⟨ho, upd_lt h.lt hr k, by rw [Nt.vl_succ, Nt.vl_upd, upd_same, Nt.vl_succ, Nt.vl_succ, Nat.pow_succ]; exact Nt.add_next h.val hs rfl, h.bel.trans hb⟩
theorem SubH.step {N k x y c q r : Nat} {w W W' : World} {v v' : Value} {G : Nat → Nat} (h : SubH N k x y c w W v G) (hs : r + Nt.dg 65536 y k + c = Nt.dg 65536 x k + q * 65536) (hr : r < 65536)
    (ho : OwnD W' N 3 .i64 v' (k + 1) (upd G k r)) (hb : Below N W W') : SubH N (k + 1) x y q w W' v' (upd G k r) :=
  ⟨ho, upd_lt h.lt hr k, by rw [Nt.vl_succ, Nt.vl_upd, upd_same, Nt.vl_succ, Nt.vl_succ, Nat.pow_succ]; exact Nt.sub_next h.val hs, h.bel.trans hb⟩
set_option maxHeartbeats 400000 in
theorem ref3_add_l {n c n' c' x y : Nat} {A A' : Option Addr} (w : World) (h : IsH w w.heap.size A n x) (h' : IsH w w.heap.size A' n' y) (hn : n ≤ 1000) (hn' : n' ≤ 1000) (hmx : n < n') :
    Calls Try.prog 43 #[.slice A n c, .slice A' n' c'] w (HRes (x + y) w) := by
  have H := Lib.hid h
  have H' := Lib.hid h'
  have m1 : n ≤ n' := by omega
  have m2 : n' ≤ n' := by omega
  clear h h'
  go_enter Try.func43, Try.ntmps43
  go_wp2_with fail
  go_loopw [6, 7, 8] (fun l s i W => ∃ (k : Nat) (v : Value) (cr : Int) (cn : Nat) (G : Nat → Nat), k ≤ n' + 1 ∧ l = v ∧ i = .int .i64 k ∧ s = .int .i64 cr ∧ 0 ≤ cr ∧ cr ≤ 1 ∧ Hid (cr = (cn : Nat)) ∧ Hid (AddH w.heap.size k x y cn w W v G) ∧ w.heap.size ≤ W.heap.size) (fun _ _ i _ => n' + 1 - (intOf i).toNat)
  case atStart => exact ⟨0, _, 0, 0, fun _ => 0, by omega, rfl, rfl, rfl, by omega, by omega, rfl, ⟨OwnD.nil _ _ _ _ _, fun _ => by omega, by simp [Nt.vl_zero], Below.refl _ _⟩, Nat.le_refl _⟩
  case round =>
    obtain ⟨k, v, cr, cn, G, hk, rfl, rfl, rfl, c0, c1, HC, HI, hW⟩ := hrel
    by_cases hlt : k ≤ n'
    · have hxl := Nt.dg_lt (B := 65536) (by omega) x k
      have hyl := Nt.dg_lt (B := 65536) (by omega) y k
      obtain ⟨X, eX⟩ : ∃ X : Int, X = (Nt.dg 65536 x k : Nat) := ⟨_, rfl⟩
      obtain ⟨Y, eY⟩ : ∃ Y : Int, Y = (Nt.dg 65536 y k : Nat) := ⟨_, rfl⟩
      have x0 : 0 ≤ X := by omega
      have x1 : X < 65536 := by omega
      have y0 : 0 ≤ Y := by omega
      have y1 : Y < 65536 := by omega
      have cd1 := fun W (h : Digs W w.heap.size .i64 A n (Nt.dg 65536 x)) => ref3_digit (c := c) X k W h (fun hh => H.out.out hh) (by omega) eX
      have cd2 := fun W (h : Digs W w.heap.size .i64 A' n' (Nt.dg 65536 y)) => ref3_digit (c := c') Y k W h (fun hh => H'.out.out hh) (by omega) eY
      have CD1 := Lib.hid cd1
      have CD2 := Lib.hid cd2
      have HD1 := Lib.hid (H.out.d.below HI.out.bel)
      have HD2 := Lib.hid (H'.out.d.below HI.out.bel)
      have EX := Lib.hid eX
      have EY := Lib.hid eY
      clear hxl hyl eX eY cd1 cd2
      go_wp2_with fail
      refine (CD1.out _ HD1.out).mono ?_
      rintro e w' ⟨rfl, rfl⟩
      go_wp2_with fail
      refine (CD2.out _ HD2.out).mono ?_
      rintro e w' ⟨rfl, rfl⟩
      go_wp2_with (at_builtin; refine Hid.out ?_)
      refine Lib.hid (wpList_app rfl (.tmp 32) (.tmp 35) 37 3 .i64 8 rfl Try.underlying37 info_i64 (by omega) w.heap.size u6 k G ((X + Y + cr).toNat % 65536) _ (by omega) rfl HI.out.own rfl (by omega) hW ?_)
      intro v' w2 hown hb hloc hgr
      have hN : AddH w.heap.size (k + 1) x y ((X + Y + cr).toNat / 65536) w w2 v' (upd G k ((X + Y + cr).toNat % 65536)) := HI.out.step (by
        have := EX.out
        have := EY.out
        have := HC.out
        omega) (by omega) hown hb
      have hz := Nat.le_trans hW hb.size
      have HN := Lib.hid hN
      clear hown hb hloc hgr hN
      go_wp2
      go_roundw
      case rel => exact ⟨k + 1, v', (X + Y + cr) / 65536, (X + Y + cr).toNat / 65536, _, by omega, rfl, by go_num, rfl, by omega, by omega, by show _ = _; omega, HN, hz⟩
      case measure => simp [intOf]; omega
    · obtain rfl : k = n' + 1 := by omega
      obtain ⟨A3, c3, hv3, hnc, hcm, hdig, hfr⟩ := HI.out.own.form
      subst hv3
      have HFR := Lib.hid hfr
      clear hfr
      have hval : Nt.vl 65536 G (n' + 1) = x + y := by
        have h1 := HI.out.val
        rw [H.out.val_ge (by omega), H'.out.val_ge (by omega)] at h1
        have hx : x < 65536 ^ n' := (Nt.ln_le_iff (by omega)).1 (by rw [H.out.l]; omega)
        have hy : y < 65536 ^ n' := (Nt.ln_le_iff (by omega)).1 (by rw [H'.out.l]; omega)
        rcases Nat.eq_zero_or_pos cn with e | e
        · subst e; omega
        · have h2 : 1 * 65536 ^ (n' + 1) ≤ cn * 65536 ^ (n' + 1) := Nat.mul_le_mul_right _ e
          rw [Nat.pow_succ] at h1 h2
          omega
      have hr := hdig.isH_tl (fun i _ => HI.out.lt i)
      rw [hval] at hr
      have ct := ref3_trim (c := c3) wr hdig hnc hcm
      have HTL := Lib.hid (Nt.tl_le G (n' + 1))
      have CT := Lib.hid ct
      have HR := Lib.hid hr
      clear hval hr ct hdig
      go_wp2_with fail
      refine CT.out.mono ?_
      rintro e w' ⟨rfl, rfl⟩
      go_wp2_with fail
      go_ret
      exact ⟨_, _, _, rfl, HI.out.bel, HR.out, ⟨Nat.le_trans HTL.out hnc, hcm⟩, fresh_of HFR.out HTL.out (Nat.le_refl _)⟩
set_option maxHeartbeats 400000 in
theorem ref3_add_g {n c n' c' x y : Nat} {A A' : Option Addr} (w : World) (h : IsH w w.heap.size A n x) (h' : IsH w w.heap.size A' n' y) (hn : n ≤ 1000) (hn' : n' ≤ 1000) (hmx : ¬ n < n') :
    Calls Try.prog 43 #[.slice A n c, .slice A' n' c'] w (HRes (x + y) w) := by
  have H := Lib.hid h
  have H' := Lib.hid h'
  have m1 : n ≤ n := by omega
  have m2 : n' ≤ n := by omega
  clear h h'
  go_enter Try.func43, Try.ntmps43
  go_wp2_with fail
  go_loopw [6, 7, 8] (fun l s i W => ∃ (k : Nat) (v : Value) (cr : Int) (cn : Nat) (G : Nat → Nat), k ≤ n + 1 ∧ l = v ∧ i = .int .i64 k ∧ s = .int .i64 cr ∧ 0 ≤ cr ∧ cr ≤ 1 ∧ Hid (cr = (cn : Nat)) ∧ Hid (AddH w.heap.size k x y cn w W v G) ∧ w.heap.size ≤ W.heap.size) (fun _ _ i _ => n + 1 - (intOf i).toNat)
  case atStart => exact ⟨0, _, 0, 0, fun _ => 0, by omega, rfl, rfl, rfl, by omega, by omega, rfl, ⟨OwnD.nil _ _ _ _ _, fun _ => by omega, by simp [Nt.vl_zero], Below.refl _ _⟩, Nat.le_refl _⟩
  case round =>
    obtain ⟨k, v, cr, cn, G, hk, rfl, rfl, rfl, c0, c1, HC, HI, hW⟩ := hrel
    by_cases hlt : k ≤ n
    · have hxl := Nt.dg_lt (B := 65536) (by omega) x k
      have hyl := Nt.dg_lt (B := 65536) (by omega) y k
      obtain ⟨X, eX⟩ : ∃ X : Int, X = (Nt.dg 65536 x k : Nat) := ⟨_, rfl⟩
      obtain ⟨Y, eY⟩ : ∃ Y : Int, Y = (Nt.dg 65536 y k : Nat) := ⟨_, rfl⟩
      have x0 : 0 ≤ X := by omega
      have x1 : X < 65536 := by omega
      have y0 : 0 ≤ Y := by omega
      have y1 : Y < 65536 := by omega
      have cd1 := fun W (h : Digs W w.heap.size .i64 A n (Nt.dg 65536 x)) => ref3_digit (c := c) X k W h (fun hh => H.out.out hh) (by omega) eX
      have cd2 := fun W (h : Digs W w.heap.size .i64 A' n' (Nt.dg 65536 y)) => ref3_digit (c := c') Y k W h (fun hh => H'.out.out hh) (by omega) eY
      have CD1 := Lib.hid cd1
      have CD2 := Lib.hid cd2
      have HD1 := Lib.hid (H.out.d.below HI.out.bel)
      have HD2 := Lib.hid (H'.out.d.below HI.out.bel)
      have EX := Lib.hid eX
      have EY := Lib.hid eY
      clear hxl hyl eX eY cd1 cd2
      go_wp2_with fail
      refine (CD1.out _ HD1.out).mono ?_
      rintro e w' ⟨rfl, rfl⟩
      go_wp2_with fail
      refine (CD2.out _ HD2.out).mono ?_
      rintro e w' ⟨rfl, rfl⟩
      go_wp2_with (at_builtin; refine Hid.out ?_)
      refine Lib.hid (wpList_app rfl (.tmp 32) (.tmp 35) 37 3 .i64 8 rfl Try.underlying37 info_i64 (by omega) w.heap.size u6 k G ((X + Y + cr).toNat % 65536) _ (by omega) rfl HI.out.own rfl (by omega) hW ?_)
      intro v' w2 hown hb hloc hgr
      have hN : AddH w.heap.size (k + 1) x y ((X + Y + cr).toNat / 65536) w w2 v' (upd G k ((X + Y + cr).toNat % 65536)) := HI.out.step (by
        have := EX.out
        have := EY.out
        have := HC.out
        omega) (by omega) hown hb
      have hz := Nat.le_trans hW hb.size
      have HN := Lib.hid hN
      clear hown hb hloc hgr hN
      go_wp2
      go_roundw
      case rel => exact ⟨k + 1, v', (X + Y + cr) / 65536, (X + Y + cr).toNat / 65536, _, by omega, rfl, by go_num, rfl, by omega, by omega, by show _ = _; omega, HN, hz⟩
      case measure => simp [intOf]; omega
    · obtain rfl : k = n + 1 := by omega
      obtain ⟨A3, c3, hv3, hnc, hcm, hdig, hfr⟩ := HI.out.own.form
      subst hv3
      have HFR := Lib.hid hfr
      clear hfr
      have hval : Nt.vl 65536 G (n + 1) = x + y := by
        have h1 := HI.out.val
        rw [H.out.val_ge (by omega), H'.out.val_ge (by omega)] at h1
        have hx : x < 65536 ^ n := (Nt.ln_le_iff (by omega)).1 (by rw [H.out.l]; omega)
        have hy : y < 65536 ^ n := (Nt.ln_le_iff (by omega)).1 (by rw [H'.out.l]; omega)
        rcases Nat.eq_zero_or_pos cn with e | e
        · subst e; omega
        · have h2 : 1 * 65536 ^ (n + 1) ≤ cn * 65536 ^ (n + 1) := Nat.mul_le_mul_right _ e
          rw [Nat.pow_succ] at h1 h2
          omega
      have hr := hdig.isH_tl (fun i _ => HI.out.lt i)
      rw [hval] at hr
      have ct := ref3_trim (c := c3) wr hdig hnc hcm
      have HTL := Lib.hid (Nt.tl_le G (n + 1))
      have CT := Lib.hid ct
      have HR := Lib.hid hr
      clear hval hr ct hdig
      go_wp2_with fail
      refine CT.out.mono ?_
      rintro e w' ⟨rfl, rfl⟩
      go_wp2_with fail
      go_ret
      exact ⟨_, _, _, rfl, HI.out.bel, HR.out, ⟨Nat.le_trans HTL.out hnc, hcm⟩, fresh_of HFR.out HTL.out (Nat.le_refl _)⟩
theorem ref3_add {n c n' c' x y : Nat} {A A' : Option Addr} (w : World) (h : IsH w w.heap.size A n x) (h' : IsH w w.heap.size A' n' y) (hn : n ≤ 1000) (hn' : n' ≤ 1000) :
    Calls Try.prog 43 #[.slice A n c, .slice A' n' c'] w (HRes (x + y) w) := by
  by_cases hlt : n < n'
  · exact ref3_add_l w h h' hn hn' hlt
  · exact ref3_add_g w h h' hn hn' hlt

set_option maxHeartbeats 400000 in
theorem ref3_sub {n c n' c' x y : Nat} {A A' : Option Addr} (w : World) (h : IsH w w.heap.size A n x) (h' : IsH w w.heap.size A' n' y) (hn : n ≤ 1000) (hn' : n' ≤ 1000) (hle : y ≤ x) :
    Calls Try.prog 63 #[.slice A n c, .slice A' n' c'] w (HRes (x - y) w) := by
  have H := Lib.hid h
  have H' := Lib.hid h'
  clear h h'
  go_enter Try.func63, Try.ntmps63
  go_wp2_with fail
  go_loopw [5, 6, 7] (fun l s i W => ∃ (k : Nat) (v : Value) (cr : Int) (cn : Nat) (G : Nat → Nat), k ≤ n ∧ l = v ∧ i = .int .i64 k ∧ s = .int .i64 cr ∧ 0 ≤ cr ∧ cr ≤ 1 ∧ Hid (cr = (cn : Nat)) ∧ Hid (SubH w.heap.size k x y cn w W v G) ∧ w.heap.size ≤ W.heap.size) (fun _ _ i _ => n - (intOf i).toNat)
  case atStart => exact ⟨0, _, 0, 0, fun _ => 0, by omega, rfl, rfl, rfl, by omega, by omega, rfl, ⟨OwnD.nil _ _ _ _ _, fun _ => by omega, by simp [Nt.vl_zero], Below.refl _ _⟩, Nat.le_refl _⟩
  case round =>
    obtain ⟨k, v, cr, cn, G, hk, rfl, rfl, rfl, c0, c1, HC, HI, hW⟩ := hrel
    by_cases hlt : k < n
    · have hyl := Nt.dg_lt (B := 65536) (by omega) y k
      obtain ⟨ad, X, rfl, hb, hcell, HX, x0, x1⟩ := (H.out.below HI.out.bel).d.at_ hlt (Nt.dg_lt (B := 65536) (by omega) x k)
      obtain ⟨Y, eY⟩ : ∃ Y : Int, Y = (Nt.dg 65536 y k : Nat) := ⟨_, rfl⟩
      have x1' : X < 65536 := by omega
      have y0 : 0 ≤ Y := by omega
      have y1 : Y < 65536 := by omega
      have cd2 := fun W (h : Digs W w.heap.size .i64 A' n' (Nt.dg 65536 y)) => ref3_digit (c := c') Y k W h (fun hh => H'.out.out hh) (by omega) eY
      have CD2 := Lib.hid cd2
      have HD2 := Lib.hid (H'.out.d.below HI.out.bel)
      have EY := Lib.hid eY
      have j0 : (0 : Int) ≤ (k : Int) := by omega
      have j1 : (k : Int) < (n : Int) := by omega
      clear hyl eY cd2 x1
      cases hneg : decide (X - Y - cr < 0)
      case true =>
        have hneg' := of_decide_eq_true hneg
        go_wp2_with fail
        go_quiet ((go_at_call 60; exact quiet_l (CD2.out _ (HD2.out.drewN _))))
        go_wp2_with (at_builtin; refine Hid.out ?_)
        refine Lib.hid (wpList_app rfl (.tmp 29) (.tmp 31) 37 3 .i64 8 rfl Try.underlying37 info_i64 (by omega) w.heap.size u5 k G ((X - Y - cr + 65536).toNat) _ (by omega) rfl (HI.out.own.drewN _) rfl (by omega) hW ?_)
        intro v' w2 hown hb2 hloc hgr
        have hN : SubH w.heap.size (k + 1) x y 1 w w2 v' (upd G k ((X - Y - cr + 65536).toNat)) := HI.out.step (by
          have := HX.out
          have := EY.out
          have := HC.out
          omega) (by omega) hown ((below_dr _ _ _).trans hb2)
        have hz : w.heap.size ≤ w2.heap.size := Nat.le_trans hW hb2.size
        have HN := Lib.hid hN
        clear hown hb2 hloc hgr hN
        go_wp2
        go_roundw
        case rel => exact ⟨k + 1, v', 1, 1, _, by omega, rfl, by go_num, rfl, by omega, by omega, rfl, HN, hz⟩
        case measure => simp [intOf]; omega
      case false =>
        have hneg' := of_decide_eq_false hneg
        have hneg2 : 0 ≤ X - Y - cr := by omega
        clear hneg'
        go_wp2_with fail
        go_quiet ((go_at_call 60; exact quiet_l (CD2.out _ (HD2.out.drewN _))))
        go_wp2_with (at_builtin; refine Hid.out ?_)
        refine Lib.hid (wpList_app rfl (.tmp 29) (.tmp 31) 37 3 .i64 8 rfl Try.underlying37 info_i64 (by omega) w.heap.size u5 k G ((X - Y - cr).toNat) _ (by omega) rfl (HI.out.own.drewN _) rfl (by omega) hW ?_)
        intro v' w2 hown hb2 hloc hgr
        have hN : SubH w.heap.size (k + 1) x y 0 w w2 v' (upd G k ((X - Y - cr).toNat)) := HI.out.step (by
          have := HX.out
          have := EY.out
          have := HC.out
          omega) (by omega) hown ((below_dr _ _ _).trans hb2)
        have hz : w.heap.size ≤ w2.heap.size := Nat.le_trans hW hb2.size
        have HN := Lib.hid hN
        clear hown hb2 hloc hgr hN
        go_wp2
        go_roundw
        case rel => exact ⟨k + 1, v', 0, 0, _, by omega, rfl, by go_num, rfl, by omega, by omega, rfl, HN, hz⟩
        case measure => simp [intOf]; omega
    · obtain rfl : k = n := by omega
      obtain ⟨A3, c3, hv3, hnc, hcm, hdig, hfr⟩ := HI.out.own.form
      subst hv3
      have HFR := Lib.hid hfr
      clear hfr
      have hval : Nt.vl 65536 G k = x - y := by
        have h1 := HI.out.val
        have hx : x < 65536 ^ k := (Nt.ln_le_iff (by omega)).1 (by rw [H.out.l]; omega)
        rw [H.out.val, Nt.vl_dg_all (show y < 65536 ^ k by omega)] at h1
        have hG : Nt.vl 65536 G k < 65536 ^ k := Nt.vl_lt fun i _ => HI.out.lt i
        rcases Nat.eq_zero_or_pos cn with e | e
        · subst e; omega
        · have h2 : 1 * 65536 ^ k ≤ cn * 65536 ^ k := Nat.mul_le_mul_right _ e
          omega
      have hr := hdig.isH_tl (fun i _ => HI.out.lt i)
      rw [hval] at hr
      have ct := ref3_trim (c := c3) wr hdig hnc hcm
      have HTL := Lib.hid (Nt.tl_le G k)
      have CT := Lib.hid ct
      have HR := Lib.hid hr
      clear hval hr ct hdig
      go_wp2_with fail
      refine CT.out.mono ?_
      rintro e w' ⟨rfl, rfl⟩
      go_wp2_with fail
      go_ret
      exact ⟨_, _, _, rfl, HI.out.bel, HR.out, ⟨Nat.le_trans HTL.out hnc, hcm⟩, fresh_of HFR.out HTL.out (Nat.le_refl _)⟩

/-! ### From limbs to digits and back -/
namespace Nt
theorem pow2 (k : Nat) : (4294967296 : Nat) ^ k = 65536 ^ (2 * k) := by rw [Nat.pow_mul]
theorem dg_even (x k : Nat) : dg 4294967296 x k % 65536 = dg 65536 x (2 * k) := by
  unfold dg
  rw [pow2]
  omega
theorem dg_odd (x k : Nat) : dg 4294967296 x k / 65536 = dg 65536 x (2 * k + 1) := by
  unfold dg
  rw [pow2, Nat.pow_succ, ← Nat.div_div_eq_div_mul]
  omega
theorem dg_two (x k : Nat) : dg 65536 x (2 * k) + 65536 * dg 65536 x (2 * k + 1) = dg 4294967296 x k := by
  rw [← dg_even, ← dg_odd]; omega
theorem ln_two {x n : Nat} (h : ln 4294967296 x = n) : ln 65536 x ≤ 2 * n := (ln_le_iff (by omega)).2 (by rw [← pow2, ← h]; exact ln_lt (by omega) x)
theorem ln_two' {x m n : Nat} (h : ln 65536 x = m) (h1 : 2 * n < m + 2) (h2 : m ≤ 2 * n) : ln 4294967296 x = n := by
  refine Len.eq (by omega) ⟨by rw [pow2, ← h] at *; exact (ln_le_iff (B := 65536) (by omega)).1 h2, fun k hk => ?_⟩
  subst hk
  rw [pow2]
  obtain ⟨p, hp⟩ : ∃ p, m = p + 1 := ⟨m - 1, by omega⟩
  have := ln_top (B := 65536) (by omega) (x := x) (n := p) (by omega)
  exact Nat.le_trans (Nat.pow_le_pow_right (by omega) (by omega)) this
theorem ln_128 {x : Nat} : ln 65536 x ≤ 128 ↔ ln 4294967296 x ≤ 64 := by
  rw [ln_le_iff (by omega), ln_le_iff (by omega), pow2 64]
end Nt
end Go.Proofs.Ytfjnpmkklanopaa
