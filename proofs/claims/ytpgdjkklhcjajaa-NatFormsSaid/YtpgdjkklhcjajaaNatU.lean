/- nat.Uint, the reference's Uint and Of. -/
import Derived.Test.YtpgdjkklhcjajaaNatM
namespace Go.Proofs.Ytpgdjkklhcjajaa
open Go.RowKit
set_option linter.unusedVariables false
set_option linter.unusedSimpArgs false
/-- What Uint answers. -/
def URes (x : Int) (ok : Bool) (w : World) (e : Ending) (w' : World) : Prop := e = .returned (.tuple #[.int .u64 x, .bool ok]) ∧ Below w.heap.size w w'
theorem word_two {x : Nat} (h : Nt.ln 4294967296 x ≤ 2) : x < 18446744073709551616 := Nat.lt_of_lt_of_le ((Nt.ln_le_iff (by omega)).1 h) (by omega)
theorem nat_Uint_no {n c : Nat} {A : Option Addr} {f : Nat → Nat} (w : World) (h : Arg w A n c f) (hv : (Nt.vd f n && decide (n ≤ 2)) = false) :
    Calls Try.prog 10 #[.agg #[.slice A n c]] w (URes 0 false w) := by
  have va := fun W (hb : Below w.heap.size w W) => nat_Valid (c := c) W (h.on hb).d h.big
  have K0 := Lib.hid ((Kp.start w).box (.slice A n c))
  cases e1 : Nt.vd f n
  · rw [e1] at va
    have VA := Lib.hid va
    clear va e1 hv h
    go_enter Try.func10, Try.ntmps10
    go_wp2_with fail
    refine (VA.out _ K0.out.bel).mono ?_
    rintro e w1 ⟨rfl, B1⟩
    have K1 := Lib.hid (K0.out.call B1)
    clear B1
    go_wp2
    go_ret2
    exact ⟨rfl, K1.out.bel⟩
  · rw [e1] at va
    have VA := Lib.hid va
    have hg : 2 < n := by
      rw [e1] at hv
      simpa using hv
    have hg2 : (2 : Int) < (n : Int) := by omega
    clear va e1 hv h hg
    go_enter Try.func10, Try.ntmps10
    go_wp2_with fail
    refine (VA.out _ K0.out.bel).mono ?_
    rintro e w1 ⟨rfl, B1⟩
    have K1 := Lib.hid (K0.out.call B1)
    have x0 := (K1.out.b (w.heap.size, .slice A n c) (by simp)).cell
    clear B1
    go_wp2
    go_ret2
    exact ⟨rfl, K1.out.bel⟩
set_option maxHeartbeats 400000 in
theorem nat_Uint_yes {n c x : Nat} {A : Option Addr} (w : World) (h : IsN w w.heap.size A n x) (hn : n ≤ 2) :
    Calls Try.prog 10 #[.agg #[.slice A n c]] w (URes (x : Nat) true w) := by
  have hx := word_two (by rw [h.l]; exact hn)
  have cl1 := fun W (h : IsN W w.heap.size A n x) => nat_limb (c := c) 1 1 W h.d (fun j hj => h.out hj) (by omega) rfl
  have cl0 := fun W (h : IsN W w.heap.size A n x) => nat_limb (c := c) 0 0 W h.d (fun j hj => h.out hj) (by omega) rfl
  obtain ⟨l1, e1⟩ : ∃ l, l = ((Nt.dg 4294967296 x 1 : Nat) : Int) := ⟨_, rfl⟩
  obtain ⟨l0, e0⟩ : ∃ l, l = ((Nt.dg 4294967296 x 0 : Nat) : Int) := ⟨_, rfl⟩
  rw [← e1] at cl1
  rw [← e0] at cl0
  have hj : l1 * 4294967296 + l0 = (x : Nat) := by rw [e1, e0, dgw0, dgw1 hx]; omega
  have cj := fun W => nat_join l1 l0 (by rw [e1]; omega) (by rw [e1, dgw1 hx]; omega) (by rw [e0]; omega) (by rw [e0, dgw0]; omega) W
  rw [hj] at cj
  have CL1 := Lib.hid cl1
  have CL0 := Lib.hid cl0
  have CJ := Lib.hid cj
  have I := Lib.hid h
  have K0 := Lib.hid ((Kp.start w).box (.slice A n c))
  have hg2 : (n : Int) ≤ 2 := by omega
  have hg3 : decide ((2 : Int) < (n : Int)) = false := by simp; omega
  have hn64 : n ≤ 64 := by omega
  clear cl1 cl0 cj hj e1 e0 h hx
  go_enter Try.func10, Try.ntmps10
  go_wp2_with fail
  refine (nat_Valid_yes _ (I.out.on K0.out.bel) hn64).mono ?_
  rintro e w1 ⟨rfl, B1⟩
  have K1 := Lib.hid (K0.out.call B1)
  have x0 := (K1.out.b (w.heap.size, .slice A n c) (by simp)).cell
  have D := Lib.hid (I.out.below K1.out.bel)
  clear B1
  go_wp2_with fail
  go_quiet (first
    | (go_at_call 36; first | (with_reducible exact quiet_l (CL1.out _ (D.out.drewN _))) | (with_reducible exact quiet_l (CL0.out _ (D.out.drewN _))))
    | (go_at_call 35; with_reducible exact quiet_l (CJ.out _)))
  go_wp2
  go_ret2
  exact ⟨rfl, K1.out.bel.trans (below_dr _ _ _)⟩
theorem ref3_Uint_no {n c : Nat} {A : Option Addr} {f : Nat → Nat} (w : World) (h : Arg w A n c f) (hv : (Nt.vd f n && decide (n ≤ 2)) = false) :
    Calls Try.prog 11 #[.agg #[.slice A n c]] w (URes 0 false w) := by
  have va := fun W (hb : Below w.heap.size w W) => ref3_Valid (c := c) W (h.on hb).d h.big
  have K0 := Lib.hid ((Kp.start w).box (.slice A n c))
  cases e1 : Nt.vd f n
  · rw [e1] at va
    have VA := Lib.hid va
    clear va e1 hv h
    go_enter Try.func11, Try.ntmps11
    go_wp2_with fail
    refine (VA.out _ K0.out.bel).mono ?_
    rintro e w1 ⟨rfl, B1⟩
    have K1 := Lib.hid (K0.out.call B1)
    clear B1
    go_wp2
    go_ret2
    exact ⟨rfl, K1.out.bel⟩
  · rw [e1] at va
    have VA := Lib.hid va
    have hg : 2 < n := by
      rw [e1] at hv
      simpa using hv
    have hg2 : (2 : Int) < (n : Int) := by omega
    clear va e1 hv h hg
    go_enter Try.func11, Try.ntmps11
    go_wp2_with fail
    refine (VA.out _ K0.out.bel).mono ?_
    rintro e w1 ⟨rfl, B1⟩
    have K1 := Lib.hid (K0.out.call B1)
    have x0 := (K1.out.b (w.heap.size, .slice A n c) (by simp)).cell
    clear B1
    go_wp2
    go_ret2
    exact ⟨rfl, K1.out.bel⟩
theorem Nt.dg_next (x k : Nat) : x / 4294967296 ^ (k + 1) * 4294967296 + Nt.dg 4294967296 x k = x / 4294967296 ^ k := by
  unfold Nt.dg
  rw [Nat.pow_succ, ← Nat.div_div_eq_div_mul]
  omega
set_option maxHeartbeats 400000 in
theorem ref3_Uint_yes {n c x : Nat} {A : Option Addr} (w : World) (h : IsN w w.heap.size A n x) (hn : n ≤ 2) :
    Calls Try.prog 11 #[.agg #[.slice A n c]] w (URes (x : Nat) true w) := by
  have hx := word_two (by rw [h.l]; exact hn)
  have va := fun W (hb : Below w.heap.size w W) => ref3_Valid (c := c) W (h.on hb).d (by omega)
  rw [show Nt.vd (Nt.dg 4294967296 x) n = true by rw [h.vd]; simp; omega] at va
  have VA := Lib.hid va
  have I := Lib.hid h
  have K0 := Lib.hid ((Kp.start w).box (.slice A n c))
  have hg2 : (n : Int) ≤ 2 := by omega
  have hg3 : decide ((2 : Int) < (n : Int)) = false := by simp; omega
  have HX := Lib.hid hx
  clear h hx va
  go_enter Try.func11, Try.ntmps11
  go_wp2_with fail
  refine (VA.out _ K0.out.bel).mono ?_
  rintro e w1 ⟨rfl, B1⟩
  have K1 := Lib.hid (K0.out.call B1)
  have x0 := (K1.out.b (w.heap.size, .slice A n c) (by simp)).cell
  have D := Lib.hid (I.out.below K1.out.bel)
  clear B1
  go_wp2_with fail
  clear x0
  go_loopw [4, 5] (fun a i W => ∃ (k d : Nat) (v z : Int), k ≤ n ∧ i = .int .i64 v ∧ v < k ∧ (k : Int) ≤ v + 1 ∧ a = .int .u64 z ∧ 0 ≤ z ∧ z < 18446744073709551616 ∧ Hid (z = (x / 4294967296 ^ k : Nat)) ∧ W = w1.drewN d) (fun _ i _ => (intOf i + 1).toNat)
  case atStart => exact ⟨n, 0, (n : Int) - 1, 0, Nat.le_refl _, rfl, by omega, by omega, rfl, by omega, by omega, by
    show _ = _
    rw [Nat.div_eq_of_lt (by have := Nt.ln_lt (B := 4294967296) (by omega) x; rw [I.out.l] at this; exact this)]; rfl, rfl⟩
  case round =>
    obtain ⟨k, d, v, z, hk, rfl, hv1, hv2, rfl, z0, z1, HZ, rfl⟩ := hrel
    have x0 := (K1.out.b (w.heap.size, .slice A n c) (by simp)).cell
    rcases k with _ | k
    · obtain rfl : v = -1 := by omega
      have hz := HZ.out
      rw [Nat.pow_zero, Nat.div_one] at hz
      subst hz
      go_wp2
      go_ret2
      exact ⟨rfl, K1.out.bel.trans (below_dr _ _ _)⟩
    · obtain rfl : v = (k : Int) := by omega
      have hk' : k < n := by omega
      obtain ⟨ad, X, rfl, hb, hcell, HXX, x0', x1'⟩ := D.out.d.at_ hk' (Nt.dg_lt (B := 4294967296) (by omega) x k)
      have hnx := Nt.dg_next x k
      have hle := Nat.div_le_self x (4294967296 ^ k)
      obtain ⟨q, eq⟩ : ∃ q, q = x / 4294967296 ^ k := ⟨_, rfl⟩
      have hq : z * 4294967296 + X = (q : Nat) := by rw [HZ.out, HXX.out]; omega
      have hq2 : z * 4294967296 + X < 18446744073709551616 := by have := HX.out; omega
      have HQ := Lib.hid (show z * 4294967296 + X = (x / 4294967296 ^ k : Nat) by rw [hq, eq])
      have j0 : (0 : Int) ≤ (k : Int) := by omega
      have j1 : (k : Int) < (n : Int) := by omega
      have w1' : IntKind.wrap .u64 (z * 4294967296) = z * 4294967296 := by rw [IntKind.wrap_u64]; omega
      have w2' : IntKind.wrap .u64 (z * 4294967296 + X) = z * 4294967296 + X := by rw [IntKind.wrap_u64]; omega
      have w3' : IntKind.wrap .u64 X = X := by rw [IntKind.wrap_u64]; omega
      have x1'' : X < 4294967296 := by omega
      have q0 : 0 ≤ z * 4294967296 + X := by omega
      clear hnx hle eq hq x1'
      go_wp2
      go_roundw
      case rel => exact ⟨k, d, (k : Int) - 1, z * 4294967296 + X, by omega, by go_num, by omega, by omega, by first | rfl | go_num, q0, hq2, HQ, rfl⟩
      case measure => first | (simp [intOf]; done) | (simp [intOf]; omega)
theorem Nt.lt_ln {x k : Nat} (h : 0 < x / 4294967296 ^ k) : k < Nt.ln 4294967296 x := by
  rcases Nat.lt_or_ge k (Nt.ln 4294967296 x) with h1 | h1
  · exact h1
  · have := Nat.div_eq_of_lt ((Nt.ln_le_iff (B := 4294967296) (by omega)).1 h1)
    omega
theorem Nt.ln_done {x k : Nat} (hk : k ≤ Nt.ln 4294967296 x) (h : x / 4294967296 ^ k = 0) : Nt.ln 4294967296 x = k := by
  have h1 : x < 4294967296 ^ k := Nat.lt_of_div_eq_zero (Nat.pow_pos (by omega)) h
  have := (Nt.ln_le_iff (B := 4294967296) (by omega)).2 h1
  omega
set_option maxHeartbeats 400000 in
theorem ref3_Of (n : Int) (x : Nat) (w : World) (hx : n = (x : Nat)) (h1 : x < 18446744073709551616) :
    Calls Try.prog 14 #[.int .u64 n] w (ORes x w) := by
  have HL := Lib.hid (ln_word h1)
  have f0 : WholeInv w.heap.size 0 x w ((w.alloc (.cells #[.slice none 0 0] 25)).alloc (.cells #[.slice none 0 0] 25)) (.slice none 0 0) := by
    have h2 := Fr2.start w (.slice none 0 0) (.slice none 0 0)
    exact ⟨OwnD.nil _ _ _ _ _, h2.n1, h2.n2, h2.bel, h2.sz⟩
  have F0 := Lib.hid f0
  have HX := Lib.hid hx
  have n0 : 0 ≤ n := by omega
  have n1 : n < 18446744073709551616 := by omega
  clear hx h1 f0
  go_enter Try.func14, Try.ntmps14
  go_wp2_with fail
  go_loopw [0] (fun i W => ∃ (k : Nat) (v : Value) (z : Int), i = .int .u64 z ∧ 0 ≤ z ∧ z < 18446744073709551616 ∧ k ≤ 2 ∧ Hid (z = (x / 4294967296 ^ k : Nat)) ∧ Hid (k ≤ Nt.ln 4294967296 x) ∧ Hid (WholeInv w.heap.size k x w W v)) (fun i _ => (intOf i).toNat)
  case atStart => exact ⟨0, _, n, rfl, n0, n1, by omega, by show _ = _; rw [Nat.pow_zero, Nat.div_one]; exact HX.out, Nat.zero_le _, F0.out⟩
  case round =>
    obtain ⟨k, v, z, rfl, z0, z1, hk, HZ, HK, HI⟩ := hrel
    have xb := HI.out.box.cell
    have zb := HI.out.box.free
    by_cases hlt : 0 < z
    · have hk2 : k < 2 := by
        have h1 := HZ.out
        have h2 := Nt.lt_ln (x := x) (k := k) (by omega)
        have := HL.out
        omega
      have HK2 := Lib.hid (show k + 1 ≤ Nt.ln 4294967296 x by
        have h1 := HZ.out
        have h2 := Nt.lt_ln (x := x) (k := k) (by omega)
        omega)
      have hd : Hid ((z % 4294967296).toNat = Nt.dg 4294967296 x k) := by
        show _ = _
        have h1 := HZ.out
        unfold Nt.dg
        omega
      have HZ2 : Hid (z / 4294967296 = (x / 4294967296 ^ (k + 1) : Nat)) := by
        show _ = _
        have h1 := HZ.out
        rw [Nat.pow_succ, ← Nat.div_div_eq_div_mul]
        omega
      have t1 : z.tmod 4294967296 = z % 4294967296 := Int.tmod_eq_emod_of_nonneg z0
      have t2 : z.tdiv 4294967296 = z / 4294967296 := Int.tdiv_eq_ediv_of_nonneg z0
      go_wp2_with (at_builtin; refine Hid.out ?_)
      refine Lib.hid (wpList_app rfl (.tmp 7) (.tmp 11) 23 41 .u32 4 rfl Try.underlying23 info_u32 (by omega) (w.heap.size + 1 + 1) v k (Nt.dg 4294967296 x) ((z % 4294967296).toNat) _ (by first | omega | (rw [IntKind.wrap_u32]; omega) | (trace_state; fail)) rfl HI.out.own rfl (by omega) HI.out.bel1 ?_)
      intro v' w2 hown hb2 hloc hgr
      obtain ⟨A2, c2, hv2, -⟩ := hown.form
      subst hv2
      have hN := HI.out.step hd.out hown hb2
      have xb2 := (HI.out.box.below hb2 (by omega)).cell
      have zb2 := (HI.out.box.below hb2 (by omega)).free
      have HN := Lib.hid hN
      have z2 : z / 4294967296 < z := by omega
      have z3 : 0 ≤ z / 4294967296 := by omega
      clear hown hb2 hloc hgr hN xb zb
      go_wp2
      go_roundw
      case rel => exact ⟨k + 1, _, z / 4294967296, by first | rfl | go_num, z3, by omega, by omega, HZ2, HK2, HN⟩
      case measure => first | (simp [intOf]; omega) | (simp [intOf]; done)
    · have hz : z = 0 := by omega
      obtain ⟨A3, c3, hv3, hnc, hcm, hdig, -⟩ := HI.out.own.form
      have hl : Nt.ln 4294967296 x = k := Nt.ln_done HK.out (by have := HZ.out; omega)
      subst hv3
      have xr := HI.out.res.cell
      have zr := HI.out.res.free
      have HN := Lib.hid ((IsN.mk hdig hl).setBox xr (.slice A3 k c3))
      clear hl hdig
      go_wp2_with fail
      refine bodyPost_ret (v := .agg #[.slice A3 k c3]) (by simp [results, Try.results14, go_sem, xr]) rfl ?_
      exact ⟨A3, k, c3, rfl, HI.out.bel.setCell (by simp) _, HN.out.more (by rw [size_setCell]; exact Nat.le_refl _), by omega, hnc⟩
theorem law3_formed (w : World) : Calls Try.prog 19 #[] w fun e w' => e = .returned (.bool true) ∧ Below w.heap.size w w' := by
  have o1 := fun W => nat_Of 7 7 W rfl (by omega)
  have O1 := Lib.hid o1
  have hl : Nt.ln 4294967296 7 ≤ 2 := ln_word (by omega)
  have hu : ∀ (W : World) (A : Option Addr) (n c : Nat), IsN W W.heap.size A n 7 → Calls Try.prog 10 #[.agg #[.slice A n c]] W (URes 7 true W) := fun W A n c h => nat_Uint_yes W h (by rw [← h.l]; exact hl)
  have HU := Lib.hid hu
  clear o1 hu hl
  have K0 := Lib.hid (Kp.start w)
  go_enter Try.func19, Try.ntmps19
  go_wp2_with fail
  refine (O1.out _).mono ?_
  rintro e w1 ⟨A1, n1, c1, rfl, B1, D1, h1, l1⟩
  have K1 := Lib.hid ((K0.out.call B1).num D1)
  clear B1 D1
  go_wp2_with fail
  refine (HU.out _ A1 n1 c1 (K1.out.n (A1, n1, 7) (by simp))).mono ?_
  rintro e w2 ⟨rfl, B2⟩
  have K2 := Lib.hid (K1.out.call B2)
  clear B2
  go_wp2
  go_ret
  exact ⟨rfl, K2.out.bel⟩
end Go.Proofs.Ytpgdjkklhcjajaa
