/- nat.Uint, the reference's Uint and Of. -/
import Derived.Test.YtfjnpmkklanopaaNatM
namespace Go.Proofs.Ytfjnpmkklanopaa
set_option maxRecDepth 20000
open Go.RowKit
set_option linter.unusedVariables false
set_option linter.unusedSimpArgs false
/-- What Uint answers. -/
def URes (x : Int) (ok : Bool) (w : World) (e : Ending) (w' : World) : Prop := e = .returned (.tuple #[.int .u64 x, .bool ok]) ∧ Below w.heap.size w w'
theorem word_two {x : Nat} (h : Nt.ln 4294967296 x ≤ 2) : x < 18446744073709551616 := Nat.lt_of_lt_of_le ((Nt.ln_le_iff (by omega)).1 h) (by omega)
theorem nat_Uint_no {n c : Nat} {A : Option Addr} {f : Nat → Nat} (w : World) (h : Arg w A n c f) (hv : (Nt.vd f n && decide (n ≤ 2)) = false) :
    Calls Try.prog 56 #[.agg #[.slice A n c]] w (URes 0 false w) := by
  have va := fun W (hb : Below w.heap.size w W) => nat_Valid (c := c) W (h.on hb).d h.big
  have K0 := Lib.hid ((Kp.start w).box (.slice A n c))
  cases e1 : Nt.vd f n
  · rw [e1] at va
    have VA := Lib.hid va
    clear va e1 hv h
    go_enter Try.func56, Try.ntmps56
    go_wp2_with fail
    refine (VA.out _ K0.out.bel).mono ?_
    rintro e w1 ⟨rfl, B1⟩
    have K1 := Lib.hid (K0.out.call B1)
    clear B1
    go_wp2
    go_ret2
    exact ⟨rfl, K1.out.bel⟩
  · rw [e1] at va
    have VA := Lib.hid va
    have hg : 2 < n := by
      rw [e1] at hv
      simpa using hv
    have hg2 : (2 : Int) < (n : Int) := by omega
    clear va e1 hv h hg
    go_enter Try.func56, Try.ntmps56
    go_wp2_with fail
    refine (VA.out _ K0.out.bel).mono ?_
    rintro e w1 ⟨rfl, B1⟩
    have K1 := Lib.hid (K0.out.call B1)
    have x0 := (K1.out.b (w.heap.size, .slice A n c) (by simp)).cell
    clear B1
    go_wp2
    go_ret2
    exact ⟨rfl, K1.out.bel⟩
set_option maxHeartbeats 400000 in
theorem nat_Uint_yes {n c x : Nat} {A : Option Addr} (w : World) (h : IsN w w.heap.size A n x) (hn : n ≤ 2) :
    Calls Try.prog 56 #[.agg #[.slice A n c]] w (URes (x : Nat) true w) := by
  have hx := word_two (by rw [h.l]; exact hn)
  have cl1 := fun W (h : IsN W w.heap.size A n x) => nat_limb (c := c) 1 1 W h.d (fun j hj => h.out hj) (by omega) rfl
  have cl0 := fun W (h : IsN W w.heap.size A n x) => nat_limb (c := c) 0 0 W h.d (fun j hj => h.out hj) (by omega) rfl
  obtain ⟨l1, e1⟩ : ∃ l, l = ((Nt.dg 4294967296 x 1 : Nat) : Int) := ⟨_, rfl⟩
  obtain ⟨l0, e0⟩ : ∃ l, l = ((Nt.dg 4294967296 x 0 : Nat) : Int) := ⟨_, rfl⟩
  rw [← e1] at cl1
  rw [← e0] at cl0
  have hj : l1 * 4294967296 + l0 = (x : Nat) := by rw [e1, e0, dgw0, dgw1 hx]; omega
  have cj := fun W => nat_join l1 l0 (by rw [e1]; omega) (by rw [e1, dgw1 hx]; omega) (by rw [e0]; omega) (by rw [e0, dgw0]; omega) W
  rw [hj] at cj
  have CL1 := Lib.hid cl1
  have CL0 := Lib.hid cl0
  have CJ := Lib.hid cj
  have I := Lib.hid h
  have K0 := Lib.hid ((Kp.start w).box (.slice A n c))
  have hg2 : (n : Int) ≤ 2 := by omega
  have hg3 : decide ((2 : Int) < (n : Int)) = false := by simp; omega
  have hn64 : n ≤ 64 := by omega
  clear cl1 cl0 cj hj e1 e0 h hx
  go_enter Try.func56, Try.ntmps56
  go_wp2_with fail
  refine (nat_Valid_yes _ (I.out.on K0.out.bel) hn64).mono ?_
  rintro e w1 ⟨rfl, B1⟩
  have K1 := Lib.hid (K0.out.call B1)
  have x0 := (K1.out.b (w.heap.size, .slice A n c) (by simp)).cell
  have D := Lib.hid (I.out.below K1.out.bel)
  clear B1
  go_wp2_with fail
  go_quiet (first
    | (go_at_call 66; first | (with_reducible exact quiet_l (CL1.out _ (D.out.drewN _))) | (with_reducible exact quiet_l (CL0.out _ (D.out.drewN _))))
    | (go_at_call 67; with_reducible exact quiet_l (CJ.out _)))
  go_wp2
  go_ret2
  exact ⟨rfl, K1.out.bel.trans (below_dr _ _ _)⟩
theorem Nt.dg_next (x k : Nat) : x / 4294967296 ^ (k + 1) * 4294967296 + Nt.dg 4294967296 x k = x / 4294967296 ^ k := by
  unfold Nt.dg
  rw [Nat.pow_succ, ← Nat.div_div_eq_div_mul]
  omega
theorem Nt.lt_ln {x k : Nat} (h : 0 < x / 4294967296 ^ k) : k < Nt.ln 4294967296 x := by
  rcases Nat.lt_or_ge k (Nt.ln 4294967296 x) with h1 | h1
  · exact h1
  · have := Nat.div_eq_of_lt ((Nt.ln_le_iff (B := 4294967296) (by omega)).1 h1)
    omega
theorem Nt.ln_done {x k : Nat} (hk : k ≤ Nt.ln 4294967296 x) (h : x / 4294967296 ^ k = 0) : Nt.ln 4294967296 x = k := by
  have h1 : x < 4294967296 ^ k := Nat.lt_of_div_eq_zero (Nat.pow_pos (by omega)) h
  have := (Nt.ln_le_iff (B := 4294967296) (by omega)).2 h1
  omega
set_option maxHeartbeats 400000 in
theorem ref3_Of (n : Int) (x : Nat) (w : World) (hx : n = (x : Nat)) (h1 : x < 18446744073709551616) :
    Calls Try.prog 30 #[.int .u64 n] w (ORes x w) := by
  have HL := Lib.hid (ln_word h1)
  have f0 : WholeInv w.heap.size 0 x w ((w.alloc (.cells #[.slice none 0 0] 24)).alloc (.cells #[.slice none 0 0] 24)) (.slice none 0 0) := by
    have h2 := Fr2.start w (.slice none 0 0) (.slice none 0 0)
    exact ⟨OwnD.nil _ _ _ _ _, h2.n1, h2.n2, h2.bel, h2.sz⟩
  have F0 := Lib.hid f0
  have HX := Lib.hid hx
  have n0 : 0 ≤ n := by omega
  have n1 : n < 18446744073709551616 := by omega
  clear hx h1 f0
  go_enter Try.func30, Try.ntmps30
  go_wp2_with fail
  go_loopw [0] (fun i W => ∃ (k : Nat) (v : Value) (z : Int), i = .int .u64 z ∧ 0 ≤ z ∧ z < 18446744073709551616 ∧ k ≤ 2 ∧ Hid (z = (x / 4294967296 ^ k : Nat)) ∧ Hid (k ≤ Nt.ln 4294967296 x) ∧ Hid (WholeInv w.heap.size k x w W v)) (fun i _ => (intOf i).toNat)
  case atStart => exact ⟨0, _, n, rfl, n0, n1, by omega, by show _ = _; rw [Nat.pow_zero, Nat.div_one]; exact HX.out, Nat.zero_le _, F0.out⟩
  case round =>
    obtain ⟨k, v, z, rfl, z0, z1, hk, HZ, HK, HI⟩ := hrel
    have xb := HI.out.box.cell
    have zb := HI.out.box.free
    by_cases hlt : 0 < z
    · have hk2 : k < 2 := by
        have h1 := HZ.out
        have h2 := Nt.lt_ln (x := x) (k := k) (by omega)
        have := HL.out
        omega
      have HK2 := Lib.hid (show k + 1 ≤ Nt.ln 4294967296 x by
        have h1 := HZ.out
        have h2 := Nt.lt_ln (x := x) (k := k) (by omega)
        omega)
      have hd : Hid ((z % 4294967296).toNat = Nt.dg 4294967296 x k) := by
        show _ = _
        have h1 := HZ.out
        unfold Nt.dg
        omega
      have HZ2 : Hid (z / 4294967296 = (x / 4294967296 ^ (k + 1) : Nat)) := by
        show _ = _
        have h1 := HZ.out
        rw [Nat.pow_succ, ← Nat.div_div_eq_div_mul]
        omega
      have t1 : z.tmod 4294967296 = z % 4294967296 := Int.tmod_eq_emod_of_nonneg z0
      have t2 : z.tdiv 4294967296 = z / 4294967296 := Int.tdiv_eq_ediv_of_nonneg z0
      go_wp2_with (at_builtin; refine Hid.out ?_)
      refine Lib.hid (wpList_app rfl (.tmp 7) (.tmp 11) 22 58 .u32 4 rfl Try.underlying22 info_u32 (by omega) (w.heap.size + 1 + 1) v k (Nt.dg 4294967296 x) ((z % 4294967296).toNat) _ (by first | omega | (rw [IntKind.wrap_u32]; omega) | (trace_state; fail)) rfl HI.out.own rfl (by omega) HI.out.bel1 ?_)
      intro v' w2 hown hb2 hloc hgr
      obtain ⟨A2, c2, hv2, -⟩ := hown.form
      subst hv2
      have hN := HI.out.step hd.out hown hb2
      have xb2 := (HI.out.box.below hb2 (by omega)).cell
      have zb2 := (HI.out.box.below hb2 (by omega)).free
      have HN := Lib.hid hN
      have z2 : z / 4294967296 < z := by omega
      have z3 : 0 ≤ z / 4294967296 := by omega
      clear hown hb2 hloc hgr hN xb zb
      go_wp2
      go_roundw
      case rel => exact ⟨k + 1, _, z / 4294967296, by first | rfl | go_num, z3, by omega, by omega, HZ2, HK2, HN⟩
      case measure => first | (simp [intOf]; omega) | (simp [intOf]; done)
    · have hz : z = 0 := by omega
      obtain ⟨A3, c3, hv3, hnc, hcm, hdig, -⟩ := HI.out.own.form
      have hl : Nt.ln 4294967296 x = k := Nt.ln_done HK.out (by have := HZ.out; omega)
      subst hv3
      have xr := HI.out.res.cell
      have zr := HI.out.res.free
      have HN := Lib.hid ((IsN.mk hdig hl).setBox xr (.slice A3 k c3))
      clear hl hdig
      go_wp2_with fail
      refine bodyPost_ret (v := .agg #[.slice A3 k c3]) (by simp [results, Try.results30, go_sem, xr]) rfl ?_
      exact ⟨A3, k, c3, rfl, HI.out.bel.setCell (by simp) _, HN.out.more (by rw [size_setCell]; exact Nat.le_refl _), by omega, hnc⟩
end Go.Proofs.Ytfjnpmkklanopaa
