/- Layer 5: the reference's Choose. -/
import Derived.Test.YtfjnpmkklanopaaCombA
import Derived.Test.YtfjnpmkklanopaaFA
import Derived.Test.YtfjnpmkklanopaaNatU
import Derived.Test.YtfjnpmkklanopaaNatRF
import Derived.Test.YtfjnpmkklanopaaNatRH
import Derived.Deep.Cut
import Derived.Deep.CutRange
import Derived.Deep.RegionHeld3
namespace Go.Proofs.Ytfjnpmkklanopaa
set_option maxRecDepth 20000
open Go.RowKit
set_option linter.unusedVariables false
set_option linter.unusedSimpArgs false
theorem Ks.cset {w W : World} {bs bs' : List (Nat × List Value × TypeId)} {ns : List (Option Addr × Nat × Nat)} {R : Nat} {T : TypeId} {a0 : Option Addr} {l0 r0 : Nat} (h : Ks w W bs ns) (hR : (R, [.slice a0 l0 r0], T) ∈ bs) (hw : w.heap.size ≤ R)
    (hs : ∀ p ∈ bs', p ∈ bs ∧ p.1 ≠ R) (u : Value) : Ks w (W.setCell ⟨R, 0, none⟩ u) ((R, [u], T) :: bs') ns :=
  ⟨h.bel.setCell hw _, fun p hp => by
    rcases List.mem_cons.1 hp with rfl | hp
    · have hb := h.b _ hR
      simp only at hb
      simp [World.setCell, Array.getElem?_modify, hb]
    · exact (Below.heap_setCell W ⟨R, 0, none⟩ u p.1 (hs p hp).2).trans (h.b p (hs p hp).1),
    fun p hp => ((h.n p hp).setAt (h.cell0 hR) (by intro i h; cases h) u).more (by rw [size_setCell]; exact Nat.le_refl _)⟩
namespace Cb
/-- What Choose answers. -/
def chV (n k : Int) : Nat := if inn n 80 && inn k n then val n k else 0
def chE (n k : Int) : Int := if inn n 80 then 0 else 2
theorem ch_n {n k : Int} (h : inn n 80 = false) : chV n k = 0 ∧ chE n k = 2 := by simp [chV, chE, h]
theorem ch_k {n k : Int} (h : inn n 80 = true) (h' : inn k n = false) : chV n k = 0 ∧ chE n k = 0 := by simp [chV, chE, h, h']
theorem ch_ok {n k : Int} (h : inn n 80 = true) (h' : inn k n = true) : chV n k = val n k ∧ chE n k = 0 := by simp [chV, chE, h, h']
theorem small_fits {x : Nat} (h : x < 79228162514264337593543950336) : Nt.fits x = true := by
  rw [Nt.fits_iff, Nt.ln_le_iff (by omega)]
  obtain ⟨m, hm⟩ : ∃ m, m = 61 := ⟨_, rfl⟩
  have e : (64 : Nat) = 3 + m := by omega
  rw [e, Nat.pow_add]
  have h1 : 0 < 4294967296 ^ m := Nat.pow_pos (by omega)
  have h2 : (4294967296 : Nat) ^ 3 = 79228162514264337593543950336 := by decide
  rw [h2]
  have h3 : 79228162514264337593543950336 * 1 ≤ 79228162514264337593543950336 * 4294967296 ^ m := Nat.mul_le_mul_left _ h1
  omega
theorem bin_80 {n k : Nat} (h : n ≤ 80) : bin n k ≤ 1208925819614629174706176 := by
  have h1 := bin_le k h
  have h2 := bin_two 80 k
  have h3 : (2 : Nat) ^ 80 = 1208925819614629174706176 := by decide
  omega
theorem bin_prod {n k m : Nat} (h : n ≤ 80) (hm : m ≤ 81) : bin n k * m < 79228162514264337593543950336 := by
  have h1 : bin n k * m ≤ 1208925819614629174706176 * 81 := Nat.mul_le_mul (bin_80 h) hm
  omega
end Cb
theorem of_sum (m j : Nat) (h : m + j ≤ 81) (W : World) : Calls Try.prog 30 #[.int .u64 (IntKind.u64.wrap (IntKind.i64.wrap (IntKind.i64.wrap (m : Int) + ((j : Int) + 1))))] W (ORes (m + j + 1) W) :=
  ref3_Of _ _ W (by simp only [IntKind.wrap_i64, IntKind.wrap_u64]; omega) (by omega)
theorem of_next (j : Nat) (h : j ≤ 81) (W : World) : Calls Try.prog 30 #[.int .u64 (IntKind.u64.wrap ((j : Int) + 1))] W (ORes (j + 1) W) :=
  ref3_Of _ _ W (by simp only [IntKind.wrap_u64]; omega) (by omega)
set_option maxHeartbeats 2000000 in
theorem ref5_Choose (n k : Int) (hk0 : -9223372036854775808 ≤ k) (hk1 : k ≤ 9223372036854775807) (w : World) :
    Calls Try.prog 11 #[.int .i64 n, .int .i64 k] w (NRes (Cb.chV n k) (Cb.chE n k) w) := by
  have K0 := Lib.hid ((Ks.start w).box [.slice none 0 0] 24)
  cases hn : Cb.inn n 80
  · obtain ⟨e1, e2⟩ := Cb.ch_n (k := k) hn
    rw [e1, e2]
    have I1 := Lib.hid fun w => ref5_in_is hn w
    clear e1 e2 hn
    have x0 := K0.out.cell0 at0
    have z0 := K0.out.free at0
    go_enter Try.func11, Try.ntmps11
    go_wp2_with fail
    refine (I1.out _).mono ?_
    rintro e w' ⟨rfl, rfl⟩
    go_wp2_with fail
    refine bodyPost_ret (v := .tuple #[.agg #[.slice none 0 0], .int .i64 2]) (by simp [results, Try.results11, go_sem, x0]) rfl ?_
    exact ⟨none, 0, 0, rfl, K0.out.bel, IsN.zero, by omega, by omega⟩
  · have I1 := Lib.hid fun w => ref5_in_is hn w
    cases hk : Cb.inn k n
    · obtain ⟨e1, e2⟩ := Cb.ch_k hn hk
      rw [e1, e2]
      have I2 := Lib.hid fun w => ref5_in_is hk w
      clear e1 e2 hn hk
      have x0 := K0.out.cell0 at0
      have z0 := K0.out.free at0
      go_enter Try.func11, Try.ntmps11
      go_wp2_with fail
      refine (I1.out _).mono ?_
      rintro e w' ⟨rfl, rfl⟩
      go_wp2_with fail
      refine (I2.out _).mono ?_
      rintro e w' ⟨rfl, rfl⟩
      go_wp2_with fail
      refine bodyPost_ret (v := .tuple #[.agg #[.slice none 0 0], .int .i64 0]) (by simp [results, Try.results11, go_sem, x0]) rfl ?_
      exact ⟨none, 0, 0, rfl, K0.out.bel, IsN.zero, by omega, by omega⟩
    · have I2 := Lib.hid fun w => ref5_in_is hk w
      obtain ⟨e1, e2⟩ := Cb.ch_ok hn hk
      rw [e1, e2]
      obtain ⟨n0, n1⟩ := Cb.inn_iff.1 hn
      obtain ⟨k0, k1⟩ := Cb.inn_iff.1 hk
      obtain ⟨K, eK⟩ : ∃ K : Nat, k = (K : Int) := ⟨k.toNat, by omega⟩
      obtain ⟨m, em⟩ : ∃ m : Nat, n = (m : Int) + (K : Int) := ⟨(n - k).toNat, by omega⟩
      subst eK
      have hv : Cb.val n K = Cb.bin (m + K) K := by
        unfold Cb.val
        rw [show n.toNat = m + K by omega, Int.toNat_natCast]
      rw [hv]
      have hnk : n - (K : Int) = (m : Int) := by omega
      have m80 : m + K ≤ 80 := by omega
      have O1 := Lib.hid fun W => ref3_Of 1 1 W rfl (by omega)
      clear e1 e2 hn hk hv em
      go_enter Try.func11, Try.ntmps11
      go_wp2_with fail
      refine (I1.out _).mono ?_
      rintro e w' ⟨rfl, rfl⟩
      go_wp2_with fail
      refine (I2.out _).mono ?_
      rintro e w' ⟨rfl, rfl⟩
      go_wp2_with fail
      refine (O1.out _).mono ?_
      rintro e w1 ⟨A1, n1, c1, rfl, B1, D1, h1, l1⟩
      have K1 := Lib.hid (((K0.out.call B1).num D1).box [.slice A1 n1 c1] 24)
      have hs1 : w.heap.size < w1.heap.size := by have := B1.size; simp only [size_alloc] at this; omega
      clear B1 D1
      go_wp2_with fail
      go_loopw [7] (fun i W => ∃ (j p c : Nat) (A : Option Addr), j ≤ K ∧ i = .int .i64 ((j : Int) + 1) ∧ p ≤ 64 ∧ p ≤ c ∧ Hid (Ks w W [(w1.heap.size, [.slice A p c], 24), (w.heap.size, [.slice none 0 0], 24)] [(A, p, Cb.bin (m + j) j)])) (fun i _ => K + 1 - (intOf i).toNat)
      case atStart => exact ⟨0, n1, c1, A1, by omega, rfl, h1, l1, by show Ks _ _ _ _; rw [Cb.bin_zero]; exact K1.out⟩
      case round =>
        clear K1 h1 l1
        obtain ⟨j, p, c, A, hj, rfl, hp, hpc, KW⟩ := hrel
        by_cases hlt : j < K
        · have hle : (j : Int) + 1 ≤ (K : Int) := by omega
          obtain ⟨b, eb⟩ : ∃ b, b = Cb.bin (m + j) j := ⟨_, rfl⟩
          rw [← eb] at KW
          have hfit : Nt.fits (b * (m + j + 1)) = true := by rw [eb]; exact Cb.small_fits (Cb.bin_prod (by omega) (by omega))
          have hdiv : b * (m + j + 1) / (j + 1) = Cb.bin (m + (j + 1)) (j + 1) := by rw [eb]; exact Cb.bin_step m j
          have oa := fun W => of_sum m j (by omega) W
          have OB := Lib.hid fun W => of_next j (by omega) W
          obtain ⟨y, ey⟩ : ∃ y, y = m + j + 1 := ⟨_, rfl⟩
          rw [← ey] at hfit hdiv oa
          have OA := Lib.hid oa
          have ml := fun W {A' : Option Addr} {n' c' : Nat} (h : IsN W W.heap.size A p b) (h' : IsN W W.heap.size A' n' y) (hn' : n' ≤ 64) => ref3_Mul_ok (c := c) (c' := c') W h h' hp hn'
          rw [show Nt.bv (b * y) = b * y by rw [Nt.bv, hfit]; rfl, show Nt.be (b * y) = 0 by rw [Nt.be, hfit]; rfl] at ml
          have ML := Lib.hid ml
          have dm := fun W {A' A'' : Option Addr} {n' c' n'' c'' : Nat} (h : IsN W W.heap.size A' n' (b * y)) (h' : IsN W W.heap.size A'' n'' (j + 1)) (hn' : n' ≤ 64) (hn'' : n'' ≤ 64) => ref3_DivMod_ok (c := c') (c' := c'') W h h' hn' hn'' (by omega)
          rw [hdiv] at dm
          have DM := Lib.hid dm
          clear eb hfit hdiv ml dm ey oa
          have x1 := KW.out.cell0 at0
          have zf1 := KW.out.free at0
          go_wp2_with fail
          go_cut [34] from 23 to 34 (fun sx wx => ∃ (n3 c3 : Nat) (A3 : Option Addr), sx = .int .i64 0 ∧ n3 ≤ 64 ∧ n3 ≤ c3 ∧ Ks w wx [(w1.heap.size, [.slice A3 n3 c3], 24), (w.heap.size, [.slice none 0 0], 24)] [(A3, n3, b * y)])
          case first =>
            have KD := Lib.hid (KW.out.call (Below.refl wr.heap.size wr).drew)
            go_region_with (first
              | (go_at_call 30; (with_reducible refine (OA.out _).mono ?_); rintro e w2 ⟨A2, n2, c2, rfl, B2, D2, h2, l2⟩; have K2 := Lib.hid ((KD.out.call B2).num D2); have x2 := K2.out.cell0 at0; clear B2 D2)
              | (go_at_call 31; (with_reducible refine (ML.out _ (K2.out.get at1) (K2.out.get at0) h2).mono ?_); rintro e w3 ⟨A3, n3, c3, rfl, B3, D3, h3, l3⟩; have K3 := Lib.hid ((K2.out.call B3).num D3); have x3 := K3.out.cell0 at0; have zf3 := K3.out.free at0; clear B3 D3)
              | fail)
            all_goals (
              go_wp2_with fail
              go_meet
              exact ⟨n3, c3, A3, rfl, h3, l3, (K3.out.cset (bs' := [(w.heap.size, [.slice none 0 0], 24)]) at0 (Nat.le_of_lt hs1) (fun p hp => by
              rcases List.mem_cons.1 hp with rfl | hp
              · exact ⟨at1, by show w.heap.size ≠ w1.heap.size; omega⟩
              · exact nomatch hp) (.slice A3 n3 c3)).less (ns' := [(A3, n3, b * y)]) (fun p hp => hp) (fun p hp => by
              rcases List.mem_cons.1 hp with rfl | hp
              · exact at0
              · exact nomatch hp)⟩)
          case rest =>
            obtain ⟨n3, c3, A3, rfl, h3, l3, k4⟩ := hcut
            have K4 := Lib.hid k4
            clear k4 KW x1 zf1
            have x1 := K4.out.cell0 at0
            have zf1 := K4.out.free at0
            have KD := Lib.hid (K4.out.call (Below.refl _ _).drew)
            go_wp2_with fail
            go_region_with (first
              | (go_at_call 30; (with_reducible refine (OB.out _).mono ?_); rintro e w5 ⟨A5, n5, c5, rfl, B5, D5, h5, l5⟩; have K5 := Lib.hid ((KD.out.call B5).num D5); have x5 := K5.out.cell0 at0; clear B5 D5)
              | (go_at_call 32; (with_reducible refine (DM.out _ (K5.out.get at1) (K5.out.get at0) h3 h5).mono ?_); rintro e w6 ⟨A6, n6, c6, A7, n7, c7, rfl, B6, D6, D7, h6, h7, l6, l7⟩; have K6 := Lib.hid ((K5.out.call B6).num D6); have x3 := K6.out.cell0 at0; have zf3 := K6.out.free at0; clear B6 D6 D7)
              | fail)
            all_goals (
              have K7 := Lib.hid ((K6.out.cset (bs' := [(w.heap.size, [.slice none 0 0], 24)]) at0 (Nat.le_of_lt hs1) (fun p hp => by
              rcases List.mem_cons.1 hp with rfl | hp
              · exact ⟨at1, by show w.heap.size ≠ w1.heap.size; omega⟩
              · exact nomatch hp) (.slice A6 n6 c6)).less (ns' := [(A6, n6, Cb.bin (m + (j + 1)) (j + 1))]) (fun p hp => hp) (fun p hp => by
              rcases List.mem_cons.1 hp with rfl | hp
              · exact at0
              · exact nomatch hp))
              clear x1 zf1 x3 zf3 x5 K5 K6 KD K4 h5 l5 h7 l7 h3 l3
              go_wp2_with fail
              go_roundw
              case rel => exact ⟨j + 1, n6, c6, A6, by omega, by go_num, h6, l6, K7⟩
              case measure => simp [intOf]; omega)
        · obtain rfl : j = K := by omega
          have hle : ¬ (j : Int) + 1 ≤ (j : Int) := by omega
          have x1 := KW.out.cell0 at0
          have x0 := KW.out.cell0 at1
          have zf0 := KW.out.free at1
          have xc := cell_put (v := .slice A p c) x0
          have BB := Lib.hid (KW.out.bel.setCell (p := ⟨w.heap.size, 0, none⟩) (Nat.le_refl _) (.slice A p c))
          have DD := Lib.hid (((KW.out.get at0).setBox x0 (.slice A p c)).more (B' := (wr.setCell ⟨w.heap.size, 0, none⟩ (.slice A p c)).heap.size) (by rw [size_setCell]; exact Nat.le_refl _))
          go_wp2_with fail
          refine bodyPost_ret (v := .tuple #[.agg #[.slice A p c], .int .i64 0]) (by simp [results, Try.results11, go_sem, xc]) rfl ?_
          exact ⟨A, p, c, rfl, BB.out, DD.out, hp, hpc⟩
end Go.Proofs.Ytfjnpmkklanopaa
