/- CombRanks (P5.6): for every n and k for which Count answers a number that is not 0, and every rank below it, Rank and Unrank are inverse, and Next moves to the next rank, and to none from the last one; the chapter's examples hold: the law returns true. No condition. -/
import Derived.Test.YtfjnpmkklanopaaOwn
import Derived.Test.YtfjnpmkklanopaaCombAw
namespace Go.Proofs.Ytfjnpmkklanopaa.combRanks
set_option maxRecDepth 20000
open Go.RowKit Go.ChangeShapes Go.WideShapes Go.ChangeAt Go.WideElems
open Go.ChangeMaps (open_string shut_string)
set_option linter.unusedVariables false

theorem asc_bd {N a : Nat} {xs : List Nat} (h : Cb.Asc N a xs) (hN : N ≤ 80) : ∀ i, i < xs.length → -9223372036854775808 ≤ (Cb.zl xs).getD i 0 ∧ (Cb.zl xs).getD i 0 ≤ 9223372036854775807 := fun i hi => by
  have := Cb.asc_drop h hi
  rw [Cb.zl_getD hi]
  omega
/-- Rank and Next of a combination. -/
theorem of_asc {N K : Nat} {xs : List Nat} (hN : N ≤ 80) (hK : K ≤ N) (hb : Cb.bin N K ≤ 9223372036854775807) (h : Cb.Asc N 0 xs) (hl : xs.length = K) :
    Cb.rkV (N : Int) (Cb.zl xs) = (Cb.rk N 0 xs : Nat) ∧ Cb.rkE (N : Int) (Cb.zl xs) = 0 ∧ Cb.nxO (N : Int) (Cb.zl xs) = Cb.nxt N xs := by
  have hc : Cb.chkE (N : Int) (Cb.zl xs) = 0 := by
    have i80 : Cb.inn (N : Int) 80 = true := Cb.inn_iff.2 ⟨by omega, by omega⟩
    rw [Cb.chkE, i80, if_pos rfl]
    exact Cb.asc_chk (a := 0) h
  have h2 := Cb.rk_ok hc (by rw [Cb.zl_len, hl]; exact (Cb.cnt_nat hN hK hb).2)
  rw [Int.toNat_natCast, Cb.nl_zl] at h2
  exact ⟨h2.1, h2.2, by rw [Cb.nxO, if_pos hc, Int.toNat_natCast, Cb.nl_zl]⟩
set_option maxHeartbeats 1000000 in
theorem walk (r n k : Int) (r0 : 0 ≤ r) (r1 : r ≤ 18446744073709551615) (n0 : -9223372036854775808 ≤ n) (n1 : n ≤ 9223372036854775807) (k0 : -9223372036854775808 ≤ k) (k1 : k ≤ 9223372036854775807) (w : World) :
    Calls Try.prog 7 #[.int .u64 r, .int .i64 n, .int .i64 k] w fun e w' => e = .returned (.bool true) ∧ Below w.heap.size w w' := by
  have AW := Lib.hid law5_awake
  have c1 := fun W => comb_Count n k n0 n1 k0 k1 W
  by_cases hE : Cb.cntE n k = 0
  · rw [hE] at c1
    by_cases hV : Cb.cntV n k = 0
    · rw [hV] at c1
      have C1 := Lib.hid c1
      clear c1 hE hV
      go_enter Try.func7, Try.ntmps7
      go_wp2_with fail
      refine (C1.out _).mono ?_
      rintro e w1 ⟨rfl, B1⟩
      have K1 := Lib.hid B1
      clear B1
      go_wp2_with fail
      refine (AW.out _).mono ?_
      rintro e w5 ⟨rfl, B5⟩
      have K5 := Lib.hid (bthn K1.out B5)
      clear B5
      go_wp2_with fail
      go_ret
      exact ⟨rfl, K5.out⟩
    · have hn80 : Cb.inn n 80 = true := by
        cases h : Cb.inn n 80
        · rw [(Cb.cnt_n h).2] at hE; exact absurd hE (by decide)
        · rfl
      have hkn : Cb.inn k n = true := by
        cases h : Cb.inn k n
        · exact absurd (Cb.cnt_k hn80 h).1 hV
        · rfl
      obtain ⟨m0, m1⟩ := Cb.inn_iff.1 hn80
      obtain ⟨p0, p1⟩ := Cb.inn_iff.1 hkn
      obtain ⟨N, rfl⟩ : ∃ N : Nat, n = (N : Int) := ⟨n.toNat, by omega⟩
      obtain ⟨K, rfl⟩ : ∃ K : Nat, k = (K : Int) := ⟨k.toNat, by omega⟩
      have hb : Cb.bin N K ≤ 9223372036854775807 := by
        rcases Nat.lt_or_ge 9223372036854775807 (Cb.val (N : Int) (K : Int)) with h1 | h1
        · rw [(Cb.cnt_big hn80 hkn h1).2] at hE; exact absurd hE (by decide)
        · exact h1
      have hN : N ≤ 80 := by omega
      have hK : K ≤ N := by omega
      have hpos := Cb.bin_pos hK
      rw [(Cb.cnt_nat hN hK hb).1] at c1
      obtain ⟨C, eC⟩ : ∃ C, C = Cb.bin N K := ⟨_, rfl⟩
      rw [← eC] at c1 hb hpos
      obtain ⟨at_, eat⟩ : ∃ a : Nat, a = r.toNat % C := ⟨_, rfl⟩
      have hat : at_ < Cb.bin N K := by rw [eat, ← eC]; exact Nat.mod_lt _ hpos
      obtain ⟨u1, u2, u3⟩ := Cb.unrk_spec N N K at_ (Nat.le_refl _) hat
      rw [Nat.sub_self] at u2 u3
      have hv : (Cb.inn (N : Int) 80 && Cb.inn (K : Int) (N : Int)) = true := by rw [hn80, hkn]; rfl
      have uo := Cb.un_ok (r := (at_ : Int)) hv hE (by rw [(Cb.cnt_nat hN hK (eC ▸ hb)).1]; omega)
      rw [Int.toNat_natCast, Int.toNat_natCast, Int.toNat_natCast] at uo
      obtain ⟨xs, exs⟩ : ∃ xs, xs = Cb.unrk N N K at_ := ⟨_, rfl⟩
      rw [← exs] at u1 u2 u3 uo
      have c2 := fun W => comb_Unrank (at_ : Int) (N : Int) (K : Int) (by omega) (by omega) n0 n1 k0 k1 W
      rw [uo.1, uo.2] at c2
      obtain ⟨o1, o2, o3⟩ := of_asc hN hK (eC ▸ hb) u2 u1
      have hbd := asc_bd u2 hN
      have c3 := fun W {A : Option Addr} {c : Nat} (h : Ints W W.heap.size A xs.length (Cb.zl xs)) => comb_Rank (c := c) (N : Int) n0 n1 W h (by omega) hbd
      have c4 := fun W {A : Option Addr} {c : Nat} (h : Ints W W.heap.size A xs.length (Cb.zl xs)) => comb_Next (c := c) (N : Int) n0 n1 W h (by omega) hbd
      rw [o1, o2, u3] at c3
      rw [o3] at c4
      have hnx := Cb.nxt_spec (n := N) (a := 0) (by omega) u2
      rw [Nat.sub_zero, u1, u3, ← eC] at hnx
      rw [u1] at c3 c4
      have hlt : at_ < C := by rw [eC]; exact hat
      have hat63 : at_ ≤ 9223372036854775806 := by omega
      obtain ⟨D, eD⟩ : ∃ D, D = C - 1 := ⟨_, rfl⟩
      have q1 : ¬ (C : Int) = 0 := by omega
      have q2 : ((C : Int) == 0) = false := by simpa using q1
      have q3 : ¬ (C : Int) < 0 := by omega
      have q4 : (C : Int) - 1 = (D : Int) := by omega
      have q5 : r % (C : Int) = (at_ : Int) := by rw [eat, Int.natCast_emod, Int.toNat_of_nonneg r0]
      have q6 : r.tmod (C : Int) = (at_ : Int) := by rw [Int.tmod_eq_emod_of_nonneg r0]; exact q5
      have C1 := Lib.hid c1
      have C2 := Lib.hid c2
      have C3 := Lib.hid c3
      have HL := Lib.hid u1
      cases hx : Cb.nxt N xs with
      | none =>
        rw [hx] at c4
        have hend := hnx.2 hx
        have C4 := Lib.hid c4
        have s1 : ¬ (at_ : Int) < (D : Int) := by omega
        have s2 : ¬ at_ < D := by omega
        clear c1 c2 c3 c4 hE hV hn80 hkn m0 m1 p0 p1 hv uo o1 o2 o3 hbd hnx eC eat hat u1 u2 u3 exs eD hend hx
        go_enter Try.func7, Try.ntmps7
        go_wp2_with fail
        refine (C1.out _).mono ?_
        rintro e w1 ⟨rfl, B1⟩
        have K1 := Lib.hid B1
        clear B1
        go_wp2_with fail
        refine (C2.out _).mono ?_
        rintro e w2 ⟨A2, c2, rfl, B2, I2, l2, m2⟩
        have K2 := Lib.hid (bthn K1.out B2)
        rw [HL.out] at I2
        have J2 := Lib.hid I2
        rw [HL.out]
        clear B2 I2
        go_wp2_with fail
        refine (C3.out _ J2.out).mono ?_
        rintro e w3 ⟨rfl, B3⟩
        have K3 := Lib.hid (bthn K2.out B3)
        have J3 := Lib.hid (J2.out.on B3)
        clear B3
        go_wp2_with fail
        refine (C4.out _ J3.out).mono ?_
        rintro e w4 ⟨A4, c4, rfl, B4, I4, l4, m4⟩
        have K4 := Lib.hid (bthn K3.out B4)
        clear B4 I4
        go_wp2_with fail
        refine (AW.out _).mono ?_
        rintro e w5 ⟨rfl, B5⟩
        have K5 := Lib.hid (bthn K4.out B5)
        clear B5
        go_wp2_with fail
        go_ret
        exact ⟨rfl, K5.out⟩
      | some u =>
        rw [hx] at c4
        obtain ⟨v1, v2, v3⟩ := hnx.1 u hx
        have hv4 := Cb.rk_lt v2 (by omega)
        rw [v1, Nat.sub_zero, ← eC, v3] at hv4
        obtain ⟨y1, y2, y3⟩ := of_asc hN hK (eC ▸ hb) v2 v1
        have hbd2 := asc_bd v2 hN
        have c5 := fun W {A : Option Addr} {c : Nat} (h : Ints W W.heap.size A u.length (Cb.zl u)) => comb_Rank (c := c) (N : Int) n0 n1 W h (by omega) hbd2
        rw [y1, y2, v3] at c5
        rw [v1] at c5
        have C4 := Lib.hid c4
        have C5 := Lib.hid c5
        have HU := Lib.hid v1
        have s1 : (at_ : Int) < (D : Int) := by omega
        have s2 : at_ < D := by omega
        clear c1 c2 c3 c4 c5 hE hV hn80 hkn m0 m1 p0 p1 hv uo o1 o2 o3 hbd hbd2 hnx eC eat hat u1 u2 u3 exs eD hx v1 v2 v3 hv4 y1 y2 y3
        go_enter Try.func7, Try.ntmps7
        go_wp2_with fail
        refine (C1.out _).mono ?_
        rintro e w1 ⟨rfl, B1⟩
        have K1 := Lib.hid B1
        clear B1
        go_wp2_with fail
        refine (C2.out _).mono ?_
        rintro e w2 ⟨A2, c2, rfl, B2, I2, l2, m2⟩
        have K2 := Lib.hid (bthn K1.out B2)
        rw [HL.out] at I2
        have J2 := Lib.hid I2
        rw [HL.out]
        clear B2 I2
        go_wp2_with fail
        refine (C3.out _ J2.out).mono ?_
        rintro e w3 ⟨rfl, B3⟩
        have K3 := Lib.hid (bthn K2.out B3)
        have J3 := Lib.hid (J2.out.on B3)
        clear B3
        go_wp2_with fail
        refine (C4.out _ J3.out).mono ?_
        rintro e w4 ⟨A4, c4, rfl, B4, I4, l4, m4⟩
        have K4 := Lib.hid (bthn K3.out B4)
        have hU : ((some u).getD []).length = K := HU.out
        rw [hU] at I4
        have J4 : Hid (Ints w4 w4.heap.size A4 K (Cb.zl u)) := I4
        rw [hU]
        clear B4 I4 hU
        go_wp2_with fail
        refine (C5.out _ J4.out).mono ?_
        rintro e w6 ⟨rfl, B6⟩
        have K6 := Lib.hid (bthn K4.out B6)
        clear B6
        go_wp2_with fail
        refine (AW.out _).mono ?_
        rintro e w5 ⟨rfl, B5⟩
        have K5 := Lib.hid (bthn K6.out B5)
        clear B5
        go_wp2_with fail
        go_ret
        exact ⟨rfl, K5.out⟩
  · obtain ⟨y, ey⟩ : ∃ y, y = Cb.cntV n k := ⟨_, rfl⟩
    obtain ⟨g, eg⟩ : ∃ y, y = Cb.cntE n k := ⟨_, rfl⟩
    rw [← ey, ← eg] at c1
    rw [← eg] at hE
    have hg : (g == 0) = false := by simpa using hE
    have hg2 : ¬ g = 0 := hE
    have C1 := Lib.hid c1
    clear c1 ey eg hE
    go_enter Try.func7, Try.ntmps7
    go_wp2_with fail
    refine (C1.out _).mono ?_
    rintro e w1 ⟨rfl, B1⟩
    have K1 := Lib.hid B1
    clear B1
    go_wp2_with fail
    refine (AW.out _).mono ?_
    rintro e w5 ⟨rfl, B5⟩
    have K5 := Lib.hid (bthn K1.out B5)
    clear B5
    go_wp2_with fail
    go_ret
    exact ⟨rfl, K5.out⟩

/-! ### The row's step, the row -/
set_option maxRecDepth 100000 in
theorem lifted (os : Os) (started : os.Started) (H : Type) (enc : TypeId × Value → H) :
    ReturnsInHanded {} Try.checked os 7 .any (Rows.combRanksSpec.pre6 enc Try.prog Try.f7 Rows.combRanksRow.domain false) (Rows.combRanksSpec.post enc Try.prog Try.f7 false true false false) := by
  refine returnsInHanded_of_change (C := Try.checked) own started (by kernel_rfl) Try.func7
    (ChangeSpec.witness6 (enc := enc) (C := Try.checked) false ⟨#[], #[.int .u64 0, .int .i64 0, .int .i64 0], []⟩ 8 (by kernel_rfl) (by kernel_rfl) (by kernel_rfl) (by kernel_rfl)) ?_
  intro W base args ds gs before hval0 hW hcnd _
  have hval : ∀ (j : Nat) t v, Try.f7.params[j]? = some t → args[j]? = some v → Value.okWide Try.prog W .any base t v := hval0
  have hW' := hW
  obtain ⟨p, q, hA0, hV, rfl, hfz, hnd⟩ := hW
  have hA : DataW.TrodAll enc Try.prog W 0 (fun _ => true) true Try.f7.params.toList args.toList ds p := hA0
  rw [Try.params7] at hA hval

  obtain ⟨v0, vs0, d0, ds0, p0, q0, hargs, rfl, rfl, h0, r0⟩ := trodAll_cons hA
  obtain ⟨v1, vs1, d1, ds1, p1, q1, rfl, rfl, rfl, h1, r1⟩ := trodAll_cons r0
  obtain ⟨v2, vs2, d2, ds2, p2, q2, rfl, rfl, rfl, h2, r2⟩ := trodAll_cons r1
  obtain ⟨rfl, rfl, rfl⟩ := trodAll_nil r2
  obtain rfl : args = #[v0, v1, v2] := by cases args; simp_all
  obtain ⟨rfl, rfl⟩ := trodVars_none hV
  obtain ⟨a0, rfl, rfl, rfl, w0⟩ := open_int Try.underlying46 (hval 0 46 v0 rfl rfl) h0
  have b0 := bounds_u64 w0
  obtain ⟨a1, rfl, rfl, rfl, w1⟩ := open_int Try.underlying3 (hval 1 3 v1 rfl rfl) h1
  have b1 := bounds_i64 w1
  obtain ⟨a2, rfl, rfl, rfl, w2⟩ := open_int Try.underlying3 (hval 2 3 v2 rfl rfl) h2
  have b2 := bounds_i64 w2
  clear hA0 hval0
  refine (walk a0 a1 a2 b0.1 b0.2 b1.1 b1.2 b2.1 b2.2 W ).mono fun e W' ⟨he, bel⟩ => ?_
  subst he
  exact ⟨_, rfl, _, _, _, [], _, [], hW', trodAll_mk1 (shut_bool Try.underlying4 _), (trodAll_cons_mk (shut_int Try.underlying46 w0) (trodAll_cons_mk (shut_int Try.underlying3 w1) (trodAll_cons_mk (shut_int Try.underlying3 w2) trodAll_mk0))), rfl, bel.frame _, fun h => by cases h⟩

theorem over : Rows.CombRanksSaid :=
  OpenClaim.holds_of_wide 7 Try.f7 rfl rfl rfl rfl rfl rfl rfl ⟨rfl, rfl, rfl, rfl, rfl⟩ rfl rfl rfl rfl rfl (by kernel_rfl) Try.func7 (by kernel_rfl)
    (of_decide_eq_true (by kernel_rfl)) (by unfold Func.isWrapper; first | (rw [if_pos (by decide +kernel)]; kernel_rfl) | (rw [if_neg (by decide +kernel)]; exact ⟨rfl, rfl⟩))
    (fun os started H enc _ => lifted os started H enc)
/-- The statement. -/
theorem proved : Rows.CombRanksSaid := over
end Go.Proofs.Ytfjnpmkklanopaa.combRanks
