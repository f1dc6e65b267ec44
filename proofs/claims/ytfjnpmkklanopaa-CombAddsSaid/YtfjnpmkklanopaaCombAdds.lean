/- CombAdds (P5.7): for every n from 1 to 80 and k from 0 to n the binomial coefficients are symmetric and the sum of the two above, and the chapter's examples hold: the law returns true. No condition. -/
import Derived.Test.YtfjnpmkklanopaaOwn
import Derived.Test.YtfjnpmkklanopaaCombAw
namespace Go.Proofs.Ytfjnpmkklanopaa.combAdds
set_option maxRecDepth 20000
open Go.RowKit Go.ChangeShapes Go.WideShapes Go.ChangeAt Go.WideElems
open Go.ChangeMaps (open_string shut_string)
set_option linter.unusedVariables false

theorem adds {n k : Int} (h0 : 1 ≤ n) (h1 : n ≤ 80) (h2 : 0 ≤ k) (h3 : k ≤ n) : ∃ x y z : Nat, Cb.chV n k = x ∧ Cb.chE n k = 0 ∧ Cb.chV n (n - k) = x ∧ Cb.chE n (n - k) = 0 ∧ Cb.chV (n - 1) (k - 1) = y ∧ Cb.chE (n - 1) (k - 1) = 0 ∧ Cb.chV (n - 1) k = z ∧ Cb.chE (n - 1) k = 0 ∧ x = y + z ∧ x ≤ 1208925819614629174706176 := by
  obtain ⟨N, rfl⟩ : ∃ N : Nat, n = (N : Int) + 1 := ⟨(n - 1).toNat, by omega⟩
  have i80 : Cb.inn ((N : Int) + 1) 80 = true := Cb.inn_iff.2 ⟨by omega, by omega⟩
  have i79 : Cb.inn ((N : Int) + 1 - 1) 80 = true := Cb.inn_iff.2 ⟨by omega, by omega⟩
  obtain ⟨K, rfl⟩ : ∃ K : Nat, k = (K : Int) := ⟨k.toNat, by omega⟩
  have a := Cb.ch_ok i80 (show Cb.inn (K : Int) ((N : Int) + 1) = true from Cb.inn_iff.2 ⟨by omega, by omega⟩)
  have b := Cb.ch_ok i80 (show Cb.inn ((N : Int) + 1 - K) ((N : Int) + 1) = true from Cb.inn_iff.2 ⟨by omega, by omega⟩)
  have ea : Cb.val ((N : Int) + 1) K = Cb.bin (N + 1) K := by unfold Cb.val; rw [show ((N : Int) + 1).toNat = N + 1 by omega, Int.toNat_natCast]
  have eb : Cb.val ((N : Int) + 1) ((N : Int) + 1 - K) = Cb.bin (N + 1) K := by
    unfold Cb.val
    rw [show ((N : Int) + 1).toNat = N + 1 by omega, show ((N : Int) + 1 - K).toNat = N + 1 - K by omega, ← Cb.bin_symm (by omega)]
  rw [ea] at a
  rw [eb] at b
  have hM := Cb.bin_80 (n := N + 1) (k := K) (by omega)
  have c : Cb.chV ((N : Int) + 1 - 1) ((K : Int) - 1) = (if K = 0 then 0 else Cb.bin N (K - 1)) ∧ Cb.chE ((N : Int) + 1 - 1) ((K : Int) - 1) = 0 := by
    by_cases hK : K = 0
    · have := Cb.ch_k (k := (K : Int) - 1) i79 (by rw [Bool.eq_false_iff]; intro e; have := (Cb.inn_iff.1 e).1; omega)
      rw [if_pos hK]; exact this
    · have := Cb.ch_ok i79 (show Cb.inn ((K : Int) - 1) ((N : Int) + 1 - 1) = true from Cb.inn_iff.2 ⟨by omega, by omega⟩)
      rw [if_neg hK, show Cb.bin N (K - 1) = Cb.val ((N : Int) + 1 - 1) ((K : Int) - 1) by unfold Cb.val; rw [show ((N : Int) + 1 - 1).toNat = N by omega, show ((K : Int) - 1).toNat = K - 1 by omega]]
      exact this
  have d : Cb.chV ((N : Int) + 1 - 1) (K : Int) = Cb.bin N K ∧ Cb.chE ((N : Int) + 1 - 1) (K : Int) = 0 := by
    by_cases hK : K ≤ N
    · have := Cb.ch_ok i79 (show Cb.inn (K : Int) ((N : Int) + 1 - 1) = true from Cb.inn_iff.2 ⟨by omega, by omega⟩)
      rw [show Cb.bin N K = Cb.val ((N : Int) + 1 - 1) (K : Int) by unfold Cb.val; rw [show ((N : Int) + 1 - 1).toNat = N by omega, Int.toNat_natCast]]
      exact this
    · have := Cb.ch_k (k := (K : Int)) i79 (by rw [Bool.eq_false_iff]; intro e; have := (Cb.inn_iff.1 e).2; omega)
      rw [Cb.bin_gt (by omega)]; exact this
  refine ⟨_, _, _, a.1, a.2, b.1, b.2, c.1, c.2, d.1, d.2, ?_, hM⟩
  rcases K with _ | K
  · rw [if_pos rfl, Cb.bin_zero, Cb.bin_zero]
  · rw [if_neg (by omega), Nat.add_sub_cancel, Cb.bin_succ]
theorem walk (n k : Int) (n0 : -9223372036854775808 ≤ n) (n1 : n ≤ 9223372036854775807) (k0 : -9223372036854775808 ≤ k) (k1 : k ≤ 9223372036854775807) (w : World) :
    Calls Try.prog 8 #[.int .i64 n, .int .i64 k] w fun e w' => e = .returned (.bool true) ∧ Below w.heap.size w w' := by
  have AW := Lib.hid law5_awake
  by_cases hin : n < 1 ∨ 80 < n ∨ k < 0 ∨ n < k
  · have WAY : ∀ {P : Prop}, (n < 1 → P) → (¬ n < 1 → 80 < n → P) → (¬ n < 1 → ¬ 80 < n → k < 0 → P) → (¬ n < 1 → ¬ 80 < n → ¬ k < 0 → n < k → P) → P := by
      intro P p1 p2 p3 p4
      by_cases q1 : n < 1
      · exact p1 q1
      · by_cases q2 : 80 < n
        · exact p2 q1 q2
        · by_cases q3 : k < 0
          · exact p3 q1 q2 q3
          · exact p4 q1 q2 q3 (by omega)
    refine WAY ?_ ?_ ?_ ?_
    all_goals (
      intros
      clear WAY hin
      go_enter Try.func8, Try.ntmps8
      go_wp2_with fail
      refine (AW.out _).mono ?_
      rintro e w5 ⟨rfl, B5⟩
      have K5 := Lib.hid B5
      clear B5
      go_wp2_with fail
      go_ret
      exact ⟨rfl, K5.out⟩)
  · obtain ⟨x, y, z, a1, a2, b1, b2, c1, c2, d1, d2, hxyz, hx⟩ := adds (n := n) (k := k) (by omega) (by omega) (by omega) (by omega)
    have q1 : ¬ n < 1 := by omega
    have q2 : ¬ 80 < n := by omega
    have q3 : ¬ k < 0 := by omega
    have q4 : ¬ n < k := by omega
    have r1 : 1 ≤ n := by omega
    have r2 : n ≤ 80 := by omega
    have r3 : 0 ≤ k := by omega
    have r4 : k ≤ n := by omega
    have s1 := fun W => comb_Choose n k (by omega) (by omega) (by omega) (by omega) W
    have s2 := fun W => comb_Choose n (n - k) (by omega) (by omega) (by omega) (by omega) W
    have s3 := fun W => comb_Choose (n - 1) (k - 1) (by omega) (by omega) (by omega) (by omega) W
    have s4 := fun W => comb_Choose (n - 1) k (by omega) (by omega) (by omega) (by omega) W
    rw [a1, a2] at s1
    rw [b1, b2] at s2
    rw [c1, c2] at s3
    rw [d1, d2] at s4
    have hfit : Nt.fits (y + z) = true := by rw [← hxyz]; exact Cb.small_fits (by omega)
    have ad := fun W {A A' : Option Addr} {n c n' c' : Nat} (h : IsN W W.heap.size A n y) (h' : IsN W W.heap.size A' n' z) (hn : n ≤ 64) (hn' : n' ≤ 64) => ref3_Add_ok (c := c) (c' := c') W h h' hn hn'
    rw [show Nt.bv (y + z) = x by rw [Nt.bv, hfit, hxyz]; rfl, show Nt.be (y + z) = 0 by rw [Nt.be, hfit]; rfl] at ad
    have S1 := Lib.hid s1
    have S2 := Lib.hid s2
    have S3 := Lib.hid s3
    have S4 := Lib.hid s4
    have AD := Lib.hid ad
    clear s1 s2 s3 s4 ad hfit hxyz hx a1 a2 b1 b2 c1 c2 d1 d2 hin
    have K0 := Lib.hid (Ks.start w)
    go_enter Try.func8, Try.ntmps8
    go_wp2_with fail
    refine (S1.out _).mono ?_
    rintro e w1 ⟨A1, n1, c1, rfl, B1, D1, h1, l1⟩
    have K1 := Lib.hid (((K0.out.call B1).num D1).box [.slice A1 n1 c1] 24)
    clear B1 D1
    go_wp2_with fail
    refine (S2.out _).mono ?_
    rintro e w2 ⟨A2, n2, c2, rfl, B2, D2, h2, l2⟩
    have K2 := Lib.hid (((K1.out.call B2).num D2).box [.slice A2 n2 c2] 24)
    clear B2 D2
    go_wp2_with fail
    refine (S3.out _).mono ?_
    rintro e w3 ⟨A3, n3, c3, rfl, B3, D3, h3, l3⟩
    have K3 := Lib.hid (((K2.out.call B3).num D3).box [.slice A3 n3 c3] 24)
    clear B3 D3
    go_wp2_with fail
    refine (S4.out _).mono ?_
    rintro e w4 ⟨A4, n4, c4, rfl, B4, D4, h4, l4⟩
    have K4 := Lib.hid (((K3.out.call B4).num D4).box [.slice A4 n4 c4] 24)
    have x3 := K4.out.cell0 at1
    clear B4 D4
    go_wp2_with fail
    refine (AD.out _ (K4.out.get at1) (K4.out.get at0) h3 h4).mono ?_
    rintro e w5 ⟨A5, n5, c5, rfl, B5, D5, h5, l5⟩
    have K5 := Lib.hid (((K4.out.call B5).num D5).box [.slice A5 n5 c5] 24)
    clear B5 D5 x3
    have x1 := K5.out.cell0 at4
    have x2 := K5.out.cell0 at3
    go_wp2_with fail
    refine (ref3_Same (n := n1) (n' := n2) _ (K5.out.get at4) (K5.out.get at3) (by omega)).mono ?_
    rintro e w6 ⟨rfl, B6⟩
    have K6 := Lib.hid (K5.out.call B6)
    clear B6 x1 x2
    have x1 := K6.out.cell0 at4
    have x5 := K6.out.cell0 at0
    go_wp2_with fail
    refine (ref3_Same (n := n1) (n' := n5) _ (K6.out.get at4) (K6.out.get at0) (by omega)).mono ?_
    rintro e w7 ⟨rfl, B7⟩
    have K7 := Lib.hid (K6.out.call B7)
    clear B7 x1 x5
    go_wp2_with fail
    refine (AW.out _).mono ?_
    rintro e w8 ⟨rfl, B8⟩
    have K8 := Lib.hid (K7.out.call B8)
    clear B8
    go_wp2_with fail
    go_ret
    exact ⟨rfl, K8.out.bel⟩

/-! ### The row's step, the row -/
set_option maxRecDepth 100000 in
theorem lifted (os : Os) (started : os.Started) (H : Type) (enc : TypeId × Value → H) :
    ReturnsInHanded {} Try.checked os 8 .any (Rows.combAddsSpec.pre6 enc Try.prog Try.f8 Rows.combAddsRow.domain false) (Rows.combAddsSpec.post enc Try.prog Try.f8 false true false false) := by
  refine returnsInHanded_of_change (C := Try.checked) own started (by kernel_rfl) Try.func8
    (ChangeSpec.witness6 (enc := enc) (C := Try.checked) false ⟨#[], #[.int .i64 0, .int .i64 0], []⟩ 8 (by kernel_rfl) (by kernel_rfl) (by kernel_rfl) (by kernel_rfl)) ?_
  intro W base args ds gs before hval0 hW hcnd _
  have hval : ∀ (j : Nat) t v, Try.f8.params[j]? = some t → args[j]? = some v → Value.okWide Try.prog W .any base t v := hval0
  have hW' := hW
  obtain ⟨p, q, hA0, hV, rfl, hfz, hnd⟩ := hW
  have hA : DataW.TrodAll enc Try.prog W 0 (fun _ => true) true Try.f8.params.toList args.toList ds p := hA0
  rw [Try.params8] at hA hval

  obtain ⟨v0, vs0, d0, ds0, p0, q0, hargs, rfl, rfl, h0, r0⟩ := trodAll_cons hA
  obtain ⟨v1, vs1, d1, ds1, p1, q1, rfl, rfl, rfl, h1, r1⟩ := trodAll_cons r0
  obtain ⟨rfl, rfl, rfl⟩ := trodAll_nil r1
  obtain rfl : args = #[v0, v1] := by cases args; simp_all
  obtain ⟨rfl, rfl⟩ := trodVars_none hV
  obtain ⟨a0, rfl, rfl, rfl, w0⟩ := open_int Try.underlying3 (hval 0 3 v0 rfl rfl) h0
  have b0 := bounds_i64 w0
  obtain ⟨a1, rfl, rfl, rfl, w1⟩ := open_int Try.underlying3 (hval 1 3 v1 rfl rfl) h1
  have b1 := bounds_i64 w1
  clear hA0 hval0
  refine (walk a0 a1 b0.1 b0.2 b1.1 b1.2 W ).mono fun e W' ⟨he, bel⟩ => ?_
  subst he
  exact ⟨_, rfl, _, _, _, [], _, [], hW', trodAll_mk1 (shut_bool Try.underlying4 _), (trodAll_cons_mk (shut_int Try.underlying3 w0) (trodAll_cons_mk (shut_int Try.underlying3 w1) trodAll_mk0)), rfl, bel.frame _, fun h => by cases h⟩

theorem over : Rows.CombAddsSaid :=
  OpenClaim.holds_of_wide 8 Try.f8 rfl rfl rfl rfl rfl rfl rfl ⟨rfl, rfl, rfl, rfl, rfl⟩ rfl rfl rfl rfl rfl (by kernel_rfl) Try.func8 (by kernel_rfl)
    (of_decide_eq_true (by kernel_rfl)) (by unfold Func.isWrapper; first | (rw [if_pos (by decide +kernel)]; kernel_rfl) | (rw [if_neg (by decide +kernel)]; exact ⟨rfl, rfl⟩))
    (fun os started H enc _ => lifted os started H enc)
/-- The statement. -/
theorem proved : Rows.CombAddsSaid := over
end Go.Proofs.Ytfjnpmkklanopaa.combAdds
