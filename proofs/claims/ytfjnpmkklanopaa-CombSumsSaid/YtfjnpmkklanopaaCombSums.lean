/- CombSums (P5.7): for every n, k and drawn for which Count answers without an error and drawn is from 0 to n the numbers of Hits add up to Count, and the chapter's examples hold: the law returns true. No condition. -/
import Derived.Test.YtfjnpmkklanopaaOwn
import Derived.Test.YtfjnpmkklanopaaCombAw
namespace Go.Proofs.Ytfjnpmkklanopaa.combSums
set_option maxRecDepth 20000
open Go.RowKit Go.ChangeShapes Go.WideShapes Go.ChangeAt Go.WideElems
open Go.ChangeMaps (open_string shut_string)
set_option linter.unusedVariables false

/-- The sum of the first m values. -/
def psum (f : Nat → Nat) : Nat → Nat
  | 0 => 0
  | m + 1 => psum f m + f m
theorem psum_sum (f : Nat → Nat) : ∀ m, psum f (m + 1) = Cb.sum f m
  | 0 => by show 0 + f 0 = f 0; omega
  | m + 1 => by rw [psum, psum_sum f m, Cb.sum]
theorem psum_le (f : Nat → Nat) {m : Nat} : ∀ {k}, m ≤ k → psum f m ≤ psum f k
  | 0, h => by rw [show m = 0 by omega]; exact Nat.le_refl _
  | k + 1, h => by
    rcases Nat.lt_or_ge m (k + 1) with h1 | h1
    · rw [psum]; have := psum_le f (m := m) (k := k) (by omega); omega
    · rw [show m = k + 1 by omega]; exact Nat.le_refl _
/-- Hits of numbers in range. -/
theorem hits_nat {N K D h : Nat} {k : Int} (hN : N ≤ 80) (hD : D ≤ N) (hh : h ≤ D) (hk : k = (K : Int)) (hK : K ≤ N) (hb : Cb.hit N K D h ≤ 9223372036854775807) :
    Cb.hitV (N : Int) k (D : Int) (h : Int) = (Cb.hit N K D h : Nat) ∧ Cb.hitE (N : Int) k (D : Int) (h : Int) = 0 := by
  subst hk
  have hv : (Cb.inn (N : Int) 80 && Cb.inn (D : Int) (N : Int)) = true := by
    rw [Cb.inn_iff.2 ⟨by omega, by omega⟩, Cb.inn_iff.2 ⟨by omega, by omega⟩]; rfl
  have i1 : Cb.inn (K : Int) (N : Int) = true := Cb.inn_iff.2 ⟨by omega, by omega⟩
  have i2 : Cb.inn (h : Int) (D : Int) = true := Cb.inn_iff.2 ⟨by omega, by omega⟩
  by_cases hin : h ≤ K ∧ K - h ≤ N - D
  · have ho : Cb.hitO (N : Int) (K : Int) (D : Int) (h : Int) = true := by
      rw [Cb.hitO, i1, i2, Cb.inn_iff.2 ⟨by omega, by omega⟩]; rfl
    have hp : Cb.hitP (N : Int) (K : Int) (D : Int) (h : Int) = Cb.hit N K D h := by
      rw [Cb.hit_le hin.1]
      unfold Cb.hitP Cb.val
      rw [Int.toNat_natCast, Int.toNat_natCast, show ((N : Int) - (D : Int)).toNat = N - D by omega, show ((K : Int) - (h : Int)).toNat = K - h by omega]
    rw [← hp] at hb ⊢
    exact Cb.hit_ok hv ho hb
  · have ho : Cb.hitO (N : Int) (K : Int) (D : Int) (h : Int) = false := by
      have : Cb.inn ((K : Int) - (h : Int)) ((N : Int) - (D : Int)) = false := by
        rw [Bool.eq_false_iff]; intro e; have := Cb.inn_iff.1 e; omega
      rw [Cb.hitO, i1, i2, this]; rfl
    have hp : Cb.hit N K D h = 0 := by
      by_cases h1 : h ≤ K
      · rw [Cb.hit_le h1, Cb.bin_gt (show N - D < K - h by omega), Nat.mul_zero]
      · exact Cb.hit_gt (by omega)
    rw [hp]
    exact Cb.hit_k hv ho
/-- Hits of a k out of range. -/
theorem hits_out {N D h : Nat} {k : Int} (hN : N ≤ 80) (hD : D ≤ N) (hk : Cb.inn k (N : Int) = false) :
    Cb.hitV (N : Int) k (D : Int) (h : Int) = 0 ∧ Cb.hitE (N : Int) k (D : Int) (h : Int) = 0 := by
  have hv : (Cb.inn (N : Int) 80 && Cb.inn (D : Int) (N : Int)) = true := by
    rw [Cb.inn_iff.2 ⟨by omega, by omega⟩, Cb.inn_iff.2 ⟨by omega, by omega⟩]; rfl
  exact Cb.hit_k hv (by rw [Cb.hitO, hk]; rfl)
/-- What the loop needs, whatever k is. -/
theorem sums {N D : Nat} {k : Int} (hN : N ≤ 80) (hD : D ≤ N) (hE : Cb.cntE (N : Int) k = 0) : ∃ (f : Nat → Nat) (C : Nat), Cb.cntV (N : Int) k = (C : Nat) ∧ C ≤ 9223372036854775807 ∧ psum f (D + 1) = C ∧ ∀ h, h ≤ D → Cb.hitV (N : Int) k (D : Int) (h : Int) = (f h : Nat) ∧ Cb.hitE (N : Int) k (D : Int) (h : Int) = 0 := by
  have i80 : Cb.inn (N : Int) 80 = true := Cb.inn_iff.2 ⟨by omega, by omega⟩
  cases hk : Cb.inn k (N : Int)
  · refine ⟨fun _ => 0, 0, (Cb.cnt_k i80 hk).1, by omega, ?_, fun h _ => hits_out hN hD hk⟩
    rw [psum_sum]; exact Cb.sum_zero D
  · obtain ⟨k0, k1⟩ := Cb.inn_iff.1 hk
    obtain ⟨K, eK⟩ : ∃ K : Nat, k = (K : Int) := ⟨k.toNat, by omega⟩
    have hb : Cb.val (N : Int) k ≤ 9223372036854775807 := by
      rcases Nat.lt_or_ge 9223372036854775807 (Cb.val (N : Int) k) with h1 | h1
      · rw [(Cb.cnt_big i80 hk h1).2] at hE; exact absurd hE (by decide)
      · exact h1
    have ev : Cb.val (N : Int) k = Cb.bin N K := by unfold Cb.val; rw [eK, Int.toNat_natCast, Int.toNat_natCast]
    have hs := Cb.hits_sum (k := K) hD
    refine ⟨Cb.hit N K D, Cb.bin N K, by rw [(Cb.cnt_ok i80 hk hb).1, ev], by omega, by rw [psum_sum]; exact hs, fun h hh => hits_nat hN hD hh eK (by omega) ?_⟩
    have h1 := psum_le (Cb.hit N K D) (m := h + 1) (k := D + 1) (by omega)
    rw [psum_sum _ D, hs, psum] at h1
    omega
set_option maxHeartbeats 1000000 in
theorem walk (n k d : Int) (n0 : -9223372036854775808 ≤ n) (n1 : n ≤ 9223372036854775807) (k0 : -9223372036854775808 ≤ k) (k1 : k ≤ 9223372036854775807) (d0 : -9223372036854775808 ≤ d) (d1 : d ≤ 9223372036854775807) (w : World) :
    Calls Try.prog 9 #[.int .i64 n, .int .i64 k, .int .i64 d] w fun e w' => e = .returned (.bool true) ∧ Below w.heap.size w w' := by
  have AW := Lib.hid law5_awake
  have c1 := fun W => comb_Count n k n0 n1 k0 k1 W
  by_cases hE : Cb.cntE n k = 0
  · rw [hE] at c1
    by_cases hd : d < 0 ∨ n < d
    · obtain ⟨y, ey⟩ : ∃ y, y = Cb.cntV n k := ⟨_, rfl⟩
      rw [← ey] at c1
      have C1 := Lib.hid c1
      clear c1 ey hE
      by_cases hd0 : d < 0
      · clear hd
        go_enter Try.func9, Try.ntmps9
        go_wp2_with fail
        refine (C1.out _).mono ?_
        rintro e w1 ⟨rfl, B1⟩
        have K1 := Lib.hid B1
        clear B1
        go_wp2_with fail
        refine (AW.out _).mono ?_
        rintro e w5 ⟨rfl, B5⟩
        have K5 := Lib.hid (bthn K1.out B5)
        clear B5
        go_wp2_with fail
        go_ret
        exact ⟨rfl, K5.out⟩
      · have hd1 : n < d := by omega
        clear hd
        go_enter Try.func9, Try.ntmps9
        go_wp2_with fail
        refine (C1.out _).mono ?_
        rintro e w1 ⟨rfl, B1⟩
        have K1 := Lib.hid B1
        clear B1
        go_wp2_with fail
        refine (AW.out _).mono ?_
        rintro e w5 ⟨rfl, B5⟩
        have K5 := Lib.hid (bthn K1.out B5)
        clear B5
        go_wp2_with fail
        go_ret
        exact ⟨rfl, K5.out⟩
    · have hn80 : Cb.inn n 80 = true := by
        cases h : Cb.inn n 80
        · rw [(Cb.cnt_n h).2] at hE; exact absurd hE (by decide)
        · rfl
      obtain ⟨m0, m1⟩ := Cb.inn_iff.1 hn80
      obtain ⟨N, rfl⟩ : ∃ N : Nat, n = (N : Int) := ⟨n.toNat, by omega⟩
      obtain ⟨D, rfl⟩ : ∃ D : Nat, d = (D : Int) := ⟨d.toNat, by omega⟩
      obtain ⟨f, C, hC, hM, hS, hF⟩ := sums (k := k) (show N ≤ 80 by omega) (show D ≤ N by omega) hE
      rw [hC] at c1
      have C1 := Lib.hid c1
      have q0 : ¬ (D : Int) < 0 := by omega
      have q1 : ¬ (N : Int) < (D : Int) := by omega
      have q2 : ¬ N < D := by omega
      have D80 : D ≤ 80 := by omega
      have HS := Lib.hid hS
      have HH := Lib.hid fun (h : Nat) (hh : h ≤ D) W => (by
        have := comb_Hits (N : Int) k (D : Int) (h : Int) n0 n1 k0 k1 d0 d1 (by omega) (by omega) W
        rw [(hF h hh).1, (hF h hh).2] at this
        exact this : Calls Try.prog 16 #[.int .i64 (N : Int), .int .i64 k, .int .i64 (D : Int), .int .i64 (h : Int)] W fun e w' => e = .returned (.tuple #[.int .i64 (f h : Nat), .int .i64 0]) ∧ Below W.heap.size W w')
      have B0 := Lib.hid (Below.refl w.heap.size w)
      clear c1 hE hd hn80 m0 m1 hC hS hF
      go_enter Try.func9, Try.ntmps9
      go_wp2_with fail
      refine (C1.out _).mono ?_
      rintro e w1 ⟨rfl, B1⟩
      have K1 := Lib.hid B1
      clear B1
      go_wp2_with fail
      go_loopw [9, 10] (fun l i W => ∃ (h L : Nat), h ≤ D + 1 ∧ L ≤ 9223372036854775807 ∧ l = .int .i64 (L : Int) ∧ i = .int .i64 (h : Int) ∧ Hid (L + psum f h = C) ∧ Hid (Below w.heap.size w W)) (fun _ i _ => D + 1 - (intOf i).toNat)
      case atStart => exact ⟨0, C, by omega, hM, rfl, rfl, by show _ = _; rw [psum]; omega, K1⟩
      case round =>
        obtain ⟨h, L, hh, hL, rfl, rfl, HL, HB⟩ := hrel
        by_cases hlt : h ≤ D
        · have hlt2 : (h : Int) ≤ (D : Int) := by omega
          have hp := psum_le f (m := h + 1) (k := D + 1) (by omega)
          rw [HS.out, psum] at hp
          obtain ⟨v, ev⟩ : ∃ v, v = f h := ⟨_, rfl⟩
          have hc := fun W => HH.out h hlt W
          rw [← ev] at hc hp
          obtain ⟨L2, eL⟩ : ∃ L2, L2 = L - v := ⟨_, rfl⟩
          have hvL : v ≤ L := by have := HL.out; omega
          have r1 : ¬ (v : Int) < 0 := by omega
          have r2 : ¬ (L : Int) < (v : Int) := by omega
          have r4 : ¬ L < v := by omega
          have r3 : (L : Int) - (v : Int) = (L2 : Int) := by omega
          have hL2 : L2 ≤ 9223372036854775807 := by omega
          have HL2 : Hid (L2 + psum f (h + 1) = C) := by show _ = _; rw [psum, ← ev]; have := HL.out; omega
          have HC := Lib.hid hc
          clear hp ev hc eL hvL
          go_wp2_with fail
          refine (HC.out _).mono ?_
          rintro e w2 ⟨rfl, B2⟩
          have HB2 := Lib.hid (bthn HB.out B2)
          clear B2
          go_wp2_with fail
          go_roundw
          case rel => exact ⟨h + 1, L2, by omega, hL2, rfl, by go_num, HL2, HB2⟩
          case measure => simp [intOf]; omega
        · obtain rfl : h = D + 1 := by omega
          have hlt2 : ¬ (((D + 1 : Nat) : Int)) ≤ (D : Int) := by omega
          obtain rfl : L = 0 := by have := HL.out; have := HS.out; omega
          go_wp2_with fail
          refine (AW.out _).mono ?_
          rintro e w5 ⟨rfl, B5⟩
          have K5 := Lib.hid (bthn HB.out B5)
          clear B5
          go_wp2_with fail
          go_ret
          exact ⟨rfl, K5.out⟩
  · obtain ⟨y, ey⟩ : ∃ y, y = Cb.cntV n k := ⟨_, rfl⟩
    obtain ⟨g, eg⟩ : ∃ y, y = Cb.cntE n k := ⟨_, rfl⟩
    rw [← ey, ← eg] at c1
    rw [← eg] at hE
    have hg : (g == 0) = false := by simpa using hE
    have hg2 : ¬ g = 0 := hE
    have C1 := Lib.hid c1
    clear c1 ey eg hE
    go_enter Try.func9, Try.ntmps9
    go_wp2_with fail
    refine (C1.out _).mono ?_
    rintro e w1 ⟨rfl, B1⟩
    have K1 := Lib.hid B1
    clear B1
    go_wp2_with fail
    refine (AW.out _).mono ?_
    rintro e w5 ⟨rfl, B5⟩
    have K5 := Lib.hid (bthn K1.out B5)
    clear B5
    go_wp2_with fail
    go_ret
    exact ⟨rfl, K5.out⟩

/-! ### The row's step, the row -/
set_option maxRecDepth 100000 in
theorem lifted (os : Os) (started : os.Started) (H : Type) (enc : TypeId × Value → H) :
    ReturnsInHanded {} Try.checked os 9 .any (Rows.combSumsSpec.pre6 enc Try.prog Try.f9 Rows.combSumsRow.domain false) (Rows.combSumsSpec.post enc Try.prog Try.f9 false true false false) := by
  refine returnsInHanded_of_change (C := Try.checked) own started (by kernel_rfl) Try.func9
    (ChangeSpec.witness6 (enc := enc) (C := Try.checked) false ⟨#[], #[.int .i64 0, .int .i64 0, .int .i64 0], []⟩ 8 (by kernel_rfl) (by kernel_rfl) (by kernel_rfl) (by kernel_rfl)) ?_
  intro W base args ds gs before hval0 hW hcnd _
  have hval : ∀ (j : Nat) t v, Try.f9.params[j]? = some t → args[j]? = some v → Value.okWide Try.prog W .any base t v := hval0
  have hW' := hW
  obtain ⟨p, q, hA0, hV, rfl, hfz, hnd⟩ := hW
  have hA : DataW.TrodAll enc Try.prog W 0 (fun _ => true) true Try.f9.params.toList args.toList ds p := hA0
  rw [Try.params9] at hA hval

  obtain ⟨v0, vs0, d0, ds0, p0, q0, hargs, rfl, rfl, h0, r0⟩ := trodAll_cons hA
  obtain ⟨v1, vs1, d1, ds1, p1, q1, rfl, rfl, rfl, h1, r1⟩ := trodAll_cons r0
  obtain ⟨v2, vs2, d2, ds2, p2, q2, rfl, rfl, rfl, h2, r2⟩ := trodAll_cons r1
  obtain ⟨rfl, rfl, rfl⟩ := trodAll_nil r2
  obtain rfl : args = #[v0, v1, v2] := by cases args; simp_all
  obtain ⟨rfl, rfl⟩ := trodVars_none hV
  obtain ⟨a0, rfl, rfl, rfl, w0⟩ := open_int Try.underlying3 (hval 0 3 v0 rfl rfl) h0
  have b0 := bounds_i64 w0
  obtain ⟨a1, rfl, rfl, rfl, w1⟩ := open_int Try.underlying3 (hval 1 3 v1 rfl rfl) h1
  have b1 := bounds_i64 w1
  obtain ⟨a2, rfl, rfl, rfl, w2⟩ := open_int Try.underlying3 (hval 2 3 v2 rfl rfl) h2
  have b2 := bounds_i64 w2
  clear hA0 hval0
  refine (walk a0 a1 a2 b0.1 b0.2 b1.1 b1.2 b2.1 b2.2 W ).mono fun e W' ⟨he, bel⟩ => ?_
  subst he
  exact ⟨_, rfl, _, _, _, [], _, [], hW', trodAll_mk1 (shut_bool Try.underlying4 _), (trodAll_cons_mk (shut_int Try.underlying3 w0) (trodAll_cons_mk (shut_int Try.underlying3 w1) (trodAll_cons_mk (shut_int Try.underlying3 w2) trodAll_mk0))), rfl, bel.frame _, fun h => by cases h⟩

theorem over : Rows.CombSumsSaid :=
  OpenClaim.holds_of_wide 9 Try.f9 rfl rfl rfl rfl rfl rfl rfl ⟨rfl, rfl, rfl, rfl, rfl⟩ rfl rfl rfl rfl rfl (by kernel_rfl) Try.func9 (by kernel_rfl)
    (of_decide_eq_true (by kernel_rfl)) (by unfold Func.isWrapper; first | (rw [if_pos (by decide +kernel)]; kernel_rfl) | (rw [if_neg (by decide +kernel)]; exact ⟨rfl, rfl⟩))
    (fun os started H enc _ => lifted os started H enc)
/-- The statement. -/
theorem proved : Rows.CombSumsSaid := over
end Go.Proofs.Ytfjnpmkklanopaa.combSums
