/- Layer 5: the chapter's examples: awake returns true. -/
import Derived.Test.YtfjnpmkklanopaaCombZ
import Derived.Test.YtfjnpmkklanopaaNatJ
namespace Go.Proofs.Ytfjnpmkklanopaa
set_option maxRecDepth 20000
open Go.RowKit
set_option linter.unusedVariables false
set_option linter.unusedSimpArgs false
theorem Ints.on {w W : World} {A : Option Addr} {len : Nat} {zs : List Int} (h : Ints w w.heap.size A len zs) (hb : Below w.heap.size w W) : Ints W W.heap.size A len zs := (h.below hb).more hb.size
theorem bthn {w W W' : World} (h : Below w.heap.size w W) (h' : Below W.heap.size W W') : Below w.heap.size w W' := h.trans (h'.mono h.size)
theorem balc {w W : World} (h : Below w.heap.size w W) (o : Obj) : Below w.heap.size w (W.alloc o) := h.alloc h.size o
theorem ints_two (w : World) (a b : Int) : Ints (w.alloc (.cells #[.int .i64 a, .int .i64 b] 3)) (w.alloc (.cells #[.int .i64 a, .int .i64 b] 3)).heap.size (some ⟨w.heap.size, 0, none⟩) 2 [a, b] := by
  refine ⟨rfl, fun _ => ⟨_, rfl, by simp, fun j hj => ?_⟩⟩
  have h := heap_alloc_new w (.cells #[.int .i64 a, .int .i64 b] 3)
  rw [add0, Nat.zero_add, cell_of_row _ _ _ _ _ (0, 0) h]
  rcases j with _ | _ | j
  · rfl
  · rfl
  · omega
theorem below_j {w w' : World} (h : ∃ j, w' = w.drewN j) : Below w.heap.size w w' := by obtain ⟨j, rfl⟩ := h; exact below_drewN w j
theorem same_b {B B' len len' c c' : Nat} {A A' : Option Addr} {zs ys : List Int} {b : Bool} (w : World) (hb : (zs == ys) = b) (h : Ints w B A len zs) (h' : Ints w B' A' len' ys) (hl : len ≤ 9223372036854775807) (hl' : len' ≤ 9223372036854775807) :
    Calls Try.prog 22 #[.slice A len c, .slice A' len' c'] w fun e w' => e = .returned (.bool b) ∧ Below w.heap.size w w' := by
  subst hb
  exact (law5_same w h h' hl hl').mono fun e w' ⟨he, hj⟩ => ⟨he, below_j hj⟩
namespace Cb
theorem unL_len (r n k : Int) : (unL r n k).length ≤ 9223372036854775807 := by
  unfold unL
  by_cases h : unE r n k = 0
  · rw [if_pos h]
    rw [unE] at h
    cases hv : inn n 80 && inn k n
    · rw [hv] at h; exact absurd (show (2 : Int) = 0 from h) (by decide)
    · have hv' : inn n 80 = true ∧ inn k n = true := by simpa using hv
      obtain ⟨n0, n1⟩ := inn_iff.1 hv'.1
      obtain ⟨k0, k1⟩ := inn_iff.1 hv'.2
      rw [hv, if_pos rfl] at h
      by_cases hc : cntE n k = 0
      · rw [if_pos hc] at h
        by_cases hr : r < 0 ∨ cntV n k ≤ r
        · rw [if_pos hr] at h; exact absurd h (by decide)
        · have hb : val n k ≤ 9223372036854775807 := by
            rcases Nat.lt_or_ge 9223372036854775807 (val n k) with h1 | h1
            · rw [(cnt_big hv'.1 hv'.2 h1).2] at hc; exact absurd hc (by decide)
            · exact h1
          have := (cnt_ok hv'.1 hv'.2 hb).1
          have hlt : r.toNat < bin n.toNat k.toNat := by unfold val at this; omega
          have := (unrk_spec n.toNat n.toNat k.toNat r.toNat (Nat.le_refl _) hlt).1
          omega
      · rw [if_neg hc] at h; exact absurd h hc
  · rw [if_neg h]; decide
theorem nxO_len (n : Int) (zs : List Int) : ((nxO n zs).getD []).length ≤ 9223372036854775807 := by
  unfold nxO
  by_cases h : chkE n zs = 0
  · rw [if_pos h]
    obtain ⟨N, xs, rfl, rfl, hx, hN, hl⟩ := chkE_ok h
    rw [Int.toNat_natCast, nl_zl]
    cases hn : nxt N xs with
    | none => decide
    | some u =>
      have := ((nxt_spec (by omega) hx).1 u hn).1
      show u.length ≤ _
      omega
  · rw [if_neg h]; decide
theorem bin_49 : bin 49 6 = 13983816 := by
  rw [← bin_step' 49 5, ← bin_step' 49 4, ← bin_step' 49 3, ← bin_step' 49 2, ← bin_step' 49 1, bin_one]
theorem bin_43 : bin 43 3 = 12341 := by rw [← bin_step' 43 2, ← bin_step' 43 1, bin_one]
theorem ev_count : cntV 49 6 = 13983816 ∧ cntE 49 6 = 0 := by
  have h := cnt_nat (n := 49) (k := 6) (by omega) (by omega) (by rw [bin_49]; omega)
  rw [bin_49] at h
  exact h
theorem ev_choose : chV 5 2 = 10 ∧ chE 5 2 = 0 := by decide
theorem ev_hits : hitV 49 6 6 3 = 246820 ∧ hitE 49 6 6 3 = 0 := by
  have hp : hitP 49 6 6 3 = 246820 := by
    show bin 6 3 * bin 43 3 = 246820
    rw [bin_43, show bin 6 3 = 20 by decide]
  have h := hit_ok (n := 49) (k := 6) (d := 6) (h := 3) (by decide) (by decide) (by rw [hp]; omega)
  rw [hp] at h
  exact h
theorem ev_rank : rkV 4 [2, 3] = 3 ∧ rkE 4 [2, 3] = 0 := by decide
theorem ev_unrank : unL 5 4 2 = [3, 4] ∧ unE 5 4 2 = 0 := by decide
theorem ev_next : nxO 4 [1, 4] = some [2, 3] := by decide
end Cb
theorem two_bd {a b : Int} (ha : 0 ≤ a ∧ a ≤ 100) (hb : 0 ≤ b ∧ b ≤ 100) : ∀ i, i < 2 → -9223372036854775808 ≤ ([a, b] : List Int).getD i 0 ∧ ([a, b] : List Int).getD i 0 ≤ 9223372036854775807 := fun i hi => by
  rcases i with _ | _ | i
  · show _ ≤ a ∧ a ≤ _; omega
  · show _ ≤ b ∧ b ≤ _; omega
  · omega
set_option maxHeartbeats 2000000 in
theorem law5_awake (w : World) : Calls Try.prog 15 #[] w fun e w' => e = .returned (.bool true) ∧ Below w.heap.size w w' := by
  have c1 := fun W => comb_Count 49 6 (by omega) (by omega) (by omega) (by omega) W
  rw [Cb.ev_count.1, Cb.ev_count.2] at c1
  have c2 := fun W => comb_Choose 5 2 (by omega) (by omega) (by omega) (by omega) W
  rw [Cb.ev_choose.1, Cb.ev_choose.2] at c2
  have c3 := fun W => comb_Hits 49 6 6 3 (by omega) (by omega) (by omega) (by omega) (by omega) (by omega) (by omega) (by omega) W
  rw [Cb.ev_hits.1, Cb.ev_hits.2] at c3
  have c4 := fun W => comb_Rank (c := 2) (n := 4) (by omega) (by omega) _ (ints_two W 2 3) (by omega) (two_bd (by omega) (by omega))
  rw [Cb.ev_rank.1, Cb.ev_rank.2] at c4
  have c5 := fun W => comb_Unrank 5 4 2 (by omega) (by omega) (by omega) (by omega) (by omega) (by omega) W
  rw [Cb.ev_unrank.1, Cb.ev_unrank.2] at c5
  have c6 := fun W => comb_Next (c := 2) (n := 4) (by omega) (by omega) _ (ints_two W 1 4) (by omega) (two_bd (by omega) (by omega))
  rw [Cb.ev_next] at c6
  have C1 := Lib.hid c1
  have C2 := Lib.hid c2
  have C3 := Lib.hid c3
  have C4 := Lib.hid c4
  have C5 := Lib.hid c5
  have C6 := Lib.hid c6
  have O1 := Lib.hid fun W => ref3_Of 10 10 W rfl (by omega)
  clear c1 c2 c3 c4 c5 c6
  have K0 := Lib.hid (Ks.start w)
  go_enter Try.func15, Try.ntmps15
  go_wp2_with fail
  refine (C1.out _).mono ?_
  rintro e w1 ⟨rfl, B1⟩
  have K1 := Lib.hid (K0.out.call B1)
  clear B1
  go_wp2_with fail
  refine (C2.out _).mono ?_
  rintro e w2 ⟨A2, n2, c2, rfl, B2, D2, h2, l2⟩
  have K2 := Lib.hid (((K1.out.call B2).num D2).box [.slice A2 n2 c2] 24)
  clear B2 D2
  go_wp2_with fail
  refine (C3.out _).mono ?_
  rintro e w3 ⟨rfl, B3⟩
  have K3 := Lib.hid (K2.out.call B3)
  clear B3
  go_wp2_with fail
  refine (C4.out _).mono ?_
  rintro e w4 ⟨rfl, B4⟩
  have K4 := Lib.hid ((K3.out.box [.int .i64 2, .int .i64 3] 3).call B4)
  clear B4
  go_wp2_with fail
  refine (C5.out _).mono ?_
  rintro e w5 ⟨A5, c5, rfl, B5, I5, l5, m5⟩
  have K5 := Lib.hid (K4.out.call B5)
  have J5 := Lib.hid I5
  clear B5 I5
  go_wp2_with fail
  refine (C6.out _).mono ?_
  rintro e w6 ⟨A6, c6, rfl, B6, I6, l6, m6⟩
  have K6 := Lib.hid ((K5.out.box [.int .i64 1, .int .i64 4] 3).call B6)
  have J56 : Hid (Ints w6 w6.heap.size A5 2 [3, 4]) := Lib.hid (J5.out.on (((Below.refl _ _).alloc (Nat.le_refl _) (.cells #[.int .i64 1, .int .i64 4] 3)).trans (B6.mono (by simp))))
  have J6 : Hid (Ints w6 w6.heap.size A6 2 [2, 3]) := Lib.hid I6
  have x0 := K6.out.cell0 at2
  clear B6 I6 J5
  go_wp2_with fail
  have KD := Lib.hid (K6.out.call (Below.refl w6.heap.size w6).drew)
  have QD := Lib.hid ((Below.refl w6.heap.size w6).drew)
  go_region_held3 (fun W => W.cell? ⟨w2.heap.size, 0, none⟩ = some (.slice A2 n2 c2))
    (first | (with_reducible exact KD.out.cell0 at2) | (with_reducible exact K7.out.cell0 at2) | (with_reducible exact K8.out.cell0 at2) | (with_reducible exact (K8.out.box [.int .i64 3, .int .i64 4] 3).cell0 at3) | (with_reducible exact K9.out.cell0 at3) | (with_reducible exact (K9.out.box [.int .i64 2, .int .i64 3] 3).cell0 at4) | (with_reducible exact K10.out.cell0 at4) | fail)
    (first
      | (go_at_call 30; (with_reducible refine (O1.out _).mono ?_); rintro e w7 ⟨A7, n7, c7, rfl, B7, D7, h7, l7⟩; have K7 := Lib.hid ((KD.out.call B7).num D7); have Q7 := Lib.hid (bthn QD.out B7); clear B7 D7)
      | (go_at_call 14; (with_reducible refine (ref3_Same (n := n2) (n' := n7) _ (K7.out.get at1) (K7.out.get at0) (by omega)).mono ?_); rintro e w8 ⟨rfl, B8⟩; have K8 := Lib.hid (K7.out.call B8); have Q8 := Lib.hid (bthn Q7.out B8); clear B8)
      | (go_at_call 22; (with_reducible refine (same_b _ rfl (J56.out.on (balc Q8.out _)) (ints_two w8 3 4) (by decide) (by decide)).mono ?_); rintro e w9 ⟨rfl, B9⟩; have K9 := Lib.hid ((K8.out.box [.int .i64 3, .int .i64 4] 3).call B9); have Q9 := Lib.hid (bthn (balc Q8.out _) B9); clear B9)
      | (go_at_call 22; (with_reducible refine (same_b _ rfl (J6.out.on (balc Q9.out _)) (ints_two w9 2 3) (by decide) (by decide)).mono ?_); rintro e w10 ⟨rfl, B10⟩; have K10 := Lib.hid ((K9.out.box [.int .i64 2, .int .i64 3] 3).call B10); clear B10)
      | fail)
  all_goals (
    go_wp2
    go_ret
    exact ⟨rfl, K10.out.bel⟩)
end Go.Proofs.Ytfjnpmkklanopaa
