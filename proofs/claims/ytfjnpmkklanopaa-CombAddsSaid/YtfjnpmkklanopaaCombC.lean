/- Layer 5: the reference's Rank; whether two lists are the same. -/
import Derived.Test.YtfjnpmkklanopaaCombB
namespace Go.Proofs.Ytfjnpmkklanopaa
set_option maxRecDepth 20000
open Go.RowKit
set_option linter.unusedVariables false
set_option linter.unusedSimpArgs false
namespace Cb
def nl (zs : List Int) : List Nat := zs.map Int.toNat
theorem nl_zl (xs : List Nat) : nl (zl xs) = xs := by
  induction xs with
  | nil => rfl
  | cons x t ih => show (x : Int).toNat :: nl (zl t) = _; rw [ih, Int.toNat_natCast]
theorem zl_len (xs : List Nat) : (zl xs).length = xs.length := List.length_map ..
/-- What Rank answers. -/
def rkE (n : Int) (zs : List Int) : Int := if chkE n zs = 0 then cntE n zs.length else chkE n zs
def rkV (n : Int) (zs : List Int) : Int := if rkE n zs = 0 then (rk n.toNat 0 (nl zs) : Nat) else 0
theorem rk_bad {n : Int} {zs : List Int} (h : chkE n zs ≠ 0) : rkV n zs = 0 ∧ rkE n zs = chkE n zs := by
  have e : rkE n zs = chkE n zs := if_neg h
  exact ⟨by rw [rkV, e, if_neg h], e⟩
theorem rk_over {n : Int} {zs : List Int} (h : chkE n zs = 0) (h' : cntE n zs.length ≠ 0) : rkV n zs = 0 ∧ rkE n zs = cntE n zs.length := by
  have e : rkE n zs = cntE n zs.length := if_pos h
  exact ⟨by rw [rkV, e, if_neg h'], e⟩
theorem rk_ok {n : Int} {zs : List Int} (h : chkE n zs = 0) (h' : cntE n zs.length = 0) : rkV n zs = (rk n.toNat 0 (nl zs) : Nat) ∧ rkE n zs = 0 := by
  have e : rkE n zs = 0 := by rw [rkE, if_pos h, h']
  exact ⟨by rw [rkV, e, if_pos rfl], e⟩
theorem zl_at {xs : List Nat} {i : Nat} (h : i < xs.length) : ∃ x t, xs.drop i = x :: t ∧ (zl xs).getD i 0 = (x : Int) ∧ t = xs.drop (i + 1) ∧ t.length + 1 + i = xs.length :=
  ⟨xs[i], xs.drop (i + 1), List.drop_eq_getElem_cons h, by simp [zl, List.getD, h], rfl, by rw [List.length_drop]; omega⟩
/-- A list that passes the check: n, its numbers, and how many they are. -/
theorem chkE_ok {n : Int} {zs : List Int} (h : chkE n zs = 0) : ∃ (N : Nat) (xs : List Nat), n = (N : Int) ∧ zs = zl xs ∧ Asc N 0 xs ∧ N ≤ 80 ∧ xs.length ≤ N := by
  cases hn : inn n 80
  · rw [chkE, hn] at h; exact absurd (show (2 : Int) = 0 from h) (by decide)
  · obtain ⟨n0, n1⟩ := inn_iff.1 hn
    obtain ⟨N, rfl⟩ : ∃ N : Nat, n = (N : Int) := ⟨n.toNat, by omega⟩
    rw [chkE, hn, if_pos rfl] at h
    obtain ⟨xs, e, hx⟩ := chk_asc (a := 0) h
    have := asc_len hx (by omega)
    exact ⟨N, xs, rfl, e, hx, by omega, by omega⟩
/-- The bounds of a round of Rank's inner loop. -/
theorem rank_step {N a x v R T : Nat} {t : List Nat} (h : Asc N a (x :: t)) (ha : a ≤ N) (hv : a < v) (hvx : v < x) (hT : R + rk N a (x :: t) = T) (hM : T ≤ 9223372036854775806) :
    bin (N - v) t.length ≤ 9223372036854775807 ∧ t.length ≤ N - v ∧
    R + (bin (N - a) (t.length + 1) - bin (N + 1 - v) (t.length + 1)) + bin (N - v) t.length = R + (bin (N - a) (t.length + 1) - bin (N + 1 - (v + 1)) (t.length + 1)) ∧
    R + (bin (N - a) (t.length + 1) - bin (N + 1 - (v + 1)) (t.length + 1)) ≤ 9223372036854775807 := by
  have hl := asc_len h.2.2 h.2.1
  have hx := h.2.1
  have e := bin_round (n := N) (a := a) (v := v) (k := t.length) hv (by omega)
  have h2 : bin (N + 1 - x) (t.length + 1) ≤ bin (N + 1 - (v + 1)) (t.length + 1) := bin_le _ (by omega)
  rw [rk_cons] at hT
  omega
end Cb
set_option maxHeartbeats 2000000 in
theorem ref5_Rank {B len c : Nat} {A : Option Addr} {zs : List Int} (n : Int) (w : World) (h : Ints w B A len zs) (hl : len ≤ 9223372036854775807) :
    Calls Try.prog 19 #[.slice A len c, .int .i64 n] w fun e w' => e = .returned (.tuple #[.int .i64 (Cb.rkV n zs), .int .i64 (Cb.rkE n zs)]) ∧ ∃ j, w' = w.drewN j := by
  have ck := fun W (h : Ints W B A len zs) => ref5_Check (c := c) n W h hl
  have H := Lib.hid h
  clear h
  by_cases hc : Cb.chkE n zs = 0
  · obtain ⟨N, xs, rfl, rfl, hx, hN, hlen⟩ := Cb.chkE_ok hc
    have hL : xs.length = len := by rw [← Cb.zl_len]; exact H.out.len
    have cc := fun W => ref5_Count (N : Int) (len : Int) (by omega) (by omega) W
    rw [hc] at ck
    have CK := Lib.hid ck
    clear ck
    by_cases hb : Cb.bin N len ≤ 9223372036854775807
    · obtain ⟨f1, f2⟩ := Cb.cnt_nat hN (by omega) hb
      obtain ⟨g1, g2⟩ := Cb.rk_ok hc (by rw [Cb.zl_len, hL]; exact f2)
      rw [Int.toNat_natCast, Cb.nl_zl] at g1
      rw [f2] at cc
      have CC := Lib.hid cc
      obtain ⟨T, eT⟩ : ∃ T, T = Cb.rk N 0 xs := ⟨_, rfl⟩
      have hT : T < Cb.bin (N - 0) xs.length := by rw [eT]; exact Cb.rk_lt hx (by omega)
      rw [hL, Nat.sub_zero] at hT
      have hT2 : T ≤ 9223372036854775806 := by omega
      rw [← eT] at g1
      have E1 := Lib.hid g1
      have E2 := Lib.hid g2
      have I0 : Hid (0 + Cb.rk N 0 (xs.drop 0) = T) := by show _ = _; rw [List.drop_zero, eT]; omega
      have A0 : Hid (Cb.Asc N 0 (xs.drop 0)) := hx
      have HL := Lib.hid hL
      have N80 : (N : Int) ≤ 80 := by omega
      have L80 : (len : Int) ≤ (N : Int) := by omega
      clear hc cc f1 f2 g1 g2 eT hT hb hx hL hlen
      go_enter Try.func19, Try.ntmps19
      go_wp2_with fail
      refine (CK.out _ H.out).mono ?_
      rintro e w1 ⟨rfl, j0, hj0⟩
      have H1 : Hid (Ints w1 B A len (Cb.zl xs)) := by rw [hj0]; exact H.out.drewN j0
      have HJ := Lib.hid hj0
      clear hj0
      go_wp2_with fail
      refine (CC.out _).mono ?_
      rintro e w' ⟨rfl, rfl⟩
      go_wp2_with fail
      go_loopw [9, 10, 11] (fun r la i W => ∃ (k R a : Nat), k ≤ len ∧ R ≤ T ∧ a ≤ N ∧ r = .int .i64 (R : Int) ∧ la = .int .i64 (a : Int) ∧ i = .int .i64 (k : Int) ∧ Hid (R + Cb.rk N a (xs.drop k) = T) ∧ Hid (Cb.Asc N a (xs.drop k)) ∧ W = w1) (fun _ _ i _ => len - (intOf i).toNat)
      case atStart => exact ⟨0, 0, 0, by omega, by omega, by omega, rfl, rfl, rfl, I0, A0, rfl⟩
      case round =>
        obtain ⟨k, R, a, hk, hR, ha, rfl, rfl, rfl, HT, HA, rfl⟩ := hrel
        by_cases hlt : k < len
        · obtain ⟨ad, X, rfl, hb, hcell, HX⟩ := H1.out.at_ hlt
          obtain ⟨x, t, hd, hgx, ht, htl⟩ := Cb.zl_at (xs := xs) (i := k) (by rw [HL.out]; exact hlt)
          have hXx : X = (x : Int) := HX.out.trans hgx
          have ht1 : (len : Int) - 1 - (k : Int) = (t.length : Int) := by have := HL.out; omega
          rw [hd] at HT HA
          have HTT := Lib.hid ht
          have hxN : x ≤ N := HA.out.2.1
          have hax : a < x := HA.out.1
          have X0 : 1 ≤ X := by omega
          have X1 : X ≤ 80 := by omega
          have hx1 : X ≤ (x : Int) := by omega
          have hx2 : (x : Int) ≤ X := by omega
          have HXX := Lib.hid hXx
          have nx := fun (q : Nat) (hq : (q : Int) < X) => (by omega : q < x)
          clear hd hgx ht hXx htl
          go_wp2_with fail
          go_loopw [9, 12] (fun r v W => ∃ (u S : Nat), a < u ∧ (u : Int) ≤ X ∧ v = .int .i64 (u : Int) ∧ r = .int .i64 (S : Int) ∧ S ≤ 9223372036854775807 ∧ Hid (S = R + (Cb.bin (N - a) (t.length + 1) - Cb.bin (N + 1 - u) (t.length + 1))) ∧ W = wr) (fun _ v _ => 100 - (intOf v).toNat)
          case atStart => exact ⟨a + 1, R, by omega, by omega, by go_num, rfl, by omega, by show _ = _; rw [show N + 1 - (a + 1) = N - a by omega, Nat.sub_self, Nat.add_zero], rfl⟩
          case round =>
            obtain ⟨u, S, hu, hux, rfl, rfl, hS, HS, rfl⟩ := hrel
            by_cases hlt2 : (u : Int) < X
            · obtain ⟨s1, s2, s3, s4⟩ := Cb.rank_step HA.out ha hu (nx u hlt2) HT.out hT2
              obtain ⟨m, hm⟩ : ∃ m : Nat, m = N - u := ⟨_, rfl⟩
              have hnu : (N : Int) - (u : Int) = (m : Int) := by omega
              obtain ⟨f1, f2⟩ := Cb.cnt_nat (n := m) (k := t.length) (by omega) (by omega) (by rw [hm]; exact s1)
              have c2 := fun W => ref5_Count (m : Int) (t.length : Int) (by omega) (by omega) W
              rw [f1, f2, hm] at c2
              obtain ⟨D, eD⟩ : ∃ D : Nat, D = Cb.bin (N - u) t.length := ⟨_, rfl⟩
              rw [← eD, ← hm] at c2
              rw [← eD] at s3
              obtain ⟨S', eS⟩ : ∃ S' : Nat, S' = S + D := ⟨_, rfl⟩
              have hS2 : S' ≤ 9223372036854775807 := by have := HS.out; omega
              have hSD : (S : Int) + (D : Int) = (S' : Int) := by omega
              have HS2 : Hid (S' = R + (Cb.bin (N - a) (t.length + 1) - Cb.bin (N + 1 - (u + 1)) (t.length + 1))) := by
                show _ = _; rw [eS, HS.out, s3]
              have C2 := Lib.hid c2
              clear c2 f1 f2 eD hm s1 s2 s3 s4 eS
              go_wp2_with fail
              refine (C2.out _).mono ?_
              rintro e w' ⟨rfl, rfl⟩
              go_wp2_with fail
              go_roundw
              case rel => exact ⟨u + 1, S', by omega, by omega, by go_num, rfl, hS2, HS2, trivial⟩
              case measure => simp [intOf]; omega
            · have hux2 : u = x := by have := HXX.out; omega
              have hT' := HT.out
              rw [Cb.rk_cons, ← hux2] at hT'
              have hsx : S + Cb.rk N u t = T := by rw [HS.out]; omega
              have hsT : S ≤ T := by omega
              rw [← hux2, HTT.out] at HA
              rw [HTT.out] at hsx
              have HA2 := Lib.hid HA.out.2.2
              have HSX := Lib.hid hsx
              have hXu : X = (u : Int) := by omega
              have hu80 : u ≤ N := by omega
              clear hT' hux2 hsx
              subst hXu
              go_wp2_with fail
              refine ⟨⟨k + 1, S, u, by omega, hsT, hu80, rfl, rfl, by go_num, HSX, HA2, trivial⟩, ?_⟩
              simp [intOf]; omega
        · have hRT : R = T := by
            have := HT.out
            rw [List.drop_of_length_le (by rw [HL.out]; omega), Cb.rk_nil] at this
            omega
          have F1 : Hid (((R : Nat) : Int) = Cb.rkV N (Cb.zl xs)) := by show _ = _; rw [E1.out, hRT]
          clear hRT
          go_wp2_with fail
          go_ret2
          exact ⟨ret2_int F1.out E2.out.symm, j0, HJ.out⟩
    · obtain ⟨f1, f2⟩ := Cb.cnt_big (n := (N : Int)) (k := (len : Int)) (Cb.inn_iff.2 ⟨by omega, by omega⟩) (Cb.inn_iff.2 ⟨by omega, by omega⟩) (by unfold Cb.val; rw [Int.toNat_natCast, Int.toNat_natCast]; omega)
      obtain ⟨g1, g2⟩ := Cb.rk_over (zs := Cb.zl xs) hc (by rw [Cb.zl_len, hL, f2]; decide)
      rw [Cb.zl_len, hL, f2] at g2
      rw [f1, f2] at cc
      have CC := Lib.hid cc
      have E1 := Lib.hid g1
      have E2 := Lib.hid g2
      clear hc cc f1 f2 g1 g2 hb hx hL hlen
      go_enter Try.func19, Try.ntmps19
      go_wp2_with fail
      refine (CK.out _ H.out).mono ?_
      rintro e w1 ⟨rfl, j0, hj0⟩
      have HJ := Lib.hid hj0
      clear hj0
      go_wp2_with fail
      refine (CC.out _).mono ?_
      rintro e w' ⟨rfl, rfl⟩
      go_wp2_with fail
      go_ret2
      exact ⟨ret2_int E1.out.symm E2.out.symm, j0, HJ.out⟩
  · obtain ⟨g1, g2⟩ := Cb.rk_bad hc
    obtain ⟨E, eE⟩ : ∃ E, E = Cb.chkE n zs := ⟨_, rfl⟩
    rw [← eE] at ck g2 hc
    have CK := Lib.hid ck
    have hE : (E == 0) = false := by simpa using hc
    have E1 := Lib.hid g1
    have E2 := Lib.hid g2
    clear ck hc g1 g2 eE
    go_enter Try.func19, Try.ntmps19
    go_wp2_with fail
    refine (CK.out _ H.out).mono ?_
    rintro e w1 ⟨rfl, j0, hj0⟩
    have HJ := Lib.hid hj0
    clear hj0
    go_wp2_with fail
    go_ret2
    exact ⟨ret2_int E1.out.symm E2.out.symm, j0, HJ.out⟩
set_option maxHeartbeats 1000000 in
theorem law5_same {B B' len len' c c' : Nat} {A A' : Option Addr} {zs ys : List Int} (w : World) (h : Ints w B A len zs) (h' : Ints w B' A' len' ys) (hl : len ≤ 9223372036854775807) (hl' : len' ≤ 9223372036854775807) :
    Calls Try.prog 22 #[.slice A len c, .slice A' len' c'] w fun e w' => e = .returned (.bool (zs == ys)) ∧ ∃ j, w' = w.drewN j := by
  have H := Lib.hid h
  have H' := Lib.hid h'
  clear h h'
  by_cases hlen : len = len'
  · subst hlen
    have hg : ((len : Int) == (len : Int)) = true := by simp
    go_enter Try.func22, Try.ntmps22
    go_wp2_with fail
    go_loopw [13] (fun i W => ∃ (k r : Nat), k ≤ len ∧ i = .int .i64 (k : Int) ∧ Hid ((zs == ys) = (zs.drop k == ys.drop k)) ∧ W = w.drewN r) (fun i _ => len - (intOf i).toNat)
    case atStart => exact ⟨0, 0, by omega, rfl, by show _ = _; rw [List.drop_zero, List.drop_zero], rfl⟩
    case round =>
      obtain ⟨k, r, hk, rfl, HK, rfl⟩ := hrel
      by_cases hlt : k < len
      · obtain ⟨ad, x, rfl, hb, hc, HX⟩ := H.out.at_ hlt
        obtain ⟨ad', y, rfl, hb', hc', HY⟩ := H'.out.at_ hlt
        have d1 := Cb.drop_at (zs := zs) (k := k) (by rw [H.out.len]; exact hlt)
        have d2 := Cb.drop_at (zs := ys) (k := k) (by rw [H'.out.len]; exact hlt)
        rw [← HX.out] at d1
        rw [← HY.out] at d2
        cases hxy : (x == y)
        · have F : Hid (false = (zs == ys)) := by show _ = _; rw [HK.out, d1, d2, List.cons_beq_cons, hxy]; rfl
          clear d1 d2
          go_wp2_with fail
          go_quiet (fail)
          go_wp2_with fail
          go_ret
          exact ⟨ret_bool F.out, _, drew_drew _ _ _⟩
        · have F : Hid ((zs == ys) = (zs.drop (k + 1) == ys.drop (k + 1))) := by show _ = _; rw [HK.out, d1, d2, List.cons_beq_cons, hxy]; rfl
          clear d1 d2
          go_wp2_with fail
          go_quiet (fail)
          go_wp2_with fail
          go_roundw
          case rel => exact ⟨k + 1, _, by omega, by go_num, F, rfl⟩
          case measure => simp [intOf]; omega
      · have F : Hid (true = (zs == ys)) := by
          show _ = _
          rw [HK.out, List.drop_of_length_le (by rw [H.out.len]; omega), List.drop_of_length_le (by rw [H'.out.len]; omega)]; rfl
        go_wp2_with fail
        go_ret
        exact ⟨ret_bool F.out, r, rfl⟩
  · have F : Hid (false = (zs == ys)) := by
      show _ = _
      rw [eq_comm, Bool.eq_false_iff]
      intro e
      have := eq_of_beq e
      subst this
      exact hlen (H.out.len.symm.trans H'.out.len)
    have hg : ((len : Int) == (len' : Int)) = false := by simp; omega
    go_enter Try.func22, Try.ntmps22
    go_wp2_with fail
    go_ret
    exact ⟨ret_bool F.out, 0, rfl⟩
end Go.Proofs.Ytfjnpmkklanopaa
