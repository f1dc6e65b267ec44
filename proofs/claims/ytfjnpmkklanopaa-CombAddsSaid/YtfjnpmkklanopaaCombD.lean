/- Layer 5: the reference's Unrank and Next. -/
import Derived.Test.YtfjnpmkklanopaaCombC
import Derived.Test.YtfjnpmkklanopaaNatR
namespace Go.Proofs.Ytfjnpmkklanopaa
set_option maxRecDepth 20000
open Go.RowKit
set_option linter.unusedVariables false
set_option linter.unusedSimpArgs false
/-- A row of one's own that reads as a list of numbers. -/
def OwnL (w : World) (N : Nat) (v : Value) (xs : List Nat) : Prop := OwnD w N 3 .i64 v xs.length (fun i => xs.getD i 0)
theorem OwnL.nil (w : World) (N : Nat) : OwnL w N (.slice none 0 0) [] := OwnD.nil _ _ _ _ _
theorem OwnL.snoc {w : World} {N : Nat} {v : Value} {xs : List Nat} {y : Nat} (h : OwnD w N 3 .i64 v (xs.length + 1) (upd (fun i => xs.getD i 0) xs.length y)) : OwnL w N v (xs ++ [y]) := by
  unfold OwnL
  rw [List.length_append, List.length_singleton]
  refine h.congr fun i hi => ?_
  by_cases hx : i < xs.length
  · rw [upd_ne _ _ (by omega)]; simp [List.getD, List.getElem?_append_left hx, hx]
  · rw [show i = xs.length by omega, upd_same]; simp [List.getD]
theorem digs_ints {w : World} {B : Nat} {A : Option Addr} {xs : List Nat} (h : Digs w B .i64 A xs.length (fun i => xs.getD i 0)) : Ints w B A xs.length (Cb.zl xs) := by
  refine ⟨Cb.zl_len xs, fun h0 => ?_⟩
  obtain ⟨ad, e, hb, hc⟩ := h h0
  refine ⟨ad, e, hb, fun j hj => ?_⟩
  rw [hc j hj]
  simp [Cb.zl, List.getD, hj]
theorem OwnL.out {w : World} {N : Nat} {v : Value} {xs : List Nat} (h : OwnL w N v xs) : ∃ A c, v = .slice A xs.length c ∧ xs.length ≤ c ∧ c ≤ 9223372036854775807 ∧ Ints w w.heap.size A xs.length (Cb.zl xs) := by
  obtain ⟨A, c, h1, h2, h3, h4, -⟩ := OwnD.form h
  exact ⟨A, c, h1, h2, h3, digs_ints h4⟩
/-- What a call leaves that answers a list of numbers and another value. -/
def LRes (xs : List Nat) (u : Value) (w : World) (e : Ending) (w' : World) : Prop :=
  ∃ A c, e = .returned (.tuple #[.slice A xs.length c, u]) ∧ Below w.heap.size w w' ∧ Ints w' w'.heap.size A xs.length (Cb.zl xs) ∧ xs.length ≤ c ∧ c ≤ 9223372036854775807
namespace Cb
/-- What Unrank answers. -/
def unE (r n k : Int) : Int := if inn n 80 && inn k n then (if cntE n k = 0 then (if r < 0 ∨ cntV n k ≤ r then 2 else 0) else cntE n k) else 2
def unL (r n k : Int) : List Nat := if unE r n k = 0 then unrk n.toNat n.toNat k.toNat r.toNat else []
theorem un_out {r n k : Int} (h : (inn n 80 && inn k n) = false) : unE r n k = 2 ∧ unL r n k = [] := by
  have e : unE r n k = 2 := by rw [unE, h]; rfl
  exact ⟨e, by rw [unL, e]; rfl⟩
theorem un_over {r n k : Int} (h : (inn n 80 && inn k n) = true) (h' : cntE n k ≠ 0) : unE r n k = cntE n k ∧ unL r n k = [] := by
  have e : unE r n k = cntE n k := by rw [unE, h, if_pos rfl, if_neg h']
  exact ⟨e, by rw [unL, e, if_neg h']⟩
theorem un_rank {r n k : Int} (h : (inn n 80 && inn k n) = true) (h' : cntE n k = 0) (hr : r < 0 ∨ cntV n k ≤ r) : unE r n k = 2 ∧ unL r n k = [] := by
  have e : unE r n k = 2 := by rw [unE, h, if_pos rfl, if_pos h', if_pos hr]
  exact ⟨e, by rw [unL, e]; rfl⟩
theorem un_ok {r n k : Int} (h : (inn n 80 && inn k n) = true) (h' : cntE n k = 0) (hr : ¬ (r < 0 ∨ cntV n k ≤ r)) : unE r n k = 0 ∧ unL r n k = unrk n.toNat n.toNat k.toNat r.toNat := by
  have e : unE r n k = 0 := by rw [unE, h, if_pos rfl, if_pos h', if_neg hr]
  exact ⟨e, by rw [unL, e, if_pos rfl]⟩
/-- A round of Unrank. -/
theorem un_step {N v m K r : Nat} (hv0 : 1 ≤ v) (hv : v ≤ N) (hm : m < K) (hr : r < bin (N + 1 - v) (K - m)) (hb : bin (N + 1 - v) (K - m) ≤ 9223372036854775807) :
    K - 1 - m ≤ N - v ∧ bin (N - v) (K - 1 - m) ≤ 9223372036854775807 ∧
    (r < bin (N - v) (K - 1 - m) → unrk N (N + 1 - v) (K - m) r = v :: unrk N (N + 1 - (v + 1)) (K - (m + 1)) r ∧ bin (N + 1 - (v + 1)) (K - (m + 1)) ≤ 9223372036854775807 ∧ r < bin (N + 1 - (v + 1)) (K - (m + 1))) ∧
    (¬ r < bin (N - v) (K - 1 - m) → unrk N (N + 1 - v) (K - m) r = unrk N (N + 1 - (v + 1)) (K - m) (r - bin (N - v) (K - 1 - m)) ∧ bin (N + 1 - (v + 1)) (K - m) ≤ 9223372036854775807 ∧ r - bin (N - v) (K - 1 - m) < bin (N + 1 - (v + 1)) (K - m)) := by
  obtain ⟨M, hM⟩ : ∃ M, N - v = M := ⟨_, rfl⟩
  obtain ⟨k, hk⟩ : ∃ k, K - 1 - m = k := ⟨_, rfl⟩
  rw [show N + 1 - v = M + 1 by omega, show K - m = k + 1 by omega] at hr hb
  rw [show N + 1 - v = M + 1 by omega, show K - m = k + 1 by omega, hM, hk, show N + 1 - (v + 1) = M by omega, show K - (m + 1) = k by omega]
  have hkM : k ≤ M := by
    rcases Nat.lt_or_ge M k with h | h
    · rw [bin_gt (show M + 1 < k + 1 by omega)] at hr; omega
    · exact h
  rw [bin_succ] at hr hb
  refine ⟨hkM, by omega, fun h => ⟨?_, by omega, h⟩, fun h => ⟨unrk_no h, by omega, by omega⟩⟩
  rw [unrk_yes h, show N - M = v by omega]
theorem un_end {N v m K r : Nat} (h : N < v ∨ K ≤ m) (hr : r < bin (N + 1 - v) (K - m)) : unrk N (N + 1 - v) (K - m) r = [] := by
  rcases h with h | h
  · rw [show N + 1 - v = 0 by omega]; rfl
  · rw [show K - m = 0 by omega, unrk_zero]
/-- What Next answers. -/
def nxO (n : Int) (zs : List Int) : Option (List Nat) := if chkE n zs = 0 then nxt n.toNat (nl zs) else none
theorem nxt_take {n : Nat} : ∀ {xs u : List Nat} {i : Nat}, nxt n (xs.drop i) = some u → nxt n xs = some (xs.take i ++ u)
  | xs, u, 0, h => by simpa using h
  | [], u, i + 1, h => by rw [List.drop_nil] at h; rw [h]; simp
  | x :: t, u, i + 1, h => by
    have := nxt_take (xs := t) (i := i) (by simpa using h)
    rw [nxt_some this]; rfl
theorem run_snoc : ∀ a k, run a (k + 1) = run a k ++ [a + k]
  | a, 0 => rfl
  | a, k + 1 => by
    rw [run, run_snoc (a + 1) k, run, show a + 1 + k = a + (k + 1) by omega]; rfl
theorem take_snoc {xs : List Nat} {i : Nat} (h : i < xs.length) : xs.take (i + 1) = xs.take i ++ [xs.getD i 0] := by
  rw [List.take_succ_eq_append_getElem h]; simp [List.getD, h]
theorem zl_getD {xs : List Nat} {i : Nat} (h : i < xs.length) : (zl xs).getD i 0 = ((xs.getD i 0 : Nat) : Int) := by simp [zl, List.getD, h]
theorem asc_drop {n : Nat} : ∀ {a : Nat} {xs : List Nat} {i : Nat}, Asc n a xs → i < xs.length → 1 ≤ xs.getD i 0 ∧ xs.getD i 0 + (xs.length - 1 - i) ≤ n
  | a, x :: t, 0, h, _ => by
    have := asc_len h.2.2 h.2.1
    have := h.1
    show 1 ≤ x ∧ x + (t.length + 1 - 1 - 0) ≤ n
    omega
  | a, x :: t, i + 1, h, hi => by
    have := asc_drop (xs := t) (i := i) h.2.2 (by simpa using hi)
    rw [List.length_cons, show t.length + 1 - 1 - (i + 1) = t.length - 1 - i by omega]
    simpa using this
end Cb
set_option maxHeartbeats 2000000 in
theorem ref5_Unrank (r n k : Int) (hr0 : -9223372036854775808 ≤ r) (hr1 : r ≤ 9223372036854775807) (hk0 : -9223372036854775808 ≤ k) (hk1 : k ≤ 9223372036854775807) (w : World) :
    Calls Try.prog 24 #[.int .i64 r, .int .i64 n, .int .i64 k] w (LRes (Cb.unL r n k) (.int .i64 (Cb.unE r n k)) w) := by
  cases hn : Cb.inn n 80
  · obtain ⟨e1, e2⟩ := Cb.un_out (r := r) (n := n) (k := k) (by rw [hn]; rfl)
    rw [e1, e2]
    have I1 := Lib.hid fun w => ref5_in_is hn w
    clear e1 e2 hn
    go_enter Try.func24, Try.ntmps24
    go_wp2_with fail
    refine (I1.out _).mono ?_
    rintro e w' ⟨rfl, rfl⟩
    go_wp2_with fail
    go_ret2
    exact ⟨none, 0, rfl, Below.refl _ _, Ints.none_, by decide, by omega⟩
  · have I1 := Lib.hid fun w => ref5_in_is hn w
    cases hk : Cb.inn k n
    · obtain ⟨e1, e2⟩ := Cb.un_out (r := r) (n := n) (k := k) (by rw [hn, hk]; rfl)
      rw [e1, e2]
      have I2 := Lib.hid fun w => ref5_in_is hk w
      clear e1 e2 hn hk
      go_enter Try.func24, Try.ntmps24
      go_wp2_with fail
      refine (I1.out _).mono ?_
      rintro e w' ⟨rfl, rfl⟩
      go_wp2_with fail
      refine (I2.out _).mono ?_
      rintro e w' ⟨rfl, rfl⟩
      go_wp2_with fail
      go_ret2
      exact ⟨none, 0, rfl, Below.refl _ _, Ints.none_, by decide, by omega⟩
    · have I2 := Lib.hid fun w => ref5_in_is hk w
      have hv : (Cb.inn n 80 && Cb.inn k n) = true := by rw [hn, hk]; rfl
      obtain ⟨n0, n1⟩ := Cb.inn_iff.1 hn
      obtain ⟨k0, k1⟩ := Cb.inn_iff.1 hk
      have c1 := fun W => ref5_Count n k hk0 hk1 W
      by_cases hb : Cb.val n k ≤ 9223372036854775807
      · obtain ⟨f1, f2⟩ := Cb.cnt_ok hn hk hb
        by_cases hr : r < 0 ∨ Cb.cntV n k ≤ r
        · obtain ⟨e1, e2⟩ := Cb.un_rank hv f2 hr
          rw [e1, e2]
          rw [f2] at c1
          obtain ⟨C, eC⟩ : ∃ C, C = Cb.cntV n k := ⟨_, rfl⟩
          rw [← eC] at c1 hr
          have C1 := Lib.hid c1
          clear c1 e1 e2 hn hk hv f1 f2 eC
          by_cases h0 : r < 0
          · clear hr
            go_enter Try.func24, Try.ntmps24
            go_wp2_with fail
            refine (I1.out _).mono ?_
            rintro e w' ⟨rfl, rfl⟩
            go_wp2_with fail
            refine (I2.out _).mono ?_
            rintro e w' ⟨rfl, rfl⟩
            go_wp2_with fail
            refine (C1.out _).mono ?_
            rintro e w' ⟨rfl, rfl⟩
            go_wp2_with fail
            go_ret2
            exact ⟨none, 0, rfl, Below.refl _ _, Ints.none_, by decide, by omega⟩
          · have hr2 : C ≤ r := by omega
            clear hr
            go_enter Try.func24, Try.ntmps24
            go_wp2_with fail
            refine (I1.out _).mono ?_
            rintro e w' ⟨rfl, rfl⟩
            go_wp2_with fail
            refine (I2.out _).mono ?_
            rintro e w' ⟨rfl, rfl⟩
            go_wp2_with fail
            refine (C1.out _).mono ?_
            rintro e w' ⟨rfl, rfl⟩
            go_wp2_with fail
            go_ret2
            exact ⟨none, 0, rfl, Below.refl _ _, Ints.none_, by decide, by omega⟩
        · obtain ⟨e1, e2⟩ := Cb.un_ok hv f2 hr
          rw [e1]
          obtain ⟨N, eN⟩ : ∃ N : Nat, n = (N : Int) := ⟨n.toNat, by omega⟩
          obtain ⟨K, eK⟩ : ∃ K : Nat, k = (K : Int) := ⟨k.toNat, by omega⟩
          obtain ⟨R, eR⟩ : ∃ R : Nat, r = (R : Int) := ⟨r.toNat, by omega⟩
          subst eN eK eR
          rw [Int.toNat_natCast, Int.toNat_natCast, Int.toNat_natCast] at e2
          obtain ⟨C, eC⟩ : ∃ C, C = Cb.cntV (N : Int) (K : Int) := ⟨_, rfl⟩
          have hbN : Cb.bin N K ≤ 9223372036854775807 := hb
          have f3 : Cb.cntV (N : Int) (K : Int) = (Cb.bin N K : Nat) := f1
          have hRC : R < Cb.bin N K := by omega
          rw [f2, ← eC] at c1
          have hr0 : ¬ (R : Int) < 0 := by omega
          have hr1 : ¬ C ≤ (R : Int) := by omega
          have C1 := Lib.hid c1
          have E2 := Lib.hid e2
          have N80 : N ≤ 80 := by omega
          have KN : K ≤ N := by omega
          have R1 : Hid (Cb.unrk N N K R = [] ++ Cb.unrk N (N + 1 - 1) (K - 0) R) := rfl
          have R2 : Hid (R < Cb.bin (N + 1 - 1) (K - 0)) := hRC
          have R3 : Hid (Cb.bin (N + 1 - 1) (K - 0) ≤ 9223372036854775807) := hbN
          have R63 : R ≤ 9223372036854775807 := by omega
          clear c1 e1 e2 hn hk hv f1 f2 f3 eC hr hb hbN hRC
          go_enter Try.func24, Try.ntmps24
          go_wp2_with fail
          refine (I1.out _).mono ?_
          rintro e w' ⟨rfl, rfl⟩
          go_wp2_with fail
          refine (I2.out _).mono ?_
          rintro e w' ⟨rfl, rfl⟩
          go_wp2_with fail
          refine (C1.out _).mono ?_
          rintro e w' ⟨rfl, rfl⟩
          go_wp2_with fail
          go_loopw [0, 10, 11] (fun r l v W => ∃ (q u m c : Nat) (A : Option Addr) (xs : List Nat), r = .int .i64 (q : Int) ∧ l = .slice A m c ∧ v = .int .i64 (u : Int) ∧ 1 ≤ u ∧ u ≤ N + 1 ∧ m ≤ K ∧ m ≤ c ∧ c ≤ 9223372036854775807 ∧ q ≤ 9223372036854775807 ∧ Hid (xs.length = m) ∧ Hid (OwnL W w.heap.size (.slice A m c) xs) ∧ Hid (Below w.heap.size w W) ∧ Hid (Cb.unrk N N K R = xs ++ Cb.unrk N (N + 1 - u) (K - m) q) ∧ Hid (q < Cb.bin (N + 1 - u) (K - m)) ∧ Hid (Cb.bin (N + 1 - u) (K - m) ≤ 9223372036854775807)) (fun _ _ v _ => 100 - (intOf v).toNat)
          case atStart => exact ⟨R, 1, 0, 0, none, [], rfl, rfl, rfl, by omega, by omega, by omega, by omega, by omega, R63, rfl, OwnL.nil _ _, Below.refl _ _, R1, R2, R3⟩
          case round =>
            obtain ⟨q, u, m, c, A, xs, rfl, rfl, rfl, u1, u2, hm, hmc, hcm, hq, HL, HO, HB, HU, HQ, HM⟩ := hrel
            by_cases hgo : u ≤ N ∧ m < K
            · obtain ⟨g1, g2⟩ := hgo
              obtain ⟨s1, s2, s3, s4⟩ := Cb.un_step u1 g1 g2 HQ.out HM.out
              have hu : (u : Int) ≤ (N : Int) := by omega
              have hmk : (m : Int) < (K : Int) := by omega
              obtain ⟨M, hM⟩ : ∃ M : Nat, M = N - u := ⟨_, rfl⟩
              obtain ⟨P, hP⟩ : ∃ P : Nat, P = K - 1 - m := ⟨_, rfl⟩
              have hnu : (N : Int) - (u : Int) = (M : Int) := by omega
              have hkm : (K : Int) - 1 - (m : Int) = (P : Int) := by omega
              rw [← hM, ← hP] at s1 s2 s3 s4
              obtain ⟨f1, f2⟩ := Cb.cnt_nat (n := M) (k := P) (by omega) s1 s2
              have c2 := fun W => ref5_Count (M : Int) (P : Int) (by omega) (by omega) W
              rw [f1, f2] at c2
              obtain ⟨D, eD⟩ : ∃ D : Nat, D = Cb.bin M P := ⟨_, rfl⟩
              rw [← eD] at c2 s2 s3 s4
              have C2 := Lib.hid c2
              by_cases hqd : q < D
              · obtain ⟨t1, t2, t3⟩ := s3 hqd
                have hqd2 : (q : Int) < (D : Int) := by omega
                have HU2 : Hid (Cb.unrk N N K R = (xs ++ [u]) ++ Cb.unrk N (N + 1 - (u + 1)) (K - (m + 1)) q) := by show _ = _; rw [HU.out, t1]; simp
                have HQ2 := Lib.hid t3
                have HM2 := Lib.hid t2
                have HS := Lib.hid HB.out.size
                clear c2 f1 f2 eD s1 s2 s3 s4 hM hP t1 t2 t3 hqd
                go_wp2_with fail
                refine (C2.out _).mono ?_
                rintro e w' ⟨rfl, rfl⟩
                go_wp2_with (at_builtin; refine Hid.out ?_)
                refine Lib.hid (wpList_app rfl (.tmp 65) (.tmp 67) 37 3 .i64 8 rfl Try.underlying37 info_i64 (by omega) w.heap.size (.slice A m c) m (fun i => xs.getD i 0) u _ rfl rfl (by have := HO.out; unfold OwnL at this; rw [HL.out] at this; exact this) rfl (by omega) HS.out ?_)
                intro v' w2 hown hb2 hloc hgr
                have ho : OwnL w2 w.heap.size v' (xs ++ [u]) := OwnL.snoc (by rw [HL.out]; exact hown)
                obtain ⟨A2, c2, rfl, q1, q2, -⟩ := ho.out
                have hl2 : (xs ++ [u]).length = m + 1 := by rw [List.length_append, List.length_singleton, HL.out]
                rw [hl2] at q1
                rw [hl2] at ho ⊢
                have HO2 := Lib.hid ho
                have HB2 := Lib.hid (HB.out.trans hb2)
                have HL2 := Lib.hid hl2
                clear hown hb2 hloc hgr ho hl2
                go_wp2_with fail
                go_roundw
                case rel => exact ⟨q, u + 1, m + 1, c2, A2, xs ++ [u], rfl, rfl, by go_num, by omega, by omega, by omega, q1, q2, hq, HL2, HO2, HB2, HU2, HQ2, HM2⟩
                case measure => simp [intOf]; omega
              · obtain ⟨t1, t2, t3⟩ := s4 hqd
                have hqd2 : ¬ (q : Int) < (D : Int) := by omega
                obtain ⟨Q, eQ⟩ : ∃ Q : Nat, Q = q - D := ⟨_, rfl⟩
                rw [← eQ] at t1 t3
                have hqD : (q : Int) - (D : Int) = (Q : Int) := by omega
                have hQ63 : Q ≤ 9223372036854775807 := by omega
                have HU2 : Hid (Cb.unrk N N K R = xs ++ Cb.unrk N (N + 1 - (u + 1)) (K - m) Q) := by show _ = _; rw [HU.out, t1]
                have HQ2 := Lib.hid t3
                have HM2 := Lib.hid t2
                clear c2 f1 f2 eD s1 s3 s4 hM hP t1 t2 t3 hqd eQ
                go_wp2_with fail
                refine (C2.out _).mono ?_
                rintro e w' ⟨rfl, rfl⟩
                go_wp2_with fail
                go_roundw
                case rel => exact ⟨Q, u + 1, m, c, A, xs, rfl, rfl, by go_num, by omega, by omega, hm, hmc, hcm, hQ63, HL, HO, HB, HU2, HQ2, HM2⟩
                case measure => simp [intOf]; omega
            · have hend := Cb.un_end (N := N) (v := u) (m := m) (K := K) (by omega) HQ.out
              have hxs : Cb.unL (R : Int) (N : Int) (K : Int) = xs := by rw [E2.out, HU.out, hend, List.append_nil]
              obtain ⟨A2, c2, h1, h2, h3, h4⟩ := HO.out.out
              rw [HL.out] at h1 h2 h4
              injection h1 with h1a h1b h1c
              subst h1a h1c
              have HI := Lib.hid h4
              have HX := Lib.hid hxs
              clear hend hxs h4 h1b
              have fin : LRes (Cb.unL (R : Int) (N : Int) (K : Int)) (.int .i64 0) w (.returned (.tuple #[.slice A m c, .int .i64 0])) wr := by
                rw [HX.out]
                exact ⟨A, c, by rw [HL.out], HB.out, by rw [HL.out]; exact HI.out, by rw [HL.out]; exact hmc, hcm⟩
              have FIN := Lib.hid fin
              clear fin
              by_cases g1 : u ≤ N
              · have hu : (u : Int) ≤ (N : Int) := by omega
                have hmk : ¬ (m : Int) < (K : Int) := by omega
                clear hgo
                go_wp2_with fail
                go_ret2
                exact FIN.out
              · have hu : ¬ (u : Int) ≤ (N : Int) := by omega
                clear hgo
                go_wp2_with fail
                go_ret2
                exact FIN.out
      · obtain ⟨f1, f2⟩ := Cb.cnt_big hn hk (by omega)
        obtain ⟨e1, e2⟩ := Cb.un_over (r := r) hv (by rw [f2]; decide)
        rw [f2] at e1
        rw [e1, e2]
        rw [f1, f2] at c1
        have C1 := Lib.hid c1
        clear c1 e1 e2 hn hk hv f1 f2 hb
        go_enter Try.func24, Try.ntmps24
        go_wp2_with fail
        refine (I1.out _).mono ?_
        rintro e w' ⟨rfl, rfl⟩
        go_wp2_with fail
        refine (I2.out _).mono ?_
        rintro e w' ⟨rfl, rfl⟩
        go_wp2_with fail
        refine (C1.out _).mono ?_
        rintro e w' ⟨rfl, rfl⟩
        go_wp2_with fail
        go_ret2
        exact ⟨none, 0, rfl, Below.refl _ _, Ints.none_, by decide, by omega⟩
set_option maxHeartbeats 2000000 in
theorem ref5_Next {len c : Nat} {A : Option Addr} {zs : List Int} (n : Int) (w : World) (h : Ints w w.heap.size A len zs) (hl : len ≤ 9223372036854775807) :
    Calls Try.prog 21 #[.slice A len c, .int .i64 n] w (LRes ((Cb.nxO n zs).getD []) (.bool (Cb.nxO n zs).isSome) w) := by
  have ck := fun W (h : Ints W w.heap.size A len zs) => ref5_Check (c := c) n W h hl
  have H := Lib.hid h
  clear h
  by_cases hc : Cb.chkE n zs = 0
  · obtain ⟨N, xs, rfl, rfl, hx, hN, hlen⟩ := Cb.chkE_ok hc
    have hL : xs.length = len := by rw [← Cb.zl_len]; exact H.out.len
    have e : Cb.nxO (N : Int) (Cb.zl xs) = Cb.nxt N xs := by rw [Cb.nxO, if_pos hc, Int.toNat_natCast, Cb.nl_zl]
    rw [e]
    rw [hc] at ck
    have CK := Lib.hid ck
    have HX := Lib.hid hx
    have HL := Lib.hid hL
    have N80 : N ≤ 80 := hN
    have L80 : len ≤ N := by omega
    have J0 : Hid (Cb.nxt N (xs.drop len) = none) := by show _ = _; rw [List.drop_of_length_le (by omega)]; rfl
    clear ck hc e hx hL hN hlen
    go_enter Try.func21, Try.ntmps21
    go_wp2_with fail
    refine (CK.out _ H.out).mono ?_
    rintro e w1 ⟨rfl, j0, hj0⟩
    have H1 : Hid (Ints w1 w.heap.size A len (Cb.zl xs)) := by rw [hj0]; exact H.out.drewN j0
    have B1 : Hid (Below w.heap.size w w1) := by rw [hj0]; exact below_drewN w j0
    clear hj0
    go_wp2_with fail
    go_loopw [6] (fun i W => ∃ (p : Nat) (v : Int), i = .int .i64 v ∧ v < p ∧ (p : Int) ≤ v + 1 ∧ p ≤ len ∧ Hid (Cb.nxt N (xs.drop p) = none) ∧ W = w1) (fun i _ => (intOf i + 1).toNat)
    case atStart => exact ⟨len, (len : Int) - 1, rfl, by omega, by omega, by omega, J0, rfl⟩
    case round =>
      obtain ⟨p, v, rfl, v1, v2, hp, HN, rfl⟩ := hrel
      rcases p with _ | q
      · obtain rfl : v = -1 := by omega
        have hn : Cb.nxt N xs = none := by have := HN.out; rwa [List.drop_zero] at this
        have HN2 := Lib.hid hn
        clear hn
        go_wp2_with fail
        go_ret2
        rw [HN2.out]
        exact ⟨none, 0, rfl, B1.out, Ints.none_, by decide, by omega⟩
      · obtain rfl : v = (q : Int) := by omega
        have hq : q < len := by omega
        obtain ⟨ad, X, rfl, hb, hcell, HXX⟩ := H1.out.at_ hq
        obtain ⟨x, t, hd, hgx, ht, htl⟩ := Cb.zl_at (xs := xs) (i := q) (by rw [HL.out]; exact hq)
        have hXx : X = (x : Int) := HXX.out.trans hgx
        obtain ⟨a1, a2⟩ := Cb.asc_drop HX.out (i := q) (by rw [HL.out]; exact hq)
        have hxg : xs.getD q 0 = x := by
          have := Cb.zl_getD (xs := xs) (i := q) (by rw [HL.out]; exact hq)
          rw [this] at hgx
          exact Int.ofNat_inj.1 hgx
        rw [hxg] at a1 a2
        have htl' : t.length = len - 1 - q := by have := HL.out; omega
        obtain ⟨tl, etl⟩ : ∃ tl : Nat, tl = len - 1 - q := ⟨_, rfl⟩
        obtain ⟨mx, emx⟩ : ∃ mx : Nat, mx = N - tl := ⟨_, rfl⟩
        have e1 : (len : Int) - 1 - (q : Int) = (tl : Int) := by omega
        have e2 : (N : Int) - (tl : Int) = (mx : Int) := by omega
        have q0 : (0 : Int) ≤ (q : Int) := by omega
        have q1 : (q : Int) < (len : Int) := by omega
        have X0 : 1 ≤ X := by omega
        have X1 : X ≤ 80 := by omega
        have hnt : Cb.nxt N t = none := by rw [ht]; exact HN.out
        by_cases hmx : x + t.length < N
        · have hne : (X == (mx : Int)) = false := by rw [beq_eq_false_iff_ne]; have := HL.out; omega
          have hnx : Cb.nxt N xs = some (xs.take q ++ Cb.run (x + 1) (len - q)) := by
            have := Cb.nxt_here hnt hmx
            rw [← hd] at this
            rw [Cb.nxt_take this, show t.length + 1 = len - q by omega]
          have HNX := Lib.hid hnx
          have HXx := Lib.hid hXx
          have hx1 : X ≤ (x : Int) := by omega
          have hx2 : (x : Int) ≤ X := by omega
          have HOx := Lib.hid hxg
          clear hd hgx ht htl hXx a1 a2 hxg htl' etl emx hnt hmx hnx
          go_wp2_with fail
          go_loopw [7, 8] (fun l i W => ∃ (k c' : Nat) (A' : Option Addr), k ≤ q ∧ l = .slice A' k c' ∧ i = .int .i64 (k : Int) ∧ k ≤ c' ∧ c' ≤ 9223372036854775807 ∧ Hid (OwnL W w.heap.size (.slice A' k c') (xs.take k)) ∧ Hid (Below w.heap.size w W)) (fun _ i _ => q - (intOf i).toNat)
          case atStart => exact ⟨0, 0, none, by omega, rfl, rfl, by omega, by omega, OwnL.nil _ _, B1.out⟩
          case round =>
            obtain ⟨k, c', A', hk, rfl, rfl, hkc, hcm, HO, HB⟩ := hrel
            by_cases hlt : k < q
            · obtain ⟨ad2, Y, he, hb2, hcell2, HY⟩ := (H.out.below HB.out).at_ (k := k) (by omega)
              obtain rfl : ad = ad2 := by injection he
              have hkx : k < xs.length := by rw [HL.out]; omega
              have hYn : Y = ((xs.getD k 0 : Nat) : Int) := HY.out.trans (Cb.zl_getD hkx)
              have HYN := Lib.hid hYn
              have HS := Lib.hid HB.out.size
              have htk := Cb.take_snoc hkx
              have HTK := Lib.hid htk
              have hln : (xs.take k).length = k := by rw [List.length_take]; omega
              have HLN := Lib.hid hln
              clear he hYn htk hln
              go_wp2_with (at_builtin; refine Hid.out ?_)
              refine Lib.hid (wpList_app rfl (.tmp 42) (.tmp 47) 37 3 .i64 8 rfl Try.underlying37 info_i64 (by omega) w.heap.size (.slice A' k c') k (fun i => (xs.take k).getD i 0) (xs.getD k 0) _ HYN.out rfl (by have := HO.out; unfold OwnL at this; rw [HLN.out] at this; exact this) rfl (by omega) HS.out ?_)
              intro v' w2 hown hb3 hloc hgr
              have ho : OwnL w2 w.heap.size v' (xs.take (k + 1)) := by rw [HTK.out]; exact OwnL.snoc (by rw [HLN.out]; exact hown)
              obtain ⟨A2, c2, rfl, r1, r2, -⟩ := ho.out
              have hl2 : (xs.take (k + 1)).length = k + 1 := by rw [List.length_take]; omega
              rw [hl2] at r1
              rw [hl2] at ho ⊢
              have HO2 := Lib.hid ho
              have HB2 := Lib.hid (HB.out.trans hb3)
              clear hown hb3 hloc hgr ho hl2
              go_wp2_with fail
              go_roundw
              case rel => exact ⟨k + 1, c2, A2, by omega, rfl, by go_num, r1, r2, HO2, HB2⟩
              case measure => simp [intOf]; omega
            · obtain rfl : k = q := by omega
              have HO3 : Hid (OwnL wr w.heap.size (.slice A' k c') (xs.take k ++ Cb.run (x + 1) (k - k))) := by show OwnL _ _ _ _; rw [Nat.sub_self]; show OwnL _ _ _ (_ ++ []); rw [List.append_nil]; exact HO.out
              go_wp2_with fail
              go_loopw [7, 9] (fun l i W => ∃ (j c' : Nat) (A' : Option Addr), k ≤ j ∧ j ≤ len ∧ l = .slice A' j c' ∧ i = .int .i64 (j : Int) ∧ j ≤ c' ∧ c' ≤ 9223372036854775807 ∧ Hid (OwnL W w.heap.size (.slice A' j c') (xs.take k ++ Cb.run (x + 1) (j - k))) ∧ Hid (Below w.heap.size w W)) (fun _ i _ => len - (intOf i).toNat)
              case atStart => exact ⟨k, c', A', by omega, by omega, rfl, rfl, hkc, hcm, HO3, HB⟩
              case round =>
                clear HO HO3 HB hkc hcm
                obtain ⟨j, c', A', hkj, hj, rfl, rfl, hjc, hcm, HO, HB⟩ := hrel
                have hln : (xs.take k ++ Cb.run (x + 1) (j - k)).length = j := by rw [List.length_append, List.length_take, Cb.run_len, HL.out]; omega
                have HLN := Lib.hid hln
                clear hln
                by_cases hlt : j < len
                · obtain ⟨ad2, Y, he, hb2, hcell2, HY⟩ := (H.out.below HB.out).at_ hq
                  obtain rfl : ad = ad2 := by injection he
                  obtain rfl : X = Y := HXX.out.trans HY.out.symm
                  have HS := Lib.hid HB.out.size
                  obtain ⟨y, ey⟩ : ∃ y : Nat, y = x + 1 + (j - k) := ⟨_, rfl⟩
                  have hyy : X + 1 + (j : Int) - (k : Int) = (y : Int) := by omega
                  have hrun : Cb.run (x + 1) (j + 1 - k) = Cb.run (x + 1) (j - k) ++ [y] := by rw [show j + 1 - k = (j - k) + 1 by omega, Cb.run_snoc, ey]
                  have HRUN := Lib.hid hrun
                  clear he hrun ey
                  go_wp2_with (at_builtin; refine Hid.out ?_)
                  refine Lib.hid (wpList_app rfl (.tmp 56) (.tmp 66) 37 3 .i64 8 rfl Try.underlying37 info_i64 (by omega) w.heap.size (.slice A' j c') j (fun i => (xs.take k ++ Cb.run (x + 1) (j - k)).getD i 0) y _ rfl rfl (by have := HO.out; unfold OwnL at this; rw [HLN.out] at this; exact this) rfl (by omega) HS.out ?_)
                  intro v' w2 hown hb3 hloc hgr
                  have ho : OwnL w2 w.heap.size v' (xs.take k ++ Cb.run (x + 1) (j + 1 - k)) := by rw [HRUN.out, ← List.append_assoc]; exact OwnL.snoc (by rw [HLN.out]; exact hown)
                  obtain ⟨A2, c2, rfl, r1, r2, -⟩ := ho.out
                  have hl2 : (xs.take k ++ Cb.run (x + 1) (j + 1 - k)).length = j + 1 := by rw [HRUN.out, ← List.append_assoc, List.length_append, HLN.out]; rfl
                  rw [hl2] at r1
                  rw [hl2] at ho ⊢
                  have HO2 := Lib.hid ho
                  have HB2 := Lib.hid (HB.out.trans hb3)
                  clear hown hb3 hloc hgr ho hl2
                  go_wp2_with fail
                  go_roundw
                  case rel => exact ⟨j + 1, c2, A2, by omega, by omega, rfl, by go_num, r1, r2, HO2, HB2⟩
                  case measure => simp [intOf]; omega
                · obtain rfl : j = len := by omega
                  obtain ⟨A2, c2, h1, h2, h3, h4⟩ := HO.out.out
                  rw [HLN.out] at h1 h2 h4
                  injection h1 with h1a h1b h1c
                  subst h1a h1c
                  have fin : LRes ((Cb.nxt N xs).getD []) (.bool (Cb.nxt N xs).isSome) w (.returned (.tuple #[.slice A' j c', .bool true])) wr := by
                    rw [HNX.out]
                    show LRes (xs.take k ++ Cb.run (x + 1) (j - k)) _ _ _ _
                    exact ⟨A', c', by rw [HLN.out]; rfl, HB.out, by rw [HLN.out]; exact h4, by rw [HLN.out]; exact hjc, hcm⟩
                  have FIN := Lib.hid fin
                  clear fin h4 h1b
                  go_wp2_with fail
                  go_ret2
                  exact FIN.out
        · have hne : (X == (mx : Int)) = true := by rw [beq_iff_eq]; have := HL.out; omega
          have hnx : Cb.nxt N (xs.drop q) = none := by rw [hd]; exact Cb.nxt_none hnt hmx
          have HNX := Lib.hid hnx
          clear hd hgx ht htl hXx a1 a2 hxg htl' etl emx hnt hmx hnx
          go_wp2_with fail
          go_roundw
          case rel => exact ⟨q, (q : Int) - 1, rfl, by omega, by omega, by omega, HNX, trivial⟩
          case measure => simp [intOf]
  · have e : Cb.nxO n zs = none := if_neg hc
    rw [e]
    obtain ⟨E, eE⟩ : ∃ E, E = Cb.chkE n zs := ⟨_, rfl⟩
    rw [← eE] at ck hc
    have CK := Lib.hid ck
    have hE : (E == 0) = false := by simpa using hc
    clear ck hc e eE
    go_enter Try.func21, Try.ntmps21
    go_wp2_with fail
    refine (CK.out _ H.out).mono ?_
    rintro e w1 ⟨rfl, j0, hj0⟩
    have B1 : Hid (Below w.heap.size w w1) := by rw [hj0]; exact below_drewN w j0
    clear hj0
    go_wp2_with fail
    go_ret2
    exact ⟨none, 0, rfl, B1.out, Ints.none_, by decide, by omega⟩
end Go.Proofs.Ytfjnpmkklanopaa
