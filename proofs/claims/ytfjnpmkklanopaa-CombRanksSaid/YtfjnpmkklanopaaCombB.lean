/- Layer 5: the reference's Hits and Check. -/
import Derived.Test.YtfjnpmkklanopaaCombA
import Derived.BigQuiet
namespace Go.Proofs.Ytfjnpmkklanopaa
set_option maxRecDepth 20000
open Go.RowKit
set_option linter.unusedVariables false
set_option linter.unusedSimpArgs false
namespace Cb
theorem hit_n {n k d h : Int} (hv : (inn n 80 && inn d n) = false) : hitV n k d h = 0 ∧ hitE n k d h = 2 := by simp [hitV, hitE, hv]
theorem hit_k {n k d h : Int} (hv : (inn n 80 && inn d n) = true) (ho : hitO n k d h = false) : hitV n k d h = 0 ∧ hitE n k d h = 0 := by simp [hitV, hitE, hv, ho]
theorem hit_big {n k d h : Int} (hv : (inn n 80 && inn d n) = true) (ho : hitO n k d h = true) (hb : 9223372036854775807 < hitP n k d h) : hitV n k d h = 0 ∧ hitE n k d h = 9 := by
  have : ¬ hitP n k d h ≤ 9223372036854775807 := by omega
  simp [hitV, hitE, hv, ho, this]
theorem hit_ok {n k d h : Int} (hv : (inn n 80 && inn d n) = true) (ho : hitO n k d h = true) (hb : hitP n k d h ≤ 9223372036854775807) : hitV n k d h = (hitP n k d h : Nat) ∧ hitE n k d h = 0 := by
  simp [hitV, hitE, hv, ho, hb]
theorem val_pos {n k : Int} (h : inn k n = true) : 1 ≤ val n k := by
  have := inn_iff.1 h
  exact bin_pos (by omega)
/-- What a check of a list's elements answers, above a. -/
def chk (n : Int) : Int → List Int → Int
  | _, [] => 0
  | a, x :: t => if x < 1 ∨ n < x then 2 else if x ≤ a then 1 else chk n x t
theorem chk_out {n a x : Int} {t : List Int} (h : x < 1 ∨ n < x) : chk n a (x :: t) = 2 := if_pos h
theorem chk_low {n a x : Int} {t : List Int} (h : ¬ (x < 1 ∨ n < x)) (h' : x ≤ a) : chk n a (x :: t) = 1 := by rw [chk, if_neg h, if_pos h']
theorem chk_next {n a x : Int} {t : List Int} (h : ¬ (x < 1 ∨ n < x)) (h' : ¬ x ≤ a) : chk n a (x :: t) = chk n x t := by rw [chk, if_neg h, if_neg h']
def chkE (n : Int) (zs : List Int) : Int := if inn n 80 then chk n 0 zs else 2
/-- The element before k, or 0. -/
def prev (zs : List Int) (k : Nat) : Int := if k = 0 then 0 else zs.getD (k - 1) 0
theorem prev_zero (zs : List Int) : prev zs 0 = 0 := rfl
theorem prev_succ (zs : List Int) (k : Nat) : prev zs (k + 1) = zs.getD k 0 := by simp [prev]
theorem drop_at {zs : List Int} {k : Nat} (h : k < zs.length) : zs.drop k = zs.getD k 0 :: zs.drop (k + 1) := by
  rw [List.drop_eq_getElem_cons h]; simp [List.getD, h]
theorem chk_two (n a : Int) : ∀ zs, chk n a zs = 0 ∨ chk n a zs = 1 ∨ chk n a zs = 2 := by
  intro zs
  induction zs generalizing a with
  | nil => exact .inl rfl
  | cons x t ih => rw [chk]; split <;> (try split) <;> simp_all
/-- A list of numbers as ints. -/
def zl (xs : List Nat) : List Int := xs.map (fun x : Nat => (x : Int))
/-- A list that is checked without an error is a combination. -/
theorem chk_asc {n : Nat} : ∀ {a : Nat} {zs : List Int}, chk n a zs = 0 → ∃ xs : List Nat, zs = zl xs ∧ Asc n a xs
  | a, [], _ => ⟨[], rfl, trivial⟩
  | a, z :: t, h => by
    rw [chk] at h
    by_cases h1 : z < 1 ∨ (n : Int) < z
    · rw [if_pos h1] at h; exact absurd h (by decide)
    · rw [if_neg h1] at h
      by_cases h2 : z ≤ a
      · rw [if_pos h2] at h; exact absurd h (by decide)
      · rw [if_neg h2] at h
        obtain ⟨x, rfl⟩ : ∃ x : Nat, z = (x : Int) := ⟨z.toNat, by omega⟩
        obtain ⟨xs, e, hx⟩ := chk_asc h
        exact ⟨x :: xs, by rw [e]; rfl, ⟨by omega, by omega, hx⟩⟩
theorem asc_chk {n : Nat} : ∀ {a : Nat} {xs : List Nat}, Asc n a xs → chk n a (zl xs) = 0
  | a, [], _ => rfl
  | a, x :: t, h => by
    rw [show zl (x :: t) = (x : Int) :: zl t from rfl, chk_next (by have := h.1; have := h.2.1; omega) (by have := h.1; omega)]
    exact asc_chk h.2.2
end Cb
theorem drew_drew (w : World) (r k : Nat) : (w.drewN r).drewN k = w.drewN (r + k) := World.drewN_drewN _ _ _
set_option maxHeartbeats 1000000 in
theorem ref5_Hits (n k d h : Int) (hk0 : -9223372036854775808 ≤ k) (hk1 : k ≤ 9223372036854775807) (hh0 : -9223372036854775808 ≤ h) (hh1 : h ≤ 9223372036854775807) (w : World) :
    Calls Try.prog 17 #[.int .i64 n, .int .i64 k, .int .i64 d, .int .i64 h] w fun e w' => e = .returned (.tuple #[.int .i64 (Cb.hitV n k d h), .int .i64 (Cb.hitE n k d h)]) ∧ w = w' := by
  cases hn : Cb.inn n 80
  · obtain ⟨e1, e2⟩ := Cb.hit_n (n := n) (k := k) (d := d) (h := h) (by rw [hn]; rfl)
    have E1 := Lib.hid e1
    have E2 := Lib.hid e2
    have I1 := Lib.hid fun w => ref5_in_is hn w
    clear e1 e2 hn
    go_enter Try.func17, Try.ntmps17
    go_wp2_with fail
    refine (I1.out _).mono ?_
    rintro e w' ⟨rfl, rfl⟩
    go_wp2_with fail
    go_ret2
    exact ⟨ret2_int E1.out.symm E2.out.symm, rfl⟩
  · have I1 := Lib.hid fun w => ref5_in_is hn w
    cases hd : Cb.inn d n
    · obtain ⟨e1, e2⟩ := Cb.hit_n (n := n) (k := k) (d := d) (h := h) (by rw [hn, hd]; rfl)
      have E1 := Lib.hid e1
      have E2 := Lib.hid e2
      have I2 := Lib.hid fun w => ref5_in_is hd w
      clear e1 e2 hn hd
      go_enter Try.func17, Try.ntmps17
      go_wp2_with fail
      refine (I1.out _).mono ?_
      rintro e w' ⟨rfl, rfl⟩
      go_wp2_with fail
      refine (I2.out _).mono ?_
      rintro e w' ⟨rfl, rfl⟩
      go_wp2_with fail
      go_ret2
      exact ⟨ret2_int E1.out.symm E2.out.symm, rfl⟩
    · have I2 := Lib.hid fun w => ref5_in_is hd w
      have hv : (Cb.inn n 80 && Cb.inn d n) = true := by rw [hn, hd]; rfl
      obtain ⟨n0, n1⟩ := Cb.inn_iff.1 hn
      obtain ⟨d0, d1⟩ := Cb.inn_iff.1 hd
      cases hk : Cb.inn k n
      · obtain ⟨e1, e2⟩ := Cb.hit_k (n := n) (k := k) (d := d) (h := h) hv (by rw [Cb.hitO, hk]; rfl)
        have E1 := Lib.hid e1
        have E2 := Lib.hid e2
        have I3 := Lib.hid fun w => ref5_in_is hk w
        clear e1 e2 hn hd hk hv
        go_enter Try.func17, Try.ntmps17
        go_wp2_with fail
        refine (I1.out _).mono ?_
        rintro e w' ⟨rfl, rfl⟩
        go_wp2_with fail
        refine (I2.out _).mono ?_
        rintro e w' ⟨rfl, rfl⟩
        go_wp2_with fail
        refine (I3.out _).mono ?_
        rintro e w' ⟨rfl, rfl⟩
        go_wp2_with fail
        go_ret2
        exact ⟨ret2_int E1.out.symm E2.out.symm, rfl⟩
      · have I3 := Lib.hid fun w => ref5_in_is hk w
        obtain ⟨k0, k1⟩ := Cb.inn_iff.1 hk
        cases hh : Cb.inn h d
        · obtain ⟨e1, e2⟩ := Cb.hit_k (n := n) (k := k) (d := d) (h := h) hv (by rw [Cb.hitO, hk, hh]; rfl)
          have E1 := Lib.hid e1
          have E2 := Lib.hid e2
          have I4 := Lib.hid fun w => ref5_in_is hh w
          clear e1 e2 hn hd hk hh hv
          go_enter Try.func17, Try.ntmps17
          go_wp2_with fail
          refine (I1.out _).mono ?_
          rintro e w' ⟨rfl, rfl⟩
          go_wp2_with fail
          refine (I2.out _).mono ?_
          rintro e w' ⟨rfl, rfl⟩
          go_wp2_with fail
          refine (I3.out _).mono ?_
          rintro e w' ⟨rfl, rfl⟩
          go_wp2_with fail
          refine (I4.out _).mono ?_
          rintro e w' ⟨rfl, rfl⟩
          go_wp2_with fail
          go_ret2
          exact ⟨ret2_int E1.out.symm E2.out.symm, rfl⟩
        · have I4 := Lib.hid fun w => ref5_in_is hh w
          obtain ⟨h0, h1⟩ := Cb.inn_iff.1 hh
          obtain ⟨p, ep⟩ : ∃ p, p = k - h := ⟨_, rfl⟩
          obtain ⟨q, eq⟩ : ∃ q, q = n - d := ⟨_, rfl⟩
          have hp : k - h = p := ep.symm
          have hq : n - d = q := eq.symm
          have p0 : -100 ≤ p := by omega
          have p1 : p ≤ 100 := by omega
          have q0 : 0 ≤ q := by omega
          have q1 : q ≤ 80 := by omega
          cases hr : Cb.inn p q
          · obtain ⟨e1, e2⟩ := Cb.hit_k (n := n) (k := k) (d := d) (h := h) hv (by rw [Cb.hitO, hk, hh, hp, hq, hr]; rfl)
            have E1 := Lib.hid e1
            have E2 := Lib.hid e2
            have I5 := Lib.hid fun w => ref5_in_is hr w
            clear e1 e2 hn hd hk hh hv hr ep eq
            go_enter Try.func17, Try.ntmps17
            go_wp2_with fail
            refine (I1.out _).mono ?_
            rintro e w' ⟨rfl, rfl⟩
            go_wp2_with fail
            refine (I2.out _).mono ?_
            rintro e w' ⟨rfl, rfl⟩
            go_wp2_with fail
            refine (I3.out _).mono ?_
            rintro e w' ⟨rfl, rfl⟩
            go_wp2_with fail
            refine (I4.out _).mono ?_
            rintro e w' ⟨rfl, rfl⟩
            go_wp2_with fail
            refine (I5.out _).mono ?_
            rintro e w' ⟨rfl, rfl⟩
            go_wp2_with fail
            go_ret2
            exact ⟨ret2_int E1.out.symm E2.out.symm, rfl⟩
          · have I5 := Lib.hid fun w => ref5_in_is hr w
            have ho : Cb.hitO n k d h = true := by rw [Cb.hitO, hk, hh, hp, hq, hr]; rfl
            have hP : Cb.hitP n k d h = Cb.val d h * Cb.val q p := by rw [Cb.hitP, hp, hq]
            have hd80 : Cb.inn d 80 = true := Cb.inn_iff.2 ⟨by omega, by omega⟩
            have hq80 : Cb.inn q 80 = true := Cb.inn_iff.2 ⟨by omega, by omega⟩
            have v1 := Cb.val_pos hh
            have v2 := Cb.val_pos hr
            have c1 := fun W => ref5_Count d h (by omega) (by omega) W
            have c2 := fun W => ref5_Count q p (by omega) (by omega) W
            by_cases b1 : Cb.val d h ≤ 9223372036854775807
            · obtain ⟨f1, f2⟩ := Cb.cnt_ok hd80 hh b1
              rw [f1, f2] at c1
              by_cases b2 : Cb.val q p ≤ 9223372036854775807
              · obtain ⟨g1, g2⟩ := Cb.cnt_ok hq80 hr b2
                rw [g1, g2] at c2
                obtain ⟨x, ex⟩ : ∃ x : Int, x = (Cb.val d h : Nat) := ⟨_, rfl⟩
                obtain ⟨y, ey⟩ : ∃ y : Int, y = (Cb.val q p : Nat) := ⟨_, rfl⟩
                have mm := fun W => ref_Mul x y (by omega) (by omega) (by omega) (by omega) W
                have e : x * y = ((Cb.hitP n k d h : Nat) : Int) := by rw [ex, ey, hP]; rfl
                have em : Nm.cv (x * y) = Cb.hitV n k d h ∧ Nm.ce (x * y) = Cb.hitE n k d h := by
                  rw [e]
                  by_cases b3 : Cb.hitP n k d h ≤ 9223372036854775807
                  · obtain ⟨g1, g2⟩ := Cb.hit_ok hv ho b3
                    rw [g1, g2]; exact ⟨Nm.cv_in ⟨by omega, by omega⟩, Nm.ce_in ⟨by omega, by omega⟩⟩
                  · obtain ⟨g1, g2⟩ := Cb.hit_big hv ho (by omega)
                    rw [g1, g2]; exact ⟨Nm.cv_out (.inr (by omega)), Nm.ce_out (.inr (by omega))⟩
                rw [em.1, em.2] at mm
                rw [← ex] at c1
                rw [← ey] at c2
                have C1 := Lib.hid c1
                have C2 := Lib.hid c2
                have MM := Lib.hid mm
                clear c1 c2 mm e em ex ey f1 f2 g1 g2 b1 b2 v1 v2 hd80 hq80 hP ho hn hd hk hh hv hr ep eq
                go_enter Try.func17, Try.ntmps17
                go_wp2_with fail
                refine (I1.out _).mono ?_
                rintro e w' ⟨rfl, rfl⟩
                go_wp2_with fail
                refine (I2.out _).mono ?_
                rintro e w' ⟨rfl, rfl⟩
                go_wp2_with fail
                refine (I3.out _).mono ?_
                rintro e w' ⟨rfl, rfl⟩
                go_wp2_with fail
                refine (I4.out _).mono ?_
                rintro e w' ⟨rfl, rfl⟩
                go_wp2_with fail
                refine (I5.out _).mono ?_
                rintro e w' ⟨rfl, rfl⟩
                go_wp2_with fail
                refine (C1.out _).mono ?_
                rintro e w' ⟨rfl, rfl⟩
                go_wp2_with fail
                refine (C2.out _).mono ?_
                rintro e w' ⟨rfl, rfl⟩
                go_wp2_with fail
                refine (MM.out _).mono ?_
                rintro e w' ⟨rfl, rfl⟩
                go_wp2_with fail
                go_ret2
                exact ⟨rfl, rfl⟩
              · obtain ⟨g1, g2⟩ := Cb.cnt_big hq80 hr (by omega)
                rw [g1, g2] at c2
                obtain ⟨e1, e2⟩ := Cb.hit_big hv ho (by
                  rw [hP]
                  have : 1 * Cb.val q p ≤ Cb.val d h * Cb.val q p := Nat.mul_le_mul_right _ v1
                  omega)
                obtain ⟨x, ex⟩ : ∃ x : Int, x = (Cb.val d h : Nat) := ⟨_, rfl⟩
                rw [← ex] at c1
                have E1 := Lib.hid e1
                have E2 := Lib.hid e2
                have C1 := Lib.hid c1
                have C2 := Lib.hid c2
                clear c1 c2 e1 e2 ex f1 f2 g1 g2 b1 b2 v1 v2 hd80 hq80 hP ho hn hd hk hh hv hr ep eq
                go_enter Try.func17, Try.ntmps17
                go_wp2_with fail
                refine (I1.out _).mono ?_
                rintro e w' ⟨rfl, rfl⟩
                go_wp2_with fail
                refine (I2.out _).mono ?_
                rintro e w' ⟨rfl, rfl⟩
                go_wp2_with fail
                refine (I3.out _).mono ?_
                rintro e w' ⟨rfl, rfl⟩
                go_wp2_with fail
                refine (I4.out _).mono ?_
                rintro e w' ⟨rfl, rfl⟩
                go_wp2_with fail
                refine (I5.out _).mono ?_
                rintro e w' ⟨rfl, rfl⟩
                go_wp2_with fail
                refine (C1.out _).mono ?_
                rintro e w' ⟨rfl, rfl⟩
                go_wp2_with fail
                refine (C2.out _).mono ?_
                rintro e w' ⟨rfl, rfl⟩
                go_wp2_with fail
                go_ret2
                exact ⟨ret2_int E1.out.symm E2.out.symm, rfl⟩
            · obtain ⟨g1, g2⟩ := Cb.cnt_big hd80 hh (by omega)
              rw [g1, g2] at c1
              obtain ⟨e1, e2⟩ := Cb.hit_big hv ho (by
                rw [hP]
                have : Cb.val d h * 1 ≤ Cb.val d h * Cb.val q p := Nat.mul_le_mul_left _ v2
                omega)
              have E1 := Lib.hid e1
              have E2 := Lib.hid e2
              have C1 := Lib.hid c1
              clear c1 c2 e1 e2 g1 g2 b1 v1 v2 hd80 hq80 hP ho hn hd hk hh hv hr ep eq
              go_enter Try.func17, Try.ntmps17
              go_wp2_with fail
              refine (I1.out _).mono ?_
              rintro e w' ⟨rfl, rfl⟩
              go_wp2_with fail
              refine (I2.out _).mono ?_
              rintro e w' ⟨rfl, rfl⟩
              go_wp2_with fail
              refine (I3.out _).mono ?_
              rintro e w' ⟨rfl, rfl⟩
              go_wp2_with fail
              refine (I4.out _).mono ?_
              rintro e w' ⟨rfl, rfl⟩
              go_wp2_with fail
              refine (I5.out _).mono ?_
              rintro e w' ⟨rfl, rfl⟩
              go_wp2_with fail
              refine (C1.out _).mono ?_
              rintro e w' ⟨rfl, rfl⟩
              go_wp2_with fail
              go_ret2
              exact ⟨ret2_int E1.out.symm E2.out.symm, rfl⟩
set_option maxHeartbeats 1000000 in
theorem ref5_Check {B len c : Nat} {A : Option Addr} {zs : List Int} (n : Int) (w : World) (h : Ints w B A len zs) (hl : len ≤ 9223372036854775807) :
    Calls Try.prog 40 #[.slice A len c, .int .i64 n] w fun e w' => e = .returned (.int .i64 (Cb.chkE n zs)) ∧ ∃ j, w' = w.drewN j := by
  cases hn : Cb.inn n 80
  · have E : Hid (2 = Cb.chkE n zs) := by show _ = _; rw [Cb.chkE, hn]; rfl
    have I1 := Lib.hid fun w => ref5_in_is hn w
    clear hn h
    go_enter Try.func40, Try.ntmps40
    go_wp2_with fail
    refine (I1.out _).mono ?_
    rintro e w' ⟨rfl, rfl⟩
    go_wp2_with fail
    go_ret
    exact ⟨ret_int E.out, 0, rfl⟩
  · have E : Hid (Cb.chk n 0 zs = Cb.chkE n zs) := by show _ = _; rw [Cb.chkE, hn]; rfl
    obtain ⟨n0, n1⟩ := Cb.inn_iff.1 hn
    have I1 := Lib.hid fun w => ref5_in_is hn w
    have H := Lib.hid h
    clear hn h
    go_enter Try.func40, Try.ntmps40
    go_wp2_with fail
    refine (I1.out _).mono ?_
    rintro e w' ⟨rfl, rfl⟩
    go_wp2_with fail
    go_loopw [5] (fun i W => ∃ (k r : Nat), k ≤ len ∧ i = .int .i64 k ∧ Hid (Cb.chk n 0 zs = Cb.chk n (Cb.prev zs k) (zs.drop k)) ∧ W = w.drewN r) (fun i _ => len - (intOf i).toNat)
    case atStart => exact ⟨0, 0, by omega, rfl, by show _ = _; rw [Cb.prev_zero, List.drop_zero], rfl⟩
    case round =>
      obtain ⟨k, r, hk, rfl, HK, rfl⟩ := hrel
      by_cases hlt : k < len
      · obtain ⟨ad, x, rfl, hb, hc, HX⟩ := (H.out.drewN r).at_ hlt
        have hdr := Cb.drop_at (zs := zs) (k := k) (by rw [H.out.len]; exact hlt)
        rw [← HX.out] at hdr
        have HD := Lib.hid hdr
        clear hdr
        by_cases ho : x < 1 ∨ n < x
        · have F : Hid (2 = Cb.chkE n zs) := by show _ = _; rw [← E.out, HK.out, HD.out, Cb.chk_out ho]
          by_cases hx : x < 1
          · clear ho
            go_wp2_with fail
            go_ret
            exact ⟨ret_int F.out, r, rfl⟩
          · have hx2 : n < x := by omega
            clear ho
            go_wp2_with fail
            go_ret
            exact ⟨ret_int F.out, r, rfl⟩
        · have x1 : ¬ x < 1 := by omega
          have x2 : ¬ n < x := by omega
          have x3 : 1 ≤ x := by omega
          have x4 : x ≤ n := by omega
          have HO := Lib.hid ho
          clear ho
          have hpv : Cb.prev zs (k + 1) = x := by rw [Cb.prev_succ]; exact HX.out.symm
          have HPV := Lib.hid hpv
          have hcw : w.cell? (ad.add k) = some (.int .i64 x) := hc
          clear hpv
          by_cases k0 : 0 < k
          · obtain ⟨j, hj⟩ : ∃ j, k = j + 1 := ⟨k - 1, by omega⟩
            have hkj : (k : Int) - 1 = (j : Int) := by omega
            obtain ⟨ad2, y, he, -, hc2, HY⟩ := (H.out.drewN r).at_ (k := j) (by omega)
            obtain rfl : ad = ad2 := by injection he
            have hpy : Cb.prev zs k = y := by rw [hj, Cb.prev_succ]; exact HY.out.symm
            have HPY := Lib.hid hpy
            have hcw2 : w.cell? (ad.add j) = some (.int .i64 y) := hc2
            have j0 : (0 : Int) ≤ (j : Int) := by omega
            have j1 : (j : Int) < (len : Int) := by omega
            have hg : decide ((0 : Int) < (k : Int)) = true := by simp; omega
            clear hpy hj he
            by_cases hxy : x ≤ y
            · have F : Hid (1 = Cb.chkE n zs) := by show _ = _; rw [← E.out, HK.out, HD.out, Cb.chk_low HO.out (by rw [HPY.out]; exact hxy)]
              go_wp2_with fail
              go_quiet (fail)
              go_wp2_with fail
              go_ret
              exact ⟨ret_int F.out, _, drew_drew _ _ _⟩
            · have F : Hid (Cb.chk n 0 zs = Cb.chk n (Cb.prev zs (k + 1)) (zs.drop (k + 1))) := by show _ = _; rw [HK.out, HD.out, Cb.chk_next HO.out (by rw [HPY.out]; exact hxy), HPV.out]
              go_wp2_with fail
              go_quiet (fail)
              go_wp2_with fail
              go_roundw
              case rel => exact ⟨k + 1, _, by omega, by go_num, F, rfl⟩
              case measure => simp [intOf]; omega
          · have hp0 : Cb.prev zs k = 0 := by rw [show k = 0 by omega]; exact Cb.prev_zero zs
            have F : Hid (Cb.chk n 0 zs = Cb.chk n (Cb.prev zs (k + 1)) (zs.drop (k + 1))) := by show _ = _; rw [HK.out, HD.out, Cb.chk_next HO.out (by rw [hp0]; omega), HPV.out]
            have hg : decide ((0 : Int) < (k : Int)) = false := by simp; omega
            clear hp0
            go_wp2_with fail
            go_quiet (fail)
            go_wp2_with fail
            go_roundw
            case rel => exact ⟨k + 1, _, by omega, by go_num, F, rfl⟩
            case measure => simp [intOf]; omega
      · have F : Hid (0 = Cb.chkE n zs) := by
          show _ = _
          rw [← E.out, HK.out, List.drop_of_length_le (by rw [H.out.len]; omega)]; rfl
        go_wp2_with fail
        go_ret
        exact ⟨ret_int F.out, r, rfl⟩
end Go.Proofs.Ytfjnpmkklanopaa
