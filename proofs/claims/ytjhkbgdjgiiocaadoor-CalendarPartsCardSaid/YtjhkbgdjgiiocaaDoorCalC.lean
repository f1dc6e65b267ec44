/- Layer 6: the reference's Day, Date, Weekday, Age, Period. (Written by tools/cal01.py.) -/
import Derived.Test.YtjhkbgdjgiiocaaDoorCalB
import Derived.OwnWalk
namespace Go.Proofs.YtjhkbgdjgiiocaaDoor
set_option maxRecDepth 20000
open Go.RowKit
set_option linter.unusedVariables false
set_option linter.unusedSimpArgs false
theorem bth {w W W' : World} (h : Below w.heap.size w W) (h' : Below W.heap.size W W') : Below w.heap.size w W' := h.trans (h'.mono h.size)
namespace Cl
/-- The first day of a day's period, and how many days it has. -/
def pf (n : Nat) (k : Int) : Int := if k = 1 then (n : Int) else if k = 2 then (n : Int) - (wd n : Nat) else (n : Int) - (dy n : Nat) + 1
def pn (n : Nat) (k : Int) : Int := if k = 1 then 1 else if k = 2 then 7 else (mlen (yr n) (mo n) : Nat)
def perO (k : Int) : Bool := decide (k = 1 ∨ k = 2 ∨ k = 3)
def lowO (x : Int) : Int := if x < 0 then 0 else x
def topO (x : Int) : Int := if 1073741824 < x then 1073741824 else x
/-- What Period answers. -/
def perA (t k : Int) : Int := if ist t && perO k then lowO (1440 * pf (t.toNat / 1440) k) else 0
def perB (t k : Int) : Int := if ist t && perO k then topO (1440 * (pf (t.toNat / 1440) k + pn (t.toNat / 1440) k) - 1) else 0
def perE (t k : Int) : Int := if ist t then (if perO k then 0 else 7) else 2
theorem per_t {t k : Int} (h : ist t = false) : perA t k = 0 ∧ perB t k = 0 ∧ perE t k = 2 := by simp [perA, perB, perE, h]
theorem per_k {t k : Int} (h : ist t = true) (h' : perO k = false) : perA t k = 0 ∧ perB t k = 0 ∧ perE t k = 7 := by simp [perA, perB, perE, h, h']
theorem per_ok {t k : Int} (h : ist t = true) (h' : perO k = true) : perA t k = lowO (1440 * pf (t.toNat / 1440) k) ∧ perB t k = topO (1440 * (pf (t.toNat / 1440) k + pn (t.toNat / 1440) k) - 1) ∧ perE t k = 0 := by simp [perA, perB, perE, h, h']
theorem wd_lt (n : Nat) : wd n ≤ 6 := by unfold wd; omega
end Cl
theorem ref6_Day (y m d : Int) (w : World) : Calls Tryd.prog 10 #[.int .i64 y, .int .i64 m, .int .i64 d] w fun e w' => e = .returned (.tuple #[.int .i64 (Cl.dayV y m d), .int .i64 (Cl.dayE y m d)]) ∧ Below w.heap.size w w' := by
  have ex := fun W => ref6_exists y m d W
  cases he : Cl.ex y m d
  · obtain ⟨e1, e2⟩ := Cl.day_no (y := y) (m := m) (d := d) (by rw [Cl.dayO, he]; rfl)
    rw [e1, e2]
    rw [he] at ex
    have EX := Lib.hid ex
    clear ex he e1 e2
    go_enter Tryd.func10, Tryd.ntmps10
    go_wp2_with fail
    refine (EX.out _).mono ?_
    rintro e w1 ⟨rfl, B1⟩
    have K1 := Lib.hid B1
    clear B1
    go_wp2_with fail
    go_ret2
    exact ⟨rfl, K1.out⟩
  · obtain ⟨y0, y1, m0, m1, d0, d1⟩ := Cl.ex_iff.1 he
    have hm := Cl.mlen_bd y.toNat m.toNat
    obtain ⟨Y, eY⟩ : ∃ Y : Nat, y = (Y : Int) := ⟨y.toNat, by omega⟩
    obtain ⟨M, eM⟩ : ∃ M : Nat, m = (M : Int) := ⟨m.toNat, by omega⟩
    obtain ⟨D, eD⟩ : ∃ D : Nat, d = (D : Int) := ⟨d.toNat, by omega⟩
    subst eY eM eD
    have nm := fun W => ref6_number Y M D W (by omega) (by omega) (by omega) (by omega) (by omega) (by omega)
    rw [he] at ex
    have EX := Lib.hid ex
    obtain ⟨N, eN⟩ : ∃ N : Int, N = (Cl.num Y M D : Nat) := ⟨_, rfl⟩
    by_cases hN : Cl.num Y M D < 745654
    · obtain ⟨e1, e2⟩ := Cl.day_ok (y := (Y : Int)) (m := (M : Int)) (d := (D : Int)) (by rw [Cl.dayO, he]; simpa using hN)
      rw [Int.toNat_natCast, Int.toNat_natCast, Int.toNat_natCast] at e1
      rw [e1, e2]
      rw [← eN] at nm ⊢
      have h1 : ¬ (745654 : Int) ≤ N := by omega
      have h2 : N < 745654 := by omega
      have NM := Lib.hid nm
      clear ex he e1 e2 nm eN d1 hm hN
      go_enter Tryd.func10, Tryd.ntmps10
      go_wp2_with fail
      refine (EX.out _).mono ?_
      rintro e w1 ⟨rfl, B1⟩
      have K1 := Lib.hid B1
      clear B1
      go_wp2_with fail
      refine (NM.out _).mono ?_
      rintro e w2 ⟨rfl, B2⟩
      have K2 := Lib.hid (bth K1.out B2)
      clear B2
      go_wp2_with fail
      refine (NM.out _).mono ?_
      rintro e w3 ⟨rfl, B3⟩
      have K3 := Lib.hid (bth K2.out B3)
      clear B3
      go_wp2_with fail
      go_ret2
      exact ⟨rfl, K3.out⟩
    · obtain ⟨e1, e2⟩ := Cl.day_no (y := (Y : Int)) (m := (M : Int)) (d := (D : Int)) (by rw [Cl.dayO, he]; simpa using hN)
      rw [e1, e2]
      rw [← eN] at nm
      have h1 : (745654 : Int) ≤ N := by omega
      have NM := Lib.hid nm
      clear ex he e1 e2 nm eN d1 hm hN
      go_enter Tryd.func10, Tryd.ntmps10
      go_wp2_with fail
      refine (EX.out _).mono ?_
      rintro e w1 ⟨rfl, B1⟩
      have K1 := Lib.hid B1
      clear B1
      go_wp2_with fail
      refine (NM.out _).mono ?_
      rintro e w2 ⟨rfl, B2⟩
      have K2 := Lib.hid (bth K1.out B2)
      clear B2
      go_wp2_with fail
      go_ret2
      exact ⟨rfl, K2.out⟩
theorem ref6_Date (n : Int) (w : World) : Calls Tryd.prog 12 #[.int .i64 n] w fun e w' => e = .returned (.tuple #[.int .i64 (Cl.datY n), .int .i64 (Cl.datM n), .int .i64 (Cl.datD n), .int .i64 (Cl.datE n)]) ∧ Below w.heap.size w w' := by
  unfold Cl.datY Cl.datM Cl.datD Cl.datE
  cases hd : Cl.isd n
  · have I1 := Lib.hid fun W => ref6_isDay hd W
    have B0 := Lib.hid (Below.refl w.heap.size w)
    clear hd
    go_enter Tryd.func12, Tryd.ntmps12
    go_wp2_with fail
    refine (I1.out _).mono ?_
    rintro e w' ⟨rfl, rfl⟩
    go_wp2_with fail
    refine bodyPost_ret (v := .tuple #[.int .i64 0, .int .i64 0, .int .i64 0, .int .i64 2]) (by simp [results, Tryd.results12, go_sem]) rfl ?_
    exact ⟨rfl, B0.out⟩
  · have I1 := Lib.hid fun W => ref6_isDay hd W
    obtain ⟨h0, h1⟩ := Cl.isd_iff.1 hd
    obtain ⟨N, eN⟩ : ∃ N : Nat, n = (N : Int) := ⟨n.toNat, by omega⟩
    subst eN
    rw [if_pos rfl, if_pos rfl, if_pos rfl, if_pos rfl, Int.toNat_natCast]
    have cv := ref6_Civil N w (by omega)
    obtain ⟨a, ea⟩ : ∃ a, a = Cl.yr N := ⟨_, rfl⟩
    obtain ⟨b, eb⟩ : ∃ a, a = Cl.mo N := ⟨_, rfl⟩
    obtain ⟨c, ec⟩ : ∃ a, a = Cl.dy N := ⟨_, rfl⟩
    rw [← ea, ← eb, ← ec] at cv ⊢
    have CV := Lib.hid cv
    clear hd cv ea eb ec
    go_enter Tryd.func12, Tryd.ntmps12
    go_wp2_with fail
    refine (I1.out _).mono ?_
    rintro e w' ⟨rfl, rfl⟩
    go_wp2_with fail
    refine CV.out.mono ?_
    rintro e w1 ⟨rfl, B1⟩
    have K1 := Lib.hid B1
    clear B1
    go_wp2_with fail
    refine bodyPost_ret (v := .tuple #[.int .i64 (a : Int), .int .i64 (b : Int), .int .i64 (c : Int), .int .i64 0]) (by simp [results, Tryd.results12, go_sem]) rfl ?_
    exact ⟨rfl, K1.out⟩
theorem ref6_Weekday (n : Int) (w : World) : Calls Tryd.prog 14 #[.int .i64 n] w fun e w' => e = .returned (.tuple #[.int .i64 (Cl.wdV n), .int .i64 (Cl.datE n)]) ∧ w = w' := by
  unfold Cl.wdV Cl.datE
  cases hd : Cl.isd n
  · have I1 := Lib.hid fun W => ref6_isDay hd W
    clear hd
    go_enter Tryd.func14, Tryd.ntmps14
    go_wp2_with fail
    refine (I1.out _).mono ?_
    rintro e w' ⟨rfl, rfl⟩
    go_wp2_with fail
    go_ret2
    exact ⟨rfl, rfl⟩
  · have I1 := Lib.hid fun W => ref6_isDay hd W
    obtain ⟨h0, h1⟩ := Cl.isd_iff.1 hd
    obtain ⟨N, eN⟩ : ∃ N : Nat, n = (N : Int) := ⟨n.toNat, by omega⟩
    subst eN
    rw [if_pos rfl, if_pos rfl, Int.toNat_natCast]
    have ON := Lib.hid (ref6_On N w (by omega))
    clear hd
    go_enter Tryd.func14, Tryd.ntmps14
    go_wp2_with fail
    refine (I1.out _).mono ?_
    rintro e w' ⟨rfl, rfl⟩
    go_wp2_with fail
    refine ON.out.mono ?_
    rintro e w' ⟨rfl, rfl⟩
    go_wp2_with fail
    go_ret2
    exact ⟨rfl, rfl⟩
theorem ref6_Age (b n : Int) (w : World) : Calls Tryd.prog 17 #[.int .i64 b, .int .i64 n] w fun e w' => e = .returned (.tuple #[.int .i64 (Cl.ageV b n), .int .i64 (Cl.ageE b n)]) ∧ Below w.heap.size w w' := by
  unfold Cl.ageV Cl.ageE Cl.ageO
  have B0 := Lib.hid (Below.refl w.heap.size w)
  cases hb : Cl.isd b
  · have I1 := Lib.hid fun W => ref6_isDay hb W
    clear hb
    go_enter Tryd.func17, Tryd.ntmps17
    go_wp2_with fail
    refine (I1.out _).mono ?_
    rintro e w' ⟨rfl, rfl⟩
    go_wp2_with fail
    go_ret2
    exact ⟨rfl, B0.out⟩
  · have I1 := Lib.hid fun W => ref6_isDay hb W
    cases hn : Cl.isd n
    · have I2 := Lib.hid fun W => ref6_isDay hn W
      clear hb hn
      go_enter Tryd.func17, Tryd.ntmps17
      go_wp2_with fail
      refine (I1.out _).mono ?_
      rintro e w' ⟨rfl, rfl⟩
      go_wp2_with fail
      refine (I2.out _).mono ?_
      rintro e w' ⟨rfl, rfl⟩
      go_wp2_with fail
      go_ret2
      exact ⟨rfl, B0.out⟩
    · have I2 := Lib.hid fun W => ref6_isDay hn W
      by_cases hle : b ≤ n
      · have h1 : ¬ n < b := by omega
        obtain ⟨b0, b1⟩ := Cl.isd_iff.1 hb
        obtain ⟨n0, n1⟩ := Cl.isd_iff.1 hn
        obtain ⟨P, eP⟩ : ∃ N : Nat, b = (N : Int) := ⟨b.toNat, by omega⟩
        obtain ⟨N, eN⟩ : ∃ N : Nat, n = (N : Int) := ⟨n.toNat, by omega⟩
        subst eP eN
        have hag := Cl.age_int (b := P) (n := N) (by omega)
        rw [decide_eq_true hle]
        simp only [Bool.and_self, if_true, Int.toNat_natCast]
        have c1 := fun W => ref6_Civil P W (by omega)
        have c2 := fun W => ref6_Civil N W (by omega)
        obtain ⟨y1, y2⟩ := Cl.yr_bd (n := P) (by omega)
        obtain ⟨z1, z2⟩ := Cl.yr_bd (n := N) (by omega)
        have u1 := Cl.dy_bd P
        have u2 := Cl.dy_bd N
        obtain ⟨ya, ea⟩ : ∃ a : Int, a = (Cl.yr P : Nat) := ⟨_, rfl⟩
        obtain ⟨ma, eb⟩ : ∃ a : Int, a = (Cl.mo P : Nat) := ⟨_, rfl⟩
        obtain ⟨da, ec⟩ : ∃ a : Int, a = (Cl.dy P : Nat) := ⟨_, rfl⟩
        obtain ⟨yb, ed⟩ : ∃ a : Int, a = (Cl.yr N : Nat) := ⟨_, rfl⟩
        obtain ⟨mb, ee⟩ : ∃ a : Int, a = (Cl.mo N : Nat) := ⟨_, rfl⟩
        obtain ⟨db, ef⟩ : ∃ a : Int, a = (Cl.dy N : Nat) := ⟨_, rfl⟩
        obtain ⟨g, eg⟩ : ∃ g : Int, g = (Cl.age P N : Nat) := ⟨_, rfl⟩
        have hag2 : yb - ya - (if mb < ma ∨ mb = ma ∧ db < da then 1 else 0) = g := by
          rw [ea, ed, eg, ← hag]
          by_cases hc : Cl.mo N < Cl.mo P ∨ Cl.mo N = Cl.mo P ∧ Cl.dy N < Cl.dy P
          · rw [if_pos hc, if_pos (by omega)]
          · rw [if_neg hc, if_neg (by omega)]
        have a0 : 2000 ≤ ya := by omega
        have a1 : ya ≤ 4042 := by omega
        have a2 : 2000 ≤ yb := by omega
        have a3 : yb ≤ 4042 := by omega
        rw [← ea, ← eb, ← ec] at c1
        rw [← ed, ← ee, ← ef] at c2
        rw [← eg]
        have C1 := Lib.hid c1
        have C2 := Lib.hid c2
        obtain ⟨PI, ePI⟩ : ∃ p : Int, p = (P : Int) := ⟨_, rfl⟩
        obtain ⟨NI, eNI⟩ : ∃ p : Int, p = (N : Int) := ⟨_, rfl⟩
        rw [← ePI] at C1 I1 h1 ⊢
        rw [← eNI] at C2 I2 h1 ⊢
        clear hb hn c1 c2 ea eb ec ed ee ef eg hag y1 y2 z1 z2 u1 u2 b0 b1 n0 n1 hle ePI eNI
        by_cases m1 : mb < ma
        · have F : Hid (yb - ya - 1 = g) := by show _ = _; rw [if_pos (.inl m1)] at hag2; exact hag2
          clear hag2
          go_enter Tryd.func17, Tryd.ntmps17
          go_wp2_with fail
          refine (I1.out _).mono ?_
          rintro e w' ⟨rfl, rfl⟩
          go_wp2_with fail
          refine (I2.out _).mono ?_
          rintro e w' ⟨rfl, rfl⟩
          go_wp2_with fail
          refine (C1.out _).mono ?_
          rintro e w1 ⟨rfl, B1⟩
          have K1 := Lib.hid B1
          clear B1
          go_wp2_with fail
          refine (C2.out _).mono ?_
          rintro e w2 ⟨rfl, B2⟩
          have K2 := Lib.hid (bth K1.out B2)
          clear B2
          go_wp2_with fail
          go_ret2
          exact ⟨ret2_int F.out rfl, K2.out⟩
        · by_cases m2 : mb = ma
          · subst m2
            by_cases m3 : db < da
            · have F : Hid (yb - ya - 1 = g) := by show _ = _; rw [if_pos (.inr ⟨rfl, m3⟩)] at hag2; exact hag2
              clear hag2
              go_enter Tryd.func17, Tryd.ntmps17
              go_wp2_with fail
              refine (I1.out _).mono ?_
              rintro e w' ⟨rfl, rfl⟩
              go_wp2_with fail
              refine (I2.out _).mono ?_
              rintro e w' ⟨rfl, rfl⟩
              go_wp2_with fail
              refine (C1.out _).mono ?_
              rintro e w1 ⟨rfl, B1⟩
              have K1 := Lib.hid B1
              clear B1
              go_wp2_with fail
              refine (C2.out _).mono ?_
              rintro e w2 ⟨rfl, B2⟩
              have K2 := Lib.hid (bth K1.out B2)
              clear B2
              go_wp2_with fail
              go_ret2
              exact ⟨ret2_int F.out rfl, K2.out⟩
            · have F : Hid (yb - ya = g) := by show _ = _; rw [if_neg (by omega)] at hag2; omega
              clear hag2
              go_enter Tryd.func17, Tryd.ntmps17
              go_wp2_with fail
              refine (I1.out _).mono ?_
              rintro e w' ⟨rfl, rfl⟩
              go_wp2_with fail
              refine (I2.out _).mono ?_
              rintro e w' ⟨rfl, rfl⟩
              go_wp2_with fail
              refine (C1.out _).mono ?_
              rintro e w1 ⟨rfl, B1⟩
              have K1 := Lib.hid B1
              clear B1
              go_wp2_with fail
              refine (C2.out _).mono ?_
              rintro e w2 ⟨rfl, B2⟩
              have K2 := Lib.hid (bth K1.out B2)
              clear B2
              go_wp2_with fail
              go_ret2
              exact ⟨ret2_int F.out rfl, K2.out⟩
          · have k3 : (mb == ma) = false := by rw [beq_eq_false_iff_ne]; exact m2
            have F : Hid (yb - ya = g) := by show _ = _; rw [if_neg (by omega)] at hag2; omega
            clear hag2
            go_enter Tryd.func17, Tryd.ntmps17
            go_wp2_with fail
            refine (I1.out _).mono ?_
            rintro e w' ⟨rfl, rfl⟩
            go_wp2_with fail
            refine (I2.out _).mono ?_
            rintro e w' ⟨rfl, rfl⟩
            go_wp2_with fail
            refine (C1.out _).mono ?_
            rintro e w1 ⟨rfl, B1⟩
            have K1 := Lib.hid B1
            clear B1
            go_wp2_with fail
            refine (C2.out _).mono ?_
            rintro e w2 ⟨rfl, B2⟩
            have K2 := Lib.hid (bth K1.out B2)
            clear B2
            go_wp2_with fail
            go_ret2
            exact ⟨ret2_int F.out rfl, K2.out⟩
      · have h1 : n < b := by omega
        rw [decide_eq_false hle]
        clear hb hn
        go_enter Tryd.func17, Tryd.ntmps17
        go_wp2_with fail
        refine (I1.out _).mono ?_
        rintro e w' ⟨rfl, rfl⟩
        go_wp2_with fail
        refine (I2.out _).mono ?_
        rintro e w' ⟨rfl, rfl⟩
        go_wp2_with fail
        go_ret2
        exact ⟨rfl, B0.out⟩
set_option maxHeartbeats 1000000 in
theorem ref6_Period (t k : Int) (w : World) : Calls Tryd.prog 19 #[.int .i64 t, .int .i64 k] w fun e w' => e = .returned (.tuple #[.int .i64 (Cl.perA t k), .int .i64 (Cl.perB t k), .int .i64 (Cl.perE t k)]) ∧ Below w.heap.size w w' := by
  have B0 := Lib.hid (Below.refl w.heap.size w)
  cases ht : Cl.ist t
  · have I1 := Lib.hid fun W => ref6_isTime ht W
    obtain ⟨e1, e2, e3⟩ := Cl.per_t (k := k) ht
    rw [e1, e2, e3]
    clear ht e1 e2 e3
    go_enter Tryd.func19, Tryd.ntmps19
    go_wp2_with fail
    refine (I1.out _).mono ?_
    rintro e w' ⟨rfl, rfl⟩
    go_wp2_with fail
    refine bodyPost_ret (v := .tuple #[.int .i64 0, .int .i64 0, .int .i64 2]) (by simp [results, Tryd.results19, go_sem]) rfl ?_
    exact ⟨rfl, B0.out⟩
  · have I1 := Lib.hid fun W => ref6_isTime ht W
    obtain ⟨t0, t1⟩ := Cl.ist_iff.1 ht
    obtain ⟨n, en⟩ : ∃ n : Nat, n = t.toNat / 1440 := ⟨_, rfl⟩
    have hn : n ≤ 745654 := by omega
    obtain ⟨m, em⟩ : ∃ m : Int, m = (n : Nat) := ⟨_, rfl⟩
    have hdiv : t / 1440 = m := by omega
    have hdiv2 : t.tdiv 1440 = m := by rw [Int.tdiv_eq_ediv_of_nonneg t0]; exact hdiv
    have g0 : 0 ≤ m := by omega
    have g1 : m ≤ 745654 := by omega
    cases hk : Cl.perO k
    · obtain ⟨e1, e2, e3⟩ := Cl.per_k ht hk
      rw [e1, e2, e3]
      have hk3 : ¬ (k = 1 ∨ k = 2 ∨ k = 3) := by simpa [Cl.perO] using hk
      have k1 : (k == 1) = false := by rw [beq_eq_false_iff_ne]; omega
      have k2 : (k == 2) = false := by rw [beq_eq_false_iff_ne]; omega
      have k3 : (k == 3) = false := by rw [beq_eq_false_iff_ne]; omega
      have q1 : ¬ k = 1 := by omega
      have q2 : ¬ k = 2 := by omega
      have q3 : ¬ k = 3 := by omega
      clear ht e1 e2 e3 hk hk3 en em hn
      go_enter Tryd.func19, Tryd.ntmps19
      go_wp2_with fail
      refine (I1.out _).mono ?_
      rintro e w' ⟨rfl, rfl⟩
      go_wp2_with fail
      refine bodyPost_ret (v := .tuple #[.int .i64 0, .int .i64 0, .int .i64 7]) (by simp [results, Tryd.results19, go_sem]) rfl ?_
      exact ⟨rfl, B0.out⟩
    · obtain ⟨e1, e2, e3⟩ := Cl.per_ok ht hk
      rw [← en] at e1 e2
      have hk3 : k = 1 ∨ k = 2 ∨ k = 3 := by simpa [Cl.perO] using hk
      rw [e3]
      clear e3 hk ht en
      rcases hk3 with rfl | rfl | rfl
      · have p1 : Cl.pf n 1 = m := em.symm
        have p2 : Cl.pn n 1 = 1 := rfl
        clear em hn
        by_cases f0 : 1440 * m < 0
        · exfalso; omega
        · have l1 : Cl.lowO (1440 * m) = 1440 * m := if_neg f0
          by_cases f1 : 1073741824 < 1440 * (m + 1) - 1
          · have l2 : Cl.topO (1440 * (m + 1) - 1) = 1073741824 := if_pos f1
            rw [e1, e2, p1, p2, l1, l2]
            clear e1 e2 l1 l2 p1 p2
            go_enter Tryd.func19, Tryd.ntmps19
            go_wp2_with fail
            refine (I1.out _).mono ?_
            rintro e w' ⟨rfl, rfl⟩
            go_wp2_with fail
            refine bodyPost_ret (v := .tuple #[.int .i64 (1440 * m), .int .i64 (1073741824), .int .i64 0]) (by simp [results, Tryd.results19, go_sem]) rfl ?_
            exact ⟨rfl, B0.out⟩
          · have l2 : Cl.topO (1440 * (m + 1) - 1) = 1440 * (m + 1) - 1 := if_neg f1
            rw [e1, e2, p1, p2, l1, l2]
            clear e1 e2 l1 l2 p1 p2
            go_enter Tryd.func19, Tryd.ntmps19
            go_wp2_with fail
            refine (I1.out _).mono ?_
            rintro e w' ⟨rfl, rfl⟩
            go_wp2_with fail
            refine bodyPost_ret (v := .tuple #[.int .i64 (1440 * m), .int .i64 (1440 * (m + 1) - 1), .int .i64 0]) (by simp [results, Tryd.results19, go_sem]) rfl ?_
            exact ⟨rfl, B0.out⟩
      · obtain ⟨v, ev⟩ : ∃ v : Int, v = (Cl.wd n : Nat) := ⟨_, rfl⟩
        have p1 : Cl.pf n 2 = m - v := by rw [em, ev]; rfl
        have p2 : Cl.pn n 2 = 7 := rfl
        have hw := Cl.wd_lt n
        have v0 : 0 ≤ v := by omega
        have v1 : v ≤ 6 := by omega
        have on := fun W => ref6_On n W (by omega)
        rw [← ev, ← em] at on
        have ON := Lib.hid on
        clear on ev em hn hw
        by_cases f0 : 1440 * (m - v) < 0
        · have l1 : Cl.lowO (1440 * (m - v)) = 0 := if_pos f0
          by_cases f1 : 1073741824 < 1440 * (m - v + 7) - 1
          · have l2 : Cl.topO (1440 * (m - v + 7) - 1) = 1073741824 := if_pos f1
            rw [e1, e2, p1, p2, l1, l2]
            clear e1 e2 l1 l2 p1 p2
            go_enter Tryd.func19, Tryd.ntmps19
            go_wp2_with fail
            refine (I1.out _).mono ?_
            rintro e w' ⟨rfl, rfl⟩
            go_wp2_with fail
            refine (ON.out _).mono ?_
            rintro e w' ⟨rfl, rfl⟩
            go_wp2_with fail
            refine bodyPost_ret (v := .tuple #[.int .i64 (0), .int .i64 (1073741824), .int .i64 0]) (by simp [results, Tryd.results19, go_sem]) rfl ?_
            exact ⟨rfl, B0.out⟩
          · have l2 : Cl.topO (1440 * (m - v + 7) - 1) = 1440 * (m - v + 7) - 1 := if_neg f1
            rw [e1, e2, p1, p2, l1, l2]
            clear e1 e2 l1 l2 p1 p2
            go_enter Tryd.func19, Tryd.ntmps19
            go_wp2_with fail
            refine (I1.out _).mono ?_
            rintro e w' ⟨rfl, rfl⟩
            go_wp2_with fail
            refine (ON.out _).mono ?_
            rintro e w' ⟨rfl, rfl⟩
            go_wp2_with fail
            refine bodyPost_ret (v := .tuple #[.int .i64 (0), .int .i64 (1440 * (m - v + 7) - 1), .int .i64 0]) (by simp [results, Tryd.results19, go_sem]) rfl ?_
            exact ⟨rfl, B0.out⟩
        · have l1 : Cl.lowO (1440 * (m - v)) = 1440 * (m - v) := if_neg f0
          by_cases f1 : 1073741824 < 1440 * (m - v + 7) - 1
          · have l2 : Cl.topO (1440 * (m - v + 7) - 1) = 1073741824 := if_pos f1
            rw [e1, e2, p1, p2, l1, l2]
            clear e1 e2 l1 l2 p1 p2
            go_enter Tryd.func19, Tryd.ntmps19
            go_wp2_with fail
            refine (I1.out _).mono ?_
            rintro e w' ⟨rfl, rfl⟩
            go_wp2_with fail
            refine (ON.out _).mono ?_
            rintro e w' ⟨rfl, rfl⟩
            go_wp2_with fail
            refine bodyPost_ret (v := .tuple #[.int .i64 (1440 * (m - v)), .int .i64 (1073741824), .int .i64 0]) (by simp [results, Tryd.results19, go_sem]) rfl ?_
            exact ⟨rfl, B0.out⟩
          · have l2 : Cl.topO (1440 * (m - v + 7) - 1) = 1440 * (m - v + 7) - 1 := if_neg f1
            rw [e1, e2, p1, p2, l1, l2]
            clear e1 e2 l1 l2 p1 p2
            go_enter Tryd.func19, Tryd.ntmps19
            go_wp2_with fail
            refine (I1.out _).mono ?_
            rintro e w' ⟨rfl, rfl⟩
            go_wp2_with fail
            refine (ON.out _).mono ?_
            rintro e w' ⟨rfl, rfl⟩
            go_wp2_with fail
            refine bodyPost_ret (v := .tuple #[.int .i64 (1440 * (m - v)), .int .i64 (1440 * (m - v + 7) - 1), .int .i64 0]) (by simp [results, Tryd.results19, go_sem]) rfl ?_
            exact ⟨rfl, B0.out⟩
      · have cv := fun W => ref6_Civil n W hn
        obtain ⟨u3, u4, u5, u6⟩ := Cl.dy_bd n
        obtain ⟨y1, y2⟩ := Cl.yr_bd hn
        have ln := fun W => ref6_Length (Cl.yr n) (Cl.mo n) W (by omega) u5 u6
        obtain ⟨b0, b1⟩ := Cl.mlen_bd (Cl.yr n) (Cl.mo n)
        obtain ⟨L, eL⟩ : ∃ L : Int, L = (Cl.mlen (Cl.yr n) (Cl.mo n) : Nat) := ⟨_, rfl⟩
        obtain ⟨ya, ea⟩ : ∃ a : Int, a = (Cl.yr n : Nat) := ⟨_, rfl⟩
        obtain ⟨ma, eb⟩ : ∃ a : Int, a = (Cl.mo n : Nat) := ⟨_, rfl⟩
        obtain ⟨v, ev⟩ : ∃ v : Int, v = (Cl.dy n : Nat) := ⟨_, rfl⟩
        have p1 : Cl.pf n 3 = m - v + 1 := by rw [em, ev]; rfl
        have p2 : Cl.pn n 3 = L := eL.symm
        have v0 : 1 ≤ v := by omega
        have v1 : v ≤ 31 := by omega
        have L0 : 28 ≤ L := by omega
        have L1 : L ≤ 31 := by omega
        rw [← eL, ← ea, ← eb] at ln
        rw [← ea, ← eb, ← ev, ← em] at cv
        have CV := Lib.hid cv
        have LN := Lib.hid ln
        clear cv ln ev eL ea eb u3 u4 u5 u6 y1 y2 b0 b1 em hn
        by_cases f0 : 1440 * (m - v + 1) < 0
        · have l1 : Cl.lowO (1440 * (m - v + 1)) = 0 := if_pos f0
          by_cases f1 : 1073741824 < 1440 * (m - v + 1 + L) - 1
          · have l2 : Cl.topO (1440 * (m - v + 1 + L) - 1) = 1073741824 := if_pos f1
            rw [e1, e2, p1, p2, l1, l2]
            clear e1 e2 l1 l2 p1 p2
            go_enter Tryd.func19, Tryd.ntmps19
            go_wp2_with fail
            refine (I1.out _).mono ?_
            rintro e w' ⟨rfl, rfl⟩
            go_wp2_with fail
            refine (CV.out _).mono ?_
            rintro e w1 ⟨rfl, B1⟩
            have K1 := Lib.hid B1
            clear B1
            go_wp2_with fail
            refine (LN.out _).mono ?_
            rintro e w2 ⟨rfl, B2⟩
            have K2 := Lib.hid (bth K1.out B2)
            clear B2
            go_wp2_with fail
            refine bodyPost_ret (v := .tuple #[.int .i64 (0), .int .i64 (1073741824), .int .i64 0]) (by simp [results, Tryd.results19, go_sem]) rfl ?_
            exact ⟨rfl, K2.out⟩
          · have l2 : Cl.topO (1440 * (m - v + 1 + L) - 1) = 1440 * (m - v + 1 + L) - 1 := if_neg f1
            rw [e1, e2, p1, p2, l1, l2]
            clear e1 e2 l1 l2 p1 p2
            go_enter Tryd.func19, Tryd.ntmps19
            go_wp2_with fail
            refine (I1.out _).mono ?_
            rintro e w' ⟨rfl, rfl⟩
            go_wp2_with fail
            refine (CV.out _).mono ?_
            rintro e w1 ⟨rfl, B1⟩
            have K1 := Lib.hid B1
            clear B1
            go_wp2_with fail
            refine (LN.out _).mono ?_
            rintro e w2 ⟨rfl, B2⟩
            have K2 := Lib.hid (bth K1.out B2)
            clear B2
            go_wp2_with fail
            refine bodyPost_ret (v := .tuple #[.int .i64 (0), .int .i64 (1440 * (m - v + 1 + L) - 1), .int .i64 0]) (by simp [results, Tryd.results19, go_sem]) rfl ?_
            exact ⟨rfl, K2.out⟩
        · have l1 : Cl.lowO (1440 * (m - v + 1)) = 1440 * (m - v + 1) := if_neg f0
          by_cases f1 : 1073741824 < 1440 * (m - v + 1 + L) - 1
          · have l2 : Cl.topO (1440 * (m - v + 1 + L) - 1) = 1073741824 := if_pos f1
            rw [e1, e2, p1, p2, l1, l2]
            clear e1 e2 l1 l2 p1 p2
            go_enter Tryd.func19, Tryd.ntmps19
            go_wp2_with fail
            refine (I1.out _).mono ?_
            rintro e w' ⟨rfl, rfl⟩
            go_wp2_with fail
            refine (CV.out _).mono ?_
            rintro e w1 ⟨rfl, B1⟩
            have K1 := Lib.hid B1
            clear B1
            go_wp2_with fail
            refine (LN.out _).mono ?_
            rintro e w2 ⟨rfl, B2⟩
            have K2 := Lib.hid (bth K1.out B2)
            clear B2
            go_wp2_with fail
            refine bodyPost_ret (v := .tuple #[.int .i64 (1440 * (m - v + 1)), .int .i64 (1073741824), .int .i64 0]) (by simp [results, Tryd.results19, go_sem]) rfl ?_
            exact ⟨rfl, K2.out⟩
          · have l2 : Cl.topO (1440 * (m - v + 1 + L) - 1) = 1440 * (m - v + 1 + L) - 1 := if_neg f1
            rw [e1, e2, p1, p2, l1, l2]
            clear e1 e2 l1 l2 p1 p2
            go_enter Tryd.func19, Tryd.ntmps19
            go_wp2_with fail
            refine (I1.out _).mono ?_
            rintro e w' ⟨rfl, rfl⟩
            go_wp2_with fail
            refine (CV.out _).mono ?_
            rintro e w1 ⟨rfl, B1⟩
            have K1 := Lib.hid B1
            clear B1
            go_wp2_with fail
            refine (LN.out _).mono ?_
            rintro e w2 ⟨rfl, B2⟩
            have K2 := Lib.hid (bth K1.out B2)
            clear B2
            go_wp2_with fail
            refine bodyPost_ret (v := .tuple #[.int .i64 (1440 * (m - v + 1)), .int .i64 (1440 * (m - v + 1 + L) - 1), .int .i64 0]) (by simp [results, Tryd.results19, go_sem]) rfl ?_
            exact ⟨rfl, K2.out⟩
end Go.Proofs.YtjhkbgdjgiiocaaDoor
