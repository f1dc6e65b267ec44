/- Layer 6, the project's package calendar: Parse. -/
import Derived.Test.YtjhkbgdjgiiocaaDoorCalL
namespace Go.Proofs.YtjhkbgdjgiiocaaDoor
set_option maxRecDepth 20000
open Go.RowKit
set_option linter.unusedVariables false
set_option linter.unusedSimpArgs false
namespace Cl
theorem two_at {L : List UInt8} {p : Nat} (h : p + 2 ≤ L.length) : (L.drop p).take 2 = [L.getD p 0, L.getD (p + 1) 0] := by
  rw [List.drop_eq_getElem_cons (by omega : p < L.length), List.take_succ_cons, List.drop_eq_getElem_cons (by omega : p + 1 < L.length), List.take_succ_cons, List.take_zero]
  simp [List.getD, List.getElem?_eq_getElem (by omega : p < L.length), List.getElem?_eq_getElem (by omega : p + 1 < L.length)]
theorem four_at {L : List UInt8} {p : Nat} (h : p + 4 ≤ L.length) : (L.drop p).take 4 = [L.getD p 0, L.getD (p + 1) 0, L.getD (p + 2) 0, L.getD (p + 3) 0] := by
  have e : (L.drop p).take 4 = (L.drop p).take 2 ++ (L.drop (p + 2)).take 2 := by
    rw [show 4 = 2 + 2 from rfl, List.take_add, List.drop_drop]
  rw [e, two_at (by omega), two_at (by omega)]; rfl
theorem dgs_2 (L : List UInt8) (p : Nat) : dgs [L.getD p 0, L.getD (p + 1) 0] = nm L p := by
  show (0 * 10 + (byt L p - 48)) * 10 + (byt L (p + 1) - 48) = _
  unfold nm; omega
theorem dgs_4 (L : List UInt8) : dgs [L.getD 0 0, L.getD (0 + 1) 0, L.getD (0 + 2) 0, L.getD (0 + 3) 0] = pY L := by
  show (((0 * 10 + (byt L 0 - 48)) * 10 + (byt L 1 - 48)) * 10 + (byt L 2 - 48)) * 10 + (byt L 3 - 48) = _
  have e : pY L = 100 * (10 * (byt L 0 - 48) + (byt L 1 - 48)) + (10 * (byt L 2 - 48) + (byt L 3 - 48)) := rfl
  rw [e]; omega
theorem dig_in {L : List UInt8} (h : frm L = true) {i : Nat} (hi : i < 16) (hd : FL.getD i 0 = 100) : 48 ≤ (L.getD i 0).toNat ∧ (L.getD i 0).toNat ≤ 57 := by
  have := (frm_iff.1 h).2 i hi
  rw [hd] at this
  exact okAt_d this
end Cl
theorem bel_dr {N : Nat} {w W : World} (h : Below N w W) : Below N w W.drew := h.trans ⟨rfl, rfl, rfl, Nat.le_refl _, fun _ _ => rfl⟩
theorem bel_drN {N : Nat} {w W : World} (h : Below N w W) (k : Nat) : Below N w (W.drewN k) := h.trans ⟨rfl, rfl, rfl, Nat.le_refl _, fun _ _ => rfl⟩
theorem cal_dig2 {s : ByteArray} (p q : Nat) (hq : q = p + 2) (h : Cl.frm s.data.toList = true) (hp : p + 1 < 16) (h1 : Cl.FL.getD p 0 = 100) (h2 : Cl.FL.getD (p + 1) 0 = 100) (w : World) :
    Calls Tryd.prog 40 #[.string (s.extract p q)] w fun e w' => e = .returned (.int .i64 (Cl.nm s.data.toList p : Nat)) ∧ w = w' := by
  subst hq
  have hl := (Cl.frm_iff.1 h).1
  have hx : (s.extract p (p + 2)).data.toList = [s.data.toList.getD p 0, s.data.toList.getD (p + 1) 0] := by
    rw [Lib.extract_data, show p + 2 - p = 2 by omega, Cl.two_at (by omega)]
  have := cal_digits (s.extract p (p + 2)) (by rw [Lib.size_eq, hx]; simp) (by
    rw [hx]
    intro c hc
    simp only [List.mem_cons, List.not_mem_nil, or_false] at hc
    rcases hc with rfl | rfl
    · exact Cl.dig_in h (by omega) h1
    · exact Cl.dig_in h hp h2) w
  rw [hx, Cl.dgs_2] at this
  exact this
theorem cal_dig4 {s : ByteArray} (h : Cl.frm s.data.toList = true) (w : World) :
    Calls Tryd.prog 40 #[.string (s.extract 0 4)] w fun e w' => e = .returned (.int .i64 (Cl.pY s.data.toList : Nat)) ∧ w = w' := by
  have hl := (Cl.frm_iff.1 h).1
  have hx : (s.extract 0 4).data.toList = [s.data.toList.getD 0 0, s.data.toList.getD (0 + 1) 0, s.data.toList.getD (0 + 2) 0, s.data.toList.getD (0 + 3) 0] := by
    rw [Lib.extract_data, show 4 - 0 = 4 from rfl, Cl.four_at (by omega)]
  have := cal_digits (s.extract 0 4) (by rw [Lib.size_eq, hx]; simp) (by
    rw [hx]
    intro c hc
    simp only [List.mem_cons, List.not_mem_nil, or_false] at hc
    rcases hc with rfl | rfl | rfl | rfl
    · exact Cl.dig_in h (by omega) rfl
    · exact Cl.dig_in h (by omega) rfl
    · exact Cl.dig_in h (by omega) rfl
    · exact Cl.dig_in h (by omega) rfl) w
  rw [hx, Cl.dgs_4] at this
  exact this
set_option maxHeartbeats 4000000 in
theorem cal_Parse (s : ByteArray) (hs : s.size ≤ 281474976710656) (w : World) (hE : CEnv w) : Calls Tryd.prog 22 #[.string s] w fun e w' => e = .returned (.tuple #[.int .i64 (Cl.parV s.data.toList), .int .i64 (Cl.parE s.data.toList)]) ∧ Below w.heap.size w w' := by
  have c0 := cal_hasTimeForm s hs w
  cases hf : Cl.frm s.data.toList
  · obtain ⟨e1, e2⟩ := Cl.frm_no hf
    rw [e1, e2]
    rw [hf] at c0
    have C0 := Lib.hid c0
    clear c0 hf e1 e2
    go_enter Tryd.func22, Tryd.ntmps22
    go_wp2_with fail
    refine C0.out.mono ?_
    rintro e w1 ⟨rfl, B1⟩
    have K1 := Lib.hid B1
    clear B1
    go_wp2_with fail
    go_ret2
    exact ⟨rfl, K1.out⟩
  · rw [hf] at c0
    have hl := (Cl.frm_iff.1 hf).1
    have hz : s.size = 16 := by rw [Lib.size_eq]; exact hl
    have z4 : (4 : Int) ≤ (s.size : Int) := by omega
    have z7 : (7 : Int) ≤ (s.size : Int) := by omega
    have z10 : (10 : Int) ≤ (s.size : Int) := by omega
    have z13 : (13 : Int) ≤ (s.size : Int) := by omega
    have z16 : (16 : Int) ≤ (s.size : Int) := by omega
    have d1 := fun W => cal_dig4 (s := s) hf W
    have d2 := fun W => cal_dig2 (s := s) 5 7 rfl hf (by omega) rfl rfl W
    have d3 := fun W => cal_dig2 (s := s) 8 10 rfl hf (by omega) rfl rfl W
    have d4 := fun W => cal_dig2 (s := s) 11 13 rfl hf (by omega) rfl rfl W
    have d5 := fun W => cal_dig2 (s := s) 14 16 rfl hf (by omega) rfl rfl W
    have dd := fun W (hW : Below w.heap.size w W) => cal_dayOf (Cl.pY s.data.toList : Nat) (Cl.nm s.data.toList 5 : Nat) (Cl.nm s.data.toList 8 : Nat) W (hE.on hW)
    have hp9 := Cl.par_9 s.data.toList
    have hbd := Cl.num9_bd (Cl.pY s.data.toList : Nat) (Cl.nm s.data.toList 5 : Nat) (Cl.nm s.data.toList 8 : Nat)
    have n4b := Cl.nm_bd hf (k := 4) (by omega)
    have n5b := Cl.nm_bd hf (k := 5) (by omega)
    rw [show Cl.AT.getD 4 0 = 11 from rfl] at n4b
    rw [show Cl.AT.getD 5 0 = 14 from rfl] at n5b
    have hT : Cl.ex9 (Cl.pY s.data.toList : Nat) (Cl.nm s.data.toList 5 : Nat) (Cl.nm s.data.toList 8 : Nat) = true → Cl.parT s.data.toList = 1440 * Cl.num9 (Cl.pY s.data.toList : Nat) (Cl.nm s.data.toList 5 : Nat) (Cl.nm s.data.toList 8 : Nat) + 60 * Cl.nm s.data.toList 11 + Cl.nm s.data.toList 14 := fun h => by
      rw [Cl.num9, h, if_pos rfl, Int.toNat_natCast, Int.toNat_natCast, Int.toNat_natCast]; rfl
    have PO : Hid ((Cl.parO s.data.toList && decide (Cl.parT s.data.toList ≤ 1073741824)) = false → Cl.parV s.data.toList = 0 ∧ Cl.parE s.data.toList = 2) := Cl.par_no hf
    have PK : Hid ((Cl.parO s.data.toList && decide (Cl.parT s.data.toList ≤ 1073741824)) = true → Cl.parV s.data.toList = (Cl.parT s.data.toList : Nat) ∧ Cl.parE s.data.toList = 0) := Cl.par_ok hf
    rw [hp9] at PO PK
    obtain ⟨y, ey⟩ : ∃ y, y = Cl.pY s.data.toList := ⟨_, rfl⟩
    obtain ⟨n2, en2⟩ : ∃ n, n = Cl.nm s.data.toList 5 := ⟨_, rfl⟩
    obtain ⟨n3, en3⟩ : ∃ n, n = Cl.nm s.data.toList 8 := ⟨_, rfl⟩
    obtain ⟨n4, en4⟩ : ∃ n, n = Cl.nm s.data.toList 11 := ⟨_, rfl⟩
    obtain ⟨n5, en5⟩ : ∃ n, n = Cl.nm s.data.toList 14 := ⟨_, rfl⟩
    rw [← ey] at d1
    rw [← en2] at d2
    rw [← en3] at d3
    rw [← en4] at d4 n4b
    rw [← en5] at d5 n5b
    rw [← ey, ← en2, ← en3] at dd hbd
    rw [← ey, ← en2, ← en3, ← en4, ← en5] at hT PO PK
    obtain ⟨N, eN⟩ : ∃ N, N = Cl.num9 (y : Nat) (n2 : Nat) (n3 : Nat) := ⟨_, rfl⟩
    rw [← eN] at dd hbd hT
    obtain ⟨T, eT⟩ : ∃ T, T = Cl.parT s.data.toList := ⟨_, rfl⟩
    rw [← eT] at hT PO PK
    have C0 := Lib.hid c0
    have D1 := Lib.hid d1
    have D2 := Lib.hid d2
    have D3 := Lib.hid d3
    have D4 := Lib.hid d4
    have D5 := Lib.hid d5
    have B0 := Lib.hid (Below.refl w.heap.size w)
    cases h9 : Cl.ex9 (y : Nat) (n2 : Nat) (n3 : Nat)
    · rw [h9] at dd PO
      obtain ⟨e1, e2⟩ := PO.out rfl
      have E1 := Lib.hid e1
      have E2 := Lib.hid e2
      have DD := Lib.hid dd
      clear c0 d1 d2 d3 d4 d5 dd PO PK hT eT eN ey en2 en3 en4 en5 e1 e2 h9 hp9 hf hz hl
      go_enter Tryd.func22, Tryd.ntmps22
      go_wp2_with fail
      refine C0.out.mono ?_
      rintro e w1 ⟨rfl, B1⟩
      have K1 := Lib.hid B1
      clear B1
      go_wp2_with fail
      go_region_held3 (fun _ => True) (first | trivial | fail)
        (first
          | (go_at_call 40; (first | (with_reducible refine (D1.out _).mono ?_) | (with_reducible refine (D2.out _).mono ?_) | (with_reducible refine (D3.out _).mono ?_)); rintro e w' ⟨rfl, rfl⟩)
          | (go_at_call 24; (with_reducible refine (DD.out _ (by repeat (first | exact K1.out | with_reducible refine bel_dr ?_ | with_reducible refine bel_drN ?_ _))).mono ?_); rintro e w' ⟨rfl, rfl⟩)
          | fail)
      all_goals (
        go_wp2_with fail
        go_region_held3 (fun _ => True) (first | trivial | fail)
          (first
            | (go_at_call 40; (first | (with_reducible refine (D4.out _).mono ?_) | (with_reducible refine (D5.out _).mono ?_)); rintro e w' ⟨rfl, rfl⟩)
            | fail))
      all_goals (
        go_wp2_with fail
        go_ret2
        exact ⟨ret2_int E1.out.symm E2.out.symm, (by repeat (first | exact K1.out | with_reducible refine bel_dr ?_ | with_reducible refine bel_drN ?_ _))⟩)
    · rw [h9] at dd PO PK
      have hT2 := hT h9
      have DD := Lib.hid dd
      by_cases h4 : n4 ≤ 23
      · by_cases h5 : n5 ≤ 59
        · rw [decide_eq_true h4, decide_eq_true h5] at PO PK
          have c4 : decide ((23 : Int) < (n4 : Int)) = false := by simp; omega
          have c5 : decide ((59 : Int) < (n5 : Int)) = false := by simp; omega
          obtain ⟨a1, ea1⟩ : ∃ a, a = 1440 * N := ⟨_, rfl⟩
          obtain ⟨a2, ea2⟩ : ∃ a, a = 60 * n4 := ⟨_, rfl⟩
          have r4 : (N : Int) * 1440 + (n4 : Int) * 60 + (n5 : Int) = (T : Int) := by omega
          by_cases hT3 : T ≤ 1073741824
          · obtain ⟨e1, e2⟩ := PK.out (by rw [decide_eq_true hT3]; rfl)
            have E1 := Lib.hid e1
            have E2 := Lib.hid e2
            have hT4 : ¬ (1073741824 : Int) < (T : Int) := by omega
            clear c0 d1 d2 d3 d4 d5 dd PO PK hT eT eN ey en2 en3 en4 en5 e1 e2 h9 ea1 ea2 hT2 hp9 hf hz hl
            go_enter Tryd.func22, Tryd.ntmps22
            go_wp2_with fail
            refine C0.out.mono ?_
            rintro e w1 ⟨rfl, B1⟩
            have K1 := Lib.hid B1
            clear B1
            go_wp2_with fail
            go_region_held3 (fun _ => True) (first | trivial | fail)
              (first
                | (go_at_call 40; (first | (with_reducible refine (D1.out _).mono ?_) | (with_reducible refine (D2.out _).mono ?_) | (with_reducible refine (D3.out _).mono ?_)); rintro e w' ⟨rfl, rfl⟩)
                | (go_at_call 24; (with_reducible refine (DD.out _ (by repeat (first | exact K1.out | with_reducible refine bel_dr ?_ | with_reducible refine bel_drN ?_ _))).mono ?_); rintro e w' ⟨rfl, rfl⟩)
                | fail)
            all_goals (
              go_wp2_with fail
              go_region_held3 (fun _ => True) (first | trivial | fail)
                (first
                  | (go_at_call 40; (first | (with_reducible refine (D4.out _).mono ?_) | (with_reducible refine (D5.out _).mono ?_)); rintro e w' ⟨rfl, rfl⟩)
                  | fail))
            all_goals (
              go_wp2_with fail
              go_ret2
              exact ⟨ret2_int E1.out.symm E2.out.symm, (by repeat (first | exact K1.out | with_reducible refine bel_dr ?_ | with_reducible refine bel_drN ?_ _))⟩)
          · obtain ⟨e1, e2⟩ := PO.out (by rw [decide_eq_false hT3]; rfl)
            have E1 := Lib.hid e1
            have E2 := Lib.hid e2
            have hT4 : (1073741824 : Int) < (T : Int) := by omega
            clear c0 d1 d2 d3 d4 d5 dd PO PK hT eT eN ey en2 en3 en4 en5 e1 e2 h9 ea1 ea2 hT2 hp9 hf hz hl
            go_enter Tryd.func22, Tryd.ntmps22
            go_wp2_with fail
            refine C0.out.mono ?_
            rintro e w1 ⟨rfl, B1⟩
            have K1 := Lib.hid B1
            clear B1
            go_wp2_with fail
            go_region_held3 (fun _ => True) (first | trivial | fail)
              (first
                | (go_at_call 40; (first | (with_reducible refine (D1.out _).mono ?_) | (with_reducible refine (D2.out _).mono ?_) | (with_reducible refine (D3.out _).mono ?_)); rintro e w' ⟨rfl, rfl⟩)
                | (go_at_call 24; (with_reducible refine (DD.out _ (by repeat (first | exact K1.out | with_reducible refine bel_dr ?_ | with_reducible refine bel_drN ?_ _))).mono ?_); rintro e w' ⟨rfl, rfl⟩)
                | fail)
            all_goals (
              go_wp2_with fail
              go_region_held3 (fun _ => True) (first | trivial | fail)
                (first
                  | (go_at_call 40; (first | (with_reducible refine (D4.out _).mono ?_) | (with_reducible refine (D5.out _).mono ?_)); rintro e w' ⟨rfl, rfl⟩)
                  | fail))
            all_goals (
              go_wp2_with fail
              go_ret2
              exact ⟨ret2_int E1.out.symm E2.out.symm, (by repeat (first | exact K1.out | with_reducible refine bel_dr ?_ | with_reducible refine bel_drN ?_ _))⟩)
        · rw [decide_eq_false h5, Bool.and_false, Bool.and_false] at PO
          obtain ⟨e1, e2⟩ := PO.out rfl
          have E1 := Lib.hid e1
          have E2 := Lib.hid e2
          have c4 : decide ((23 : Int) < (n4 : Int)) = false := by simp; omega
          have c5 : decide ((59 : Int) < (n5 : Int)) = true := by simp; omega
          clear c0 d1 d2 d3 d4 d5 dd PO PK hT eT eN ey en2 en3 en4 en5 e1 e2 h9 hT2 hp9 hf hz hl
          go_enter Tryd.func22, Tryd.ntmps22
          go_wp2_with fail
          refine C0.out.mono ?_
          rintro e w1 ⟨rfl, B1⟩
          have K1 := Lib.hid B1
          clear B1
          go_wp2_with fail
          go_region_held3 (fun _ => True) (first | trivial | fail)
            (first
              | (go_at_call 40; (first | (with_reducible refine (D1.out _).mono ?_) | (with_reducible refine (D2.out _).mono ?_) | (with_reducible refine (D3.out _).mono ?_)); rintro e w' ⟨rfl, rfl⟩)
              | (go_at_call 24; (with_reducible refine (DD.out _ (by repeat (first | exact K1.out | with_reducible refine bel_dr ?_ | with_reducible refine bel_drN ?_ _))).mono ?_); rintro e w' ⟨rfl, rfl⟩)
              | fail)
          all_goals (
            go_wp2_with fail
            go_region_held3 (fun _ => True) (first | trivial | fail)
              (first
                | (go_at_call 40; (first | (with_reducible refine (D4.out _).mono ?_) | (with_reducible refine (D5.out _).mono ?_)); rintro e w' ⟨rfl, rfl⟩)
                | fail))
          all_goals (
            go_wp2_with fail
            go_ret2
            exact ⟨ret2_int E1.out.symm E2.out.symm, (by repeat (first | exact K1.out | with_reducible refine bel_dr ?_ | with_reducible refine bel_drN ?_ _))⟩)
      · rw [decide_eq_false h4, Bool.false_and, Bool.and_false] at PO
        obtain ⟨e1, e2⟩ := PO.out rfl
        have E1 := Lib.hid e1
        have E2 := Lib.hid e2
        have c4 : decide ((23 : Int) < (n4 : Int)) = true := by simp; omega
        clear c0 d1 d2 d3 d4 d5 dd PO PK hT eT eN ey en2 en3 en4 en5 e1 e2 h9 hT2 hp9 hf hz hl
        go_enter Tryd.func22, Tryd.ntmps22
        go_wp2_with fail
        refine C0.out.mono ?_
        rintro e w1 ⟨rfl, B1⟩
        have K1 := Lib.hid B1
        clear B1
        go_wp2_with fail
        go_region_held3 (fun _ => True) (first | trivial | fail)
          (first
            | (go_at_call 40; (first | (with_reducible refine (D1.out _).mono ?_) | (with_reducible refine (D2.out _).mono ?_) | (with_reducible refine (D3.out _).mono ?_)); rintro e w' ⟨rfl, rfl⟩)
            | (go_at_call 24; (with_reducible refine (DD.out _ (by repeat (first | exact K1.out | with_reducible refine bel_dr ?_ | with_reducible refine bel_drN ?_ _))).mono ?_); rintro e w' ⟨rfl, rfl⟩)
            | fail)
        all_goals (
          go_wp2_with fail
          go_region_held3 (fun _ => True) (first | trivial | fail)
            (first
              | (go_at_call 40; (first | (with_reducible refine (D4.out _).mono ?_) | (with_reducible refine (D5.out _).mono ?_)); rintro e w' ⟨rfl, rfl⟩)
              | fail))
        all_goals (
          go_wp2_with fail
          go_ret2
          exact ⟨ret2_int E1.out.symm E2.out.symm, (by repeat (first | exact K1.out | with_reducible refine bel_dr ?_ | with_reducible refine bel_drN ?_ _))⟩)
end Go.Proofs.YtjhkbgdjgiiocaaDoor
