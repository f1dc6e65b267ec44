/- Layer 8: the reference's Take: a varint read from a slice of bytes. -/
import Derived.Test.YtdleleanaihcoaaWireA
namespace Go.Proofs.Ytdleleanaihcoaa
set_option maxRecDepth 20000
open Go.RowKit
set_option linter.unusedVariables false
set_option linter.unusedSimpArgs false
namespace Wr
/-- The offset behind what was read. -/
def tkA (p : Nat) (T : Nat × Nat × Int) : Int := if T.2.2 = 0 then ((p + T.2.1 : Nat) : Int) else 0
theorem tkA_ok {p x n : Nat} : tkA p (x, n, 0) = ((p + n : Nat) : Int) := if_pos rfl
theorem tkA_no {p : Nat} {e : Int} (h : e ≠ 0) : tkA p (0, 0, e) = 0 := if_neg h
theorem drop_byte {L : List UInt8} {k : Nat} {c : UInt8} (h : L[k]? = some c) : L.drop k = c :: L.drop (k + 1) := by
  obtain ⟨hk, e⟩ := List.getElem?_eq_some_iff.1 h
  rw [List.drop_eq_getElem_cons hk, e]
theorem unit_bd {i : Nat} (h : i ≤ 9) : 128 ^ i ≤ 9223372036854775808 := by
  have h1 : 128 ^ i ≤ 128 ^ 9 := Nat.pow_le_pow_right (by omega) h
  have h2 : (128 : Nat) ^ 9 = 9223372036854775808 := by decide
  omega
end Wr
theorem ret3_iii {a b c a' b' c' : Int} {k1 k2 k3 : IntKind} (h1 : a = a') (h2 : b = b') (h3 : c = c') : Ending.returned (.tuple #[.int k1 a, .int k2 b, .int k3 c]) = .returned (.tuple #[.int k1 a', .int k2 b', .int k3 c']) := by rw [h1, h2, h3]
set_option maxHeartbeats 2000000 in
theorem ref8_Take {B n c p : Nat} {A : Option Addr} {L : List UInt8} (w : World) (h : Byts w B A n L) (hn : n ≤ 1000000000000) (hp : p ≤ n) :
    Calls Try.prog 52 #[.slice A n c, .int .i64 (p : Int)] w fun e w' => e = .returned (.tuple #[.int .u64 ((Wr.tk 0 (L.drop p)).1 : Nat), .int .i64 (Wr.tkA p (Wr.tk 0 (L.drop p))), .int .i64 (Wr.tk 0 (L.drop p)).2.2]) ∧ w = w' := by
  have H := Lib.hid h
  have I0 : Hid (Wr.tk 0 (L.drop p) = Wr.join 0 0 (Wr.tk 0 (L.drop (p + 0)))) := by show _ = _; rw [Nat.add_zero]; exact Wr.join_start _
  have E : Hid (∀ (x m : Nat) (e : Int), Wr.tk 0 (L.drop p) = (x, m, e) → (x : Int) = ((Wr.tk 0 (L.drop p)).1 : Nat) ∧ Wr.tkA p (x, m, e) = Wr.tkA p (Wr.tk 0 (L.drop p)) ∧ e = (Wr.tk 0 (L.drop p)).2.2) := fun x m e h => by rw [h]; exact ⟨rfl, rfl, rfl⟩
  clear h
  go_enter Try.func52, Try.ntmps52
  go_wp2_with fail
  go_loopw [7, 8, 9] (fun x u i W => ∃ (j X U : Nat), j ≤ 9 ∧ p + j ≤ n ∧ X < U ∧ U ≤ 9223372036854775808 ∧ x = .int .u64 (X : Int) ∧ u = .int .u64 (U : Int) ∧ i = .int .i64 (j : Int) ∧ Hid (U = 128 ^ j) ∧ Hid (Wr.tk 0 (L.drop p) = Wr.join j X (Wr.tk j (L.drop (p + j)))) ∧ W = w) (fun _ _ i _ => 10 - (intOf i).toNat)
  case atStart => exact ⟨0, 0, 1, by omega, by omega, by omega, by omega, rfl, rfl, rfl, rfl, I0, rfl⟩
  case round =>
    obtain ⟨j, X, U, hj, hpj, hXU, hU, rfl, rfl, rfl, HU, HT, rfl⟩ := hrel
    have hj10 : (j : Int) < 10 := by omega
    by_cases hlt : p + j < n
    · obtain ⟨ad, rfl, hb, cb, hcb, hcell⟩ := H.out.at_ hlt
      have hd := Wr.drop_byte hcb
      rw [hd] at HT
      have hc := cb.toNat_lt
      obtain ⟨C, eC⟩ : ∃ C : Nat, C = cb.toNat := ⟨_, rfl⟩
      rw [← eC] at hcell hc
      have hi1 : (p : Int) + (j : Int) < (n : Int) := by omega
      have hi2 : ((p : Int) + (j : Int)).toNat = p + j := by omega
      have hi3 : (0 : Int) ≤ (p : Int) + (j : Int) := by omega
      by_cases c1 : j = 9 ∧ 1 < C
      · obtain ⟨a1, a2⟩ := c1
        have hT := HT.out
        rw [Wr.tk_over (by rw [← eC]; exact ⟨a1, a2⟩), Wr.join_err (by decide)] at hT
        obtain ⟨e1, e2, e3⟩ := E.out _ _ _ hT
        rw [Wr.tkA_no (by decide)] at e2
        have E1 := Lib.hid e1
        have E2 := Lib.hid e2
        have E3 := Lib.hid e3
        have b1 : ((j : Int) == 9) = true := by rw [beq_iff_eq]; omega
        have b2 : (1 : Int) < (C : Int) := by omega
        clear a1 hT e1 e2 e3 hcb hd eC
        go_wp2_with fail
        go_ret3
        exact ⟨ret3_iii E1.out E2.out E3.out, rfl⟩
      · by_cases c2 : C = 0 ∧ 0 < j
        · obtain ⟨a1, a2⟩ := c2
          have hT := HT.out
          rw [Wr.tk_zero (by rw [← eC]; exact c1) (by rw [← eC]; exact ⟨a1, a2⟩), Wr.join_err (by decide)] at hT
          obtain ⟨e1, e2, e3⟩ := E.out _ _ _ hT
          rw [Wr.tkA_no (by decide)] at e2
          have E1 := Lib.hid e1
          have E2 := Lib.hid e2
          have E3 := Lib.hid e3
          have b2 : ¬ (1 : Int) < (C : Int) := by omega
          have b3 : ((C : Int) == 0) = true := by rw [beq_iff_eq]; omega
          have b4 : (0 : Int) < (j : Int) := by omega
          clear a1 hT e1 e2 e3 hcb hd eC c1
          cases b1 : ((j : Int) == 9)
          all_goals (
            go_wp2_with fail
            go_ret3
            exact ⟨ret3_iii E1.out E2.out E3.out, rfl⟩)
        · obtain ⟨r, er⟩ : ∃ r : Nat, r = C % 128 := ⟨_, rfl⟩
          have hr : (C : Int) % 128 = (r : Int) := by omega
          have hr' : (C : Int).tmod 128 = (r : Int) := by rw [Int.tmod_eq_emod_of_nonneg (by omega)]; exact hr
          obtain ⟨P, eP⟩ : ∃ P : Nat, P = r * U := ⟨_, rfl⟩
          have hP : (r : Int) * (U : Int) = (P : Int) := by rw [eP]; exact (Int.natCast_mul r U).symm
          have hP1 : X + P ≤ 18446744073709551615 := by
            by_cases h9 : j = 9
            · have : C ≤ 1 := by
                rcases Nat.lt_or_ge 1 C with h | h
                · exact absurd ⟨h9, h⟩ c1
                · exact h
              have : r ≤ 1 := by omega
              have : r * U ≤ 1 * U := Nat.mul_le_mul_right _ this
              omega
            · have h8 : U ≤ 72057594037927936 := by
                rw [HU.out]
                have h1 : 128 ^ j ≤ 128 ^ 8 := Nat.pow_le_pow_right (by omega) (by omega)
                have h2 : (128 : Nat) ^ 8 = 72057594037927936 := by decide
                omega
              have : r * U ≤ 127 * U := Nat.mul_le_mul_right _ (by omega)
              omega
          have hP0 : P ≤ 18446744073709551615 := by omega
          obtain ⟨Y, eY⟩ : ∃ Y : Nat, Y = X + P := ⟨_, rfl⟩
          have hY : (X : Int) + (P : Int) = (Y : Int) := by omega
          have d1 : decide ((1 : Int) < (C : Int)) = true → ((j : Int) == 9) = false := fun h => by
            rw [beq_eq_false_iff_ne]
            intro e
            exact c1 ⟨by omega, by have := of_decide_eq_true h; omega⟩
          have d2 : ((C : Int) == 0) = true → decide ((0 : Int) < (j : Int)) = false := fun h => by
            rw [beq_iff_eq] at h
            rw [decide_eq_false_iff_not]
            intro e
            exact c2 ⟨by omega, by omega⟩
          have D1 := Lib.hid d1
          have D2 := Lib.hid d2
          clear d1 d2
          by_cases c3 : C < 128
          · have hT := HT.out
            rw [Wr.tk_last (by rw [← eC]; exact c1) (by rw [← eC]; exact c2) (by rw [← eC]; exact c3), Wr.join_ok, ← eC] at hT
            obtain ⟨e1, e2, e3⟩ := E.out _ _ _ hT
            rw [Wr.tkA_ok] at e2
            have E1 : Hid ((Y : Int) = ((Wr.tk 0 (L.drop p)).1 : Nat)) := by
              show _ = _
              rw [← e1, eY, eP, HU.out, show r = C by omega, Nat.mul_comm]
            have E2 : Hid ((p : Int) + (j : Int) + 1 = Wr.tkA p (Wr.tk 0 (L.drop p))) := by show _ = _; rw [← e2]; omega
            have E3 := Lib.hid e3
            have c3' : (C : Int) < 128 := by omega
            clear hT e1 e2 e3 hcb hd eC er eP eY
            cases b1 : ((j : Int) == 9)
            · cases b3 : ((C : Int) == 0)
              · clear c1 c2
                go_wp2_with fail
                go_ret3
                exact ⟨ret3_iii E1.out E2.out E3.out, rfl⟩
              · have b4 := of_decide_eq_false (D2.out b3)
                clear c1 c2
                go_wp2_with fail
                go_ret3
                exact ⟨ret3_iii E1.out E2.out E3.out, rfl⟩
            · have b2 : decide ((1 : Int) < (C : Int)) = false := by
                cases h : decide ((1 : Int) < (C : Int))
                · rfl
                · rw [D1.out h] at b1; cases b1
              cases b3 : ((C : Int) == 0)
              · clear c1 c2
                go_wp2_with fail
                go_ret3
                exact ⟨ret3_iii E1.out E2.out E3.out, rfl⟩
              · have b4 := of_decide_eq_false (D2.out b3)
                clear c1 c2
                go_wp2_with fail
                go_ret3
                exact ⟨ret3_iii E1.out E2.out E3.out, rfl⟩
          · have h9 : j ≠ 9 := fun e => c1 ⟨e, by omega⟩
            have b1 : ((j : Int) == 9) = false := by rw [beq_eq_false_iff_ne]; omega
            have b3 : ((C : Int) == 0) = false := by rw [beq_eq_false_iff_ne]; omega
            have c3' : ¬ (C : Int) < 128 := by omega
            have hT := HT.out
            rw [Wr.join_more h9 (by rw [← eC]; omega), ← eC, ← er, ← HU.out, ← eP, ← eY] at hT
            have HT2 : Hid (Wr.tk 0 (L.drop p) = Wr.join (j + 1) Y (Wr.tk (j + 1) (L.drop (p + (j + 1))))) := hT
            have hU8 : U * 128 ≤ 9223372036854775808 := by
              rw [HU.out, ← Nat.pow_succ]
              exact Wr.unit_bd (by omega)
            obtain ⟨V, eV⟩ : ∃ V : Nat, V = U * 128 := ⟨_, rfl⟩
            have hV : (U : Int) * 128 = (V : Int) := by omega
            have HV : Hid (V = 128 ^ (j + 1)) := by show _ = _; rw [eV, HU.out, Nat.pow_succ]
            have hYV : Y < V := by
              have : r * U ≤ 127 * U := Nat.mul_le_mul_right _ (by omega)
              omega
            have hV1 : V ≤ 9223372036854775808 := by omega
            clear hT hcb hd eC er eP eY eV c1 c2 D1 D2
            go_wp2_with fail
            go_roundw
            case rel => exact ⟨j + 1, Y, V, by omega, by omega, hYV, hV1, rfl, rfl, by go_num, HV, HT2, trivial⟩
            case measure => simp [intOf]; omega
    · have hT := HT.out
      have hd0 : L.drop (p + j) = [] := List.drop_of_length_le (by rw [H.out.len]; omega)
      rw [hd0, Wr.tk_nil, Wr.join_err (by decide)] at hT
      obtain ⟨e1, e2, e3⟩ := E.out _ _ _ hT
      rw [Wr.tkA_no (by decide)] at e2
      have E1 := Lib.hid e1
      have E2 := Lib.hid e2
      have E3 := Lib.hid e3
      have hge : (n : Int) ≤ (p : Int) + (j : Int) := by omega
      clear hT hd0 e1 e2 e3
      go_wp2_with fail
      go_ret3
      exact ⟨ret3_iii E1.out E2.out E3.out, rfl⟩
end Go.Proofs.Ytdleleanaihcoaa
