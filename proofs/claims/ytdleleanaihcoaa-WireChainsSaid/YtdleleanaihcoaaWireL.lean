/- Layer 8, the laws: what the methods of any writer and reader leave; the laws' few. -/
import Derived.Test.YtdleleanaihcoaaWireK
import Derived.Test.YtdleleanaihcoaaWireJ
namespace Go.Proofs.Ytdleleanaihcoaa
set_option maxRecDepth 20000
open Go.RowKit
set_option linter.unusedVariables false
set_option linter.unusedSimpArgs false
/-- What a writer's method leaves: the writer holds M; but for its own blocks nothing has turned. -/
def WSt (Q : World → Nat → List UInt8 → (Nat → Prop) → Prop) (W : World) (p : Nat) (fp : Nat → Prop) (M : List UInt8) (e : Ending) (w' : World) : Prop :=
  e = .returned (.tuple #[]) ∧ ∃ fp', Q w' p M fp' ∧ Turns fp W w' ∧ Grows W fp fp'
/-- What a reader's method leaves that answers r: the reader is in the state s. -/
def RSt (Q : World → Nat → Wr.St → (Nat → Prop) → Prop) (W : World) (p : Nat) (fp : Nat → Prop) (r : Value) (s : Wr.St) (e : Ending) (w' : World) : Prop :=
  e = .returned r ∧ ∃ fp', Q w' p s fp' ∧ Turns fp W w' ∧ Grows W fp fp'
def RLSt (Q : World → Nat → Wr.St → (Nat → Prop) → Prop) (W : World) (p : Nat) (fp : Nat → Prop) (l : List Int) (s : Wr.St) (e : Ending) (w' : World) : Prop :=
  ∃ A c fp', e = .returned (.slice A l.length c) ∧ l.length ≤ c ∧ c ≤ 9223372036854775807 ∧ Ints w' w'.heap.size A l.length l ∧ (∀ ad, A = some ad → 0 < l.length → W.heap.size ≤ ad.block ∧ ¬ fp' ad.block) ∧ Q w' p s fp' ∧ Turns fp W w' ∧ Grows W fp fp'
namespace Wr
/-- What is written of an item, and of a list of items. -/
def itB (x : It) : List UInt8 := if x.k = 1 then encI x.n else if x.k = 2 then enc x.u else if x.k = 3 then encT x.s.data.toList else encL x.l
def itsB : List It → List UInt8
  | [] => []
  | x :: L => itB x ++ itsB L
theorem itsB_app : ∀ a b, itsB (a ++ b) = itsB a ++ itsB b
  | [], b => rfl
  | x :: a, b => by show itB x ++ itsB (a ++ b) = (itB x ++ itsB a) ++ itsB b; rw [itsB_app a b, List.append_assoc]
theorem itsB_snoc (a : List It) (x : It) : itsB (a ++ [x]) = itsB a ++ itB x := by rw [itsB_app]; show _ ++ (_ ++ []) = _; rw [List.append_nil]
/-- No larger than z. -/
def little (z : Nat) (x : It) : Bool := decide (x.s.size ≤ z) && decide (x.l.length ≤ z)
theorem itB_len {x : It} {z : Nat} (h : little z x = true) (hn : -9223372036854775808 ≤ x.n ∧ x.n ≤ 9223372036854775807) (hu : x.u < 18446744073709551616) (hl : ∀ y, y ∈ x.l → -9223372036854775808 ≤ y ∧ y ≤ 9223372036854775807) (hz : z ≤ 1000000) : (itB x).length ≤ 10 + 10 * z := by
  unfold little at h
  rw [Bool.and_eq_true, decide_eq_true_iff, decide_eq_true_iff] at h
  unfold itB
  split
  · have := enc_ten (zz_bd hn.1 hn.2); show (encI x.n).length ≤ _; unfold encI; omega
  · split
    · have := enc_ten hu; omega
    · split
      · have e : x.s.data.toList.length = x.s.size := Array.length_toList
        have := enc_ten (x := x.s.data.toList.length) (by omega)
        unfold encT; rw [List.length_append]; omega
      · have h1 := enc_ten (x := x.l.length) (by omega)
        have h2 := encAll_len x.l hl
        unfold encL; rw [List.length_append]; omega
def fewB (L : List It) : Bool := decide (L.length ≤ 200) && L.all (little 5000)
theorem few_parts {L : List It} (h : fewB L = true) : L.length ≤ 200 ∧ L.all (little 5000) = true := by
  unfold fewB at h
  rw [Bool.and_eq_true, decide_eq_true_iff] at h
  exact h
theorem all_more {L : List It} {z z' : Nat} (hz : z ≤ z') (h : L.all (little z) = true) : L.all (little z') = true := by
  rw [List.all_eq_true] at h ⊢
  intro x hx
  have := h x hx
  unfold little at this ⊢
  rw [Bool.and_eq_true, decide_eq_true_iff, decide_eq_true_iff] at this ⊢
  omega
theorem itsB_len' {z : Nat} (hz : z ≤ 1000000) : ∀ {L : List It}, L.all (little z) = true → (∀ x, x ∈ L → (-9223372036854775808 ≤ x.n ∧ x.n ≤ 9223372036854775807) ∧ x.u < 18446744073709551616 ∧ (∀ y, y ∈ x.l → -9223372036854775808 ≤ y ∧ y ≤ 9223372036854775807)) → (itsB L).length ≤ (10 + 10 * z) * L.length
  | [], _, _ => Nat.zero_le _
  | x :: L, h, hb => by
    rw [List.all_cons, Bool.and_eq_true] at h
    have h1 := hb x (by simp)
    have h2 := itB_len h.1 h1.1 h1.2.1 h1.2.2 hz
    have h3 := itsB_len' hz (L := L) h.2 fun y hy => hb y (List.mem_cons_of_mem _ hy)
    show (itB x ++ itsB L).length ≤ _
    rw [List.length_append, List.length_cons, Nat.mul_succ]
    omega
theorem itsB_len {w : World} {P : Nat → Prop} {A : Option Addr} {n : Nat} {L : List It} (hs : L.all (little 20000) = true) (h : Its w P A n L) : (itsB L).length ≤ 200010 * L.length :=
  itsB_len' (by omega) hs fun x hx => by
    obtain ⟨i, hi, e⟩ := List.getElem_of_mem hx
    have hi' : i < n := by rw [← h.1]; exact hi
    obtain ⟨ad, y, -, -, hy, -, -, -, -, -, hok⟩ := h.at_ hi'
    rw [List.getElem?_eq_getElem hi, e] at hy
    injection hy with hy
    subst hy
    exact ⟨⟨hok.n0, hok.n1⟩, hok.u1, hok.z⟩
theorem all_take {L : List It} {k : Nat} {x : It} {p : It → Bool} (h : L[k]? = some x) : (L.take (k + 1)).all p = ((L.take k).all p && p x) := by
  rw [List.take_add_one, h, List.all_append]; simp
theorem all_no {L : List It} {k : Nat} {x : It} {p : It → Bool} (h : L[k]? = some x) (hx : p x = false) : L.all p = false := by
  rw [Bool.eq_false_iff]; intro e
  rw [List.all_eq_true] at e
  have := e x (List.mem_of_getElem? h)
  rw [hx] at this; cases this
end Wr
theorem law8_few {P : Nat → Prop} {A : Option Addr} {n c : Nat} {L : List It} (w : World) (h : Its w P A n L) (hc : n ≤ c) (hc1 : c ≤ 9223372036854775807) :
    Calls Try.prog 11 #[.slice A n c] w fun e w' => e = .returned (.bool (Wr.fewB L)) ∧ ∃ k, w' = w.drewN k := by
  have H := Lib.hid h
  have HL := Lib.hid h.1
  have n1 : (n : Int) ≤ 9223372036854775807 := by omega
  clear h
  by_cases hn : n ≤ 200
  · have hn1 : ¬ (200 : Int) < (n : Int) := by omega
    go_enter Try.func11, Try.ntmps11
    go_wp2_with fail
    go_loopw [9] (fun i W => ∃ (k r : Nat), k ≤ n ∧ i = .int .i64 (k : Int) ∧ Hid ((L.take k).all (Wr.little 5000) = true) ∧ W = w.drewN r) (fun i _ => n - (intOf i).toNat)
    case atStart => exact ⟨0, 0, by omega, rfl, rfl, rfl⟩
    case round =>
      obtain ⟨k, r, hk, rfl, HK, rfl⟩ := hrel
      by_cases hlt : k < n
      · obtain ⟨ad, x, rfl, hP, hx, d0, d1, d2, d3, d4, hok⟩ := H.out.at_ hlt
        have sb := hok.s1
        have lb := hok.c0
        have lb2 := hok.c1
        by_cases h1 : x.s.size ≤ 5000
        · have g1 : ¬ (5000 : Int) < (x.s.size : Int) := by omega
          by_cases h2 : x.l.length ≤ 5000
          · have g2 : ¬ (5000 : Int) < (x.l.length : Int) := by omega
            have HK2 : Hid ((L.take (k + 1)).all (Wr.little 5000) = true) := by show _ = _; rw [Wr.all_take hx, HK.out, Wr.little, decide_eq_true h1, decide_eq_true h2]; rfl
            clear hx hok
            go_wp2_with fail
            go_roundw
            case rel => exact ⟨k + 1, _, by omega, by go_num, HK2, rfl⟩
            case measure => simp [intOf]; omega
          · have g2 : (5000 : Int) < (x.l.length : Int) := by omega
            have F : Hid (false = Wr.fewB L) := by show _ = _; rw [Wr.fewB, Wr.all_no hx (by rw [Wr.little, decide_eq_false h2, Bool.and_false]), Bool.and_false]
            clear hx hok
            go_wp2_with fail
            go_ret
            exact ⟨ret_bool F.out, _, rfl⟩
        · have g1 : (5000 : Int) < (x.s.size : Int) := by omega
          have F : Hid (false = Wr.fewB L) := by show _ = _; rw [Wr.fewB, Wr.all_no hx (by rw [Wr.little, decide_eq_false h1, Bool.false_and]), Bool.and_false]
          clear hx hok
          go_wp2_with fail
          go_ret
          exact ⟨ret_bool F.out, _, rfl⟩
      · have hge : ¬ (k : Int) < (n : Int) := by omega
        have F : Hid (true = Wr.fewB L) := by
          show _ = _
          have h1 := HK.out
          rw [List.take_of_length_le (by rw [HL.out]; omega)] at h1
          rw [Wr.fewB, h1, HL.out, decide_eq_true hn]; rfl
        go_wp2_with fail
        go_ret
        exact ⟨ret_bool F.out, _, rfl⟩
  · have hn1 : (200 : Int) < (n : Int) := by omega
    have F : Hid (false = Wr.fewB L) := by show _ = _; rw [Wr.fewB, HL.out, decide_eq_false hn]; rfl
    go_enter Try.func11, Try.ntmps11
    go_wp2_with fail
    go_ret
    exact ⟨ret_bool F.out, 0, rfl⟩
end Go.Proofs.Ytdleleanaihcoaa
