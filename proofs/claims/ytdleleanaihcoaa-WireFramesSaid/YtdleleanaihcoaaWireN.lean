/- Layer 8, the laws: equal, over a reader of the project. -/
import Derived.Test.YtdleleanaihcoaaWireM
import Derived.Deep.RegionHeld3
import Derived.Deep.Cut
namespace Go.Proofs.Ytdleleanaihcoaa
set_option maxRecDepth 20000
open Go.RowKit
set_option linter.unusedVariables false
set_option linter.unusedSimpArgs false
theorem RdP.dr {W : World} {p : Nat} {s : Wr.St} {fp : Nat → Prop} (h : RdP W p s fp) : RdP W.drew p s fp := h.keep (fq := noB) (Turns.refl W).drew fun _ _ e => e.elim
theorem RdP.drN {W : World} {p : Nat} {s : Wr.St} {fp : Nat → Prop} (h : RdP W p s fp) (k : Nat) : RdP (W.drewN k) p s fp := h.keep (fq := noB) ((Turns.refl W).drewN k) fun _ _ e => e.elim
theorem RdP.al {W : World} {p : Nat} {s : Wr.St} {fp : Nat → Prop} (h : RdP W p s fp) (o : Obj) : RdP (W.alloc o) p s fp := h.keep (fq := noB) ((Turns.refl W).alloc o) fun _ _ e => e.elim
theorem RdP.on {W W' : World} {p : Nat} {s : Wr.St} {fp : Nat → Prop} (h : RdP W p s fp) (hb : Below W.heap.size W W') : RdP W' p s fp := h.keep (fq := noB) (Turns.of_below hb) fun _ _ e => e.elim
theorem below_dr1 {N : Nat} {w W : World} (h : Below N w W) : Below N w W.drew := h.trans ⟨rfl, rfl, rfl, Nat.le_refl _, fun _ _ => rfl⟩
theorem below_dr2 {N : Nat} {w W : World} (h : Below N w W) (k : Nat) : Below N w (W.drewN k) := h.trans ⟨rfl, rfl, rfl, Nat.le_refl _, fun _ _ => rfl⟩
theorem ints_eq {w W : World} {B n : Nat} {A : Option Addr} {zs : List Int} (h : Ints w B A n zs) (he : ∀ a, W.cell? a = w.cell? a) : Ints W B A n zs :=
  ⟨h.1, fun hn => by
    obtain ⟨ad, e, hb, hc⟩ := h.2 hn
    exact ⟨ad, e, hb, fun j hj => (he _).trans (hc j hj)⟩⟩
theorem RSt.fin {w Wa w1 : World} {p : Nat} {fp fp1 : Nat → Prop} {r : Value} {s : Wr.St} (T0 : Turns fp w Wa) (q1 : RdP w1 p s fp1) (q2 : Turns fp Wa w1) (q3 : Grows Wa fp fp1) : RSt RdP w p fp r s (.returned r) w1 :=
  ⟨rfl, fp1, q1, T0.trans q2 fun _ _ h => h, fun b hb => (q3 b hb).imp id fun h => Nat.le_trans T0.size h⟩
def It.val (x : It) : Value := .agg #[.int .i64 x.k, .int .i64 x.n, .int .u64 (x.u : Nat), .string x.s, .slice x.A x.l.length x.c]
set_option maxHeartbeats 1000000 in
theorem law8_equal {p : Nat} {fp : Nat → Prop} {t : List UInt8} {x : It} {P : Nat → Prop} (w : World) (h : RdP w p ⟨Wr.itB x ++ t, 0⟩ fp) (hok : ItOk w P x) (hP : ∀ b, P b → ¬ fp b) :
    Calls Try.prog 37 #[.pointer (some ⟨p, 0, none⟩), x.val] w (RSt RdP w p fp (.bool true) ⟨t, 0⟩) := by
  have H0 := Lib.hid (h.al (.cells #[.int .i64 x.k, .int .i64 x.n, .int .u64 (x.u : Nat), .string x.s, .slice x.A x.l.length x.c] 33))
  have T0 : Hid (Turns fp w (w.alloc (.cells #[.int .i64 x.k, .int .i64 x.n, .int .u64 (x.u : Nat), .string x.s, .slice x.A x.l.length x.c] 33))) := (Turns.refl w).alloc _
  have hnf : ¬ fp w.heap.size := fun e => by have := h.lt _ e; omega
  have NF := Lib.hid hnf
  have HZ : Hid (w.heap.size < (w.alloc (.cells #[.int .i64 x.k, .int .i64 x.n, .int .u64 (x.u : Nat), .string x.s, .slice x.A x.l.length x.c] 33)).heap.size) := by show _ < _; rw [size_alloc]; omega
  have k0 := hok.k0
  have k1 := hok.k1
  have n0 := hok.n0
  have n1 := hok.n1
  have u1 : x.u ≤ 18446744073709551615 := by have := hok.u1; omega
  have IX : Hid (∀ w1 : World, ∀ Wa, Turns fp Wa w1 → Below w.heap.size w Wa → Ints w1 w1.heap.size x.A x.l.length x.l) := fun w1 Wa q2 hb => ints_turn (W := Wa) ⟨hok.i.1, fun hn => by
      obtain ⟨ad, e, hb0, hc⟩ := hok.i.2 hn
      exact ⟨ad, e, Nat.lt_of_lt_of_le hb0 hb.size, fun j hj => (hb.cell (by rw [block_of_add]; exact hb0)).trans (hc j hj)⟩⟩ q2 fun ad e h0 => hP _ (hok.a ad e h0)
  have B0 : Hid (Below w.heap.size w (w.alloc (.cells #[.int .i64 x.k, .int .i64 x.n, .int .u64 (x.u : Nat), .string x.s, .slice x.A x.l.length x.c] 33))) := (Below.refl _ _).alloc (Nat.le_refl _) _
  have lb2 := hok.c1
  have lc := hok.c0
  have sb := hok.s1
  by_cases e1 : x.k = 1
  · have b1 : (x.k == 1) = true := by rw [beq_iff_eq]; exact e1
    have r1 : Wr.rdI ⟨Wr.itB x ++ t, 0⟩ = (x.n, ⟨t, 0⟩) := by rw [Wr.itB, if_pos e1]; exact Wr.rdI_enc hok.n0 hok.n1 t
    have U := Lib.hid fun W (hW : RdP W p ⟨Wr.itB x ++ t, 0⟩ fp) => by
      have := wire_RInt W hW
      rw [r1] at this
      exact this
    clear h r1 hok hnf e1
    unfold It.val
    go_enter Try.func37, Try.ntmps37
    go_wp2_with fail
    obtain ⟨W0, eW⟩ : ∃ W0, W0 = (w.alloc (.cells #[.int .i64 x.k, .int .i64 x.n, .int .u64 (x.u : Nat), .string x.s, .slice x.A x.l.length x.c] 33)) := ⟨_, rfl⟩
    have c1 : W0.cell? ⟨w.heap.size, 1, none⟩ = some (.int .i64 x.n) := by rw [eW, cell_of_row _ _ _ _ _ _ (heap_alloc_new w _)]; rfl
    rw [← eW] at H0 T0 HZ ⊢
    clear eW
    have C1 := Lib.hid c1
    go_region_held3 (fun W => W.cell? ⟨w.heap.size, 1, none⟩ = some (.int .i64 x.n))
      (first | go_keep | exact m1 | fail)
      (first
        | (go_at_call 24; (with_reducible refine (U.out _ (by repeat (first | exact H0.out | with_reducible refine RdP.dr ?_ | with_reducible refine RdP.drN ?_ _))).mono ?_); rintro e w1 ⟨rfl, fp1, q1, q2, q3⟩; have m1 : w1.cell? ⟨w.heap.size, 1, none⟩ = some (.int .i64 x.n) := (q2.cell (p := ⟨w.heap.size, 1, none⟩) HZ.out NF.out).trans C1.out; have Q1 := Lib.hid q1; have Q2 := Lib.hid q2; have Q3 := Lib.hid q3; clear q1 q2 q3)
        | fail)
    all_goals (
      go_wp2_with fail
      go_ret
      exact RSt.fin (by repeat (first | exact T0.out | with_reducible refine Turns.drew ?_ | with_reducible refine Turns.drewN ?_ _)) (by repeat (first | exact Q1.out | with_reducible refine RdP.dr ?_ | with_reducible refine RdP.drN ?_ _)) (by repeat (first | exact Q2.out | with_reducible refine Turns.drew ?_ | with_reducible refine Turns.drewN ?_ _)) Q3.out)
  · have b1 : (x.k == 1) = false := by rw [beq_eq_false_iff_ne]; exact e1
    by_cases e2 : x.k = 2
    · have b2 : (x.k == 2) = true := by rw [beq_iff_eq]; exact e2
      have r1 : Wr.rdU ⟨Wr.itB x ++ t, 0⟩ = (x.u, ⟨t, 0⟩) := by rw [Wr.itB, if_neg e1, if_pos e2]; exact Wr.rdU_enc hok.u1 t
      have U := Lib.hid fun W (hW : RdP W p ⟨Wr.itB x ++ t, 0⟩ fp) => by
        have := wire_RUint W hW
        rw [r1] at this
        exact this
      clear h r1 hok hnf e1 e2
      unfold It.val
      go_enter Try.func37, Try.ntmps37
      go_wp2_with fail
      obtain ⟨W0, eW⟩ : ∃ W0, W0 = (w.alloc (.cells #[.int .i64 x.k, .int .i64 x.n, .int .u64 (x.u : Nat), .string x.s, .slice x.A x.l.length x.c] 33)) := ⟨_, rfl⟩
      have c2 : W0.cell? ⟨w.heap.size, 2, none⟩ = some (.int .u64 (x.u : Nat)) := by rw [eW, cell_of_row _ _ _ _ _ _ (heap_alloc_new w _)]; rfl
      rw [← eW] at H0 T0 HZ ⊢
      clear eW
      have C2 := Lib.hid c2
      go_region_held3 (fun W => W.cell? ⟨w.heap.size, 2, none⟩ = some (.int .u64 (x.u : Nat)))
        (first | go_keep | exact m2 | fail)
        (first
          | (go_at_call 26; (with_reducible refine (U.out _ (by repeat (first | exact H0.out | with_reducible refine RdP.dr ?_ | with_reducible refine RdP.drN ?_ _))).mono ?_); rintro e w1 ⟨rfl, fp1, q1, q2, q3⟩; have m2 : w1.cell? ⟨w.heap.size, 2, none⟩ = some (.int .u64 (x.u : Nat)) := (q2.cell (p := ⟨w.heap.size, 2, none⟩) HZ.out NF.out).trans C2.out; have Q1 := Lib.hid q1; have Q2 := Lib.hid q2; have Q3 := Lib.hid q3; clear q1 q2 q3)
          | fail)
      all_goals (
        go_wp2_with fail
        go_ret
        exact RSt.fin (by repeat (first | exact T0.out | with_reducible refine Turns.drew ?_ | with_reducible refine Turns.drewN ?_ _)) (by repeat (first | exact Q1.out | with_reducible refine RdP.dr ?_ | with_reducible refine RdP.drN ?_ _)) (by repeat (first | exact Q2.out | with_reducible refine Turns.drew ?_ | with_reducible refine Turns.drewN ?_ _)) Q3.out)
    · have b2 : (x.k == 2) = false := by rw [beq_eq_false_iff_ne]; exact e2
      by_cases e3 : x.k = 3
      · have b3 : (x.k == 3) = true := by rw [beq_iff_eq]; exact e3
        have hsz : x.s.data.toList.length = x.s.size := Array.length_toList
        have r1 : Wr.rdT (x.s.size : Int) ⟨Wr.itB x ++ t, 0⟩ = (x.s.data.toList, ⟨t, 0⟩) := by rw [Wr.itB, if_neg e1, if_neg e2, if_pos e3]; exact Wr.rdT_enc (by omega) (by rw [hsz]; omega) t
        have U := Lib.hid fun W (hW : RdP W p ⟨Wr.itB x ++ t, 0⟩ fp) => by
          have := wire_RText W hW (x.s.size : Int) (by omega) (by omega)
          rw [r1] at this
          exact this
        have es : (⟨x.s.data.toList.toArray⟩ : ByteArray) = x.s := rfl
        rw [es] at U
        clear h r1 hok hnf e1 e2 e3 hsz es
        unfold It.val
        go_enter Try.func37, Try.ntmps37
        go_wp2_with fail
        obtain ⟨W0, eW⟩ : ∃ W0, W0 = (w.alloc (.cells #[.int .i64 x.k, .int .i64 x.n, .int .u64 (x.u : Nat), .string x.s, .slice x.A x.l.length x.c] 33)) := ⟨_, rfl⟩
        have c3 : W0.cell? ⟨w.heap.size, 3, none⟩ = some (.string x.s) := by rw [eW, cell_of_row _ _ _ _ _ _ (heap_alloc_new w _)]; rfl
        rw [← eW] at H0 T0 HZ ⊢
        clear eW
        have C3 := Lib.hid c3
        go_region_held3 (fun W => W.cell? ⟨w.heap.size, 3, none⟩ = some (.string x.s))
          (first | go_keep | exact m3 | fail)
          (first
            | (go_at_call 28; (with_reducible refine (U.out _ (by repeat (first | exact H0.out | with_reducible refine RdP.dr ?_ | with_reducible refine RdP.drN ?_ _))).mono ?_); rintro e w1 ⟨rfl, fp1, q1, q2, q3⟩; have m3 : w1.cell? ⟨w.heap.size, 3, none⟩ = some (.string x.s) := (q2.cell (p := ⟨w.heap.size, 3, none⟩) HZ.out NF.out).trans C3.out; have Q1 := Lib.hid q1; have Q2 := Lib.hid q2; have Q3 := Lib.hid q3; clear q1 q2 q3)
            | fail)
        all_goals (
          go_wp2_with fail
          go_ret
          exact RSt.fin (by repeat (first | exact T0.out | with_reducible refine Turns.drew ?_ | with_reducible refine Turns.drewN ?_ _)) (by repeat (first | exact Q1.out | with_reducible refine RdP.dr ?_ | with_reducible refine RdP.drN ?_ _)) (by repeat (first | exact Q2.out | with_reducible refine Turns.drew ?_ | with_reducible refine Turns.drewN ?_ _)) Q3.out)
      · have b3 : (x.k == 3) = false := by rw [beq_eq_false_iff_ne]; exact e3
        have r1 : Wr.rdL (x.l.length : Int) ⟨Wr.itB x ++ t, 0⟩ = (x.l, ⟨t, 0⟩) := by rw [Wr.itB, if_neg e1, if_neg e2, if_neg e3]; exact Wr.rdL_enc (by omega) (by omega) hok.z t
        have U := Lib.hid fun W (hW : RdP W p ⟨Wr.itB x ++ t, 0⟩ fp) => by
          have := wire_RInts W hW (x.l.length : Int) (by omega) (by omega)
          rw [r1] at this
          exact this
        clear h r1 hok hnf e1 e2 e3
        unfold It.val
        go_enter Try.func37, Try.ntmps37
        go_wp2_with fail
        obtain ⟨W0, eW⟩ : ∃ W0, W0 = (w.alloc (.cells #[.int .i64 x.k, .int .i64 x.n, .int .u64 (x.u : Nat), .string x.s, .slice x.A x.l.length x.c] 33)) := ⟨_, rfl⟩
        have c4 : W0.cell? ⟨w.heap.size, 4, none⟩ = some (.slice x.A x.l.length x.c) := by rw [eW, cell_of_row _ _ _ _ _ _ (heap_alloc_new w _)]; rfl
        rw [← eW] at H0 T0 HZ B0 ⊢
        clear eW
        have C4 := Lib.hid c4
        go_region_held3 (fun W => W.cell? ⟨w.heap.size, 4, none⟩ = some (.slice x.A x.l.length x.c))
          (first | go_keep | exact m4 | fail)
          (first
            | (go_at_call 31; (with_reducible refine (U.out _ (by repeat (first | exact H0.out | with_reducible refine RdP.dr ?_ | with_reducible refine RdP.drN ?_ _))).mono ?_); rintro e w1 ⟨A1, c1, fp1, rfl, k1, k2, i0, -, q1, q2, q3⟩; have m4 : w1.cell? ⟨w.heap.size, 4, none⟩ = some (.slice x.A x.l.length x.c) := (q2.cell (p := ⟨w.heap.size, 4, none⟩) HZ.out NF.out).trans C4.out; have Q1 := Lib.hid q1; have Q2 := Lib.hid q2; have Q3 := Lib.hid q3; have i1 := IX.out w1 _ q2 (by repeat (first | exact B0.out | with_reducible refine below_dr1 ?_ | with_reducible refine below_dr2 ?_ _)); have SM := Lib.hid (fun W (hW : ∀ a, World.cell? W a = w1.cell? a) => law8_same (c := c1) (c' := x.c) W (ints_eq i0 hW) (ints_eq i1 hW) (by omega) (by omega)); clear i0 i1; clear q1 q2 q3)
            | (go_at_call 30; (with_reducible refine (SM.out _ (fun _ => rfl)).mono ?_); rw [beq_self_eq_true]; rintro e w2 ⟨rfl, j, rfl⟩)
            | fail)
        all_goals (
          go_wp2_with fail
          go_ret
          exact RSt.fin (by repeat (first | exact T0.out | with_reducible refine Turns.drew ?_ | with_reducible refine Turns.drewN ?_ _)) (by repeat (first | exact Q1.out | with_reducible refine RdP.dr ?_ | with_reducible refine RdP.drN ?_ _)) (by repeat (first | exact Q2.out | with_reducible refine Turns.drew ?_ | with_reducible refine Turns.drewN ?_ _)) Q3.out)
end Go.Proofs.Ytdleleanaihcoaa
