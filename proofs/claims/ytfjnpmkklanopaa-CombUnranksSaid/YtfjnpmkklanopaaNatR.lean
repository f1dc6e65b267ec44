/- The reference of layer 3: its numbers of 16 bits a digit: trim, digit, cmp, Halves; rows that grow by append. -/
import Derived.Test.YtfjnpmkklanopaaNatI
namespace Go.Proofs.Ytfjnpmkklanopaa
set_option maxRecDepth 20000
open Go.RowKit
set_option linter.unusedVariables false
set_option linter.unusedSimpArgs false

theorem info_i64 : (Try.prog.info? 3).map (fun i => (i.zero, i.size, i.bytes)) = some (some (.int .i64 0), 1, 8) := by kernel_rfl
theorem size_i64 : (Try.prog.info? 3).map (·.size) = some 1 := by kernel_rfl
/-- A row of the call's own that grows: its n digits are f's. -/
def OwnD (w : World) (N : Nat) (E : TypeId) (K : IntKind) (v : Value) (n : Nat) (f : Nat → Nat) : Prop := w.ownsRow N E 1 v n ((List.range n).map (fun i => Value.int K (f i : Nat)))
section
variable {w w' : World} {N n : Nat} {E : TypeId} {K : IntKind} {v : Value} {f g : Nat → Nat}
theorem OwnD.nil (w : World) (N : Nat) (E : TypeId) (K : IntKind) (f : Nat → Nat) : OwnD w N E K (.slice none 0 0) 0 f := World.ownsRow_nil w N E 1
theorem OwnD.congr (h : OwnD w N E K v n f) (he : ∀ i, i < n → f i = g i) : OwnD w N E K v n g := by
  unfold OwnD at h ⊢
  rw [show (List.range n).map (fun i => Value.int K (g i : Nat)) = (List.range n).map (fun i => Value.int K (f i : Nat)) from List.map_congr_left fun i hi => by rw [he i (List.mem_range.1 hi)]]
  exact h
theorem OwnD.alloc (h : OwnD w N E K v n f) (o : Obj) : OwnD (w.alloc o) N E K v n f := World.ownsRow.alloc h o
theorem OwnD.drewN (h : OwnD w N E K v n f) (k : Nat) : OwnD (w.drewN k) N E K v n f := h
theorem OwnD.lt (h : OwnD w N E K v n f) : ∀ k, v.ownBlock = some k → N ≤ k ∧ k < w.heap.size := World.ownsRow.lt h
theorem OwnD.below {B : Nat} (h : OwnD w N E K v n f) (hb : Below B w w') (hB : w.heap.size ≤ B) : OwnD w' N E K v n f := by
  refine ⟨h.1, ?_⟩
  rcases h.2 with hn | ⟨g', cap, cur, rfl, hb', hgg, rest⟩
  · exact .inl hn
  · refine .inr ⟨g', cap, cur, rfl, hb', ?_, rest⟩
    rw [hb.block g' (by have := (Array.getElem?_eq_some_iff.1 hgg).1; omega)]
    exact hgg
/-- What a row of one's own is as a slice. -/
theorem OwnD.form (h : OwnD w N E K v n f) : ∃ A c, v = .slice A n c ∧ n ≤ c ∧ c ≤ 9223372036854775807 ∧ Digs w w.heap.size K A n f ∧ (0 < n → ∃ g, A = some ⟨g, 0, none⟩ ∧ N ≤ g ∧ Rw w g E K n f) := by
  rcases h.2 with ⟨hv, h0⟩ | ⟨g', cap, cur, hv, hb, hg, hnc, hcap, hsz, htake⟩
  · subst h0
    exact ⟨none, 0, hv, Nat.le_refl _, by omega, Digs.zero, fun h => absurd h (by omega)⟩
  · subst hv
    unfold maxLen at hcap
    have hR : Rw w g' E K n f := by
      refine Rw.of_own (xs := (List.range n).map (fun i => Value.int K (f i : Nat))) (N := N) (c := cap) h fun i hi => ?_
      simp [hi]
    refine ⟨_, cap, rfl, hnc, hcap, ?_, fun _ => ⟨g', rfl, hb, hR⟩⟩
    have := hR.digs (B := w.heap.size) (off := 0) (n := n) hR.lt (by omega)
    simp only [Nat.zero_add] at this
    exact this
end
/-- One digit is appended, which was laid in a block of its own. -/
theorem wpList_app {w0 : World} {ops : Array Oper} {rest : List Oper} {o : Oper} {a : Act} {Q : Exit → Act → World → Prop} (hgd : o.guard = none) (s x : Operand) (T E : TypeId) (K : IntKind) (b8 : Nat)
    (ho : o.op = .call { callee := .builtin .append, args := #[s, x], argTypes := #[T, T] }) (hT : Try.prog.underlying T = some (.slice E)) (hinfo : (Try.prog.info? E).map (fun i => (i.zero, i.size, i.bytes)) = some (some (.int K 0), 1, b8)) (hb8 : b8 ≤ 8)
    (N : Nat) (v : Value) (n : Nat) (f : Nat → Nat) (y : Nat) (Y : Int) (hY : Y = (y : Nat)) (hs : a.eval s = v) (hown : OwnD w0 N E K v n f) (hx : a.eval x = .slice (some ⟨w0.heap.size, 0, none⟩) 1 1) (hn : n ≤ 1000000) (hN : N ≤ w0.heap.size)
    (h : ∀ v' w', OwnD w' N E K v' (n + 1) (upd f n y) → Below N w0 w' → (v'.ownBlock = v.ownBlock ∨ v'.ownBlock = some (w0.heap.size + 1)) → (w0.alloc (.cells #[.int K Y] E)).grownBy w' v.ownBlock → wpList Try.prog ops Q rest (a.put o.dst v') w') :
    wpList Try.prog ops Q (o :: rest) a (w0.alloc (.cells #[.int K Y] E)) := by
  obtain ⟨i0, hi, hz0, hz1, hz2⟩ := info_parts hinfo
  refine wpList_append_own_at _ hgd s x T ho N E i0 (.int K 0) 1 b8 hT hi hz0 hz1 hz2 rfl (by decide) v n _ hs (hown.alloc _) ⟨w0.heap.size, 0, none⟩ 1 1 [.int K Y] hx rfl (cell_one_new _ _ _) (by simp [Value.oneCell']) (by unfold maxLen; omega) ?_ (by simp; omega) ?_
  · have : (n + 1) * b8 ≤ (n + 1) * 8 := Nat.mul_le_mul_left _ hb8
    omega
  · intro v' w' h1 h2 _ h4
    refine h v' w' ?_ ?_ ?_ h2
    · unfold OwnD
      rw [List.range_succ, List.map_append]
      have e : (List.range n).map (fun i => Value.int K (upd f n y i : Nat)) = (List.range n).map (fun i => Value.int K (f i : Nat)) := List.map_congr_left fun i hi => by
        have := List.mem_range.1 hi
        rw [upd_ne _ _ (by omega)]
      rw [e, List.map_singleton, upd_same, ← hY]
      exact h1
    · exact ((Below.refl N w0).alloc hN _).grown h2 (by simp; omega) fun k hk => (hown.lt k hk).1
    · simpa using h4

/-- A number's digits in base 65536, as ints. -/
structure IsH (w : World) (B : Nat) (A : Option Addr) (n x : Nat) : Prop where
  d : Digs w B .i64 A n (Nt.dg 65536 x)
  l : Nt.ln 65536 x = n
section
variable {w w' : World} {B B' n x : Nat} {A : Option Addr} {f : Nat → Nat}
theorem IsH.zero : IsH w B A 0 0 := ⟨Digs.zero, Nt.ln_zero⟩
theorem IsH.more (h : IsH w B A n x) (hB : B ≤ B') : IsH w B' A n x := ⟨h.d.more hB, h.l⟩
theorem IsH.below (h : IsH w B A n x) (hb : Below B w w') : IsH w' B A n x := ⟨h.d.below hb, h.l⟩
theorem IsH.drewN (h : IsH w B A n x) (k : Nat) : IsH (w.drewN k) B A n x := ⟨h.d.drewN k, h.l⟩
theorem IsH.out (h : IsH w B A n x) {i : Nat} (hi : n ≤ i) : Nt.dg 65536 x i = 0 := Nt.dg_out (by omega) (by rw [h.l]; exact hi)
theorem IsH.val (h : IsH w B A n x) : Nt.vl 65536 (Nt.dg 65536 x) n = x := Nt.vl_dg_all (by rw [← h.l]; exact Nt.ln_lt (by omega) x)
theorem IsH.val_ge (h : IsH w B A n x) {m : Nat} (hm : n ≤ m) : Nt.vl 65536 (Nt.dg 65536 x) m = x := Nt.vl_dg_all ((Nt.ln_le_iff (by omega)).1 (by rw [h.l]; exact hm))
theorem Digs.isH_tl (h : Digs w B .i64 A n f) (hf : ∀ i, i < n → f i < 65536) : IsH w B A (Nt.tl f n) (Nt.vl 65536 f n) :=
  ⟨(h.less (Nt.tl_le f n)).congr fun i hi => Nt.dg_vl hf (by have := Nt.tl_le f n; omega), Nt.tl_ln (by omega) hf⟩
end
/-- What a call that answers a number's digits leaves. -/
def HRes (x : Nat) (w : World) (e : Ending) (w' : World) : Prop :=
  ∃ A n c, e = .returned (.slice A n c) ∧ Below w.heap.size w w' ∧ IsH w' w'.heap.size A n x ∧ (n ≤ c ∧ c ≤ 9223372036854775807) ∧ (0 < n → ∀ ad, A = some ad → w.heap.size ≤ ad.block)
theorem fresh_of {n t N M : Nat} {A : Option Addr} {P : Nat → Prop} (h : 0 < n → ∃ g, A = some ⟨g, 0, none⟩ ∧ N ≤ g ∧ P g) (ht : t ≤ n) (hM : M ≤ N) : 0 < t → ∀ ad, A = some ad → M ≤ ad.block := fun h0 ad e => by
  obtain ⟨g, hg, hN, -⟩ := h (by omega)
  rw [hg] at e
  injection e with e
  rw [← e]
  exact Nat.le_trans hM hN
theorem fresh_at {N : Nat} {ad : Addr} (e : some (⟨N, 0, none⟩ : Addr) = some ad) : N ≤ ad.block := by
  injection e with e
  rw [← e]
  exact Nat.le_refl _

theorem ref3_trim {B n c : Nat} {A : Option Addr} {f : Nat → Nat} (w : World) (h : Digs w B .i64 A n f) (hn : n ≤ c) (hc : c ≤ 9223372036854775807) :
    Calls Try.prog 59 #[.slice A n c] w fun e w' => e = .returned (.slice A (Nt.tl f n) c) ∧ w = w' := by
  have H := Lib.hid h
  clear h
  go_enter Try.func59, Try.ntmps59
  go_wp2_with fail
  go_loop [3] (fun i => ∃ k : Nat, k ≤ n ∧ i = .int .i64 k ∧ Hid (Nt.tl f k = Nt.tl f n)) (fun i => (intOf i).toNat)
  case atStart => exact ⟨n, by omega, rfl, rfl⟩
  case round =>
    obtain ⟨k, hk, rfl, HK⟩ := hrel
    rcases k with _ | k
    · have F : Hid (Nt.tl f n = 0) := HK.out.symm
      go_wp2
      go_ret
      rw [F.out]
      exact ⟨rfl, rfl⟩
    · obtain ⟨ad, x, rfl, hb, hcell, HX, -, -⟩ := H.out.at_ (k := k) (by omega) (Nat.lt_succ_self _)
      by_cases h0 : x = 0
      · subst h0
        have F : Hid (Nt.tl f k = Nt.tl f n) := by
          show _ = _
          have := HX.out
          rw [← HK.out, Nt.tl_step (by omega)]
        go_wp2
        go_round
        case rel => exact ⟨k, by omega, by go_num, F⟩
        case measure => simp [intOf]
      · have F : Hid (Nt.tl f n = k + 1) := by
          show _ = _
          have := HX.out
          rw [← HK.out, Nt.tl_stop (by omega)]
        have hx : (x == 0) = false := by simpa using h0
        go_wp2
        go_ret
        rw [F.out]
        exact ⟨rfl, rfl⟩
theorem ref3_digit {B n c : Nat} {A : Option Addr} {f : Nat → Nat} (v : Int) (k : Nat) (w : World) (h : Digs w B .i64 A n f) (hz : n ≤ k → f k = 0) (hn : n ≤ 9223372036854775807) (hv : v = (f k : Nat)) :
    Calls Try.prog 60 #[.slice A n c, .int .i64 (k : Int)] w fun e w' => e = .returned (.int .i64 v) ∧ w = w' := by
  subst hv
  have H := Lib.hid h
  have HZ := Lib.hid hz
  clear h hz
  by_cases hk : k < n
  · obtain ⟨ad, x, rfl, hb, hc, HX, -, -⟩ := H.out.at_ hk (Nat.lt_succ_self _)
    go_enter Try.func60, Try.ntmps60
    go_wp2
    go_ret
    exact ⟨ret_int HX.out, rfl⟩
  · have F : Hid (0 = ((f k : Nat) : Int)) := by show _ = _; rw [HZ.out (by omega)]; rfl
    go_enter Try.func60, Try.ntmps60
    go_wp2
    go_ret
    exact ⟨ret_int F.out, rfl⟩
/-- The order of two numbers by their digits. -/
theorem ref3_cmp {n c n' c' x y B : Nat} {A A' : Option Addr} (w : World) (h : IsH w B A n x) (h' : IsH w B A' n' y) (hn : n ≤ 1000) (hn' : n' ≤ 1000) :
    Calls Try.prog 62 #[.slice A n c, .slice A' n' c'] w fun e w' => e = .returned (.int .i64 (Nt.cmpI (x : Nat) (y : Nat))) ∧ ∃ k, w' = w.drewN k := by
  have H := Lib.hid h
  have H' := Lib.hid h'
  clear h h'
  obtain ⟨R, eR⟩ : ∃ R, R = Nt.cmpI (x : Nat) (y : Nat) := ⟨_, rfl⟩
  rw [← eR]
  have ER := Lib.hid eR
  clear eR
  by_cases h1 : n < n'
  · have F : Hid (-1 = R) := by
      show _ = _
      have := Nt.lt_of_ln (B := 65536) (by omega) (x := x) (y := y) (by rw [H.out.l, H'.out.l]; exact h1)
      rw [ER.out, Nt.cmpI_lt (by omega)]
    go_enter Try.func62, Try.ntmps62
    go_wp2
    go_ret
    exact ⟨ret_int F.out, 0, rfl⟩
  · by_cases h2 : n' < n
    · have F : Hid (1 = R) := by
        show _ = _
        have := Nt.lt_of_ln (B := 65536) (by omega) (x := y) (y := x) (by rw [H.out.l, H'.out.l]; exact h2)
        rw [ER.out, Nt.cmpI_gt (by omega)]
      go_enter Try.func62, Try.ntmps62
      go_wp2
      go_ret
      exact ⟨ret_int F.out, 0, rfl⟩
    · obtain rfl : n = n' := by omega
      clear h1 h2
      have hst : x / 65536 ^ n = y / 65536 ^ n := by
        rw [Nat.div_eq_of_lt (by rw [← H.out.l]; exact Nt.ln_lt (by omega) x), Nat.div_eq_of_lt (by rw [← H'.out.l]; exact Nt.ln_lt (by omega) y)]
      have HST := Lib.hid hst
      clear hst
      go_enter Try.func62, Try.ntmps62
      go_wp2_with fail
      go_loopw [5] (fun i W => ∃ (k : Nat) (v : Int) (d : Nat), k ≤ n ∧ i = .int .i64 v ∧ v < k ∧ (k : Int) ≤ v + 1 ∧ Hid (x / 65536 ^ k = y / 65536 ^ k) ∧ W = w.drewN d) (fun i _ => (intOf i + 1).toNat)
      case atStart => exact ⟨n, (n : Int) - 1, 0, Nat.le_refl _, rfl, by omega, by omega, HST, rfl⟩
      case round =>
        obtain ⟨k, v, d, hk, rfl, hv1, hv2, HO, rfl⟩ := hrel
        rcases k with _ | k
        · obtain rfl : v = -1 := by omega
          have F : Hid (0 = R) := by
            show _ = _
            have := HO.out
            simp only [Nat.pow_zero, Nat.div_one] at this
            rw [ER.out, this, Nt.cmpI_eq]
          go_wp2
          go_ret
          exact ⟨ret_int F.out, d, rfl⟩
        · obtain rfl : v = (k : Int) := by omega
          have hk' : k < n := by omega
          obtain ⟨ad, u, rfl, hb, hcell, HX, u0, u1⟩ := H.out.d.at_ hk' (Nt.dg_lt (B := 65536) (by omega) x k)
          obtain ⟨ad', u', rfl, hb', hcell', HX', u0', u1'⟩ := H'.out.d.at_ hk' (Nt.dg_lt (B := 65536) (by omega) y k)
          have j0 : (0 : Int) ≤ (k : Int) := by omega
          have j1 : (k : Int) < (n : Int) := by omega
          cases hc1 : decide (u < u')
          case true =>
            have F : Hid (-1 = R) := by
              show _ = _
              have := of_decide_eq_true hc1
              have := Nt.lt_of_dg HO.out (by have := HX.out; have := HX'.out; omega)
              rw [ER.out, Nt.cmpI_lt (by omega)]
            go_wp2_with fail
            go_quiet (fail)
            go_wp2_with fail
            go_ret
            exact ⟨ret_int F.out, _, World.drewN_drewN _ _ _⟩
          case false =>
            have hc1' := Lib.hid (of_decide_eq_false hc1)
            cases hc2 : decide (u' < u)
            case true =>
              have F : Hid (1 = R) := by
                show _ = _
                have := of_decide_eq_true hc2
                have := Nt.lt_of_dg HO.out.symm (by have := HX.out; have := HX'.out; omega)
                rw [ER.out, Nt.cmpI_gt (by omega)]
              go_wp2_with fail
              go_quiet (fail)
              go_wp2_with fail
              go_quiet (fail)
              go_wp2_with fail
              go_ret
              exact ⟨ret_int F.out, _, (congrArg (fun W => World.drewN W _) (World.drewN_drewN _ _ _)).trans (World.drewN_drewN _ _ _)⟩
            case false =>
              have hc2' := of_decide_eq_false hc2
              have F : Hid (x / 65536 ^ k = y / 65536 ^ k) := Nt.div_step HO.out (by have := hc1'.out; have := HX.out; have := HX'.out; omega)
              clear hc2'
              go_wp2_with fail
              go_quiet (fail)
              go_wp2_with fail
              go_quiet (fail)
              go_wp2_with fail
              go_roundw
              case rel => exact ⟨k, (k : Int) - 1, _, by omega, rfl, by omega, by omega, F, rfl⟩
              case measure => simp [intOf]
end Go.Proofs.Ytfjnpmkklanopaa
