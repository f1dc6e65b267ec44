/- Layer 6: texts of times: the reference's Parse. -/
import Derived.Test.YtjhkbgdjgiiocaaDoorCalD
import Derived.Test.YtjhkbgdjgiiocaaDoorSeqA
import Derived.BigQuiet
import Derived.BigRegion
import Derived.Deep.AppendLies
import Derived.StillTailTactics
import Derived.IntWalk
import Derived.Deep.Cut
import Derived.Deep.CutRange
import Derived.Deep.RegionHeld3
namespace Go.Proofs.YtjhkbgdjgiiocaaDoor
set_option maxRecDepth 20000
open Go.RowKit
set_option linter.unusedVariables false
set_option linter.unusedSimpArgs false
namespace Cl
/-- The form of a time's text: d for a digit. -/
def FL : List Nat := [100, 100, 100, 100, 45, 100, 100, 45, 100, 100, 32, 100, 100, 58, 100, 100]
def okAt (f c : Nat) : Bool := if f = 100 then decide (48 ≤ c ∧ c ≤ 57) else decide (c = f)
def byt (L : List UInt8) (i : Nat) : Nat := (L.getD i 0).toNat
def frm (L : List UInt8) : Bool := decide (L.length = 16) && (List.range 16).all fun i => okAt (FL.getD i 0) (byt L i)
def nm (L : List UInt8) (p : Nat) : Nat := 10 * (byt L p - 48) + (byt L (p + 1) - 48)
def pY (L : List UInt8) : Nat := 100 * nm L 0 + nm L 2
def parO (L : List UInt8) : Bool := ex (pY L : Nat) (nm L 5 : Nat) (nm L 8 : Nat) && (decide (nm L 11 ≤ 23) && decide (nm L 14 ≤ 59))
def parT (L : List UInt8) : Nat := 1440 * num (pY L) (nm L 5) (nm L 8) + 60 * nm L 11 + nm L 14
/-- What Parse answers. -/
def parE (L : List UInt8) : Int := if frm L then (if parO L && decide (parT L ≤ 1073741824) then 0 else 2) else 1
def parV (L : List UInt8) : Int := if frm L && (parO L && decide (parT L ≤ 1073741824)) then (parT L : Nat) else 0
theorem frm_iff {L : List UInt8} : frm L = true ↔ (L.length = 16 ∧ ∀ i, i < 16 → okAt (FL.getD i 0) (byt L i) = true) := by unfold frm; rw [Bool.and_eq_true, decide_eq_true_iff, List.all_eq_true]; simp only [List.mem_range]
theorem frm_no {L : List UInt8} (h : frm L = false) : parV L = 0 ∧ parE L = 1 := by simp [parV, parE, h]
theorem par_no {L : List UInt8} (h : frm L = true) (h' : (parO L && decide (parT L ≤ 1073741824)) = false) : parV L = 0 ∧ parE L = 2 := by simp [parV, parE, h, h']
theorem par_ok {L : List UInt8} (h : frm L = true) (h' : (parO L && decide (parT L ≤ 1073741824)) = true) : parV L = (parT L : Nat) ∧ parE L = 0 := by simp [parV, parE, h, h']
theorem frm_size {L : List UInt8} (h : L.length ≠ 16) : frm L = false := by
  rw [Bool.eq_false_iff]; intro e; exact h (frm_iff.1 e).1
theorem frm_at {L : List UInt8} {k : Nat} (hk : k < 16) (h : okAt (FL.getD k 0) (byt L k) = false) : frm L = false := by
  rw [Bool.eq_false_iff]; intro e; rw [(frm_iff.1 e).2 k hk] at h; cases h
theorem okAt_d {c : Nat} (h : okAt 100 c = true) : 48 ≤ c ∧ c ≤ 57 := by simpa [okAt] using h
/-- Where the six numbers stand. -/
def AT : List Nat := [0, 2, 5, 8, 11, 14]
theorem at_d {k : Nat} (hk : k < 6) : AT.getD k 0 + 1 < 16 ∧ FL.getD (AT.getD k 0) 0 = 100 ∧ FL.getD (AT.getD k 0 + 1) 0 = 100 := by
  have : ∀ k, k < 6 → AT.getD k 0 + 1 < 16 ∧ FL.getD (AT.getD k 0) 0 = 100 ∧ FL.getD (AT.getD k 0 + 1) 0 = 100 := by decide
  exact this k hk
def nms (L : List UInt8) : List Nat := [nm L 0, nm L 2, nm L 5, nm L 8, nm L 11, nm L 14]
theorem nms_at (L : List UInt8) {k : Nat} (hk : k < 6) : (nms L).getD k 0 = nm L (AT.getD k 0) := by
  match k, hk with
  | 0, _ => rfl
  | 1, _ => rfl
  | 2, _ => rfl
  | 3, _ => rfl
  | 4, _ => rfl
  | 5, _ => rfl
theorem nm_bd {L : List UInt8} (h : frm L = true) {k : Nat} (hk : k < 6) : nm L (AT.getD k 0) ≤ 99 := by
  obtain ⟨h1, h2, h3⟩ := at_d hk
  obtain ⟨-, hf⟩ := frm_iff.1 h
  have a := hf (AT.getD k 0) (by omega)
  have b := hf (AT.getD k 0 + 1) (by omega)
  rw [h2] at a
  rw [h3] at b
  have := okAt_d a
  have := okAt_d b
  unfold nm; omega
end Cl
theorem below_dr0 (B : Nat) (w : World) : Below B w w.drew := ⟨rfl, rfl, rfl, Nat.le_refl _, fun _ _ => rfl⟩
/-- An append of one number to a row of one's own, at a step of a region that draws. -/
theorem step_app (w0 : World) {ops : Array Oper} {o : Oper} {a : Act} {K : Act → World → Prop} {Q : Exit → Act → World → Prop} {E : Prop} (hgd : o.guard = none) (s x : Operand)
    (ho : o.op = .call { callee := .builtin .append, args := #[s, x], argTypes := #[51, 51] })
    (N : Nat) (v : Value) (n : Nat) (f : Nat → Nat) (y : Nat) (Y : Int) (hY : Y = (y : Nat)) (hs : a.eval s = v) (hown : OwnD w0 N 3 .i64 v n f) (hx : a.eval x = .slice (some ⟨w0.heap.size, 0, none⟩) 1 1) (hn : n ≤ 1000000) (hN : N ≤ w0.heap.size)
    (h : ∀ g cap w', Hid (OwnD w' N 3 .i64 (.slice (some ⟨g, 0, none⟩) (n + 1) cap) (n + 1) (upd f n y)) → Hid (Below N w0 w') → Hid ((w0.alloc (.cells #[.int .i64 Y] 3)).drew.grownBy w' v.ownBlock) → n + 1 ≤ cap → cap ≤ 9223372036854775807 → K (a.put o.dst (.slice (some ⟨g, 0, none⟩) (n + 1) cap)) w') :
    if Region.wanted o (yielded ops a.tmps) = true then Oper.wp Tryd.prog o a (w0.alloc (.cells #[.int .i64 Y] 3)).drew K Q else E := by
  obtain ⟨i0, hi, hz0, hz1, hz2⟩ := info_parts info_i64
  have hown' := hown
  unfold OwnD at hown'
  have hh : ((w0.alloc (.cells #[.int .i64 Y] 3)).drew).heap.size = w0.heap.size + 1 := size_alloc _ _
  refine step_append_lies _ hgd s x 51 ho N 3 i0 (.int .i64 0) 1 8 Tryd.underlying51 hi hz0 hz1 hz2 rfl (by decide) v n _ hs ((hown'.alloc _).drew) ⟨w0.heap.size, 0, none⟩ 1 1 [.int .i64 Y] hx rfl (cell_one_new _ _ _) (by simp [Value.oneCell']) (by omega) (by unfold maxLen; omega) (by omega) (by rw [hh]; omega) (w0.heap.size + 1) hh ?_
  intro g cap w' h1 h2 _ _
  have ho2 : OwnD w' N 3 .i64 (.slice (some ⟨g, 0, none⟩) (n + 1) cap) (n + 1) (upd f n y) := by
    unfold OwnD
    rw [List.range_succ, List.map_append]
    have e : (List.range n).map (fun i => Value.int .i64 (upd f n y i : Nat)) = (List.range n).map (fun i => Value.int .i64 (f i : Nat)) := List.map_congr_left fun i hi => by
      have := List.mem_range.1 hi
      rw [upd_ne _ _ (by omega)]
    rw [e, List.map_singleton, upd_same, ← hY]
    exact h1
  obtain ⟨A2, c2, e2, h3, h4, -⟩ := ho2.form
  injection e2 with e3 e4 e5
  subst e5
  refine h g cap w' ho2 ?_ h2 h3 h4
  exact (((Below.refl N w0).alloc hN _).trans (below_dr0 _ _)).grown h2 (by rw [hh]; omega) fun k hk => (hown.lt k hk).1
theorem bdr2 (w : World) (r k : Nat) : Below w.heap.size w ((w.drewN r).drewN k) := ⟨rfl, rfl, rfl, Nat.le_refl _, fun _ _ => rfl⟩
theorem bdr3 {N : Nat} {w W : World} (h : Below N w W) (k : Nat) : Below N w (W.drewN k).drew := h.trans ⟨rfl, rfl, rfl, Nat.le_refl _, fun _ _ => rfl⟩
theorem byt_at {s : ByteArray} {k : Nat} (h : k < s.size) : Cl.byt s.data.toList k = s[k].toNat := by
  have h' : k < s.data.size := h
  unfold Cl.byt
  simp [List.getD]
  rw [Array.getElem?_eq_getElem h']
  rfl
set_option maxHeartbeats 4000000 in
theorem ref6_Parse (s : ByteArray) (hs : s.size ≤ 281474976710656) (w : World) : Calls Tryd.prog 23 #[.string s] w fun e w' => e = .returned (.tuple #[.int .i64 (Cl.parV s.data.toList), .int .i64 (Cl.parE s.data.toList)]) ∧ Below w.heap.size w w' := by
  have hlen : s.data.toList.length = s.size := by rw [Array.length_toList]; rfl
  by_cases h16 : s.size = 16
  · have H16 := Lib.hid h16
    have HLEN := Lib.hid hlen
    have hz1 : 16 ≤ s.size := by omega
    have hz2 : s.size ≤ 16 := by omega
    have hne : ((s.size : Int) == 16) = true := by rw [beq_iff_eq]; omega
    have hne' : ((s.size : Int) != 16) = false := by rw [bne, hne]; rfl
    clear hlen h16 hs
    go_enter Tryd.func23, Tryd.ntmps23
    go_wp2_with fail
    obtain ⟨fm, efm⟩ : ∃ fm : ByteArray, fm = ⟨#[100, 100, 100, 100, 45, 100, 100, 45, 100, 100, 32, 100, 100, 58, 100, 100]⟩ := ⟨_, rfl⟩
    rw [← efm]
    have fs1 : 16 ≤ fm.size := by rw [efm]; exact Nat.le_refl _
    have FB : Hid (∀ k (h : k < fm.size), k < 16 → fm[k].toNat = Cl.FL.getD k 0) := by
      subst efm
      intro k h hk
      match k, hk with
      | 0, _ => rfl
      | 1, _ => rfl
      | 2, _ => rfl
      | 3, _ => rfl
      | 4, _ => rfl
      | 5, _ => rfl
      | 6, _ => rfl
      | 7, _ => rfl
      | 8, _ => rfl
      | 9, _ => rfl
      | 10, _ => rfl
      | 11, _ => rfl
      | 12, _ => rfl
      | 13, _ => rfl
      | 14, _ => rfl
      | 15, _ => rfl
      | n + 16, h => exact absurd h (by omega)
    clear efm
    go_loopw [5] (fun i W => ∃ (k r : Nat), k ≤ 16 ∧ i = .int .i64 (k : Int) ∧ Hid (∀ j, j < k → Cl.okAt (Cl.FL.getD j 0) (Cl.byt s.data.toList j) = true) ∧ w.drewN r = W) (fun i _ => 16 - (intOf i).toNat)
    case atStart => exact ⟨0, 0, by omega, rfl, fun j hj => absurd hj (by omega), rfl⟩
    case round =>
      obtain ⟨k, r, hk, rfl, HK, rfl⟩ := hrel
      by_cases hlt : k < 16
      · have hlt' : (k : Int) < 16 := by omega
        have hks : k < s.size := by omega
        have hkf : k < fm.size := by omega
        have hfb := FB.out k hkf hlt
        have hsb := byt_at hks
        by_cases hf : Cl.FL.getD k 0 = 100
        · have hd1 : ((fm[k].toNat : Int) == 100) = true := by rw [hfb, hf]; rfl
          have hd2 : ((fm[k].toNat : Int) != 100) = false := by rw [bne, hd1]; rfl
          by_cases hc : 48 ≤ s[k].toNat ∧ s[k].toNat ≤ 57
          · have c1 : decide ((s[k].toNat : Int) < 48) = false := by simp; omega
            have c2 : decide ((57 : Int) < (s[k].toNat : Int)) = false := by simp; omega
            have HK2 : Hid (∀ j, j < k + 1 → Cl.okAt (Cl.FL.getD j 0) (Cl.byt s.data.toList j) = true) := fun j hj => by
              rcases Nat.lt_or_ge j k with h | h
              · exact HK.out j h
              · obtain rfl : j = k := by omega
                rw [hf, hsb]; unfold Cl.okAt; rw [if_pos rfl, decide_eq_true_iff]; exact hc
            clear hf hc hfb hsb
            go_wp2_with fail
            go_quiet (fail)
            go_wp2_with fail
            go_roundw
            case rel => exact ⟨k + 1, _, by omega, by go_num, HK2, rfl⟩
            case measure => simp [intOf]; omega
          · obtain ⟨e1, e2⟩ := Cl.frm_no (Cl.frm_at (L := s.data.toList) hlt (by
              rw [hf, hsb]; unfold Cl.okAt; rw [if_pos rfl, decide_eq_false_iff_not]; exact hc))
            have E1 := Lib.hid e1
            have E2 := Lib.hid e2
            by_cases hl : s[k].toNat < 48
            · have c1 : decide ((s[k].toNat : Int) < 48) = true := by simp; omega
              clear hf hc hfb hsb e1 e2
              go_wp2_with fail
              go_quiet (fail)
              go_wp2_with fail
              go_ret2
              exact ⟨ret2_int E1.out.symm E2.out.symm, bdr2 _ _ _⟩
            · have c1 : decide ((s[k].toNat : Int) < 48) = false := by simp; omega
              have c2 : decide ((57 : Int) < (s[k].toNat : Int)) = true := by simp; omega
              clear hf hc hfb hsb e1 e2 hl
              go_wp2_with fail
              go_quiet (fail)
              go_wp2_with fail
              go_ret2
              exact ⟨ret2_int E1.out.symm E2.out.symm, bdr2 _ _ _⟩
        · have hd1 : ((fm[k].toNat : Int) == 100) = false := by rw [beq_eq_false_iff_ne]; omega
          have hd2 : ((fm[k].toNat : Int) != 100) = true := by rw [bne, hd1]; rfl
          by_cases hc : s[k].toNat = fm[k].toNat
          · have c1 : ((s[k].toNat : Int) == (fm[k].toNat : Int)) = true := by rw [beq_iff_eq]; omega
            have c2 : ((s[k].toNat : Int) != (fm[k].toNat : Int)) = false := by rw [bne, c1]; rfl
            have HK2 : Hid (∀ j, j < k + 1 → Cl.okAt (Cl.FL.getD j 0) (Cl.byt s.data.toList j) = true) := fun j hj => by
              rcases Nat.lt_or_ge j k with h | h
              · exact HK.out j h
              · obtain rfl : j = k := by omega
                rw [hsb]; unfold Cl.okAt; rw [if_neg hf, decide_eq_true_iff]; omega
            clear hf hc hfb hsb
            go_wp2_with fail
            go_quiet (fail)
            go_wp2_with fail
            go_roundw
            case rel => exact ⟨k + 1, _, by omega, by go_num, HK2, rfl⟩
            case measure => simp [intOf]; omega
          · have c1 : ((s[k].toNat : Int) == (fm[k].toNat : Int)) = false := by rw [beq_eq_false_iff_ne]; omega
            have c2 : ((s[k].toNat : Int) != (fm[k].toNat : Int)) = true := by rw [bne, c1]; rfl
            obtain ⟨e1, e2⟩ := Cl.frm_no (Cl.frm_at (L := s.data.toList) hlt (by
              rw [hsb]; unfold Cl.okAt; rw [if_neg hf, decide_eq_false_iff_not]; omega))
            have E1 := Lib.hid e1
            have E2 := Lib.hid e2
            clear hf hc hfb hsb e1 e2
            go_wp2_with fail
            go_quiet (fail)
            go_wp2_with fail
            go_ret2
            exact ⟨ret2_int E1.out.symm E2.out.symm, bdr2 _ _ _⟩
      · have hfrm : Cl.frm s.data.toList = true := Cl.frm_iff.2 ⟨by rw [HLEN.out, H16.out], fun i hi => HK.out i (by omega)⟩
        have FR := Lib.hid hfrm
        have hge : ¬ (k : Int) < 16 := by omega
        obtain ⟨k0, ek0⟩ : ∃ k0, k0 = k := ⟨_, rfl⟩
        rw [← ek0] at hge hlt ⊢
        clear hfrm HK FB fs1 hk ek0
        have bw : Below w.heap.size w ((w.drewN r).alloc (.cells #[.int .i64 0, .int .i64 2, .int .i64 5, .int .i64 8, .int .i64 11, .int .i64 14] 3)) := (below_drewN w r).alloc (Nat.le_refl _) _
        have ca : ∀ i, i < 6 → ((w.drewN r).alloc (.cells #[.int .i64 0, .int .i64 2, .int .i64 5, .int .i64 8, .int .i64 11, .int .i64 14] 3)).cell? ⟨w.heap.size, i, none⟩ = some (.int .i64 (Cl.AT.getD i 0 : Nat)) := fun i hi => by
          show ((w.drewN r).alloc _).cell? ⟨(w.drewN r).heap.size, i, none⟩ = _
          rw [cell_of_row _ _ _ _ _ _ (heap_alloc_new (w.drewN r) _)]
          match i, hi with
          | 0, _ => rfl
          | 1, _ => rfl
          | 2, _ => rfl
          | 3, _ => rfl
          | 4, _ => rfl
          | 5, _ => rfl
        have hz : w.heap.size < ((w.drewN r).alloc (.cells #[.int .i64 0, .int .i64 2, .int .i64 5, .int .i64 8, .int .i64 11, .int .i64 14] 3)).heap.size := by simp
        go_wp2_with fail
        obtain ⟨W0, eW⟩ : ∃ W0, W0 = (w.drewN r).alloc (.cells #[.int .i64 0, .int .i64 2, .int .i64 5, .int .i64 8, .int .i64 11, .int .i64 14] 3) := ⟨_, rfl⟩
        rw [← eW] at bw ca hz ⊢
        clear eW
        have BW := Lib.hid bw
        have CA := Lib.hid ca
        clear bw ca
        have AB := Lib.hid (fun k hk => (Cl.frm_iff.1 FR.out).2 k hk)
        go_loopw [7, 8] (fun n i W => ∃ (k c : Nat) (A : Option Addr), k ≤ 6 ∧ n = .slice A k c ∧ i = .int .i64 (k : Int) ∧ k ≤ c ∧ c ≤ 9223372036854775807 ∧ Hid (OwnL W W0.heap.size (.slice A k c) ((Cl.nms s.data.toList).take k)) ∧ Hid (Below W0.heap.size W0 W)) (fun _ i _ => 6 - (intOf i).toNat)
        case atStart => exact ⟨0, 0, none, by omega, rfl, rfl, by omega, by omega, OwnL.nil _ _, Below.refl _ _⟩
        case round =>
          obtain ⟨k, c, A, hk, rfl, rfl, hkc, hcm, HO, HB⟩ := hrel
          have hln : ((Cl.nms s.data.toList).take k).length = k := by rw [List.length_take]; exact Nat.min_eq_left hk
          have HLN := Lib.hid hln
          clear hln
          by_cases hlt : k < 6
          · have hlt' : (k : Int) < 6 := by omega
            have own := HO.out
            unfold OwnL at own
            rw [HLN.out] at own
            have OW := Lib.hid own
            have ag : Hid ((Value.slice A k c).ownBlock ≠ some w.heap.size) := fun e => by
              have := (OwnD.lt HO.out _ e).1
              omega
            clear own
            obtain ⟨a1, a2, a3⟩ := Cl.at_d hlt
            obtain ⟨p, ep⟩ : ∃ p, p = Cl.AT.getD k 0 := ⟨_, rfl⟩
            have cp := (HB.out.cell (p := ⟨w.heap.size, k, none⟩) hz).trans (CA.out k hlt)
            have o1 := AB.out p (by omega)
            have o2 := AB.out (p + 1) (by omega)
            rw [← ep] at a1 a2 a3 cp
            have hp1 : p < s.size := by omega
            have hp2 : p + 1 < s.size := by omega
            rw [a2, byt_at hp1] at o1
            rw [a3, byt_at hp2] at o2
            have o1 := Cl.okAt_d o1
            have o2 := Cl.okAt_d o2
            obtain ⟨C, eC⟩ : ∃ C : Nat, s[p].toNat = C := ⟨_, rfl⟩
            obtain ⟨D, eD⟩ : ∃ D : Nat, s[p + 1].toNat = D := ⟨_, rfl⟩
            rw [eC] at o1
            rw [eD] at o2
            obtain ⟨u, eu⟩ : ∃ u : Nat, u = 10 * (C - 48) + (D - 48) := ⟨_, rfl⟩
            have hu : Cl.nm s.data.toList p = u := by rw [Cl.nm, byt_at hp1, byt_at hp2, eC, eD, eu]
            have hsn : (Cl.nms s.data.toList).take (k + 1) = (Cl.nms s.data.toList).take k ++ [u] := by
              have h1 : (Cl.nms s.data.toList).getD k 0 = u := by rw [Cl.nms_at _ hlt, ← ep, hu]
              rw [← h1]
              rw [List.take_succ_eq_append_getElem (show k < (Cl.nms s.data.toList).length by exact hlt)]
              simp [List.getD, show k < (Cl.nms s.data.toList).length by exact hlt]
            have HSN := Lib.hid hsn
            have HS := Lib.hid HB.out.size
            obtain ⟨q1, e1⟩ : ∃ q : Nat, q = C - 48 := ⟨_, rfl⟩
            obtain ⟨q2, e2⟩ : ∃ q : Nat, q = 10 * q1 := ⟨_, rfl⟩
            obtain ⟨q3, e3⟩ : ∃ q : Nat, q = q2 + D := ⟨_, rfl⟩
            have k6 : k ≤ 1000000 := by omega
            have gC : IntKind.i64.wrap (C : Int) = (C : Int) := by rw [IntWalk.i64_in _ (by omega)]
            have gD : IntKind.i64.wrap (D : Int) = (D : Int) := by rw [IntWalk.i64_in _ (by omega)]
            have g1 : IntKind.i64.wrap ((C : Int) - 48) = (q1 : Int) := by rw [IntWalk.i64_in _ (by omega)]; omega
            have g2 : IntKind.i64.wrap (10 * (q1 : Int)) = (q2 : Int) := by rw [IntWalk.i64_in _ (by omega)]; omega
            have g3 : IntKind.i64.wrap ((q2 : Int) + (D : Int)) = (q3 : Int) := by rw [IntWalk.i64_in _ (by omega)]; omega
            have g4 : IntKind.i64.wrap ((q3 : Int) - 48) = (u : Int) := by rw [IntWalk.i64_in _ (by omega)]; omega
            have g5 : IntKind.i64.wrap ((p : Int) + 1) = (p : Int) + 1 := by rw [IntWalk.i64_in _ (by omega)]
            have g6 : (0 : Int) ≤ (p : Int) + 1 := by omega
            have g7 : ((p : Int) + 1).toNat = p + 1 := by omega
            have g8 : (p : Int) + 1 < (s.size : Int) := by omega
            have eC' : (s[p].toNat : Int) = (C : Int) := by rw [eC]
            have eD' : (s[p + 1].toNat : Int) = (D : Int) := by rw [eD]
            clear a1 a2 a3 ep eu hu hsn e1 e2 e3 o1 o2 eC eD
            go_wp2_with fail
            go_region_held3 (fun W => W.cell? ⟨w.heap.size, k, none⟩ = some (.int .i64 (p : Int)))
              (first | go_keep | (rw [HGR.out.cell_far _ (by have h1 := HS.out; simp; omega) (Ne.symm ag.out)]; assumption))
              ((refine step_app wr (by rfl) (Operand.tmp 56) (Operand.tmp 76) (by rfl) W0.heap.size (Value.slice A k c) k (fun i => ((Cl.nms s.data.toList).take k).getD i 0) u (u : Int) rfl (by rfl) OW.out (by rfl) k6 HS.out ?_; intro gg cap w1 HOW1 HB1 HGR hc1 hc2))
            all_goals (
              have HO2 : Hid (OwnL w1 W0.heap.size (.slice (some ⟨gg, 0, none⟩) (k + 1) cap) ((Cl.nms s.data.toList).take (k + 1))) := by
                show OwnL _ _ _ _
                rw [HSN.out]
                exact OwnL.snoc (by rw [HLN.out]; exact HOW1.out)
              have HB2 := Lib.hid (HB.out.trans HB1.out)
              clear gC gD g1 g2 g3 g4 g5 g6 g7 g8 eC' eD' HOW1 HB1 HGR HO HB OW
              go_wp2_with fail
              go_roundw
              case rel => exact ⟨k + 1, cap, _, by omega, rfl, by go_num, hc1, hc2, HO2, HB2⟩
              case measure => simp [intOf]; omega)
          · obtain rfl : k = 6 := by omega
            have htk : (Cl.nms s.data.toList).take 6 = Cl.nms s.data.toList := List.take_of_length_le (Nat.le_refl _)
            rw [htk] at HO
            obtain ⟨A2, c2, e2, -, -, -, hrw⟩ := OwnD.form HO.out
            injection e2 with e3 e4 e5
            subst e3 e5
            obtain ⟨g, rfl, hNg, hRw⟩ := hrw (by show 0 < 6; omega)
            have RW := Lib.hid hRw
            have b0 := Cl.nm_bd FR.out (show 0 < 6 by omega)
            have b1 := Cl.nm_bd FR.out (show 1 < 6 by omega)
            have b2 := Cl.nm_bd FR.out (show 2 < 6 by omega)
            have b3 := Cl.nm_bd FR.out (show 3 < 6 by omega)
            have b4 := Cl.nm_bd FR.out (show 4 < 6 by omega)
            have b5 := Cl.nm_bd FR.out (show 5 < 6 by omega)
            have PO := Lib.hid (fun h => Cl.par_no (L := s.data.toList) FR.out h)
            have PK := Lib.hid (fun h => Cl.par_ok (L := s.data.toList) FR.out h)
            have hpO : Cl.parO s.data.toList = (Cl.ex (Cl.pY s.data.toList : Nat) (Cl.nm s.data.toList 5 : Nat) (Cl.nm s.data.toList 8 : Nat) && (decide (Cl.nm s.data.toList 11 ≤ 23) && decide (Cl.nm s.data.toList 14 ≤ 59))) := rfl
            have hpT : Cl.parT s.data.toList = 1440 * Cl.num (Cl.pY s.data.toList) (Cl.nm s.data.toList 5) (Cl.nm s.data.toList 8) + 60 * Cl.nm s.data.toList 11 + Cl.nm s.data.toList 14 := rfl
            have hpY : Cl.pY s.data.toList = 100 * Cl.nm s.data.toList 0 + Cl.nm s.data.toList 2 := rfl
            have cc0 := RW.out.cell (i := 0) (by show 0 < 6; omega)
            have cc1 := RW.out.cell (i := 1) (by show 1 < 6; omega)
            have cc2 := RW.out.cell (i := 2) (by show 2 < 6; omega)
            have cc3 := RW.out.cell (i := 3) (by show 3 < 6; omega)
            have cc4 := RW.out.cell (i := 4) (by show 4 < 6; omega)
            have cc5 := RW.out.cell (i := 5) (by show 5 < 6; omega)
            change wr.cell? ⟨g, 0, none⟩ = some (.int .i64 (Cl.nm s.data.toList 0 : Nat)) at cc0
            change wr.cell? ⟨g, 1, none⟩ = some (.int .i64 (Cl.nm s.data.toList 2 : Nat)) at cc1
            change wr.cell? ⟨g, 2, none⟩ = some (.int .i64 (Cl.nm s.data.toList 5 : Nat)) at cc2
            change wr.cell? ⟨g, 3, none⟩ = some (.int .i64 (Cl.nm s.data.toList 8 : Nat)) at cc3
            change wr.cell? ⟨g, 4, none⟩ = some (.int .i64 (Cl.nm s.data.toList 11 : Nat)) at cc4
            change wr.cell? ⟨g, 5, none⟩ = some (.int .i64 (Cl.nm s.data.toList 14 : Nat)) at cc5
            change Cl.nm s.data.toList 0 ≤ 99 at b0
            change Cl.nm s.data.toList 2 ≤ 99 at b1
            change Cl.nm s.data.toList 5 ≤ 99 at b2
            change Cl.nm s.data.toList 8 ≤ 99 at b3
            change Cl.nm s.data.toList 11 ≤ 99 at b4
            change Cl.nm s.data.toList 14 ≤ 99 at b5
            obtain ⟨y, ey⟩ : ∃ y, y = Cl.pY s.data.toList := ⟨_, rfl⟩
            obtain ⟨n0, f0⟩ : ∃ y, y = Cl.nm s.data.toList 0 := ⟨_, rfl⟩
            obtain ⟨n1, f1⟩ : ∃ y, y = Cl.nm s.data.toList 2 := ⟨_, rfl⟩
            obtain ⟨n2, f2⟩ : ∃ y, y = Cl.nm s.data.toList 5 := ⟨_, rfl⟩
            obtain ⟨n3, f3⟩ : ∃ y, y = Cl.nm s.data.toList 8 := ⟨_, rfl⟩
            obtain ⟨n4, f4⟩ : ∃ y, y = Cl.nm s.data.toList 11 := ⟨_, rfl⟩
            obtain ⟨n5, f5⟩ : ∃ y, y = Cl.nm s.data.toList 14 := ⟨_, rfl⟩
            rw [← ey, ← f2, ← f3, ← f4, ← f5] at hpO hpT
            rw [← ey, ← f0, ← f1] at hpY
            rw [← f0] at cc0 b0
            rw [← f1] at cc1 b1
            rw [← f2] at cc2 b2
            rw [← f3] at cc3 b3
            rw [← f4] at cc4 b4
            rw [← f5] at cc5 b5
            rw [hpT] at PO PK
            rw [hpO] at PO PK
            have hy : 100 * (n0 : Int) + (n1 : Int) = (y : Int) := by omega
            have EX := Lib.hid fun W => ref6_exists (y : Int) (n2 : Int) (n3 : Int) W
            have hg : g < wr.heap.size := RW.out.lt
            have BT := Lib.hid (BW.out.trans (HB.out.mono (Nat.le_of_lt (Nat.lt_of_le_of_lt (Nat.le_refl _) hz))))
            have y99 : y ≤ 9999 := by omega
            clear htk hNg hRw hrw hpO hpT hpY f0 f1 f2 f3 f4 f5 ey HLN HO HB CA AB RW e4 hlt hk hkc hcm
            go_wp2_with fail
            go_quiet (fail)
            go_wp2_with fail
            refine wp_region_still_tail 7 (by kernel_rfl) (by kernel_rfl) ?_
            change wpStill _ _ (wr.drewN nq).drew (fun a' => wpList _ _ _ _ a' (wr.drewN nq).drew) _ _
            obtain ⟨wd, ewd⟩ : ∃ wd, wd = (wr.drewN nq).drew := ⟨_, rfl⟩
            have BD : Hid (Below w.heap.size w wd) := by show Below _ _ _; rw [ewd]; exact bdr3 BT.out nq
            have dd2 : wd.cell? ⟨g, 2, none⟩ = some (.int .i64 (n2 : Int)) := by rw [ewd]; exact cc2
            have dd3 : wd.cell? ⟨g, 3, none⟩ = some (.int .i64 (n3 : Int)) := by rw [ewd]; exact cc3
            have dd4 : wd.cell? ⟨g, 4, none⟩ = some (.int .i64 (n4 : Int)) := by rw [ewd]; exact cc4
            have dd5 : wd.cell? ⟨g, 5, none⟩ = some (.int .i64 (n5 : Int)) := by rw [ewd]; exact cc5
            have hgd : g < wd.heap.size := by rw [ewd]; exact hg
            rw [← ewd]
            clear ewd cc0 cc1 cc2 cc3 cc4 cc5 BT
            simp only [List.take_succ_cons, List.take_zero, List.drop_succ_cons, List.drop_zero]
            repeat still_step
            refine wpStill_nil ?_
            cases hex : Cl.ex (y : Int) (n2 : Int) (n3 : Int)
            · rw [hex] at EX PO PK
              obtain ⟨e1, e2⟩ := PO.out rfl
              have E1 := Lib.hid e1
              have E2 := Lib.hid e2
              clear hex e1 e2 PO PK
              go_wp2_with fail
              refine (EX.out _).mono ?_
              rintro e w2 ⟨rfl, B2⟩
              have K2 := Lib.hid (bthn6 BD.out B2)
              have d4 := (B2.cell (p := ⟨g, 4, none⟩) hgd).trans dd4
              have d5 := (B2.cell (p := ⟨g, 5, none⟩) hgd).trans dd5
              clear B2
              go_wp2_with fail
              go_ret2
              exact ⟨ret2_int E1.out.symm E2.out.symm, K2.out⟩
            · rw [hex] at EX PO PK
              have hx := Cl.ex_iff.1 hex
              obtain ⟨x1, x2, x3, x4, x5, x6⟩ := hx
              have x7 := Cl.mlen_bd (Int.toNat y) (Int.toNat n2)
              by_cases h4 : n4 ≤ 23
              · by_cases h5 : n5 ≤ 59
                · have hnb := Cl.num_bd (y := y) (m := n2) (d := n3) (by omega) (by omega) (by omega)
                  have NM := Lib.hid fun W => ref6_number y n2 n3 W (by omega) (by omega) (by omega) (by omega) (by omega) (by omega)
                  obtain ⟨N, eN⟩ : ∃ N, N = Cl.num y n2 n3 := ⟨_, rfl⟩
                  rw [← eN] at NM hnb PO PK
                  rw [show decide (n4 ≤ 23) = true by simp; omega, show decide (n5 ≤ 59) = true by simp; omega] at PO PK
                  obtain ⟨T, eT⟩ : ∃ T, T = 1440 * N + 60 * n4 + n5 := ⟨_, rfl⟩
                  rw [← eT] at PO PK
                  have c4 : decide ((23 : Int) < (n4 : Int)) = false := by simp; omega
                  have c5 : decide ((59 : Int) < (n5 : Int)) = false := by simp; omega
                  have r1 : IntKind.i64.wrap (1440 * (N : Int)) = ((1440 * N : Nat) : Int) := by rw [IntWalk.i64_in _ (by omega)]; omega
                  have r2 : IntKind.i64.wrap (60 * (n4 : Int)) = ((60 * n4 : Nat) : Int) := by rw [IntWalk.i64_in _ (by omega)]; omega
                  obtain ⟨a1, ea1⟩ : ∃ a, a = 1440 * N := ⟨_, rfl⟩
                  obtain ⟨a2, ea2⟩ : ∃ a, a = 60 * n4 := ⟨_, rfl⟩
                  obtain ⟨a3, ea3⟩ : ∃ a, a = a1 + a2 := ⟨_, rfl⟩
                  rw [← ea1] at r1
                  rw [← ea2] at r2
                  have r3 : IntKind.i64.wrap ((a1 : Int) + (a2 : Int)) = (a3 : Int) := by rw [IntWalk.i64_in _ (by omega)]; omega
                  have r4 : IntKind.i64.wrap ((a3 : Int) + (n5 : Int)) = (T : Int) := by rw [IntWalk.i64_in _ (by omega)]; omega
                  clear hex x1 x2 x3 x4 x5 x6 x7 eN ea1 ea2 ea3 eT
                  go_wp2_with fail
                  refine (EX.out _).mono ?_
                  rintro e w2 ⟨rfl, B2⟩
                  have KC := Lib.hid (bthn6 BD.out B2)
                  have hg2 := Nat.lt_of_lt_of_le hgd B2.size
                  have d2 := (B2.cell (p := ⟨g, 2, none⟩) hgd).trans dd2
                  have d3 := (B2.cell (p := ⟨g, 3, none⟩) hgd).trans dd3
                  have d4 := (B2.cell (p := ⟨g, 4, none⟩) hgd).trans dd4
                  have d5 := (B2.cell (p := ⟨g, 5, none⟩) hgd).trans dd5
                  clear B2 BD dd2 dd3 dd4 dd5 EX
                  · go_wp2_with fail
                    go_region_held3 (fun W => W.cell? ⟨g, 2, none⟩ = some (.int .i64 (n2 : Int)) ∧ W.cell? ⟨g, 3, none⟩ = some (.int .i64 (n3 : Int)) ∧ W.cell? ⟨g, 4, none⟩ = some (.int .i64 (n4 : Int)) ∧ W.cell? ⟨g, 5, none⟩ = some (.int .i64 (n5 : Int)))
                      (first | go_keep | (exact ⟨m2, m3, m4, m5⟩) | fail)
                      (first
                        | (go_at_call 27; (with_reducible refine (NM.out _).mono ?_); rintro e w3 ⟨rfl, B3⟩; have K3 := Lib.hid (bthn6 (bdr3 KC.out 0) B3); have m2 := (B3.cell (p := ⟨g, 2, none⟩) hg2).trans d2; have m3 := (B3.cell (p := ⟨g, 3, none⟩) hg2).trans d3; have m4 := (B3.cell (p := ⟨g, 4, none⟩) hg2).trans d4; have m5 := (B3.cell (p := ⟨g, 5, none⟩) hg2).trans d5; clear B3)
                        | fail)
                    all_goals (
                      by_cases hT : T ≤ 1073741824
                      · obtain ⟨e1, e2⟩ := PK.out (by rw [show decide (T ≤ 1073741824) = true by simp; omega]; rfl)
                        have E1 := Lib.hid e1
                        have E2 := Lib.hid e2
                        have hT2 : ¬ (1073741824 : Int) < (T : Int) := by omega
                        clear e1 e2 r1 r2 r3 r4 PO PK
                        go_wp2_with fail
                        go_ret2
                        exact ⟨ret2_int E1.out.symm E2.out.symm, K3.out⟩
                      · obtain ⟨e1, e2⟩ := PO.out (by rw [show decide (T ≤ 1073741824) = false by simp; omega]; rfl)
                        have E1 := Lib.hid e1
                        have E2 := Lib.hid e2
                        have hT2 : (1073741824 : Int) < (T : Int) := by omega
                        clear e1 e2 r1 r2 r3 r4 PO PK
                        go_wp2_with fail
                        go_ret2
                        exact ⟨ret2_int E1.out.symm E2.out.symm, K3.out⟩)
                · rw [show decide (n5 ≤ 59) = false by simp; omega, Bool.and_false] at PO
                  obtain ⟨e1, e2⟩ := PO.out rfl
                  have E1 := Lib.hid e1
                  have E2 := Lib.hid e2
                  have c4 : decide ((23 : Int) < (n4 : Int)) = false := by simp; omega
                  have c5 : decide ((59 : Int) < (n5 : Int)) = true := by simp; omega
                  clear hex e1 e2 PO PK x1 x2 x3 x4 x5 x6 x7
                  go_wp2_with fail
                  refine (EX.out _).mono ?_
                  rintro e w2 ⟨rfl, B2⟩
                  have K2 := Lib.hid (bthn6 BD.out B2)
                  have d4 := (B2.cell (p := ⟨g, 4, none⟩) hgd).trans dd4
                  have d5 := (B2.cell (p := ⟨g, 5, none⟩) hgd).trans dd5
                  clear B2
                  go_wp2_with fail
                  go_ret2
                  exact ⟨ret2_int E1.out.symm E2.out.symm, K2.out⟩
              · rw [show decide (n4 ≤ 23) = false by simp; omega] at PO
                obtain ⟨e1, e2⟩ := PO.out rfl
                have E1 := Lib.hid e1
                have E2 := Lib.hid e2
                have c4 : decide ((23 : Int) < (n4 : Int)) = true := by simp; omega
                clear hex e1 e2 PO PK x1 x2 x3 x4 x5 x6 x7
                go_wp2_with fail
                refine (EX.out _).mono ?_
                rintro e w2 ⟨rfl, B2⟩
                have K2 := Lib.hid (bthn6 BD.out B2)
                have d4 := (B2.cell (p := ⟨g, 4, none⟩) hgd).trans dd4
                have d5 := (B2.cell (p := ⟨g, 5, none⟩) hgd).trans dd5
                clear B2
                go_wp2_with fail
                go_ret2
                exact ⟨ret2_int E1.out.symm E2.out.symm, K2.out⟩
  · obtain ⟨e1, e2⟩ := Cl.frm_no (Cl.frm_size (L := s.data.toList) (by omega))
    rw [e1, e2]
    have hne : ((s.size : Int) == 16) = false := by rw [beq_eq_false_iff_ne]; omega
    have hne' : ((s.size : Int) != 16) = true := by rw [bne, hne]; rfl
    clear e1 e2 hlen h16
    go_enter Tryd.func23, Tryd.ntmps23
    go_wp2_with fail
    go_ret2
    exact ⟨rfl, Below.refl _ _⟩
end Go.Proofs.YtjhkbgdjgiiocaaDoor
