/- Layer 8: the reference's Next. -/
import Derived.Test.YtdleleanaihcoaaWireH
import Derived.Deep.RegionWith
import Derived.Lib.Strings
namespace Go.Proofs.Ytdleleanaihcoaa
set_option maxRecDepth 20000
open Go.RowKit
set_option linter.unusedVariables false
set_option linter.unusedSimpArgs false
namespace Wr
/-- What Next answers for the bytes that begin at an offset that is none of its concern: content, bytes used, error. -/
def nx0 (R : List UInt8) : List UInt8 × Nat × Int :=
  if (tk 0 R).2.2 ≠ 0 then ([], 0, (tk 0 R).2.2)
  else if (R.drop (tk 0 R).2.1).length < (tk 0 R).1 + 8 then ([], 0, 28)
  else if ((R.drop (tk 0 R).2.1).drop (tk 0 R).1).take 8 ≠ bg 8 (dg ((R.drop (tk 0 R).2.1).take (tk 0 R).1)) then ([], 0, 27)
  else ((R.drop (tk 0 R).2.1).take (tk 0 R).1, (tk 0 R).2.1 + (tk 0 R).1 + 8, 0)
def nxL (L : List UInt8) (p : Int) : List UInt8 := if p < 0 ∨ (L.length : Int) < p then [] else (nx0 (L.drop p.toNat)).1
def nxA (L : List UInt8) (p : Int) : Int := if p < 0 ∨ (L.length : Int) < p then 0 else if (nx0 (L.drop p.toNat)).2.2 = 0 then p + (nx0 (L.drop p.toNat)).2.1 else 0
def nxE (L : List UInt8) (p : Int) : Int := if p < 0 ∨ (L.length : Int) < p then 2 else (nx0 (L.drop p.toNat)).2.2
theorem nx_out {L : List UInt8} {p : Int} (h : p < 0 ∨ (L.length : Int) < p) : nxL L p = [] ∧ nxA L p = 0 ∧ nxE L p = 2 := ⟨if_pos h, if_pos h, if_pos h⟩
theorem nx_in {L : List UInt8} {k : Nat} {Z : List UInt8} {m : Nat} {e : Int} (hk : k ≤ L.length) (h : nx0 (L.drop k) = (Z, m, e)) : nxL L (k : Int) = Z ∧ nxA L (k : Int) = (if e = 0 then (k : Int) + m else 0) ∧ nxE L (k : Int) = e := by
  have hn : ¬ ((k : Int) < 0 ∨ (L.length : Int) < (k : Int)) := by omega
  refine ⟨?_, ?_, ?_⟩
  · unfold nxL; rw [if_neg hn, Int.toNat_natCast, h]
  · unfold nxA; rw [if_neg hn, Int.toNat_natCast, h]
  · unfold nxE; rw [if_neg hn, Int.toNat_natCast, h]
theorem nx0_err {R : List UInt8} {e : Int} (h : tk 0 R = (0, 0, e)) (he : e ≠ 0) : nx0 R = ([], 0, e) := by unfold nx0; rw [h]; exact if_pos he
theorem nx0_short {R : List UInt8} {x n : Nat} (h : tk 0 R = (x, n, 0)) (hs : (R.drop n).length < x + 8) : nx0 R = ([], 0, 28) := by unfold nx0; rw [h]; show (if (0 : Int) ≠ 0 then _ else _) = _; rw [if_neg (by decide), if_pos hs]
theorem nx0_bad {R : List UInt8} {x n : Nat} (h : tk 0 R = (x, n, 0)) (hs : ¬ (R.drop n).length < x + 8) (hd : ((R.drop n).drop x).take 8 ≠ bg 8 (dg ((R.drop n).take x))) : nx0 R = ([], 0, 27) := by unfold nx0; rw [h]; show (if (0 : Int) ≠ 0 then _ else _) = _; rw [if_neg (by decide), if_neg hs, if_pos hd]
theorem nx0_ok {R : List UInt8} {x n : Nat} (h : tk 0 R = (x, n, 0)) (hs : ¬ (R.drop n).length < x + 8) (hd : ((R.drop n).drop x).take 8 = bg 8 (dg ((R.drop n).take x))) : nx0 R = ((R.drop n).take x, n + x + 8, 0) := by unfold nx0; rw [h]; show (if (0 : Int) ≠ 0 then _ else _) = _; rw [if_neg (by decide), if_neg hs, if_neg (fun hn => hn hd)]
/-- A frame is read back. -/
theorem nx0_frame (L t : List UInt8) (hL : L.length < 18446744073709551616) : nx0 (frame L ++ t) = (L, (frame L).length, 0) := by
  have hT : tk 0 (frame L ++ t) = (L.length, (enc L.length).length, 0) := by
    unfold frame
    rw [List.append_assoc, List.append_assoc]
    exact tk_enc 0 L.length _ (by omega) (by rw [lim_zero]; exact hL) (fun h => absurd h (by omega))
  have hR : (frame L ++ t).drop (enc L.length).length = L ++ (bg 8 (dg L) ++ t) := by
    unfold frame
    rw [List.append_assoc, List.append_assoc, List.drop_left]
  have h1 : (L ++ (bg 8 (dg L) ++ t)).take L.length = L := List.take_left
  have h2 : (L ++ (bg 8 (dg L) ++ t)).drop L.length = bg 8 (dg L) ++ t := List.drop_left
  have h3 : (bg 8 (dg L) ++ t).take 8 = bg 8 (dg L) := by
    have := List.take_left (l₁ := bg 8 (dg L)) (l₂ := t)
    rw [bg_len] at this
    exact this
  rw [nx0_ok hT (by rw [hR, List.length_append, List.length_append, bg_len]; omega) (by rw [hR, h1, h2, h3]), hR, h1]
  have h4 : (frame L).length = (enc L.length).length + L.length + 8 := by unfold frame; rw [List.length_append, List.length_append, bg_len]
  rw [h4]
end Wr
/-- What Next leaves: bytes of its own, an offset, an error. -/
def NRes (Z : List UInt8) (a er : Int) (w : World) (e : Ending) (w' : World) : Prop :=
  ∃ A c, e = .returned (.tuple #[.slice A Z.length c, .int .i64 a, .int .i64 er]) ∧ Below w.heap.size w w' ∧ Byts w' w'.heap.size A Z.length Z ∧ OwnB w' w.heap.size (.slice A Z.length c) Z ∧ Z.length ≤ c ∧ c ≤ 9223372036854775807
theorem NRes.none_ (w : World) (a er : Int) (k : Nat) : NRes [] a er w (.returned (.tuple #[.slice none 0 0, .int .i64 a, .int .i64 er])) (w.drewN k) :=
  ⟨none, 0, rfl, below_drewN w k, Byts.none_, OwnB.nil _ _, Nat.le_refl _, by omega⟩
theorem addr_addN (ad : Addr) (a j : Nat) : (ad.add a).add j = ad.add (a + j) := by
  rcases Nat.eq_zero_or_pos a with rfl | ha
  · simp [Addr.add]
  · rcases Nat.eq_zero_or_pos j with rfl | hj
    · simp [Addr.add]
    · have h1 : a ≠ 0 := by omega
      have h2 : j ≠ 0 := by omega
      have h3 : a + j ≠ 0 := by omega
      simp [Addr.add, h1, h2, h3, Nat.add_assoc]
/-- A slice of bytes, sliced. -/
theorem byts_cut {W : World} {B n c a X : Nat} {ad : Addr} {M : List UInt8} (h : Byts W B (some ad) n M) (hax : a + X ≤ n) (hc : n ≤ c) : Byts W B (if c = a then some ad else some (ad.add a)) X ((M.drop a).take X) := by
  refine ⟨by rw [List.length_take, List.length_drop, h.1]; omega, fun h0 => ?_⟩
  rw [if_neg (by omega)]
  obtain ⟨ad', e, hb, hcell⟩ := h.2 (by omega)
  injection e with e
  subst e
  refine ⟨_, rfl, by rw [block_of_add]; exact hb, fun j d hj => ?_⟩
  have hjx : j < X := by
    have := (List.getElem?_eq_some_iff.1 hj).1
    rw [List.length_take] at this
    omega
  rw [List.getElem?_take, if_pos hjx, List.getElem?_drop] at hj
  have := hcell _ d hj
  rw [addr_addN]
  exact this
theorem str_ne {S1 S2 : ByteArray} (h : ¬ S1 = S2) : (S1.toList == S2.toList) = false := by
  rw [beq_eq_false_iff_ne, Lib.toList_data, Lib.toList_data]
  intro e
  apply h
  have h2 : S1.data = S2.data := Array.ext' e
  cases S1
  cases S2
  exact congrArg ByteArray.mk h2
set_option maxHeartbeats 4000000 in
theorem ref8_Next {A : Option Addr} {n c : Nat} {L : List UInt8} (w : World) (h : Byts w w.heap.size A n L) (hn : n ≤ 900000000000) (hnc : n ≤ c) (p : Int) (p0 : -9223372036854775808 ≤ p) (p1 : p ≤ 9223372036854775807) :
    Calls Try.prog 39 #[.slice A n c, .int .i64 p] w (NRes (Wr.nxL L p) (Wr.nxA L p) (Wr.nxE L p) w) := by
  by_cases ho : p < 0 ∨ (L.length : Int) < p
  · obtain ⟨e1, e2, e3⟩ := Wr.nx_out ho
    rw [e1, e2, e3]
    rw [h.len] at ho
    by_cases hp : p < 0
    · clear ho e1 e2 e3 h
      go_enter Try.func39, Try.ntmps39
      go_wp2_with fail
      go_ret3
      exact NRes.none_ w 0 2 0
    · have hp2 : (n : Int) < p := by omega
      clear ho e1 e2 e3 h
      go_enter Try.func39, Try.ntmps39
      go_wp2_with fail
      go_ret3
      exact NRes.none_ w 0 2 0
  · obtain ⟨k, rfl⟩ : ∃ k : Nat, p = (k : Int) := ⟨p.toNat, by omega⟩
    clear p0 p1
    have hk : k ≤ n := by have := h.len; omega
    have hkL : k ≤ L.length := by have := h.len; omega
    have hk2 : ¬ (n : Int) < (k : Int) := by omega
    obtain ⟨x, m, er, hT⟩ : ∃ x m er, Wr.tk 0 (L.drop k) = (x, m, er) := ⟨_, _, _, rfl⟩
    have V := Lib.hid (ref8_Take (c := c) w h (by omega) hk)
    rw [hT] at V
    by_cases he : er = 0
    · subst he
      rw [Wr.tkA_ok] at V
      obtain ⟨hx, -, hm, hm0, -⟩ := Wr.tk_once 0 _ x m (by omega) hT
      rw [Wr.lim_zero] at hx
      rw [List.length_drop, h.len] at hm
      have hx1 : (x : Int) ≤ 18446744073709551615 := by omega
      obtain ⟨ad, rfl, -, -⟩ := h.at_ (k := k) (by omega)
      obtain ⟨f, ef⟩ : ∃ f, f = k + m := ⟨_, rfl⟩
      obtain ⟨l, el⟩ : ∃ l, l = n - f := ⟨_, rfl⟩
      have hfl : (n : Int) - (f : Int) = (l : Int) := by omega
      have hR : (L.drop k).drop m = L.drop f := by rw [List.drop_drop, ef]
      have hRl : ((L.drop k).drop m).length = l := by rw [hR, List.length_drop, h.len, el]
      rw [← ef] at V
      by_cases hs : l < x + 8
      · obtain ⟨e1, e2, e3⟩ := Wr.nx_in hkL (Wr.nx0_short hT (by rw [hRl]; exact hs))
        rw [if_neg (by decide)] at e2
        rw [e1, e2, e3]
        clear hT e1 e2 e3 ho hkL hR hRl h hm hm0 hx
        by_cases hl8 : l < 8
        · have hl9 : (l : Int) < 8 := by omega
          clear ef el hs
          go_enter Try.func39, Try.ntmps39
          go_wp2_with (go_at_call 52; refine V.out.mono ?_; rintro e w' ⟨rfl, rfl⟩)
          go_ret3
          exact NRes.none_ w 0 28 0
        · have hl9 : ¬ (l : Int) < 8 := by omega
          obtain ⟨l8, el8⟩ : ∃ l8, l8 = l - 8 := ⟨_, rfl⟩
          have hl10 : (l : Int) - 8 = (l8 : Int) := by omega
          have hl11 : (l8 : Int) < (x : Int) := by omega
          have hl12 : l8 ≤ 900000000000 := by omega
          clear ef el hs el8
          go_enter Try.func39, Try.ntmps39
          go_wp2_with (go_at_call 52; refine V.out.mono ?_; rintro e w' ⟨rfl, rfl⟩)
          go_ret3
          exact NRes.none_ w 0 28 0
      · have hl9 : ¬ (l : Int) < 8 := by omega
        obtain ⟨l8, el8⟩ : ∃ l8, l8 = l - 8 := ⟨_, rfl⟩
        have hl10 : (l : Int) - 8 = (l8 : Int) := by omega
        have hl11 : ¬ (l8 : Int) < (x : Int) := by omega
        have hl12 : l8 ≤ 900000000000 := by omega
        have hx2 : x ≤ 900000000000 := by omega
        obtain ⟨t, et⟩ : ∃ t, t = f + x := ⟨_, rfl⟩
        obtain ⟨u, eu⟩ : ∃ u, u = t + 8 := ⟨_, rfl⟩
        have g1 : (f : Int) + (x : Int) = (t : Int) := by omega
        have ht1 : t ≤ 900000000000 := by omega
        have g2 : IntKind.i64.wrap (u : Int) = (u : Int) := by rw [IntWalk.i64_in _ (by omega)]
        have g3 : (t : Int) + 8 = (u : Int) := by omega
        have b1 : t ≤ u := by omega
        have b2 : (u : Int) ≤ (c : Int) := by omega
        have b3 : u - t = 8 := by omega
        have b4 : f ≤ t := by omega
        have b5 : (t : Int) ≤ (c : Int) := by omega
        have b6 : t - f = x := by omega
        have hZ1 : (((L.drop k).drop m).drop x).take 8 = (L.drop t).take 8 := by rw [hR, List.drop_drop, et]
        have hZ2 : ((L.drop k).drop m).take x = (L.drop f).take x := by rw [hR]
        obtain ⟨D1, eD1⟩ : ∃ A', (if c = t then some ad else some (ad.add t)) = A' := ⟨_, rfl⟩
        obtain ⟨D2, eD2⟩ : ∃ A', (if c = f then some ad else some (ad.add f)) = A' := ⟨_, rfl⟩
        have y1 := byts_cut (a := t) (X := 8) h (by omega) hnc
        have y2 := byts_cut (a := f) (X := x) h (by omega) hnc
        rw [eD1] at y1
        rw [eD2] at y2
        obtain ⟨Z, eZ⟩ : ∃ Z, Z = (L.drop f).take x := ⟨_, rfl⟩
        rw [← eZ] at y2 hZ2
        obtain ⟨S1, eS1⟩ : ∃ S1 : ByteArray, S1 = ⟨((L.drop t).take 8).toArray⟩ := ⟨_, rfl⟩
        obtain ⟨S2, eS2⟩ : ∃ S2 : ByteArray, S2 = ⟨(Wr.bg 8 (Wr.dg Z)).toArray⟩ := ⟨_, rfl⟩
        have hv1 : ∀ W, Byts W W.heap.size D1 8 ((L.drop t).take 8) → (convert 38 9 (.slice D1 8 (c - t))).run Try.prog W = .ok (.string S1) W := fun W hW => by rw [eS1]; exact conv_bytes hW
        have hv2 : (convert 38 9 (.slice D2 x (c - f))).run Try.prog w.drew = .ok (.string ⟨Z.toArray⟩) w.drew := conv_bytes (y2.drewN 1)
        have hv1d := hv1 w.drew (y1.drewN 1)
        have HV1 := Lib.hid hv1
        have Y1 := Lib.hid y1
        have eD3 : D2 = some (ad.add f) := by rw [← eD2, if_neg (by omega)]
        have Y3 : Hid (Byts w w.heap.size (some (ad.add f)) x Z) := Lib.hid (eD3 ▸ y2)
        clear eD3
        have Y2 := Lib.hid y2
        have S := Lib.hid fun W => ref7_Sum ⟨Z.toArray⟩ W (by show Z.toArray.size ≤ _; rw [List.size_toArray, eZ, List.length_take]; omega)
        have hB := fun W => ref8_Big (Wr.dg Z) (by have := Wr.dg_bd Z; omega) W
        rw [Wr.dg_int] at hB
        have B := Lib.hid hB
        have hZl : Z.length = x := y2.len
        have HZ := Lib.hid hZl
        have ES2 := Lib.hid eS2
        have hns : ¬ ((L.drop k).drop m).length < x + 8 := by rw [hRl]; omega
        have hnum : k + (m + x + 8) = u := by omega
        by_cases hS : S1 = S2
        · have hlist : (((L.drop k).drop m).drop x).take 8 = Wr.bg 8 (Wr.dg (((L.drop k).drop m).take x)) := by
            rw [hZ1, hZ2]
            have h1 := hS
            rw [eS1, eS2] at h1
            injection h1 with h1
            have h2 := congrArg Array.toList h1
            simpa using h2
          obtain ⟨e1, e2, e3⟩ := Wr.nx_in hkL (Wr.nx0_ok hT hns hlist)
          rw [if_pos rfl] at e2
          rw [e1, e2, e3, hZ2]
          rw [show (k : Int) + ((m + x + 8 : Nat) : Int) = (u : Int) by omega]
          subst hS
          clear hT e1 e2 e3 ho hkL hR hRl h hm hm0 hx ef el hs el8 et eu hZ1 hZ2 y1 y2 eS1 eS2 hv1 hB hZl hns hnum hlist eZ
          go_enter Try.func39, Try.ntmps39
          go_wp2_with (go_at_call 52; refine V.out.mono ?_; rintro e w' ⟨rfl, rfl⟩)
          go_region_with (first
            | (go_at_call 59; refine (S.out _).mono ?_; rintro e w' ⟨rfl, rfl⟩)
            | (go_at_call 58; refine (B.out _).mono ?_; rintro e w3 ⟨A3, c3, rfl, hB3, hM3, -, -, -⟩; have hv3 : (convert 38 9 (.slice A3 (Wr.bg 8 (Wr.dg Z)).length c3)).run Try.prog w3 = .ok (.string S1) w3 := (by rw [ES2.out]; exact conv_bytes hM3); have hv1e := HV1.out w3 ((Y1.out.drewN 1).on hB3); have HB3 := Lib.hid (show Below w.heap.size w w3 from ⟨hB3.os, hB3.tape, hB3.output, hB3.size, hB3.block⟩); clear hB3 hM3))
          all_goals (
            go_wp2_with (at_builtin; refine Hid.out ?_)
            refine Lib.hid (wpList_appAny rfl (.tmp 62) (.tmp 66) rfl w.heap.size (.slice (some ⟨w3.heap.size, 0, none⟩) 0 0) [] rfl ((OwnB.empty w3).base fun k hk => by injection hk with hk; rw [← hk]; exact HB3.out.size) (some (ad.add f)) x (c - f) w.heap.size Z rfl (Y3.out.below (HB3.out.alloc HB3.out.size _)) (by simp; omega) (by rw [size_alloc]; exact Nat.le_succ_of_le HB3.out.size) ?_)
            intro v4 w4 hown hg hloc
            obtain ⟨A4, c4, rfl, z1, z2, z3, -⟩ := hown.form
            have FIN : Hid (NRes Z (u : Int) 0 w (.returned (.tuple #[.slice A4 x c4, .int .i64 (u : Int), .int .i64 0])) w4) := by
              show NRes _ _ _ _ _ _
              exact ⟨A4, c4, by rw [HZ.out], below_app HB3.out hg fun k hk => by injection hk with hk; rw [← hk]; exact HB3.out.size, z3, hown, z1, z2⟩
            rw [List.nil_append, HZ.out]
            clear hown hg hloc z1 z2 z3
            go_wp2_with fail
            go_ret3
            exact FIN.out)
        · have hlist : (((L.drop k).drop m).drop x).take 8 ≠ Wr.bg 8 (Wr.dg (((L.drop k).drop m).take x)) := by
            rw [hZ1, hZ2]
            intro e
            exact hS (by rw [eS1, eS2, e])
          obtain ⟨e1, e2, e3⟩ := Wr.nx_in hkL (Wr.nx0_bad hT hns hlist)
          rw [if_neg (by decide)] at e2
          rw [e1, e2, e3]
          have hne := str_ne hS
          clear hT e1 e2 e3 ho hkL hR hRl h hm hm0 hx ef el hs el8 et eu hZ1 hZ2 y1 y2 eS1 eS2 hv1 hB hZl hns hnum hlist eZ
          go_enter Try.func39, Try.ntmps39
          go_wp2_with (go_at_call 52; refine V.out.mono ?_; rintro e w' ⟨rfl, rfl⟩)
          go_region_with (first
            | (go_at_call 59; refine (S.out _).mono ?_; rintro e w' ⟨rfl, rfl⟩)
            | (go_at_call 58; refine (B.out _).mono ?_; rintro e w3 ⟨A3, c3, rfl, hB3, hM3, -, -, -⟩; have hv3 : (convert 38 9 (.slice A3 (Wr.bg 8 (Wr.dg Z)).length c3)).run Try.prog w3 = .ok (.string S2) w3 := (by rw [ES2.out]; exact conv_bytes hM3); have hv1e := HV1.out w3 ((Y1.out.drewN 1).on hB3); have HB3 := Lib.hid (show Below w.heap.size w w3 from ⟨hB3.os, hB3.tape, hB3.output, hB3.size, hB3.block⟩); clear hB3 hM3))
          all_goals (
            go_wp2_with fail
            go_ret3
            exact ⟨none, 0, rfl, HB3.out, Byts.none_, OwnB.nil _ _, Nat.le_refl _, by omega⟩)
    · have hT0 := (Wr.tk_err 0 (L.drop k)).resolve_left (by rw [hT]; exact he)
      rw [hT] at hT0
      obtain ⟨hT1, -⟩ := hT0
      injection hT1 with hX hT1
      injection hT1 with hN hQ
      clear hQ
      subst hX hN
      rw [Wr.tkA_no he] at V
      obtain ⟨e1, e2, e3⟩ := Wr.nx_in hkL (Wr.nx0_err hT he)
      rw [if_neg he] at e2
      rw [e1, e2, e3]
      have hb : (er == 0) = false := by rw [beq_eq_false_iff_ne]; exact he
      clear h hT he e1 e2 e3 ho hkL
      go_enter Try.func39, Try.ntmps39
      go_wp2_with (go_at_call 52; refine V.out.mono ?_; rintro e w' ⟨rfl, rfl⟩)
      go_ret3
      exact NRes.none_ w 0 er 0
end Go.Proofs.Ytdleleanaihcoaa
