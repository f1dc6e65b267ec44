/- WireSpoils (P8.5): Next answers ErrCorrupt for a frame of at most 5000 bytes in which one byte of the contents or of the digest is another one, and the contents where the byte is the same; for longer ones, and besides, the chapter's examples hold: the law returns true. No condition. -/
import Derived.Test.YtdleleanaihcoaaOwn
import Derived.Test.YtdleleanaihcoaaWireO
import Derived.Test.YtdleleanaihcoaaWireP
namespace Go.Proofs.Ytdleleanaihcoaa.wireSpoils
set_option maxRecDepth 20000
open Go.RowKit Go.ChangeShapes Go.WideShapes Go.ChangeAt Go.WideElems
open Go.ChangeMaps (open_string shut_string)
set_option linter.unusedVariables false
set_option linter.unusedSimpArgs false

theorem own_cell {W : World} {N g m c i : Nat} {L : List UInt8} (h : OwnB W N (.slice (some ⟨g, 0, none⟩) m c) L) (u : UInt8) :
    W.frozen? ⟨g, i, none⟩ = false ∧ (∀ b, L[i]? = some b → W.cell? ⟨g, i, none⟩ = some (bv b)) ∧ Byts (W.setCell ⟨g, i, none⟩ (bv u)) (W.setCell ⟨g, i, none⟩ (bv u)).heap.size (some ⟨g, 0, none⟩) m (L.set i u) := by
  obtain ⟨A', c', e, h1, h2, h3, h4⟩ := h.form
  injection e with e1 e2 e3
  subst e1 e2
  have hb : ∃ cur, W.heap[g]? = some (.cells cur 5 (0, 0)) := by
    rcases h.2 with ⟨hv, -⟩ | ⟨g', cap, cur, hv, -, hg, -⟩
    · cases hv
    · injection hv with hv
      injection hv with hv
      injection hv with hv
      subst hv
      exact ⟨cur, hg⟩
  have hcell : ∀ j b, L[j]? = some b → W.cell? ⟨g, j, none⟩ = some (bv b) := fun j b hj => by
    have hp : 0 < L.length := by have := (List.getElem?_eq_some_iff.1 hj).1; omega
    obtain ⟨ad, e, -, hc⟩ := h3.2 hp
    injection e with e
    subst e
    have := hc j b hj
    rw [add_at, Nat.zero_add] at this
    exact this
  obtain ⟨cur, hb⟩ := hb
  refine ⟨by simp [World.frozen?, hb], hcell i, ⟨List.length_set .., fun hp => ⟨_, rfl, by rw [size_setCell]; exact lt_of_block hb, fun j d hj => ?_⟩⟩⟩
  rw [add_at, Nat.zero_add]
  by_cases hji : i = j
  · subst hji
    have hi : i < L.length := by have := (List.getElem?_eq_some_iff.1 hj).1; rwa [List.length_set] at this
    rw [List.getElem?_set_self hi] at hj
    injection hj with hj
    subst hj
    exact World.cell?_setCell_same _ _ _ (hcell i _ (List.getElem?_eq_getElem hi))
  · rw [List.getElem?_set_ne hji] at hj
    rw [World.cell?_setCell_other W _ _ _ (by intro e; injection e with _ e; exact hji e)]
    exact hcell j d hj
set_option maxHeartbeats 2000000 in
theorem walk (A : Option Addr) (n c : Nat) (L : List UInt8) (a : Int) (u : Int) (hc : n ≤ c) (hc1 : c ≤ 9223372036854775807) (a0 : 0 ≤ a) (a1 : a ≤ 65535) (u0 : 0 ≤ u) (u1 : u ≤ 255) (w : World) (h : Byts w w.heap.size A n L) :
    Calls Try.prog 9 #[.slice A n c, .int .u16 a, .int .u8 u] w fun e w' => e = .returned (.bool true) ∧ Below w.heap.size w w' := by
  have AW := Lib.hid law8_awake
  have n1 : (n : Int) ≤ 9223372036854775807 := by omega
  by_cases hn : n ≤ 5000
  · have hn1 : ¬ (5000 : Int) < (n : Int) := by omega
    have hL := h.len
    subst hL
    have bA : Below w.heap.size w (w.alloc (.cells #[] 5)) := (Below.refl _ _).alloc (Nat.le_refl _) _
    have BA := Lib.hid bA
    have F := Lib.hid (wire_Frame (c := c) _ (h.on bA) (by omega) hc hc1)
    have OE := Lib.hid (OwnB.empty w)
    obtain ⟨hf1, hf2, hf3⟩ := Wr.frame_len L (by omega)
    obtain ⟨H, eH⟩ : ∃ H, H = (Wr.enc L.length).length := ⟨_, rfl⟩
    obtain ⟨m, em⟩ : ∃ m, m = (Wr.frame L).length := ⟨_, rfl⟩
    obtain ⟨J, eJ⟩ : ∃ J : Nat, J = a.toNat % (L.length + 8) := ⟨_, rfl⟩
    have hJ : J < L.length + 8 := by rw [eJ]; exact Nat.mod_lt _ (by omega)
    have hmod : a % ((L.length : Int) + 8) = (J : Int) := by
      rw [eJ, Int.natCast_emod, Int.toNat_of_nonneg a0]; rfl
    have hmod2 : a.tmod ((L.length : Int) + 8) = (J : Int) := by rw [Int.tmod_eq_emod_of_nonneg a0]; exact hmod
    obtain ⟨b, hb⟩ : ∃ b, (Wr.frame L)[H + J]? = some b := ⟨_, List.getElem?_eq_getElem (by omega)⟩
    rw [← eH, ← em] at hf1
    rw [← eH] at hf2 hf3
    obtain ⟨I, eI⟩ : ∃ I, I = H + J := ⟨_, rfl⟩
    have g1 : (m : Int) - (L.length : Int) - 8 = (H : Int) := by omega
    have g2 : ¬ (H : Int) < 1 := by omega
    have g3 : (H : Int) + (J : Int) = (I : Int) := by omega
    have g4 : (I : Int) < (m : Int) := by omega
    have HY := Lib.hid h
    have HB := Lib.hid hb
    have EH := Lib.hid eH
    have EM := Lib.hid em
    have EI := Lib.hid eI
    have g6 : (m : Int) ≤ 6000 := by omega
    have g7 : 0 < m := by omega
    have g8 : (Wr.frame L).length ≤ 6000 := by omega
    clear h bA hb eJ em eH eI hf1
    go_enter Try.func9, Try.ntmps9
    go_wp2_with fail
    refine F.out.mono ?_
    rintro e w1 ⟨A1, c1, rfl, b1, y1, -, k1, k2⟩
    have B1 := Lib.hid (bel8 BA.out b1)
    have Y1 := Lib.hid y1
    have O1 : Hid (OwnB w1 w.heap.size (.slice (some ⟨w.heap.size, 0, none⟩) 0 0) []) := OE.out.same fun g hg => b1.block g (OE.out.lt g hg).2
    clear b1 y1
    go_wp2_with (at_builtin; refine Hid.out ?_)
    refine Lib.hid (wpList_appAny rfl (.tmp 18) (.tmp 20) rfl w.heap.size (.slice (some ⟨w.heap.size, 0, none⟩) 0 0) [] rfl O1.out A1 (Wr.frame L).length c1 w1.heap.size (Wr.frame L) rfl Y1.out (by simp; omega) B1.out.size ?_)
    intro v2 w2 hown hg hor
    rw [List.nil_append] at hown
    have B2 : Hid (Below w.heap.size w w2) := B1.out.grown hg B1.out.size fun g hg => (O1.out.lt g hg).1
    obtain ⟨A2, c2, ev, z1, z2, z3, z4⟩ := hown.form
    rw [← EM.out] at ev z1
    obtain ⟨g, rfl⟩ : ∃ g, A2 = some ⟨g, 0, none⟩ := by
      rcases z4 with rfl | h4
      · obtain ⟨ad, e, -⟩ := z3.2 (by rw [← EM.out]; exact g7)
        cases e
      · exact h4
    subst ev
    have GB : Hid (w.heap.size ≤ g) := (hown.lt g rfl).1
    obtain ⟨ux, eux⟩ : ∃ ux : UInt8, u = ((ux.toNat : Nat) : Int) := ⟨UInt8.ofNat u.toNat, by rw [UInt8.toNat_ofNat', Nat.mod_eq_of_lt (by omega), Int.toNat_of_nonneg u0]⟩
    obtain ⟨x1, x2, x3⟩ := own_cell (i := I) hown ux
    have x4 : w2.cell? ⟨g, I, none⟩ = some (.int .u8 ((b.toNat : Nat) : Int)) := x2 b (by rw [EI.out]; exact HB.out)
    have X3 := Lib.hid x3
    have g5 : (0 : Int) ≤ (I : Int) := by omega
    have b255 : ((b.toNat : Nat) : Int) ≤ 255 := by have := b.toNat_lt; omega
    clear hown hg hor z3 z4 x2 x3
    go_wp2_with fail
    have N := Lib.hid (wire_Next _ X3.out (by omega) z1 z2 0 (by omega) (by omega))
    have B3 : Hid (Below w.heap.size w (w2.setCell ⟨g, I, none⟩ (bv ux))) := B2.out.trans ((Below.refl _ _).setCell GB.out _)
    by_cases hne : ux = b
    · subst hne
      have hs : (Wr.frame L).set I ux = Wr.frame L := Wr.set_same (by rw [EI.out]; exact HB.out)
      have hnx := Wr.nx0_frame L [] (by omega)
      rw [List.append_nil] at hnx
      obtain ⟨e1, e2, e3⟩ := Wr.nx_in (L := Wr.frame L) (k := 0) (Nat.zero_le _) hnx
      rw [hs, show (0 : Int) = ((0 : Nat) : Int) from rfl, e1, e2, e3, if_pos rfl] at N
      obtain ⟨q, eq⟩ : ∃ q : Int, q = ((0 : Nat) : Int) + ((Wr.frame L).length : Nat) := ⟨_, rfl⟩
      rw [← eq] at N
      clear hs hnx e1 e2 e3 eq
      refine N.out.mono ?_
      rintro e w3 ⟨AX, cX, rfl, b3, yx, -, -, -⟩
      have B4 := Lib.hid (bel8 B3.out b3)
      have cv1 := conv_bytes (c := cX) yx
      have cv2 := conv_bytes (c := c) (HY.out.on B4.out)
      clear b3 yx
      go_wp2_with fail
      refine (AW.out _).mono ?_
      rintro e w4 ⟨rfl, b4⟩
      have B5 := Lib.hid (bel8 B4.out b4)
      clear b4
      go_wp2_with fail
      go_ret
      exact ⟨rfl, B5.out⟩
    · have hbb : (((b.toNat : Nat) : Int) == ((ux.toNat : Nat) : Int)) = false := by
        rw [beq_eq_false_iff_ne]
        intro e
        exact hne (UInt8.toNat_inj.1 (by omega))
      have hnx := Wr.frame_spoilt (L := L) (by omega) (c := ux) (by rw [← EH.out]; exact HB.out) hne
      rw [← EH.out, ← EI.out] at hnx
      obtain ⟨e1, e2, e3⟩ := Wr.nx_in (L := (Wr.frame L).set I ux) (k := 0) (Nat.zero_le _) hnx
      rw [show (0 : Int) = ((0 : Nat) : Int) from rfl, e1, e2, e3, if_neg (by decide)] at N
      clear hnx e1 e2 e3
      refine N.out.mono ?_
      rintro e w3 ⟨AX, cX, rfl, b3, yx, -, -, -⟩
      have B4 := Lib.hid (bel8 B3.out b3)
      clear b3 yx
      go_wp2_with fail
      refine (AW.out _).mono ?_
      rintro e w4 ⟨rfl, b4⟩
      have B5 := Lib.hid (bel8 B4.out b4)
      clear b4
      go_wp2_with fail
      go_ret
      exact ⟨rfl, B5.out⟩
  · have hn1 : (5000 : Int) < (n : Int) := by omega
    clear h
    go_enter Try.func9, Try.ntmps9
    go_wp2_with fail
    refine (AW.out _).mono ?_
    rintro e w1 ⟨rfl, b1⟩
    have B1 := Lib.hid b1
    clear b1
    go_wp2_with fail
    go_ret
    exact ⟨rfl, B1.out⟩

/-! ### The row's step, the row -/
set_option maxRecDepth 100000 in
theorem lifted (os : Os) (started : os.Started) (H : Type) (enc : TypeId × Value → H) :
    ReturnsInHanded {} Try.checked os 9 .any (Rows.wireSpoilsSpec.pre6 enc Try.prog Try.f9 Rows.wireSpoilsRow.domain false) (Rows.wireSpoilsSpec.post enc Try.prog Try.f9 false true false false) := by
  refine returnsInHanded_of_change (C := Try.checked) own started (by kernel_rfl) Try.func9
    (ChangeSpec.witness6 (enc := enc) (C := Try.checked) false ⟨#[], #[.slice none 0 0, .int .u16 0, .int .u8 0], []⟩ 8 (by kernel_rfl) (by kernel_rfl) (by kernel_rfl) (by kernel_rfl)) ?_
  intro W base args ds gs before hval0 hW hcnd _
  skip
  have hval : ∀ (j : Nat) t v, Try.f9.params[j]? = some t → args[j]? = some v → Value.okWide Try.prog W .any base t v := hval0
  have hW' := hW
  obtain ⟨p, q, hA0, hV, rfl, hfz, hnd⟩ := hW
  have hA : DataW.TrodAll enc Try.prog W 0 (fun _ => true) true Try.f9.params.toList args.toList ds p := hA0
  rw [Try.params9] at hA hval

  obtain ⟨v0, vs0, d0, ds0, p0, q0, hargs, rfl, rfl, h0, r0⟩ := trodAll_cons hA
  obtain ⟨v1, vs1, d1, ds1, p1, q1, rfl, rfl, rfl, h1, r1⟩ := trodAll_cons r0
  obtain ⟨v2, vs2, d2, ds2, p2, q2, rfl, rfl, rfl, h2, r2⟩ := trodAll_cons r1
  obtain ⟨rfl, rfl, rfl⟩ := trodAll_nil r2
  obtain rfl : args = #[v0, v1, v2] := by cases args; simp_all
  obtain ⟨rfl, rfl⟩ := trodVars_none hV
  obtain ⟨B0, l0, q0', rfl⟩ := okWide_slice Try.underlying38 (hval 0 38 v0 rfl rfl)
  have k0 := h0
  have lt0 : ∀ x ∈ p0, x.block < W.heap.size := by
    obtain ⟨m, hm⟩ := k0
    exact DataW.trod_lt m _ _ _ hm
  obtain ⟨D0, hD0⟩ := sl_opened (e := (.int .u8)) (t := 38) (by kernel_rfl) h0
  obtain ⟨A0, n0, c0, L0, e0, x0, y0, w0⟩ := byts_of_rd hD0
  obtain ⟨rfl, rfl, rfl⟩ : B0 = A0 ∧ l0 = n0 ∧ q0' = c0 := by simpa using e0
  obtain ⟨a1, rfl, rfl, rfl, w1⟩ := open_int Try.underlying62 (hval 1 62 v1 rfl rfl) h1
  have b1 := bounds_u16 w1
  obtain ⟨a2, rfl, rfl, rfl, w2⟩ := open_int Try.underlying5 (hval 2 5 v2 rfl rfl) h2
  have b2 := bounds_u8 w2
  clear hA0 hval0
  refine (walk _ _ _ L0 a1 a2 x0 y0 b1.1 b1.2 b2.1 b2.2 W w0).mono fun e W' ⟨he, bel⟩ => ?_
  subst he
  exact ⟨_, rfl, _, _, _, [], _, [], hW', trodAll_mk1 (shut_bool Try.underlying4 _), (trodAll_cons_mk (Below.trod laidOut (by kernel_rfl) (of_decide_eq_true (by kernel_rfl)) k0 bel lt0) (trodAll_cons_mk (shut_int Try.underlying62 w1) (trodAll_cons_mk (shut_int Try.underlying5 w2) trodAll_mk0))), rfl, bel.frame _, fun h => by cases h⟩

theorem over : Rows.WireSpoilsSaid :=
  OpenClaim.holds_of_wide 9 Try.f9 rfl rfl rfl rfl rfl rfl rfl ⟨rfl, rfl, rfl, rfl, rfl⟩ rfl rfl rfl rfl rfl (by kernel_rfl) Try.func9 (by kernel_rfl)
    (of_decide_eq_true (by kernel_rfl)) (by unfold Func.isWrapper; first | (rw [if_pos (by decide +kernel)]; kernel_rfl) | (rw [if_neg (by decide +kernel)]; exact ⟨rfl, rfl⟩))
    (fun os started H enc _ => lifted os started H enc)
/-- The statement. -/
theorem proved : Rows.WireSpoilsSaid := over
end Go.Proofs.Ytdleleanaihcoaa.wireSpoils
