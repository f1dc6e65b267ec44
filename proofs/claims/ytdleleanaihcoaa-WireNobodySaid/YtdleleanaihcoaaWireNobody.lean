/- WireNobody (chapter 8, R4): a nil writer has no bytes, a nil reader answers zero values and ErrNone, and the chapter's examples hold: the law returns true. No condition. -/
import Derived.Test.YtdleleanaihcoaaOwn
import Derived.Test.YtdleleanaihcoaaWireO
namespace Go.Proofs.Ytdleleanaihcoaa.wireNobody
set_option maxRecDepth 20000
open Go.RowKit Go.ChangeShapes Go.WideShapes Go.ChangeAt Go.WideElems
open Go.ChangeMaps (open_string shut_string)
set_option linter.unusedVariables false
set_option linter.unusedSimpArgs false

set_option maxHeartbeats 1000000 in
theorem write_nil {n c : Nat} {A : Option Addr} {L : List It} {P : Nat → Prop} (w : World) (hI : Its w P A n L) (hc : n ≤ c) (hc1 : c ≤ 9223372036854775807) :
    Calls Try.prog 15 #[.pointer none, .slice A n c] w fun e w' => e = .returned (.tuple #[]) ∧ Below w.heap.size w w' := by
  have HI := Lib.hid hI
  have n1 : (n : Int) ≤ 9223372036854775807 := by omega
  have J0 : Hid (Below w.heap.size w w) := Below.refl _ _
  clear hI
  go_enter Try.func15, Try.ntmps15
  go_wp2_with fail
  go_loopw [7] (fun i W => ∃ (k : Nat), k ≤ n ∧ i = .int .i64 (k : Int) ∧ Hid (Below w.heap.size w W)) (fun i _ => n - (intOf i).toNat)
  case atStart => exact ⟨0, by omega, rfl, J0⟩
  case round =>
    obtain ⟨k, hk, rfl, HB⟩ := hrel
    by_cases hlt : k < n
    · have hi := HI.out.below HB.out
      obtain ⟨ad, x, rfl, hP, hx, d0, d1, d2, d3, d4, hok⟩ := hi.at_ hlt
      have k0 := hok.k0
      have k1 := hok.k1
      have n0 := hok.n0
      have n1' := hok.n1
      have u1 : x.u ≤ 18446744073709551615 := by have := hok.u1; omega
      have lb2 := hok.c1
      have U1 := Lib.hid (wire_Int_nil x.n hok.n0 hok.n1 wr)
      have U2 := Lib.hid (wire_Uint_nil x.u hok.u1 wr)
      have U3 := Lib.hid (wire_WText_nil x.s hok.s1 wr)
      have U4 := Lib.hid (wire_WInts_nil (c := x.c) wr hok.i (by have h1 := hok.c0; have h2 := hok.c1; omega) hok.z)
      by_cases e1 : x.k = 1
      · have b1 : (x.k == 1) = true := by rw [beq_iff_eq]; exact e1
        clear hx hok e1 hi
        go_wp2_with fail
        refine U1.out.mono ?_
        rintro e w1 ⟨rfl, h1⟩
        have H1 := Lib.hid (bel8 HB.out h1)
        clear h1
        go_wp2_with fail
        go_roundw
        case rel => exact ⟨k + 1, by omega, by go_num, H1⟩
        case measure => simp [intOf]; omega
      · have b1 : (x.k == 1) = false := by rw [beq_eq_false_iff_ne]; exact e1
        by_cases e2 : x.k = 2
        · have b2 : (x.k == 2) = true := by rw [beq_iff_eq]; exact e2
          clear hx hok e1 e2 hi
          go_wp2_with fail
          refine U2.out.mono ?_
          rintro e w1 ⟨rfl, h1⟩
          have H1 := Lib.hid (bel8 HB.out h1)
          clear h1
          go_wp2_with fail
          go_roundw
          case rel => exact ⟨k + 1, by omega, by go_num, H1⟩
          case measure => simp [intOf]; omega
        · have b2 : (x.k == 2) = false := by rw [beq_eq_false_iff_ne]; exact e2
          by_cases e3 : x.k = 3
          · have b3 : (x.k == 3) = true := by rw [beq_iff_eq]; exact e3
            clear hx hok e1 e2 e3 hi
            go_wp2_with fail
            refine U3.out.mono ?_
            rintro e w1 ⟨rfl, h1⟩
            have H1 := Lib.hid (bel8 HB.out h1)
            clear h1
            go_wp2_with fail
            go_roundw
            case rel => exact ⟨k + 1, by omega, by go_num, H1⟩
            case measure => simp [intOf]; omega
          · have b3 : (x.k == 3) = false := by rw [beq_eq_false_iff_ne]; exact e3
            clear hx hok e1 e2 e3 hi
            go_wp2_with fail
            refine U4.out.mono ?_
            rintro e w1 ⟨rfl, h1⟩
            have H1 := Lib.hid (bel8 HB.out h1)
            clear h1
            go_wp2_with fail
            go_roundw
            case rel => exact ⟨k + 1, by omega, by go_num, H1⟩
            case measure => simp [intOf]; omega
    · have hge : ¬ (k : Int) < (n : Int) := by omega
      go_wp2_with fail
      go_end0
      exact ⟨rfl, HB.out⟩
set_option maxHeartbeats 1000000 in
theorem walk (x : It) (m : Int) (m0 : -9223372036854775808 ≤ m) (m1 : m ≤ 9223372036854775807) (w : World) (hok : ItOk w (· < w.heap.size) x) :
    Calls Try.prog 10 #[x.val, .int .i64 m] w fun e w' => e = .returned (.bool true) ∧ Below w.heap.size w w' := by
  have AW := Lib.hid law8_awake
  have OK := Lib.hid hok
  clear hok
  unfold It.val
  have bA : Below w.heap.size w ((w.alloc (.cells #[.int .i64 x.k, .int .i64 x.n, .int .u64 (x.u : Nat), .string x.s, .slice x.A x.l.length x.c] 33)).alloc (.cells #[.int .i64 x.k, .int .i64 x.n, .int .u64 (x.u : Nat), .string x.s, .slice x.A x.l.length x.c] 33)) := ((Below.refl _ _).alloc (Nat.le_refl _) _).alloc (by rw [size_alloc]; exact Nat.le_succ _) _
  have BA := Lib.hid bA
  have IA : Hid (Its ((w.alloc (.cells #[.int .i64 x.k, .int .i64 x.n, .int .u64 (x.u : Nat), .string x.s, .slice x.A x.l.length x.c] 33)).alloc (.cells #[.int .i64 x.k, .int .i64 x.n, .int .u64 (x.u : Nat), .string x.s, .slice x.A x.l.length x.c] 33)) (· < (w.alloc (.cells #[.int .i64 x.k, .int .i64 x.n, .int .u64 (x.u : Nat), .string x.s, .slice x.A x.l.length x.c] 33)).heap.size + 1) (some ⟨w.heap.size + 1, 0, none⟩) 1 [x]) := its_one w (w.alloc (.cells #[.int .i64 x.k, .int .i64 x.n, .int .u64 (x.u : Nat), .string x.s, .slice x.A x.l.length x.c] 33)) (by rw [size_alloc]) OK.out ((Below.refl _ _).alloc (Nat.le_refl _) _)
  clear bA
  go_enter Try.func10, Try.ntmps10
  go_wp2_with fail
  refine (write_nil _ IA.out (by omega) (by omega : 1 ≤ 9223372036854775807)).mono ?_
  rintro e w1 ⟨rfl, b1⟩
  have B1 := Lib.hid (bel8 BA.out b1)
  clear b1
  go_wp2_with fail
  refine (wire_WBytes_nil w1).mono ?_
  rintro e w2 ⟨⟨A2, c2, rfl⟩, b2⟩
  have B2 := Lib.hid (bel8 B1.out b2)
  clear b2
  go_wp2_with fail
  refine (wire_RInt_nil w2).mono ?_
  rintro e w3 ⟨rfl, b3⟩
  have B3 := Lib.hid (bel8 B2.out b3)
  clear b3
  go_wp2_with fail
  refine (wire_RUint_nil w3).mono ?_
  rintro e w4 ⟨rfl, b4⟩
  have B4 := Lib.hid (bel8 B3.out b4)
  clear b4
  go_wp2_with fail
  refine (wire_RText_nil m m0 m1 w4).mono ?_
  rintro e w5 ⟨rfl, b5⟩
  have B5 := Lib.hid (bel8 B4.out b5)
  clear b5
  go_wp2_with fail
  refine (wire_RInts_nil m m0 m1 w5).mono ?_
  rintro e w6 ⟨⟨A6, c6, rfl⟩, b6⟩
  have B6 := Lib.hid (bel8 B5.out b6)
  clear b6
  go_wp2_with fail
  refine (wire_Left_nil w6).mono ?_
  rintro e w7 ⟨rfl, b7⟩
  have B7 := Lib.hid (bel8 B6.out b7)
  clear b7
  go_wp2_with fail
  refine (wire_Err_nil w7).mono ?_
  rintro e w8 ⟨rfl, b8⟩
  have B8 := Lib.hid (bel8 B7.out b8)
  clear b8
  go_wp2_with fail
  refine (AW.out w8).mono ?_
  rintro e w9 ⟨rfl, b9⟩
  have B9 := Lib.hid (bel8 B8.out b9)
  clear b9
  go_wp2_with fail
  go_ret
  exact ⟨rfl, B9.out⟩

/-! ### The row's step, the row -/
set_option maxRecDepth 100000 in
theorem lifted (os : Os) (started : os.Started) (H : Type) (enc : TypeId × Value → H) :
    ReturnsInHanded {} Try.checked os 10 .any (Rows.wireNobodySpec.pre6 enc Try.prog Try.f10 Rows.wireNobodyRow.domain false) (Rows.wireNobodySpec.post enc Try.prog Try.f10 false true false false) := by
  refine returnsInHanded_of_change (C := Try.checked) own started (by kernel_rfl) Try.func10
    (ChangeSpec.witness6 (enc := enc) (C := Try.checked) false ⟨#[], #[.agg #[.int .i64 0, .int .i64 0, .int .u64 0, .string ByteArray.empty, .slice none 0 0], .int .i64 0], []⟩ 8 (by kernel_rfl) (by kernel_rfl) (by kernel_rfl) (by kernel_rfl)) ?_
  intro W base args ds gs before hval0 hW hcnd _
  skip
  have hval : ∀ (j : Nat) t v, Try.f10.params[j]? = some t → args[j]? = some v → Value.okWide Try.prog W .any base t v := hval0
  have hW' := hW
  obtain ⟨p, q, hA0, hV, rfl, hfz, hnd⟩ := hW
  have hA : DataW.TrodAll enc Try.prog W 0 (fun _ => true) true Try.f10.params.toList args.toList ds p := hA0
  rw [Try.params10] at hA hval

  obtain ⟨v0, vs0, d0, ds0, p0, q0, hargs, rfl, rfl, h0, r0⟩ := trodAll_cons hA
  obtain ⟨v1, vs1, d1, ds1, p1, q1, rfl, rfl, rfl, h1, r1⟩ := trodAll_cons r0
  obtain ⟨rfl, rfl, rfl⟩ := trodAll_nil r1
  obtain rfl : args = #[v0, v1] := by cases args; simp_all
  obtain ⟨rfl, rfl⟩ := trodVars_none hV
  have k0 := h0
  have lt0 : ∀ x ∈ p0, x.block < W.heap.size := by
    obtain ⟨m, hm⟩ := k0
    exact DataW.trod_lt m _ _ _ hm
  obtain ⟨cs0, D0, rfl, hD0⟩ := st_opened Try.underlying33 (by kernel_rfl) (hval 0 33 v0 rfl rfl) h0
  obtain ⟨x0, e0, w0⟩ := it_of_rd hD0
  obtain rfl : cs0 = #[.int .i64 x0.k, .int .i64 x0.n, .int .u64 (x0.u : Nat), .string x0.s, .slice x0.A x0.l.length x0.c] := by cases cs0; simp only at e0; rw [e0]; rfl
  obtain ⟨a1, rfl, rfl, rfl, w1⟩ := open_int Try.underlying3 (hval 1 3 v1 rfl rfl) h1
  have b1 := bounds_i64 w1
  clear hA0 hval0
  refine (walk x0 a1  b1.1 b1.2 W w0).mono fun e W' ⟨he, bel⟩ => ?_
  subst he
  exact ⟨_, rfl, _, _, _, [], _, [], hW', trodAll_mk1 (shut_bool Try.underlying4 _), (trodAll_cons_mk (Below.trod laidOut (by kernel_rfl) (of_decide_eq_true (by kernel_rfl)) k0 bel lt0) (trodAll_cons_mk (shut_int Try.underlying3 w1) trodAll_mk0)), rfl, bel.frame _, fun h => by cases h⟩

theorem over : Rows.WireNobodySaid :=
  OpenClaim.holds_of_wide 10 Try.f10 rfl rfl rfl rfl rfl rfl rfl ⟨rfl, rfl, rfl, rfl, rfl⟩ rfl rfl rfl rfl rfl (by kernel_rfl) Try.func10 (by kernel_rfl)
    (of_decide_eq_true (by kernel_rfl)) (by unfold Func.isWrapper; first | (rw [if_pos (by decide +kernel)]; kernel_rfl) | (rw [if_neg (by decide +kernel)]; exact ⟨rfl, rfl⟩))
    (fun os started H enc _ => lifted os started H enc)
/-- The statement. -/
theorem proved : Rows.WireNobodySaid := over
end Go.Proofs.Ytdleleanaihcoaa.wireNobody
