/- CalendarTexts (P6.6): for every int and every text Format and Parse answer the text, the time or the error of the reference; Parse of a formatted time is the time, and the chapter's example holds: the law returns true. No condition. -/
import Derived.Test.YtjhkbgdjgiiocaaDoorCalLaid
import Derived.Test.YtjhkbgdjgiiocaaDoorCalZ
import Derived.Test.YtjhkbgdjgiiocaaDoorCalF
namespace Go.Proofs.YtjhkbgdjgiiocaaDoor.calendarTexts
set_option maxRecDepth 20000
open Go.RowKit Go.ChangeShapes Go.WideShapes Go.ChangeAt Go.WideElems
open Go.ChangeMaps (open_string shut_string)
set_option linter.unusedVariables false

set_option maxHeartbeats 1000000 in
theorem walk (t : Int) (s : ByteArray) (t0 : -9223372036854775808 ≤ t) (t1 : t ≤ 9223372036854775807) (hs : s.size ≤ 140737488351232) (w : World) (hE : CEnv w) (hP : PEnv w) :
    Calls Tryd.prog 8 #[.int .i64 t, .string s] w fun e w' => e = .returned (.bool true) ∧ Below w.heap.size w w' := by
  have B0 := Lib.hid (Below.refl w.heap.size w)
  have c1 := fun W (hW : Below w.heap.size w W) => cal_Format t W (hE.on hW) (hP.on hW)
  have c2 := fun W => ref6_Format t W
  have C3 := Lib.hid fun W (hW : Below w.heap.size w W) => cal_Parse s (by omega) W (hE.on hW)
  have C4 := Lib.hid fun W => ref6_Parse s (by omega) W
  have c5 := fun W (hW : Below w.heap.size w W) => cal_Format 1501 W (hE.on hW) (hP.on hW)
  rw [show Cl.fmtV 1501 = ⟨#[50, 48, 48, 48, 45, 48, 49, 45, 48, 50, 32, 48, 49, 58, 48, 49]⟩ from Cl.fmt_1501, show Cl.fmtE 1501 = 0 from rfl] at c5
  have C5 := Lib.hid c5
  obtain ⟨x, ex⟩ : ∃ x, x = Cl.parV s.data.toList := ⟨_, rfl⟩
  obtain ⟨y, ey⟩ : ∃ x, x = Cl.parE s.data.toList := ⟨_, rfl⟩
  rw [← ex, ← ey] at C3 C4
  clear c5 ex ey
  cases hi : Cl.ist t
  · have e1 : Cl.fmtV t = ⟨#[]⟩ := by rw [Cl.fmtV, hi]; rfl
    have e2 : Cl.fmtE t = 2 := by rw [Cl.fmtE, hi]; rfl
    rw [e1, e2] at c1 c2
    have C1 := Lib.hid c1
    have C2 := Lib.hid c2
    clear c1 c2 e1 e2 hi
    go_enter Tryd.func8, Tryd.ntmps8
    go_wp2_with fail
    refine (C1.out _ B0.out).mono ?_
    rintro e w1 ⟨rfl, B1⟩
    have K1 := Lib.hid B1
    clear B1
    go_wp2_with fail
    refine (C2.out _).mono ?_
    rintro e w2 ⟨rfl, B2⟩
    have K2 := Lib.hid (bthn6 K1.out B2)
    clear B2
    go_wp2_with fail
    refine (C3.out _ K2.out).mono ?_
    rintro e w3 ⟨rfl, B3⟩
    have K3 := Lib.hid (bthn6 K2.out B3)
    clear B3
    go_wp2_with fail
    refine (C4.out _).mono ?_
    rintro e w4 ⟨rfl, B4⟩
    have K4 := Lib.hid (bthn6 K3.out B4)
    clear B4
    go_wp2_with fail
    refine (C5.out _ K4.out).mono ?_
    rintro e w5 ⟨rfl, B5⟩
    have K5 := Lib.hid (bthn6 K4.out B5)
    clear B5
    go_wp2_with fail
    go_ret
    exact ⟨rfl, K5.out⟩
  · obtain ⟨h0, h1⟩ := Cl.ist_iff.1 hi
    obtain ⟨T, rfl⟩ : ∃ T : Nat, t = (T : Int) := ⟨t.toNat, by omega⟩
    have e1 : Cl.fmtV (T : Int) = Cl.fmtS T := by rw [Cl.fmtV, hi, Int.toNat_natCast]; rfl
    have e2 : Cl.fmtE (T : Int) = 0 := by rw [Cl.fmtE, hi]; rfl
    rw [e1, e2] at c1 c2
    have c6 := fun W (hW : Below w.heap.size w W) => cal_Parse (Cl.fmtS T) (by rw [Cl.fmt_size]; omega) W (hE.on hW)
    obtain ⟨p1, p2⟩ := Cl.par_fmt (T := T) (by omega)
    rw [p1, p2] at c6
    obtain ⟨X, eX⟩ : ∃ X, X = Cl.fmtS T := ⟨_, rfl⟩
    rw [← eX] at c1 c2 c6
    have C1 := Lib.hid c1
    have C2 := Lib.hid c2
    have C6 := Lib.hid c6
    clear c1 c2 c6 e1 e2 hi p1 p2 eX
    go_enter Tryd.func8, Tryd.ntmps8
    go_wp2_with fail
    refine (C1.out _ B0.out).mono ?_
    rintro e w1 ⟨rfl, B1⟩
    have K1 := Lib.hid B1
    clear B1
    go_wp2_with fail
    refine (C2.out _).mono ?_
    rintro e w2 ⟨rfl, B2⟩
    have K2 := Lib.hid (bthn6 K1.out B2)
    clear B2
    go_wp2_with fail
    refine (C3.out _ K2.out).mono ?_
    rintro e w3 ⟨rfl, B3⟩
    have K3 := Lib.hid (bthn6 K2.out B3)
    clear B3
    go_wp2_with fail
    refine (C4.out _).mono ?_
    rintro e w4 ⟨rfl, B4⟩
    have K4 := Lib.hid (bthn6 K3.out B4)
    clear B4
    go_wp2_with fail
    refine (C6.out _ K4.out).mono ?_
    rintro e w5 ⟨rfl, B5⟩
    have K5 := Lib.hid (bthn6 K4.out B5)
    clear B5
    go_wp2_with fail
    refine (C5.out _ K5.out).mono ?_
    rintro e w6 ⟨rfl, B6⟩
    have K6 := Lib.hid (bthn6 K5.out B6)
    clear B6
    go_wp2_with fail
    go_ret
    exact ⟨rfl, K6.out⟩

/-! ### The row's step, the row, the card -/
set_option maxRecDepth 100000 in
theorem lifted (os : Os) (started : os.Started) (H : Type) (enc : TypeId × Value → H) :
    ReturnsInHanded {} Tryd.checked os 8 .any (fun w args => (Rows.calendarTextsSpec.pre enc Tryd.prog Tryd.f8 Rows.calendarTextsRow.domain false w args ∧ laidMetH Tryd.prog Rows.calendarTextsRow.laid w) ∧ sizedMet enc Tryd.prog Tryd.f8 (OpenSpec.ofChange Rows.calendarTextsSpec) false w args)
      (Rows.calendarTextsSpec.post enc Tryd.prog Tryd.f8 false true false false) := by
  refine returnsInHanded_of_change_and (C := Tryd.checked) (X := fun w _ => laidMetH Tryd.prog Rows.calendarTextsRow.laid w) (fun _ _ _ hh h => h.of_heap hh) own started (by kernel_rfl) Tryd.func8
    (ChangeSpec.witness_shaped (enc := enc) (C := Tryd.checked) (os := os) (X := fun w _ => laidMetH Tryd.prog Rows.calendarTextsRow.laid w) false (World.doorLaid Tryd.prog 29 os) #[.int .i64 0, .string ByteArray.empty] 8 rfl (World.shaped_of_RefB (by kernel_rfl) (by kernel_rfl)) (by kernel_rfl) (by kernel_rfl) (by kernel_rfl) (calmet4 os _)) ?_
  intro W base args ds gs before hval0 hW _ hsz0 hL _
  have hsz : (DataW.weightsEach Tryd.prog (Tryd.f8.params.toList ++ Rows.calendarTextsSpec.plain.varTypes Tryd.prog) (ds ++ gs)).all (· ≤ reachBytes) = true := hsz0
  clear hsz0
  have hval : ∀ (j : Nat) t v, Tryd.f8.params[j]? = some t → args[j]? = some v → Value.okWide Tryd.prog W .any base t v := hval0
  have hW' := hW
  obtain ⟨p, q, hA0, hV, rfl, hfz, hnd⟩ := hW
  have hA : DataW.TrodAll enc Tryd.prog W 0 (fun _ => true) true Tryd.f8.params.toList args.toList ds p := hA0
  rw [Tryd.params8] at hA hval hsz

  obtain ⟨v0, vs0, d0, ds0, p0, q0, hargs, rfl, rfl, h0, r0⟩ := trodAll_cons hA
  obtain ⟨v1, vs1, d1, ds1, p1, q1, rfl, rfl, rfl, h1, r1⟩ := trodAll_cons r0
  obtain ⟨rfl, rfl, rfl⟩ := trodAll_nil r1
  obtain rfl : args = #[v0, v1] := by cases args; simp_all
  obtain ⟨rfl, rfl⟩ := trodVars_none hV
  obtain ⟨a0, rfl, rfl, rfl, w0⟩ := open_int Tryd.underlying3 (hval 0 3 v0 rfl rfl) h0
  have b0 := bounds_i64 w0
  obtain ⟨a1, rfl, rfl, rfl, w1⟩ := open_string Tryd.underlying9 (hval 1 9 v1 rfl rfl) h1
  have b1 : a1.size ≤ 140737488351232 := by
    have h1 := sized_string hsz (j := 1) (t := 9) rfl rfl
    have h2 : reachBytes = 140737488351232 := by decide
    rw [Lib.size_eq]; omega
  clear hA0 hval0
  simp only [List.append_nil] at hW'
  refine (walk a0 a1 b0.1 b0.2 b1 W (calenv4 hL).1 (calenv4 hL).2 ).mono fun e W' ⟨he, bel⟩ => ?_
  subst he
  exact ⟨_, rfl, _, _, _, [], _, [], hW', trodAll_mk1 (shut_bool Tryd.underlying4 _), (trodAll_cons_mk (shut_int Tryd.underlying3 w0) (trodAll_cons_mk (shut_string Tryd.underlying9 w1) trodAll_mk0)), rfl, bel.frame _, fun h => by cases h⟩

theorem over : Rows.CalendarTextsSaid :=
  OpenClaim.holds_of_wide 8 Tryd.f8 rfl rfl rfl rfl rfl rfl rfl ⟨rfl, rfl, rfl, rfl, rfl⟩ rfl rfl rfl rfl rfl (by kernel_rfl) Tryd.func8 (by kernel_rfl)
    (of_decide_eq_true (by kernel_rfl)) (by unfold Func.isWrapper; first | (rw [if_pos (by decide +kernel)]; kernel_rfl) | (rw [if_neg (by decide +kernel)]; exact ⟨rfl, rfl⟩))
    (fun os started H enc _ => lifted os started H enc)
theorem plain (f : FuncId) (fn : Func) (hf : Tryd.pinned.checked.prog.funcNamed "lottery/lotterylaw06.CalendarTexts" = some f) (hfn : Tryd.pinned.checked.prog.funcs[f]? = some fn) :
    false = Tryd.pinned.checked.prog.looks [] ∧ ∀ (j : Nat) t, fn.params[j]? = some t → Tryd.pinned.checked.prog.wantsStandIn t = false := by
  obtain rfl : f = 8 := Option.some.inj ((show Tryd.prog.funcNamed "lottery/lotterylaw06.CalendarTexts" = some 8 by kernel_rfl).symm.trans hf) |>.symm
  obtain rfl : fn = Tryd.f8 := (Option.some.inj (Tryd.func8.symm.trans hfn)).symm
  refine ⟨by kernel_rfl, fun j t ht => ?_⟩
  rw [Tryd.params8] at ht
  have ht := Array.mem_of_getElem? ht
  simp only [List.mem_toArray, List.mem_cons, List.not_mem_nil, or_false] at ht
  rcases ht with rfl | rfl

  · exact (show Tryd.prog.wantsStandIn 3 = false by kernel_rfl)
  · exact (show Tryd.prog.wantsStandIn 9 = false by kernel_rfl)
/-- The statement. -/
theorem card : Rows.CalendarTextsCardSaid :=
  Claim7.holds_tied_plain_at .later [] _ _ _ _ over (fun _ h => by cases h) (by kernel_rfl) (fun _ h => by cases h) calendarTexts_row_tie rfl ⟨rfl, rfl⟩ (by kernel_rfl) rfl plain (by kernel_rfl)
end Go.Proofs.YtjhkbgdjgiiocaaDoor.calendarTexts
