/- CombOrders (P5.3, P5.5): for every list of ints and every int Rank and Next answer the rank, the combination or the error of the reference, and the chapter's examples hold: the law returns true. No condition. -/
import Derived.Test.YtfjnpmkklanopaaOwn
import Derived.Test.YtfjnpmkklanopaaCombAw
import Derived.Test.YtfjnpmkklanopaaOpens
namespace Go.Proofs.Ytfjnpmkklanopaa.combOrders
set_option maxRecDepth 20000
open Go.RowKit Go.ChangeShapes Go.WideShapes Go.ChangeAt Go.WideElems
open Go.ChangeMaps (open_string shut_string)
set_option linter.unusedVariables false

theorem walk (a : Option Addr) (len cap : Nat) (zs : List Int) (n : Int) (hn : len ≤ 9223372036854775807) (n0 : -9223372036854775808 ≤ n) (n1 : n ≤ 9223372036854775807) (w : World) (h : Ints w w.heap.size a len zs) (hf : ∀ i, i < len → -9223372036854775808 ≤ zs.getD i 0 ∧ zs.getD i 0 ≤ 9223372036854775807) :
    Calls Try.prog 5 #[.slice a len cap, .int .i64 n] w fun e w' => e = .returned (.bool true) ∧ Below w.heap.size w w' := by
  have AW := Lib.hid law5_awake
  by_cases hl : 200 < len
  · have hl2 : (200 : Int) < (len : Int) := by omega
    clear h hf
    go_enter Try.func5, Try.ntmps5
    go_wp2_with fail
    refine (AW.out _).mono ?_
    rintro e w5 ⟨rfl, B5⟩
    have K5 := Lib.hid B5
    clear B5
    go_wp2_with fail
    go_ret
    exact ⟨rfl, K5.out⟩
  · have hl2 : ¬ (200 : Int) < (len : Int) := by omega
    have c1 := fun W (h : Ints W W.heap.size a len zs) => comb_Rank (c := cap) n n0 n1 W h hn hf
    have c2 := fun W (h : Ints W W.heap.size a len zs) => ref5_Rank (c := cap) n W h hn
    have c3 := fun W (h : Ints W W.heap.size a len zs) => comb_Next (c := cap) n n0 n1 W h hn hf
    have c4 := fun W (h : Ints W W.heap.size a len zs) => ref5_Next (c := cap) n W h hn
    have hx := Cb.nxO_len n zs
    obtain ⟨x, ex⟩ : ∃ x, x = Cb.rkV n zs := ⟨_, rfl⟩
    obtain ⟨er, ee⟩ : ∃ x, x = Cb.rkE n zs := ⟨_, rfl⟩
    obtain ⟨xs, es⟩ : ∃ x, x = (Cb.nxO n zs).getD [] := ⟨_, rfl⟩
    obtain ⟨b, eb⟩ : ∃ x, x = (Cb.nxO n zs).isSome := ⟨_, rfl⟩
    rw [← ex, ← ee] at c1 c2
    rw [← es, ← eb] at c3 c4
    rw [← es] at hx
    have C1 := Lib.hid c1
    have C2 := Lib.hid c2
    have C3 := Lib.hid c3
    have C4 := Lib.hid c4
    have H := Lib.hid h
    clear c1 c2 c3 c4 ex ee es eb h hf
    have K0 := Lib.hid (Ks.start w)
    go_enter Try.func5, Try.ntmps5
    go_wp2_with fail
    refine (C1.out _ H.out).mono ?_
    rintro e w1 ⟨rfl, B1⟩
    have K1 := Lib.hid (K0.out.call B1)
    clear B1
    go_wp2_with fail
    refine (C2.out _ (H.out.on K1.out.bel)).mono ?_
    rintro e w2 ⟨rfl, B2⟩
    have K2 := Lib.hid (K1.out.call (below_j B2))
    clear B2
    go_wp2_with fail
    refine (C3.out _ (H.out.on K2.out.bel)).mono ?_
    rintro e w3 ⟨A3, c3, rfl, B3, I3, l3, m3⟩
    have K3 := Lib.hid (K2.out.call B3)
    have J3 := Lib.hid I3
    clear B3 I3
    go_wp2_with fail
    refine (C4.out _ (H.out.on K3.out.bel)).mono ?_
    rintro e w4 ⟨A4, c4, rfl, B4, I4, l4, m4⟩
    have K4 := Lib.hid (K3.out.call B4)
    have J4 := Lib.hid (J3.out.on B4)
    have L4 := Lib.hid I4
    clear B4 I4
    go_wp2_with fail
    refine (same_b _ (beq_self_eq_true _) J4.out L4.out (by omega) (by omega)).mono ?_
    rintro e w6 ⟨rfl, B6⟩
    have K6 := Lib.hid (K4.out.call B6)
    clear B6
    go_wp2_with fail
    refine (AW.out _).mono ?_
    rintro e w5 ⟨rfl, B5⟩
    have K5 := Lib.hid (K6.out.call B5)
    clear B5
    go_wp2_with fail
    go_ret
    exact ⟨rfl, K5.out.bel⟩

/-! ### The row's step, the row -/
set_option maxRecDepth 100000 in
theorem lifted (os : Os) (started : os.Started) (H : Type) (enc : TypeId × Value → H) :
    ReturnsInHanded {} Try.checked os 5 .any (Rows.combOrdersSpec.pre6 enc Try.prog Try.f5 Rows.combOrdersRow.domain false) (Rows.combOrdersSpec.post enc Try.prog Try.f5 false true false false) := by
  refine returnsInHanded_of_change (C := Try.checked) own started (by kernel_rfl) Try.func5
    (ChangeSpec.witness6 (enc := enc) (C := Try.checked) false ⟨#[], #[.slice none 0 0, .int .i64 0], []⟩ 8 (by kernel_rfl) (by kernel_rfl) (by kernel_rfl) (by kernel_rfl)) ?_
  intro W base args ds gs before hval0 hW hcnd _
  have hval : ∀ (j : Nat) t v, Try.f5.params[j]? = some t → args[j]? = some v → Value.okWide Try.prog W .any base t v := hval0
  have hW' := hW
  obtain ⟨p, q, hA0, hV, rfl, hfz, hnd⟩ := hW
  have hA : DataW.TrodAll enc Try.prog W 0 (fun _ => true) true Try.f5.params.toList args.toList ds p := hA0
  rw [Try.params5] at hA hval

  obtain ⟨v0, vs0, d0, ds0, p0, q0, hargs, rfl, rfl, h0, r0⟩ := trodAll_cons hA
  obtain ⟨v1, vs1, d1, ds1, p1, q1, rfl, rfl, rfl, h1, r1⟩ := trodAll_cons r0
  obtain ⟨rfl, rfl, rfl⟩ := trodAll_nil r1
  obtain rfl : args = #[v0, v1] := by cases args; simp_all
  obtain ⟨rfl, rfl⟩ := trodVars_none hV
  obtain ⟨a0, len0, cap0, rfl⟩ := okWide_slice Try.underlying37 (hval 0 37 v0 rfl rfl)
  have k0 := h0
  have lt0 : ∀ x ∈ p0, x.block < W.heap.size := by
    obtain ⟨m, hm⟩ := k0
    exact DataW.trod_lt m _ _ _ hm
  obtain ⟨z0, w0, b0, f0⟩ := ints_opened h0
  obtain ⟨a1, rfl, rfl, rfl, w1⟩ := open_int Try.underlying3 (hval 1 3 v1 rfl rfl) h1
  have b1 := bounds_i64 w1
  clear hA0 hval0
  refine (walk a0 len0 cap0 z0 a1 b0 b1.1 b1.2 W w0 f0).mono fun e W' ⟨he, bel⟩ => ?_
  subst he
  exact ⟨_, rfl, _, _, _, [], _, [], hW', trodAll_mk1 (shut_bool Try.underlying4 _), (trodAll_cons_mk (Below.trod laidOut (by kernel_rfl) (of_decide_eq_true (by kernel_rfl)) k0 bel lt0) (trodAll_cons_mk (shut_int Try.underlying3 w1) trodAll_mk0)), rfl, bel.frame _, fun h => by cases h⟩

theorem over : Rows.CombOrdersSaid :=
  OpenClaim.holds_of_wide 5 Try.f5 rfl rfl rfl rfl rfl rfl rfl ⟨rfl, rfl, rfl, rfl, rfl⟩ rfl rfl rfl rfl rfl (by kernel_rfl) Try.func5 (by kernel_rfl)
    (of_decide_eq_true (by kernel_rfl)) (by unfold Func.isWrapper; first | (rw [if_pos (by decide +kernel)]; kernel_rfl) | (rw [if_neg (by decide +kernel)]; exact ⟨rfl, rfl⟩))
    (fun os started H enc _ => lifted os started H enc)
/-- The statement. -/
theorem proved : Rows.CombOrdersSaid := over
end Go.Proofs.Ytfjnpmkklanopaa.combOrders
