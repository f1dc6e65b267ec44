/- Layer 8, the project's package wire: varint, zigzag, unzigzag, checksum; bytes.Clone, bytes.Equal. -/
import Derived.Test.YtdleleanaihcoaaWireI
import Derived.Test.YtdleleanaihcoaaDigS
import Derived.Laws.BitsAllLaws
import Derived.Lib.SliceRun
namespace Go.Proofs.Ytdleleanaihcoaa
set_option maxRecDepth 20000
open Go.RowKit
set_option linter.unusedVariables false
set_option linter.unusedSimpArgs false
namespace Wr
theorem or_add {X P k : Nat} (h : X < 2 ^ k) (hd : P % 2 ^ k = 0) : X ||| P = X + P := by
  have h1 := Nat.two_pow_add_eq_or_of_lt h (P / 2 ^ k)
  have e : 2 ^ k * (P / 2 ^ k) = P := by
    have := Nat.div_add_mod P (2 ^ k)
    rw [hd, Nat.add_zero] at this
    exact this
  rw [e] at h1
  rw [Nat.or_comm, ← h1, Nat.add_comm]
theorem pow7 (j : Nat) : 128 ^ j = 2 ^ (7 * j) := by rw [Nat.pow_mul]
/-- x |= uint64(r) << (7 * j). -/
theorem or_step {X r j : Nat} (hX : X < 128 ^ j) (hs : X + r * 128 ^ j < 18446744073709551616) : bits .or .u64 (X : Int) ((r * 128 ^ j : Nat) : Int) = ((X + r * 128 ^ j : Nat) : Int) := by
  rw [u64_or_nat _ _ (by omega) (by omega), or_add (k := 7 * j) (by rw [← pow7]; exact hX) (by rw [← pow7]; exact Nat.mul_mod_left _ _)]
theorem or_128 {r : Nat} (h : r < 128) : bits .or .u8 (r : Int) 128 = ((r + 128 : Nat) : Int) := by
  have e : bits .or .u8 (r : Int) ((128 : Nat) : Int) = ((r ||| 128 : Nat) : Int) := u8_or_nat r 128 (by omega) (by omega)
  rw [or_add (X := r) (P := 128) (k := 7) h (by decide)] at e
  exact e
end Wr
set_option maxHeartbeats 2000000 in
theorem wire_varint {B n c : Nat} {A : Option Addr} {L : List UInt8} (w : World) (h : Byts w B A n L) (hn : n ≤ 1000000000000) :
    Calls Try.prog 51 #[.slice A n c] w fun e w' => e = .returned (.tuple #[.int .u64 ((Wr.tk 0 L).1 : Nat), .int .i64 ((Wr.tk 0 L).2.1 : Nat), .int .i64 (Wr.tk 0 L).2.2]) ∧ w = w' := by
  have H := Lib.hid h
  have I0 : Hid (Wr.tk 0 L = Wr.join 0 0 (Wr.tk 0 (L.drop 0))) := Wr.join_start _
  have E : Hid (∀ (x m : Nat) (e : Int), Wr.tk 0 L = (x, m, e) → (x : Int) = ((Wr.tk 0 L).1 : Nat) ∧ (m : Int) = ((Wr.tk 0 L).2.1 : Nat) ∧ e = (Wr.tk 0 L).2.2) := fun x m e h => by rw [h]; exact ⟨rfl, rfl, rfl⟩
  have HL := Lib.hid h.len
  clear h
  go_enter Try.func51, Try.ntmps51
  go_wp2_with fail
  go_loopw [5, 10] (fun x i W => ∃ (j X : Nat), j ≤ 9 ∧ j ≤ n ∧ x = .int .u64 (X : Int) ∧ X ≤ 9223372036854775807 ∧ i = .int .i64 (j : Int) ∧ Hid (X < 128 ^ j) ∧ Hid (Wr.tk 0 L = Wr.join j X (Wr.tk j (L.drop j))) ∧ W = w) (fun _ i _ => 10 - (intOf i).toNat)
  case atStart => exact ⟨0, 0, by omega, by omega, rfl, by omega, rfl, by show (0 : Nat) < 128 ^ 0; decide, I0, rfl⟩
  case round =>
    obtain ⟨j, X, hj, hjn, rfl, hX, rfl, HX, HT, rfl⟩ := hrel
    by_cases hlt : j < n
    · obtain ⟨ad, rfl, hb, cb, hcb, hcell⟩ := H.out.at_ hlt
      have hd := Wr.drop_byte hcb
      rw [hd] at HT
      have hc := cb.toNat_lt
      obtain ⟨C, eC⟩ : ∃ C : Nat, C = cb.toNat := ⟨_, rfl⟩
      rw [← eC] at hcell hc
      have hi1 : (j : Int) < (n : Int) := by omega
      by_cases c1 : j = 9 ∧ 1 < C
      · obtain ⟨a1, a2⟩ := c1
        have hT := HT.out
        rw [Wr.tk_over (by rw [← eC]; exact ⟨a1, a2⟩), Wr.join_err (by decide)] at hT
        obtain ⟨e1, e2, e3⟩ := E.out _ _ _ hT
        have E1 := Lib.hid e1
        have E2 := Lib.hid e2
        have E3 := Lib.hid e3
        have b1 : ((j : Int) == 9) = true := by rw [beq_iff_eq]; omega
        have b2 : (1 : Int) < (C : Int) := by omega
        clear a1 hT e1 e2 e3 hcb hd eC
        go_wp2_with fail
        go_ret3
        exact ⟨ret3_iii E1.out E2.out E3.out, rfl⟩
      · obtain ⟨r, er⟩ : ∃ r : Nat, r = C % 128 := ⟨_, rfl⟩
        have hr : (C : Int) % 128 = (r : Int) := by omega
        have hr' : (C : Int).tmod 128 = (r : Int) := by rw [Int.tmod_eq_emod_of_nonneg (by omega)]; exact hr
        have r1 : r ≤ 127 := by omega
        have c1' : ¬ (j = 9 ∧ 1 < cb.toNat) := by rw [← eC]; exact c1
        have hU := Wr.unit_bd hj
        obtain ⟨U, eU⟩ : ∃ U : Nat, U = 128 ^ j := ⟨_, rfl⟩
        rw [← eU] at hU HX
        obtain ⟨P, eP⟩ : ∃ P : Nat, P = r * U := ⟨_, rfl⟩
        have hP1 : X + P ≤ 18446744073709551615 := by
          have hx := HX.out
          by_cases h9 : j = 9
          · have : C ≤ 1 := by
              rcases Nat.lt_or_ge 1 C with h | h
              · exact absurd ⟨h9, h⟩ c1
              · exact h
            have : r ≤ 1 := by omega
            have : r * U ≤ 1 * U := Nat.mul_le_mul_right _ this
            omega
          · have h8 : U ≤ 72057594037927936 := by
              rw [eU]
              have h1 : 128 ^ j ≤ 128 ^ 8 := Nat.pow_le_pow_right (by omega) (by omega)
              have h2 : (128 : Nat) ^ 8 = 72057594037927936 := by decide
              omega
            have : r * U ≤ 127 * U := Nat.mul_le_mul_right _ (by omega)
            omega
        have hsh : (r : Int) * 2 ^ (7 * (j : Int)).toNat = (P : Int) := by
          rw [show (7 * (j : Int)).toNat = 7 * j by omega, eP, eU, Wr.pow7, Int.natCast_mul, Int.natCast_pow]; rfl
        have hsh2 : (r : Int) * 2 ^ (7 * j) = (P : Int) := by
          rw [eP, eU, Wr.pow7, Int.natCast_mul, Int.natCast_pow]; rfl
        have hwP : IntKind.u64.wrap (P : Int) = (P : Int) := by rw [IntKind.wrap_u64]; omega
        have hor : bits .or .u64 (X : Int) (IntKind.u64.wrap (P : Int)) = ((X + P : Nat) : Int) := by
          rw [hwP, eP, eU]; exact Wr.or_step (by rw [← eU]; exact HX.out) (by rw [← eU, ← eP]; omega)
        obtain ⟨Y, eY⟩ : ∃ Y : Nat, Y = X + P := ⟨_, rfl⟩
        rw [← eY] at hor hP1
        have hY9 : (Y : Int) ≤ 18446744073709551615 := by omega
        have HXY : Hid (r = C % 128) := er
        have HU : Hid (U = 128 ^ j) := eU
        have HP : Hid (P = r * U) := eP
        have HY : Hid (Y = X + P) := eY
        have D1 : Hid (((j : Int) == 9) = true → ¬ (1 : Int) < (C : Int)) := fun h hc => by
          rw [beq_iff_eq] at h
          exact c1 ⟨by omega, by omega⟩
        by_cases c3 : C < 128
        · have c3' : ¬ (128 : Int) ≤ (C : Int) := by omega
          by_cases c2 : C = 0 ∧ 0 < j
          · obtain ⟨a1, a2⟩ := c2
            have hT := HT.out
            rw [Wr.tk_zero c1' (by rw [← eC]; exact ⟨a1, a2⟩), Wr.join_err (by decide)] at hT
            obtain ⟨e1, e2, e3⟩ := E.out _ _ _ hT
            have E1 := Lib.hid e1
            have E2 := Lib.hid e2
            have E3 := Lib.hid e3
            have b3 : ((C : Int) == 0) = true := by rw [beq_iff_eq]; omega
            have b4 : (0 : Int) < (j : Int) := by omega
            clear a1 hT e1 e2 e3 hcb hd eC c1 c1' er eU eP eY hU HX hwP
            cases b1 : ((j : Int) == 9)
            · go_wp2_with fail
              go_ret3
              exact ⟨ret3_iii E1.out E2.out E3.out, rfl⟩
            · have b2 := D1.out b1
              go_wp2_with fail
              go_ret3
              exact ⟨ret3_iii E1.out E2.out E3.out, rfl⟩
          · have hT := HT.out
            rw [Wr.tk_last c1' (by rw [← eC]; exact c2) (by rw [← eC]; exact c3), Wr.join_ok, ← eC] at hT
            obtain ⟨e1, e2, e3⟩ := E.out _ _ _ hT
            have E1 : Hid ((Y : Int) = ((Wr.tk 0 L).1 : Nat)) := by
              show _ = _
              rw [← e1, eY, eP, eU, show r = C by omega, Nat.mul_comm]
            have E2 : Hid ((j : Int) + 1 = ((Wr.tk 0 L).2.1 : Nat)) := by show _ = _; rw [← e2]; omega
            have E3 := Lib.hid e3
            have D2 : Hid (((C : Int) == 0) = true → ¬ (0 : Int) < (j : Int)) := fun h hc => by
              rw [beq_iff_eq] at h
              exact c2 ⟨by omega, by omega⟩
            clear hT e1 e2 e3 hcb hd eC c1 c1' c2 er eU eP eY hU HX hwP
            cases b1 : ((j : Int) == 9)
            · cases b3 : ((C : Int) == 0)
              · go_wp2_with fail
                go_ret3
                exact ⟨ret3_iii E1.out E2.out E3.out, rfl⟩
              · have b4 := D2.out b3
                go_wp2_with fail
                go_ret3
                exact ⟨ret3_iii E1.out E2.out E3.out, rfl⟩
            · have b2 := D1.out b1
              cases b3 : ((C : Int) == 0)
              · go_wp2_with fail
                go_ret3
                exact ⟨ret3_iii E1.out E2.out E3.out, rfl⟩
              · have b4 := D2.out b3
                go_wp2_with fail
                go_ret3
                exact ⟨ret3_iii E1.out E2.out E3.out, rfl⟩
        · have c3' : (128 : Int) ≤ (C : Int) := by omega
          have h9 : j ≠ 9 := fun e => c1 ⟨e, by omega⟩
          have b1 : ((j : Int) == 9) = false := by rw [beq_eq_false_iff_ne]; omega
          have HX2 : Hid (Y < 128 ^ (j + 1)) := by
            show _ < _
            have hx := HX.out
            have : r * U ≤ 127 * U := Nat.mul_le_mul_right _ (by omega)
            rw [Nat.pow_succ, ← eU]
            omega
          have HT2 : Hid (Wr.tk 0 L = Wr.join (j + 1) Y (Wr.tk (j + 1) (L.drop (j + 1)))) := by
            show _ = _
            rw [HT.out, Wr.join_more h9 (by rw [← eC]; omega), ← eC, ← er, ← eU, ← eP, ← eY]
          have hY63 : Y ≤ 9223372036854775807 := by
            have h1 := HX2.out
            have h2 : 128 ^ (j + 1) ≤ 128 ^ 9 := Nat.pow_le_pow_right (by omega) (by omega)
            have h3 : (128 : Nat) ^ 9 = 9223372036854775808 := by decide
            omega
          clear hcb hd eC c1 c1' er eU eP eY hU HX HT hwP
          go_wp2_with fail
          go_roundw
          case rel => exact ⟨j + 1, Y, by omega, by omega, rfl, hY63, by go_num, HX2, HT2, trivial⟩
          case measure => simp [intOf]; omega
    · obtain rfl : j = n := by omega
      have hT := HT.out
      rw [List.drop_of_length_le (by rw [HL.out]; exact Nat.le_refl _), Wr.tk_nil, Wr.join_err (by decide)] at hT
      obtain ⟨e1, e2, e3⟩ := E.out _ _ _ hT
      have E1 := Lib.hid e1
      have E2 := Lib.hid e2
      have E3 := Lib.hid e3
      clear hT e1 e2 e3
      go_wp2_with fail
      go_ret3
      exact ⟨ret3_iii E1.out E2.out E3.out, rfl⟩
theorem wire_zigzag (x : Int) (w : World) (x0 : -9223372036854775808 ≤ x) (x1 : x ≤ 9223372036854775807) : Calls Try.prog 61 #[.int .i64 x] w fun e w' => e = .returned (.int .u64 (Wr.zz x : Nat)) ∧ w = w' := by
  by_cases h : x < 0
  · have E : Hid (2 * (-(x + 1)) + 1 = ((Wr.zz x : Nat) : Int)) := by show _ = _; unfold Wr.zz; rw [if_pos h]; omega
    go_enter Try.func61, Try.ntmps61
    go_wp2_with fail
    go_ret
    exact ⟨ret_int E.out, rfl⟩
  · have E : Hid (2 * x = ((Wr.zz x : Nat) : Int)) := by show _ = _; unfold Wr.zz; rw [if_neg h]; omega
    have h0 : 0 ≤ x := by omega
    go_enter Try.func61, Try.ntmps61
    go_wp2_with fail
    go_ret
    exact ⟨ret_int E.out, rfl⟩
theorem wire_unzigzag (u : Nat) (w : World) (hu : u ≤ 18446744073709551615) : Calls Try.prog 49 #[.int .u64 (u : Int)] w fun e w' => e = .returned (.int .i64 (Wr.sg u)) ∧ w = w' := by
  obtain ⟨q, eq⟩ : ∃ q : Nat, q = u / 2 := ⟨_, rfl⟩
  have hq : (u : Int) / 2 = (q : Int) := by omega
  have q1 : q ≤ 9223372036854775807 := by omega
  by_cases h : u % 2 = 1
  · have E : Hid (-(q : Int) - 1 = Wr.sg u) := by show _ = _; unfold Wr.sg; rw [if_pos h, ← eq]
    have hr : (u : Int) % 2 = 1 := by omega
    have hr' : (u : Int).tmod 2 = 1 := by rw [Int.tmod_eq_emod_of_nonneg (by omega)]; exact hr
    clear eq h
    go_enter Try.func49, Try.ntmps49
    go_wp2_with fail
    go_ret
    exact ⟨ret_int E.out, rfl⟩
  · have E : Hid ((q : Int) = Wr.sg u) := by show _ = _; unfold Wr.sg; rw [if_neg h, ← eq]
    have hr : (u : Int) % 2 = 0 := by omega
    have hr' : (u : Int).tmod 2 = 0 := by rw [Int.tmod_eq_emod_of_nonneg (by omega)]; exact hr
    clear eq h
    go_enter Try.func49, Try.ntmps49
    go_wp2_with fail
    go_ret
    exact ⟨ret_int E.out, rfl⟩
theorem bytes_Clone {A : Option Addr} {n c : Nat} {L : List UInt8} (w : World) (h : Byts w w.heap.size A n L) (hn : n ≤ 900000000000) :
    Calls Try.prog 48 #[.slice A n c] w (BRes L w) := by
  have HB := Lib.hid (fun o => ((Below.refl w.heap.size w).alloc (Nat.le_refl _) o : Below w.heap.size w (w.alloc o)))
  have HL := Lib.hid h.len
  rcases A with _ | ad
  · have hL : n = 0 := by
      rcases Nat.eq_zero_or_pos n with e | e
      · exact e
      · obtain ⟨ad, e, -⟩ := h.2 e; cases e
    subst hL
    have hL0 : L = [] := List.length_eq_zero_iff.1 h.len
    subst hL0
    clear h
    have hnil : (binOp .eql 38 (.slice none 0 c) (.slice none 0 0)).run Try.prog w = .ok (.bool true) w := Lib.run_eql_slice_nil w _ _ none _ _ _ _ Try.underlying38
    go_enter Try.func48, Try.ntmps48
    go_wp2_with fail
    go_ret
    exact ⟨none, 0, rfl, Below.refl _ _, Byts.none_, OwnB.nil _ _, Nat.le_refl _, by omega⟩
  · have HM := Lib.hid (fun o => h.below (HB.out o))
    clear h
    have hnil : (binOp .eql 38 (.slice (some ad) n c) (.slice none 0 0)).run Try.prog w = .ok (.bool false) w := Lib.run_eql_slice_nil w _ _ (some ad) _ _ _ _ Try.underlying38
    go_enter Try.func48, Try.ntmps48
    go_wp2_with (at_builtin; refine Hid.out ?_)
    refine Lib.hid (wpList_appB rfl (.tmp 5) (.tmp 6) rfl w.heap.size _ [] rfl (OwnB.empty w) ad n c w.heap.size L rfl (HM.out _) (by simp; omega) (by rw [size_alloc]; exact Nat.le_succ _) ?_)
    intro v' w2 hown hg hloc
    obtain ⟨A2, c2, rfl, z1, z2, z3, -⟩ := hown.form
    have FIN : Hid (BRes L w (.returned (.slice A2 L.length c2)) w2) := by
      show BRes _ _ _ _
      exact ⟨A2, c2, rfl, (HB.out _).grown hg (by rw [size_alloc]; exact Nat.le_succ _) (fun k hk => by injection hk with hk; exact Nat.le_of_eq hk), z3, hown, z1, z2⟩
    rw [List.nil_append]
    clear hown hg hloc z1 z2 z3
    go_wp2_with fail
    go_ret
    exact FIN.out
theorem bytes_Equal {B n c n' c' : Nat} {A A' : Option Addr} {L M : List UInt8} (w : World) (h : Byts w B A n L) (h' : Byts w B A' n' M) :
    Calls Try.prog 56 #[.slice A n c, .slice A' n' c'] w fun e w' => e = .returned (.bool (decide (L = M))) ∧ w = w' := by
  obtain ⟨S1, eS1⟩ : ∃ S1 : ByteArray, S1 = ⟨L.toArray⟩ := ⟨_, rfl⟩
  obtain ⟨S2, eS2⟩ : ∃ S2 : ByteArray, S2 = ⟨M.toArray⟩ := ⟨_, rfl⟩
  have hv1 : (convert 38 9 (.slice A n c)).run Try.prog w = .ok (.string S1) w := by rw [eS1]; exact conv_bytes h
  have hv2 : (convert 38 9 (.slice A' n' c')).run Try.prog w = .ok (.string S2) w := by rw [eS2]; exact conv_bytes h'
  clear h h'
  by_cases hS : S1 = S2
  · have F : Hid (true = decide (L = M)) := by
      show _ = _
      have h1 := hS
      rw [eS1, eS2] at h1
      injection h1 with h1
      have h2 := congrArg Array.toList h1
      simp only at h2
      rw [decide_eq_true h2]
    subst hS
    clear eS1 eS2
    go_enter Try.func56, Try.ntmps56
    go_wp2_with fail
    go_ret
    exact ⟨ret_bool F.out, rfl⟩
  · have F : Hid (false = decide (L = M)) := by
      show _ = _
      rw [decide_eq_false]
      intro e
      exact hS (by rw [eS1, eS2, e])
    have hne := str_ne hS
    clear eS1 eS2
    go_enter Try.func56, Try.ntmps56
    go_wp2_with fail
    go_ret
    exact ⟨ret_bool F.out, rfl⟩
/-- A row of bytes of the call's own in a block g. -/
def RwU (w : World) (g : Nat) (L : List UInt8) : Prop := w.heap[g]? = some (.cells (L.map bv).toArray 5 (0, 0))
theorem RwU.cell {w : World} {g k : Nat} {L : List UInt8} (h : RwU w g L) (hk : k < L.length) : w.cell? ⟨g, k, none⟩ = some (bv L[k]) := by
  rw [cell_of_row w g k _ _ _ h]
  simp [hk]
theorem RwU.froz {w : World} {g : Nat} {L : List UInt8} (h : RwU w g L) (k : Nat) : w.frozen? ⟨g, k, none⟩ = false := by
  unfold RwU at h
  simp [World.frozen?, h]
theorem RwU.set {w : World} {g k : Nat} {L : List UInt8} (h : RwU w g L) (hk : k < L.length) (c : UInt8) {x : Int} (hx : x = ((c.toNat : Nat) : Int)) : RwU (w.setCell ⟨g, k, none⟩ (.int .u8 x)) g (L.set k c) := by
  unfold RwU at h ⊢
  subst hx
  simp [World.setCell, Array.getElem?_modify, h, List.map_set, bv]
theorem RwU.own {w : World} {N g n : Nat} {L : List UInt8} (h : RwU w g L) (hn : L.length = n) (hN : N ≤ g) (hs : n ≤ 1000000) : OwnB w N (.slice (some ⟨g, 0, none⟩) n n) L := by
  subst hn
  exact ⟨by rw [List.length_map, Nat.mul_one], .inr ⟨g, L.length, (L.map bv).toArray, rfl, hN, h, Nat.le_refl _, by unfold maxLen; omega, by simp, by rw [List.take_of_length_le (by simp)]⟩⟩
theorem made8 : madeCells #[.int .u8 0] 8 = ((List.replicate 8 (0 : UInt8)).map bv).toArray := by kernel_rfl
theorem make_bytes8 (W : World) : (Instr.makeSlice 38 (.int .i64 8) (.int .i64 8)).run Try.prog W = .ok (.slice (some ⟨W.heap.size, 0, none⟩) 8 8) (W.alloc (.cells ((List.replicate 8 (0 : UInt8)).map bv).toArray 5)) := by
  have h := run_make_row' (P := Try.prog) 38 5 (.int .u8 0) 1 Try.underlying38 info_u8 rfl .i64 .i64 8 (by omega) (by omega) W
  rw [made8] at h
  exact h
namespace Wr
theorem bg_get : ∀ (k x i : Nat), i < k → (bg k x)[i]? = some (b8 (x / 256 ^ (k - 1 - i) % 256))
  | 0, _, _, h => absurd h (by omega)
  | k + 1, x, i, h => by
    show (bg k (x / 256) ++ [b8 (x % 256)])[i]? = _
    by_cases hi : i < k
    · rw [List.getElem?_append_left (by rw [bg_len]; exact hi), bg_get k (x / 256) i hi, Nat.div_div_eq_div_mul, ← Nat.pow_succ', show (k - 1 - i).succ = k + 1 - 1 - i by omega]
    · obtain rfl : i = k := by omega
      rw [List.getElem?_append_right (by rw [bg_len]; exact Nat.le_refl _), bg_len, Nat.sub_self, show i + 1 - 1 - i = 0 by omega, Nat.pow_zero, Nat.div_one]
      rfl
end Wr
set_option maxHeartbeats 1000000 in
theorem wire_checksum {A : Option Addr} {n c : Nat} {L : List UInt8} (w : World) (h : Byts w w.heap.size A n L) (hn : n ≤ 900000000000) :
    Calls Try.prog 57 #[.slice A n c] w (BRes (Wr.bg 8 (Wr.dg L)) w) := by
  have S := Lib.hid fun W => dig_Sum_q ⟨L.toArray⟩ W (by show L.toArray.size ≤ _; rw [List.size_toArray, h.len]; omega)
  have hcv : (convert 38 9 (.slice A n c)).run Try.prog w = .ok (.string ⟨L.toArray⟩) w := conv_bytes h
  have hmk := make_bytes8
  obtain ⟨D, eD⟩ : ∃ D, D = Wr.dg L := ⟨_, rfl⟩
  have hD : Dg.sum (⟨L.toArray⟩ : ByteArray).data.toList = ((D : Nat) : Int) := by rw [eD, Wr.dg_int]
  have hD1 : D ≤ 18446744073709551615 := by have := Wr.dg_bd L; omega
  rw [hD] at S
  rw [← eD]
  have B0 := Lib.hid ((Below.refl w.heap.size w).alloc (Nat.le_refl _) (.cells ((List.replicate 8 (0 : UInt8)).map bv).toArray 5))
  have R0 : Hid (RwU (w.alloc (.cells ((List.replicate 8 (0 : UInt8)).map bv).toArray 5)) w.heap.size (List.replicate 8 0)) := heap_alloc_new _ _
  clear h hD eD
  go_enter Try.func57, Try.ntmps57
  go_wp2_with (go_at_call 62; refine (S.out _).mono ?_; rintro e w' ⟨rfl, rfl⟩)
  go_loopw [12] (fun i W => ∃ (k : Nat) (M : List UInt8), k ≤ 8 ∧ i = .int .i64 (k : Int) ∧ Hid (M.length = 8) ∧ Hid (M.take k = (Wr.bg 8 D).take k) ∧ Hid (RwU W w.heap.size M) ∧ Hid (Below w.heap.size w W)) (fun i _ => 8 - (intOf i).toNat)
  case atStart => exact ⟨0, List.replicate 8 0, by omega, rfl, rfl, rfl, R0, B0⟩
  case round =>
    obtain ⟨k, M, hk, rfl, HM, HT, HR, HB⟩ := hrel
    by_cases hlt : k < 8
    · have hlt2 : (k : Int) < 8 := by omega
      obtain ⟨Q, eQ⟩ : ∃ Q : Nat, Q = D / 256 ^ (7 - k) := ⟨_, rfl⟩
      have hq : (D : Int) / 2 ^ (8 * (7 - (k : Int))).toNat = (Q : Int) := by
        rw [show (8 * (7 - (k : Int))).toNat = 8 * (7 - k) by omega, eQ, show (256 : Nat) = 2 ^ 8 by decide, ← Nat.pow_mul]
        simp
      obtain ⟨R, eR⟩ : ∃ R : Nat, R = Q % 256 := ⟨_, rfl⟩
      have hw : IntKind.u8.wrap (Q : Int) = (R : Int) := by rw [IntKind.wrap_u8']; omega
      have hY : Hid ((R : Int) = (((Wr.b8 R).toNat : Nat) : Int)) := by show _ = _; rw [Wr.b8_nat (by omega)]
      have kc := HR.out.cell (k := k) (by rw [HM.out]; exact hlt)
      have kf := HR.out.froz k
      have HR2 := Lib.hid (HR.out.set (k := k) (by rw [HM.out]; exact hlt) (Wr.b8 R) hY.out)
      have HM2 : Hid ((M.set k (Wr.b8 R)).length = 8) := by show _ = _; rw [List.length_set]; exact HM.out
      have HT2 : Hid ((M.set k (Wr.b8 R)).take (k + 1) = (Wr.bg 8 D).take (k + 1)) := by
        show _ = _
        rw [List.take_add_one, List.take_add_one, List.take_set_of_le (Nat.le_refl _), HT.out, Wr.bg_get 8 D k hlt, show 8 - 1 - k = 7 - k by omega, ← eQ, ← eR, List.getElem?_set_self (by rw [HM.out]; exact hlt)]
      clear eQ eR
      go_wp2_with fail
      go_roundw
      case rel => exact ⟨k + 1, _, by omega, by go_num, HM2, HT2, HR2, HB.out.setCell (Nat.le_refl _) _⟩
      case measure => simp [intOf]; omega
    · obtain rfl : k = 8 := by omega
      have hT := HT.out
      rw [List.take_of_length_le (by rw [HM.out]; exact Nat.le_refl _), List.take_of_length_le (by rw [Wr.bg_len]; exact Nat.le_refl _)] at hT
      have FIN : Hid (BRes (Wr.bg 8 D) w (.returned (.slice (some ⟨w.heap.size, 0, none⟩) 8 8)) wr) := by
        show BRes _ _ _ _
        rw [← hT]
        have hO := HR.out.own (N := w.heap.size) HM.out (Nat.le_refl _) (by omega)
        exact ⟨some ⟨w.heap.size, 0, none⟩, 8, by rw [HM.out], HB.out, by rw [HM.out]; exact hO.bytes, by rw [HM.out]; exact hO, by rw [HM.out]; omega, by omega⟩
      clear hT
      go_wp2_with fail
      go_ret
      exact FIN.out
end Go.Proofs.Ytdleleanaihcoaa
