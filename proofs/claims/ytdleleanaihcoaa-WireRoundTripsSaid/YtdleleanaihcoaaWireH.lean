/- Layer 8: the reference's Big, Frame. -/
import Derived.Test.YtdleleanaihcoaaWireF
import Derived.Test.YtdleleanaihcoaaDigA
namespace Go.Proofs.Ytdleleanaihcoaa
set_option maxRecDepth 20000
open Go.RowKit
set_option linter.unusedVariables false
set_option linter.unusedSimpArgs false
namespace Wr
/-- A number as k bytes, the most significant first. -/
def bg : Nat → Nat → List UInt8
  | 0, _ => []
  | k + 1, x => bg k (x / 256) ++ [b8 (x % 256)]
theorem bg_len : ∀ k x, (bg k x).length = k
  | 0, _ => rfl
  | k + 1, x => by show (bg k (x / 256) ++ [_]).length = _; rw [List.length_append, bg_len k]; rfl
theorem bg_succ (k x : Nat) : bg (k + 1) x = bg k (x / 256) ++ [b8 (x % 256)] := rfl
/-- Different numbers have different bytes. -/
theorem bg_inj : ∀ k x y, x < 256 ^ k → y < 256 ^ k → bg k x = bg k y → x = y
  | 0, x, y, hx, hy, _ => by simp at hx hy; omega
  | k + 1, x, y, hx, hy, h => by
    rw [Nat.pow_succ] at hx hy
    obtain ⟨h1, h2⟩ := List.append_inj' (show bg k (x / 256) ++ [b8 (x % 256)] = bg k (y / 256) ++ [b8 (y % 256)] from h) rfl
    have h3 := bg_inj k _ _ (Nat.div_lt_of_lt_mul (by rw [Nat.mul_comm]; exact hx)) (Nat.div_lt_of_lt_mul (by rw [Nat.mul_comm]; exact hy)) h1
    have h4 : b8 (x % 256) = b8 (y % 256) := by injection h2
    have h5 := congrArg UInt8.toNat h4
    rw [b8_nat (by omega), b8_nat (by omega)] at h5
    omega
/-- The digest of bytes as a number. -/
def dg (L : List UInt8) : Nat := (Dg.sum L).toNat
theorem dg_int (L : List UInt8) : ((dg L : Nat) : Int) = Dg.sum L := Int.toNat_of_nonneg (Dg.sum_bd L).1
theorem dg_bd (L : List UInt8) : dg L < 18446744073709551616 := by have h1 := dg_int L; have h2 := (Dg.sum_bd L).2; omega
def frame (L : List UInt8) : List UInt8 := enc L.length ++ L ++ bg 8 (dg L)
end Wr
theorem OwnB.one {w : World} {c : UInt8} {Y : Int} (hY : Y = ((c.toNat : Nat) : Int)) : OwnB (w.alloc (.cells #[.int .u8 Y] 5)) w.heap.size (.slice (some ⟨w.heap.size, 0, none⟩) 1 1) [c] :=
  ⟨rfl, .inr ⟨w.heap.size, 1, #[.int .u8 Y], rfl, Nat.le_refl _, heap_alloc_new w _, Nat.le_refl _, by unfold maxLen; omega, rfl, by rw [hY]; rfl⟩⟩
theorem ref8_Big (x : Nat) (hx : x ≤ 18446744073709551615) (w : World) : Calls Try.prog 58 #[.int .u64 (x : Int)] w (BRes (Wr.bg 8 x) w) := by
  go_enter Try.func58, Try.ntmps58
  go_wp2_with fail
  go_loopw [0, 3, 4] (fun a b i W => ∃ (k X c : Nat) (A : Option Addr) (M : List UInt8), i = .int .i64 (k : Int) ∧ k ≤ 8 ∧ a = .int .u64 (X : Int) ∧ X ≤ 18446744073709551615 ∧ b = .slice A k c ∧ Hid (M.length = k) ∧ Hid (OwnB W w.heap.size (.slice A k c) M) ∧ Hid (Below w.heap.size w W) ∧ Hid (Wr.bg 8 x = Wr.bg (8 - k) X ++ M)) (fun _ _ i _ => 8 - (intOf i).toNat)
  case atStart => exact ⟨0, x, 0, none, [], rfl, by omega, rfl, hx, rfl, rfl, OwnB.nil _ _, Below.refl _ _, by show _ = _; rw [List.append_nil]⟩
  case round =>
    obtain ⟨k, X, c, A, M, rfl, hk, rfl, hX, rfl, HM, HO, HB, HE⟩ := hrel
    have HS := Lib.hid HB.out.size
    by_cases hlt : k < 8
    · have hlt2 : (k : Int) < 8 := by omega
      obtain ⟨r, er⟩ : ∃ r : Nat, r = X % 256 := ⟨_, rfl⟩
      obtain ⟨q, eq⟩ : ∃ q : Nat, q = X / 256 := ⟨_, rfl⟩
      have hr : (X : Int) % 256 = (r : Int) := by omega
      have hr' : (X : Int).tmod 256 = (r : Int) := by rw [Int.tmod_eq_emod_of_nonneg (by omega)]; exact hr
      have hq : (X : Int) / 256 = (q : Int) := by omega
      have r1 : r ≤ 255 := by omega
      have q1 : q ≤ 18446744073709551615 := by omega
      have HY : Hid ((r : Int) = (((Wr.b8 r).toNat : Nat) : Int)) := by show _ = _; rw [Wr.b8_nat (by omega)]
      have HE2 : Hid (Wr.bg 8 x = Wr.bg (8 - (k + 1)) q ++ ([Wr.b8 r] ++ M)) := by
        show _ = _
        rw [HE.out, show 8 - k = (8 - (k + 1)) + 1 by omega, Wr.bg_succ, ← eq, ← er, List.append_assoc]
      rcases A with _ | ad
      · have hk0 : k = 0 := by
          rcases Nat.eq_zero_or_pos k with e | e
          · exact e
          · obtain ⟨ad, e, -⟩ := HO.out.bytes.2 e; cases e
        subst hk0
        have hM0 : M = [] := List.length_eq_zero_iff.1 HM.out
        subst hM0
        have G1 : Hid (OwnB (wr.alloc (.cells #[.int .u8 (r : Int)] 5)) w.heap.size (.slice (some ⟨wr.heap.size, 0, none⟩) 1 1) ([Wr.b8 r] ++ [])) := (OwnB.one HY.out).base fun k hk => by injection hk with hk; rw [← hk]; exact HS.out
        have G3 := Lib.hid (HB.out.alloc HS.out (.cells #[.int .u8 (r : Int)] 5))
        have G2 : Hid (([Wr.b8 r] ++ []).length = 1) := Lib.hid (by rw [List.append_nil]; rfl)
        clear er eq HO HB HE HM
        go_wp2_with fail
        go_roundw
        case rel => exact ⟨1, q, 1, some ⟨wr.heap.size, 0, none⟩, [Wr.b8 r] ++ [], by go_num, by omega, rfl, q1, rfl, G2, G1, G3, HE2⟩
        case measure => simp [intOf]
      · have hMB := HO.out.bytes
        have HMB := Lib.hid hMB
        clear er eq hMB
        go_wp2_with (at_builtin; refine Hid.out ?_)
        refine Lib.hid (wpList_appB rfl (.tmp 12) (.tmp 13) rfl w.heap.size (.slice (some ⟨wr.heap.size, 0, none⟩) 1 1) [Wr.b8 r] rfl ((OwnB.one HY.out).base fun k hk => by injection hk with hk; rw [← hk]; exact HS.out) ad k c wr.heap.size M rfl (HMB.out.below ((Below.refl _ _).alloc (Nat.le_refl _) _)) (by simp; omega) (by rw [size_alloc]; exact Nat.le_succ_of_le HS.out) ?_)
        intro v' w2 hown hg hloc
        obtain ⟨A2, c2, rfl, -, -, -, -⟩ := hown.form
        have hl2 : ([Wr.b8 r] ++ M).length = k + 1 := by rw [List.length_append, HM.out]; exact Nat.add_comm 1 k
        rw [hl2] at hown ⊢
        have G1 := Lib.hid hown
        have G2 := Lib.hid hl2
        have G3 := Lib.hid (below_app HB.out hg fun g e => by injection e with e; rw [← e]; exact HS.out)
        clear hown hg hloc hl2 HO HB HE HMB
        go_wp2_with fail
        go_roundw
        case rel => exact ⟨k + 1, q, c2, A2, [Wr.b8 r] ++ M, by go_num, by omega, rfl, q1, rfl, G2, G1, G3, HE2⟩
        case measure => simp [intOf]; omega
    · obtain rfl : k = 8 := by omega
      have FIN : Hid (BRes (Wr.bg 8 x) w (.returned (.slice A 8 c)) wr) := by
        show BRes _ _ _ _
        have e : Wr.bg 8 x = M := HE.out
        rw [e]
        obtain ⟨A', c', e, z1, z2, z3, -⟩ := HO.out.form
        injection e with e1 e2 e3
        subst e1 e3
        exact ⟨A, c, by rw [HM.out], HB.out, z3, by rw [HM.out]; exact HO.out, z1, z2⟩
      clear HO HB HE HM
      go_wp2_with fail
      go_ret
      exact FIN.out
/-- Nothing is appended. -/
theorem run_appNil {w : World} {N c : Nat} {v : Value} {L : List UInt8} (hown : OwnB w N v L) (ty : TypeId) : (Builtin.append_ #[38, 38] ty #[v, .slice none 0 c]).run Try.prog w = .ok v w := by
  obtain ⟨i0, hi, hz0, hz1, hz2⟩ := info_parts info_u8
  rcases hown.2 with ⟨rfl, h0⟩ | ⟨g, cap, cur, rfl, hbg, hg, hnc, hcm, hcs, htake⟩
  · simp [Builtin.append_, run_underlying Try.underlying38, sizeOf, typeInfo, hi, hz1, Builtin.lenOf, Builtin.firstCells]
  · simp [Builtin.append_, run_underlying Try.underlying38, sizeOf, typeInfo, hi, hz1, Builtin.lenOf, Builtin.firstCells, hnc, storeCells]
theorem wpList_appAny {w : World} {ops : Array Oper} {rest : List Oper} {o : Oper} {a : Act} {Q : Exit → Act → World → Prop} (hgd : o.guard = none) (s x : Operand)
    (ho : o.op = .call { callee := .builtin .append, args := #[s, x], argTypes := #[38, 38] })
    (N : Nat) (v : Value) (L : List UInt8) (hs : a.eval s = v) (hown : OwnB w N v L) (A : Option Addr) (m c B : Nat) (M : List UInt8) (hx : a.eval x = .slice A m c) (hM : Byts w B A m M) (hb : L.length + m ≤ 1000000000000) (hN : N ≤ w.heap.size)
    (h : ∀ v' w', OwnB w' N v' (L ++ M) → w.grownBy w' v.ownBlock → (∀ k, v'.ownBlock = some k → v.ownBlock = some k ∨ w.heap.size ≤ k) → wpList Try.prog ops Q rest (a.put o.dst v') w') :
    wpList Try.prog ops Q (o :: rest) a w := by
  rcases A with _ | ad
  · have hm : m = 0 := by
      rcases Nat.eq_zero_or_pos m with e | e
      · exact e
      · obtain ⟨ad, e, -⟩ := hM.2 e; cases e
    subst hm
    have hM0 : M = [] := List.length_eq_zero_iff.1 hM.1
    subst hM0
    refine wpList_plain hgd fun K hK => ?_
    have hr := run_appNil (c := c) hown o.type
    unfold Oper.wp execOp
    simp only [ho, resolve, invoke, builtin, Sem.run_bind, Sem.run_pure, Result.andThen_ok, List.map_toArray, List.map_cons, List.map_nil, hs, hx, hr]
    exact hK _ _ (h v w (by rw [List.append_nil]; exact hown) ⟨rfl, rfl, rfl, Nat.le_refl _, fun _ _ _ => rfl⟩ fun k hk => .inl hk)
  · exact wpList_appB hgd s x ho N v L hs hown ad m c B M hx hM hb hN fun v' w' h1 h2 h3 => h v' w' h1 h2 fun k hk => by
      rcases h3 with e | e
      · exact .inl (e ▸ hk)
      · rw [e] at hk; injection hk with hk; exact .inr (Nat.le_of_eq hk)
theorem ref8_Frame {A : Option Addr} {n c : Nat} {L : List UInt8} (w : World) (h : Byts w w.heap.size A n L) (hn : n ≤ 900000000000) :
    Calls Try.prog 41 #[.slice A n c] w (BRes (Wr.frame L) w) := by
  have hb : n ≤ 18446744073709551615 := by omega
  have hL := h.len
  have V := Lib.hid (ref8_Varint n (by omega) w)
  have hten := Wr.enc_ten (x := n) (by omega)
  have HT : Hid ((Wr.enc n).length ≤ 10) := hten
  have HH := Lib.hid h
  have HL := Lib.hid hL
  have S := Lib.hid fun W => ref7_Sum ⟨L.toArray⟩ W (by show L.toArray.size ≤ _; rw [List.size_toArray]; omega)
  have hB := fun W => ref8_Big (Wr.dg L) (by have := Wr.dg_bd L; omega) W
  rw [Wr.dg_int] at hB
  have B := Lib.hid hB
  clear hB
  clear h hL hten
  go_enter Try.func41, Try.ntmps41
  go_wp2_with (first
    | (go_at_call 47; refine V.out.mono ?_; rintro e w1 ⟨A1, c1, rfl, hB1, -, hO1, k1, k2⟩; have HB1 := Lib.hid hB1; have HO1 := Lib.hid hO1; have HV1 := Lib.hid (HH.out.on hB1); clear hB1 hO1)
    | (at_builtin; refine Hid.out ?_))
  refine Lib.hid (wpList_appAny rfl (.tmp 8) (.tmp 9) rfl w.heap.size (.slice A1 (Wr.enc n).length c1) (Wr.enc n) rfl HO1.out A n c w1.heap.size L rfl HV1.out (by have := HT.out; omega) HB1.out.size ?_)
  intro v2 w2 hown hg hloc
  have HB2 := Lib.hid (HB1.out.grown hg HB1.out.size fun k hk => (HO1.out.lt k hk).1)
  have HV2 := Lib.hid (HH.out.on HB2.out)
  obtain ⟨A2, c2, rfl, -, -, -, -⟩ := hown.form
  obtain ⟨k, ek⟩ : ∃ k, k = (Wr.enc n ++ L).length := ⟨_, rfl⟩
  rw [← ek] at hown ⊢
  have HO2 := Lib.hid hown
  have EK := Lib.hid ek
  have hcv := conv_bytes (c := c) HV2.out
  clear hown hg hloc ek
  go_wp2_with (first
    | (go_at_call 59; refine (S.out _).mono ?_; rintro e w' ⟨rfl, rfl⟩)
    | (go_at_call 58; refine (B.out _).mono ?_; rintro e w3 ⟨A3, c3, rfl, hB3, hM3, -, -, -⟩; have HB3 := Lib.hid hB3; have HM3 := Lib.hid hM3; clear hB3 hM3)
    | (at_builtin; refine Hid.out ?_))
  have HB4 := Lib.hid (bthn6 HB2.out HB3.out)
  have HO3 : Hid (OwnB w3 w.heap.size (.slice A2 k c2) (Wr.enc n ++ L)) := HO2.out.same fun g hg => HB3.out.block g (HO2.out.lt g hg).2
  refine Lib.hid (wpList_appAny rfl (.tmp 11) (.tmp 15) rfl w.heap.size (.slice A2 k c2) (Wr.enc n ++ L) rfl HO3.out A3 _ c3 w3.heap.size (Wr.bg 8 (Wr.dg L)) rfl HM3.out (by rw [Wr.bg_len, List.length_append, HL.out]; have := HT.out; omega) HB4.out.size ?_)
  intro v4 w4 hown hg hloc
  have HE : Hid (BRes (Wr.frame L) w (.returned v4) w4) := by
    show BRes _ _ _ _
    obtain ⟨A4, c4, rfl, z1, z2, z3, -⟩ := hown.form
    have e : Wr.frame L = Wr.enc n ++ L ++ Wr.bg 8 (Wr.dg L) := by unfold Wr.frame; rw [HL.out]
    rw [e]
    exact ⟨A4, c4, rfl, HB4.out.grown hg HB4.out.size fun k hk => (HO3.out.lt k hk).1, z3, hown, z1, z2⟩
  obtain ⟨A4, c4, rfl, -, -, -, -⟩ := hown.form
  obtain ⟨m, em⟩ : ∃ m, m = (Wr.enc n ++ L ++ Wr.bg 8 (Wr.dg L)).length := ⟨_, rfl⟩
  rw [← em] at HE ⊢
  clear hown hg hloc em HB4 HO3
  go_wp2_with fail
  go_ret
  exact HE.out
end Go.Proofs.Ytdleleanaihcoaa
