/- The reference's Format: the halves of a number, divided by 10 in place, again and again. -/
import Derived.Test.YtcgbgaljjhopiaaDoorNatRC
import Derived.Test.YtcgbgaljjhopiaaDoorNatQ
import Derived.Test.YtcgbgaljjhopiaaDoorGN
namespace Go.Proofs.YtcgbgaljjhopiaaDoor
set_option maxRecDepth 20000
open Go.RowKit
set_option linter.unusedVariables false
set_option linter.unusedSimpArgs false
/-- A row is appended onto an empty row of the call's own. -/
theorem wpList_appD {w0 : World} {ops : Array Oper} {rest : List Oper} {o : Oper} {a : Act} {Q : Exit → Act → World → Prop} (hgd : o.guard = none) (s x : Operand) (T E : TypeId) (K : IntKind) (b8 : Nat)
    (ho : o.op = .call { callee := .builtin .append, args := #[s, x], argTypes := #[T, T] }) (hT : Tryd.prog.underlying T = some (.slice E)) (hinfo : (Tryd.prog.info? E).map (fun i => (i.zero, i.size, i.bytes)) = some (some (.int K 0), 1, b8)) (hb8 : b8 ≤ 8)
    (N g0 : Nat) (n c : Nat) (f : Nat → Nat) (A : Addr) (hs : a.eval s = .slice (some ⟨g0, 0, none⟩) 0 0) (hown : OwnD w0 N E K (.slice (some ⟨g0, 0, none⟩) 0 0) 0 f) (hd : Digs w0 w0.heap.size K (some A) n f) (hx : a.eval x = .slice (some A) n c) (hn : n ≤ 1000000) (hN : N ≤ w0.heap.size)
    (h : ∀ g c' w', n ≤ c' → c' ≤ 9223372036854775807 → N ≤ g → Rw w' g E K n f → Below N w0 w' → wpList Tryd.prog ops Q rest (a.put o.dst (.slice (some ⟨g, 0, none⟩) n c')) w') :
    wpList Tryd.prog ops Q (o :: rest) a w0 := by
  obtain ⟨i0, hi, hz0, hz1, hz2⟩ := info_parts hinfo
  refine wpList_append_own_at _ hgd s x T ho N E i0 (.int K 0) 1 b8 hT hi hz0 hz1 hz2 rfl (by decide) _ 0 _ hs hown A n c ((List.range n).map (fun i => Value.int K (f i : Nat))) hx (by simp) ?_ ?_ (by unfold maxLen; omega) ?_ hN ?_
  · intro j u hj
    by_cases hjn : j < n
    · obtain ⟨ad', he, hb', hc'⟩ := hd (by omega)
      injection he with he
      subst he
      rw [hc' j hjn, ← hj]
      simp [hjn]
    · simp [hjn] at hj
  · intro u hu
    simp only [List.mem_map, List.mem_range] at hu
    obtain ⟨i, -, rfl⟩ := hu
    rfl
  · have : (0 + n) * b8 ≤ (0 + n) * 8 := Nat.mul_le_mul_left _ hb8
    omega
  · intro v' w' h1 h2 h3 h4
    rw [Nat.zero_add] at h1
    have hb : Below N w0 w' := (Below.refl N w0).grown h2 hN fun k hk => (hown.lt k hk).1
    rcases h1.2 with ⟨hv, h0⟩ | ⟨g, cap, cur, hv, hbg, hg, hnc, hcap, -, -⟩
    · exact absurd (h3.1 hv).1 (by intro e; cases e)
    · subst hv
      unfold maxLen at hcap
      exact h g cap w' hnc hcap hbg (Rw.of_own h1 fun i hi => by simp [hi]) hb
/-- Nothing is appended. -/
theorem wpList_app0 {w0 : World} {ops : Array Oper} {rest : List Oper} {o : Oper} {a : Act} {Q : Exit → Act → World → Prop} (hgd : o.guard = none) (s x : Operand) (T E : TypeId)
    (ho : o.op = .call { callee := .builtin .append, args := #[s, x], argTypes := #[T, T] }) (hT : Tryd.prog.underlying T = some (.slice E)) {i : TypeInfo} (hi : Tryd.prog.info? E = some i)
    (A : Addr) (c : Nat) (hs : a.eval s = .slice (some A) 0 0) (hx : a.eval x = .slice none 0 c)
    (h : wpList Tryd.prog ops Q rest (a.put o.dst (.slice (some A) 0 0)) w0) :
    wpList Tryd.prog ops Q (o :: rest) a w0 := by
  refine wpList_plain hgd fun K hK => ?_
  have hr : (Builtin.append_ #[T, T] o.type #[.slice (some A) 0 0, .slice none 0 c]).run Tryd.prog w0 = .ok (.slice (some A) 0 0) w0 := by
    simp [Builtin.append_, run_underlying hT, sizeOf, typeInfo, hi, Builtin.lenOf, Builtin.firstCells, loadCells, loadCellsFrom, storeCells]
  unfold Oper.wp execOp
  simp only [ho, resolve, invoke, builtin, Sem.run_bind, Sem.run_pure, Result.andThen_ok, List.map_toArray, List.map_cons, List.map_nil, hs, hx, hr]
  exact hK _ _ h
/-- A row, divided by 10 in place from the top down to k: what is left below k, the quotient above, the remainder. -/
structure TenH (N g n k x r : Nat) (w W : World) (G : Nat → Nat) : Prop where
  row : Rw W g 3 .i64 n G
  lt : ∀ j, G j < 65536
  low : ∀ j, j < k → G j = Nt.dg 65536 x j
  val : x / 65536 ^ k = 10 * Nt.vl 65536 (fun j => G (k + j)) (n - k) + r
  bel : Below N w W
theorem TenH.step {N g n k x r : Nat} {w W : World} {G : Nat → Nat} {X : Int} (h : TenH N g n (k + 1) x r w W G) (hk : k + 1 ≤ n) (hN : N ≤ g) (hr : r < 10) {q r' : Nat} (hq : 65536 * r + Nt.dg 65536 x k = 10 * q + r') (hX : X = (q : Nat)) (hr' : r' < 10) :
    TenH N g n k x r' w (W.setCell ⟨g, k, none⟩ (.int .i64 X)) (upd G k q) := by
  have hd := Nt.dg_lt (B := 65536) (by omega) x k
  refine ⟨h.row.set hX, upd_lt h.lt (by omega) _, fun j hj => by rw [upd_ne _ _ (by omega)]; exact h.low j (by omega), ?_, h.bel.setCell hN _⟩
  have e1 : Nt.vl 65536 (fun j => upd G k q (k + j)) (n - k) = q + 65536 * Nt.vl 65536 (fun j => G (k + 1 + j)) (n - (k + 1)) := by
    rw [show n - k = 1 + (n - (k + 1)) by omega, Nt.vl_split 1]
    have a1 : Nt.vl 65536 (fun j => upd G k q (k + j)) 1 = q := by simp [Nt.vl_succ, Nt.vl_zero, upd]
    rw [a1, Nat.pow_one]
    congr 2
    refine Nt.vl_congr fun j _ => ?_
    show upd G k q (k + (1 + j)) = _
    rw [upd_ne _ _ (by omega), show k + (1 + j) = k + 1 + j by omega]
  rw [e1, Nt.div_split, h.val]
  omega
namespace Nm
/-- What is written of x when y is left. -/
def Left (x y : Nat) (T : ByteArray) : Prop := Lib.decDigits x = (if y = 0 then [] else Lib.decDigits y) ++ T.data.toList
theorem Left.start {x : Nat} (h : 0 < x) : Left x x ⟨#[]⟩ := by unfold Left; rw [if_neg (by omega)]; simp
theorem Left.step {x y : Nat} {T : ByteArray} (h : Left x y T) (h0 : 0 < y) {d : Int} (hd : d = (y % 10 : Nat)) : Left x (y / 10) (⟨#[UInt8.ofNat (48 + d).toNat]⟩ ++ T) := by
  unfold Left at h ⊢
  rw [if_neg (by omega)] at h
  rw [h, ByteArray.data_append, Array.toList_append, ← List.append_assoc]
  congr 1
  have e : (48 + d).toNat = 48 + y % 10 := by omega
  show _ = _ ++ [UInt8.ofNat (48 + d).toNat]
  rw [e]
  by_cases hq : y / 10 = 0
  · rw [if_pos hq, List.nil_append, Lib.decDigits, dif_pos (by omega), show y % 10 = y by omega]
  · rw [if_neg hq]
    have := digits_snoc (q := y / 10) (d := y % 10) (by omega) (by omega)
    rw [show y / 10 * 10 + y % 10 = y by omega] at this
    exact this
theorem Left.fin {x : Nat} {T : ByteArray} (h : Left x 0 T) : T = txt x := by
  unfold Left at h
  rw [if_pos rfl, List.nil_append] at h
  exact ByteArray.ext (by rw [txt, h])
theorem Left.len {x y : Nat} {T : ByteArray} (h : Left x y T) : T.size ≤ (txt x).size := by
  unfold Left at h
  rw [txt_size, h, List.length_append, Lib.size_eq]; omega
end Nm
/-- What stands when y is left. -/
structure TenO (N g n x y : Nat) (w W : World) (T : ByteArray) : Prop where
  row : Rw W g 3 .i64 n (Nt.dg 65536 y)
  l : Nt.ln 65536 y = n
  bel : Below N w W
  ge : N ≤ g
  wr : Nm.Left x y T
theorem txt_empty (x : Nat) : (Nm.txt x).toList.isEmpty = false := by
  rw [ByteArray.toList_eq, Nm.txt_list]
  rcases h : Lib.decDigits x with _ | _
  · exact absurd h (Nm.digits_ne x)
  · rfl
def lenStr : Value → Nat
  | .string s => s.size
  | _ => 0
theorem ref3_Format_zero {n c x : Nat} {A : Option Addr} (w : World) (h : IsN w w.heap.size A n x) (hn : n ≤ 64) (x0 : x = 0) :
    Calls Tryd.prog 8 #[.agg #[.slice A n c]] w (Said x w) := by
  have v1 := fun W (hb : Below w.heap.size w W) => ref3_Valid (c := c) W (h.on hb).d (by omega)
  rw [h.vd, decide_eq_true hn] at v1
  have V1 := Lib.hid v1
  have HH := Lib.hid fun W (hb : Below w.heap.size w W) => ref3_Halves (c := c) (x := x) W (h.on hb) (by omega)
  have hi0 : ∃ i, Tryd.prog.info? 3 = some i := by
    obtain ⟨i, hi, -⟩ := info_parts info_i64
    exact ⟨i, hi⟩
  obtain ⟨i0, hi⟩ := hi0
  have HI := Lib.hid hi
  have F : Hid ((⟨#[48]⟩ : ByteArray) = Nm.txt x) := by show _ = _; rw [x0, Nm.txt, Lib.decDigits, dif_pos (by omega)]; rfl
  clear hi v1 h
  have b0 := (Below.refl w.heap.size w).alloc (Nat.le_refl _) (.cells #[.slice A n c] 24)
  have N0 := NBox.new w (.slice A n c)
  have B0 := Lib.hid b0
  have X0 := Lib.hid N0
  clear b0 N0
  go_enter Tryd.func8, Tryd.ntmps8
  go_wp2_with fail
  refine (V1.out _ B0.out).mono ?_
  rintro e w1 ⟨rfl, B1⟩
  have xn := X0.out.below B1 (by simp)
  have xc := (xn.alloc (.cells #[] 3)).cell
  have C1 := Lib.hid (B0.out.trans (B1.mono (by simp)))
  clear xn B1
  go_wp2_with fail
  refine (HH.out _ (C1.out.alloc C1.out.size _)).mono ?_
  rintro e w2 ⟨A3, n3, c3, rfl, B3, H3, -, -⟩
  have ow : OwnD w2 w1.heap.size 3 .i64 (.slice (some ⟨w1.heap.size, 0, none⟩) 0 0) 0 (Nt.dg 65536 x) := OwnD.below (w := w1.alloc (.cells #[] 3)) (World.ownsRow_made w1 #[] 0 (Nat.le_refl _) (by unfold maxLen; omega) rfl) B3 (Nat.le_refl _)
  have OW := Lib.hid ow
  have C2 := Lib.hid ((C1.out.alloc C1.out.size _).trans (B3.mono (by have := C1.out.size; simp; omega)))
  have S2 : Hid (w1.heap.size ≤ w2.heap.size) := by have := B3.size; simp at this; show _ ≤ _; omega
  have HD := Lib.hid H3.d
  have HL := Lib.hid H3.l
  have CS := Lib.hid C1.out.size
  clear ow H3 B3 xc
  go_wp2_with (at_builtin; refine Hid.out ?_)
  have n0 : n3 = 0 := by rw [← HL.out, x0]; exact Nt.ln_zero
  subst n0
  rcases A3 with _ | A3
  · refine Lib.hid (wpList_app0 rfl (.tmp 11) (.tmp 13) 37 3 rfl Tryd.underlying37 HI.out ⟨w1.heap.size, 0, none⟩ c3 rfl rfl ?_)
    go_wp2_with fail
    go_loopw [3, 4] (fun l t W => ∃ (B : Option Addr) (c : Nat), l = .slice B 0 c ∧ t = .string ⟨#[]⟩ ∧ W = w2) (fun _ _ _ => 0)
    case atStart => exact ⟨_, _, rfl, rfl, rfl⟩
    case round =>
      obtain ⟨B, c', rfl, rfl, rfl⟩ := hrel
      go_wp2_with fail
      go_ret
      exact ⟨ret_str F.out, C2.out⟩
  · refine Lib.hid (wpList_appD rfl (.tmp 11) (.tmp 13) 37 3 .i64 8 rfl Tryd.underlying37 info_i64 (by omega) w1.heap.size w1.heap.size 0 c3 (Nt.dg 65536 x) A3 rfl OW.out HD.out rfl (by omega) S2.out ?_)
    intro g c' w3 k1 k2 k3 k4 k5
    have C3 := Lib.hid (C2.out.trans (k5.mono CS.out))
    clear k4 k5
    go_wp2_with fail
    go_loopw [3, 4] (fun l t W => ∃ (B : Option Addr) (c : Nat), l = .slice B 0 c ∧ t = .string ⟨#[]⟩ ∧ W = w3) (fun _ _ _ => 0)
    case atStart => exact ⟨_, _, rfl, rfl, rfl⟩
    case round =>
      obtain ⟨B, c', rfl, rfl, rfl⟩ := hrel
      go_wp2_with fail
      go_ret
      exact ⟨ret_str F.out, C3.out⟩
set_option maxHeartbeats 1000000 in
theorem ref3_Format_pos {n c x : Nat} {A : Option Addr} (w : World) (h : IsN w w.heap.size A n x) (hn : n ≤ 64) (x0 : 0 < x) :
    Calls Tryd.prog 8 #[.agg #[.slice A n c]] w (Said x w) := by
  have v1 := fun W (hb : Below w.heap.size w W) => ref3_Valid (c := c) W (h.on hb).d (by omega)
  rw [h.vd, decide_eq_true hn] at v1
  have V1 := Lib.hid v1
  have HH := Lib.hid fun W (hb : Below w.heap.size w W) => ref3_Halves (c := c) (x := x) W (h.on hb) (by omega)
  have hl2 : Nt.ln 65536 x ≤ 2 * n := Nt.ln_two h.l
  have ht : (Nm.txt x).size ≤ 641 := Nat.le_trans (Nm.txt_le (n := n) (by rw [h.l]; exact Nat.le_refl _)) (by omega)
  have HX0 := Lib.hid x0
  clear v1 h
  have b0 := (Below.refl w.heap.size w).alloc (Nat.le_refl _) (.cells #[.slice A n c] 24)
  have N0 := NBox.new w (.slice A n c)
  have B0 := Lib.hid b0
  have X0 := Lib.hid N0
  clear b0 N0
  go_enter Tryd.func8, Tryd.ntmps8
  go_wp2_with fail
  refine (V1.out _ B0.out).mono ?_
  rintro e w1 ⟨rfl, B1⟩
  have xn := X0.out.below B1 (by simp)
  have xc := (xn.alloc (.cells #[] 3)).cell
  have C1 := Lib.hid (B0.out.trans (B1.mono (by simp)))
  clear xn B1
  go_wp2_with fail
  refine (HH.out _ (C1.out.alloc C1.out.size _)).mono ?_
  rintro e w2 ⟨A3, n3, c3, rfl, B3, H3, -, -⟩
  have ow : OwnD w2 w1.heap.size 3 .i64 (.slice (some ⟨w1.heap.size, 0, none⟩) 0 0) 0 (Nt.dg 65536 x) := OwnD.below (w := w1.alloc (.cells #[] 3)) (World.ownsRow_made w1 #[] 0 (Nat.le_refl _) (by unfold maxLen; omega) rfl) B3 (Nat.le_refl _)
  have OW := Lib.hid ow
  have C2 := Lib.hid ((C1.out.alloc C1.out.size _).trans (B3.mono (by have := C1.out.size; simp; omega)))
  have S2 : Hid (w1.heap.size ≤ w2.heap.size) := by have := B3.size; simp at this; show _ ≤ _; omega
  have HD := Lib.hid H3.d
  have HL := Lib.hid H3.l
  have CS := Lib.hid C1.out.size
  clear ow H3 B3 xc
  have hp : 0 < n3 := by rw [← HL.out]; exact Nt.ln_pos (by omega) (by omega)
  obtain ⟨A3, rfl⟩ : ∃ a, A3 = some a := by obtain ⟨a, e, -⟩ := HD.out hp; exact ⟨a, e⟩
  have n2 : n3 ≤ 128 := by have := HL.out; omega
  go_wp2_with (at_builtin; refine Hid.out ?_)
  refine Lib.hid (wpList_appD rfl (.tmp 11) (.tmp 13) 37 3 .i64 8 rfl Tryd.underlying37 info_i64 (by omega) w1.heap.size w1.heap.size n3 c3 (Nt.dg 65536 x) A3 rfl OW.out HD.out rfl (by omega) S2.out ?_)
  intro g c' w3 k1 k2 k3 k4 k5
  have TO : TenO w.heap.size g n3 x x w w3 ⟨#[]⟩ := ⟨k4, HL.out, C2.out.trans (k5.mono CS.out), Nat.le_trans CS.out k3, Nm.Left.start x0⟩
  have HTO := Lib.hid TO
  have HT := Lib.hid ht
  clear k3 k4 k5 TO ht hl2 hp
  go_wp2_with fail
  clear hn V1 HH OW HD HL
  go_loopw [3, 4] (fun l t W => ∃ (y n c g : Nat) (T : ByteArray), l = .slice (some ⟨g, 0, none⟩) n c ∧ t = .string T ∧ n ≤ c ∧ c ≤ 9223372036854775807 ∧ n ≤ 128 ∧ T.size ≤ 641 ∧ Hid (TenO w.heap.size g n x y w W T)) (fun _ t _ => 1000 - lenStr t)
  case atStart => exact ⟨x, n3, c', g, ⟨#[]⟩, rfl, rfl, k1, k2, n2, by decide, HTO⟩
  case round =>
    clear HTO k1 k2 n2
    obtain ⟨y, n, c, g, T, rfl, rfl, hc, hcm, hn, hT, HI⟩ := hrel
    by_cases h0 : 0 < n
    · have y0 : 0 < y := by
        rcases Nat.eq_zero_or_pos y with e | e
        · have := HI.out.l; rw [e, Nt.ln_zero] at this; omega
        · exact e
      have HY := Lib.hid y0
      clear y0
      go_wp2_with fail
      go_loopw [5, 6] (fun s i W => ∃ (k : Nat) (v r : Int) (rn : Nat) (G : Nat → Nat), k ≤ n ∧ i = .int .i64 v ∧ v < k ∧ (k : Int) ≤ v + 1 ∧ s = .int .i64 r ∧ 0 ≤ r ∧ r ≤ 9 ∧ Hid (r = (rn : Nat)) ∧ Hid (TenH w.heap.size g n k y rn w W G)) (fun _ i _ => (intOf i + 1).toNat)
      case atStart => exact ⟨n, (n : Int) - 1, 0, 0, Nt.dg 65536 y, Nat.le_refl _, rfl, by omega, by omega, rfl, by omega, by omega, rfl, HI.out.row, fun j => Nt.dg_lt (by omega) y j, fun _ _ => rfl, by rw [Nat.sub_self, Nt.vl_zero, Nat.div_eq_of_lt (by rw [← HI.out.l]; exact Nt.ln_lt (by omega) y)], HI.out.bel⟩
      case round =>
        obtain ⟨k, v, r, rn, G, hk, rfl, hv1, hv2, rfl, r0, r1, HRN, HK⟩ := hrel
        rcases k with _ | k
        · obtain rfl : v = -1 := by omega
          have hd := HK.out.row.digs (B := wr.heap.size) (off := 0) (n := n) HK.out.row.lt (by omega)
          have e0 : (fun j => G (0 + j)) = G := by funext j; rw [Nat.zero_add]
          rw [e0] at hd
          have hv := HK.out.val
          rw [e0, Nat.pow_zero, Nat.div_one, Nat.sub_zero] at hv
          have hq : Nt.vl 65536 G n = y / 10 := by have := HRN.out; omega
          have hr : rn = y % 10 := by have := HRN.out; omega
          have ct := ref3_trim (c := c) wr hd hc hcm
          have hh := hd.isH_tl (fun j _ => HK.out.lt j)
          rw [hq] at hh
          have htl := Nt.tl_le G n
          have hs := HI.out.wr.step HY.out (d := r) (by rw [← hr]; exact HRN.out)
          have hlen := hs.len
          have CT := Lib.hid ct
          have HS := Lib.hid hs
          have HLn := Lib.hid hlen
          have HTL := Lib.hid htl
          have HLL := Lib.hid hh.l
          have HR2 : Hid (Rw wr g 3 .i64 (Nt.tl G n) (Nt.dg 65536 (y / 10))) := by
            obtain ⟨cs, a1, a2, a3⟩ := HK.out.row
            refine ⟨cs, a1, by omega, fun i hi => ?_⟩
            rw [a3 i (by omega), ← hq, Nt.dg_vl (fun j _ => HK.out.lt j) (by omega)]
          have hcb := conv_byte (48 + r) (by omega)
          clear hd e0 hv hq hr ct hh htl hs hlen
          go_wp2_with fail
          refine CT.out.mono ?_
          rintro e w' ⟨rfl, rfl⟩
          go_wp2_with fail
          refine ⟨⟨y / 10, Nt.tl G n, c, g, _, rfl, rfl, by have := HTL.out; omega, hcm, by have := HTL.out; omega, by have := HLn.out; have := HT.out; omega, ⟨HR2.out.alloc _, HLL.out, HK.out.bel.alloc HK.out.bel.size _, HI.out.ge, HS.out⟩⟩, ?_⟩
          show 1000 - ((⟨#[UInt8.ofNat (48 + r).toNat]⟩ : ByteArray) ++ T).size < 1000 - T.size
          rw [ByteArray.size_append, show (⟨#[UInt8.ofNat (48 + r).toNat]⟩ : ByteArray).size = 1 from rfl]
          omega
        · obtain rfl : v = (k : Int) := by omega
          have hk' : k < n := by omega
          have hcl := HK.out.row.cell (i := k) hk'
          rw [HK.out.low k (by omega)] at hcl
          have hfl := HK.out.row.free k
          have hxl := Nt.dg_lt (B := 65536) (by omega) y k
          obtain ⟨X, eX⟩ : ∃ X : Int, X = (Nt.dg 65536 y k : Nat) := ⟨_, rfl⟩
          rw [← eX] at hcl
          have x0 : 0 ≤ X := by omega
          have x1 : X < 65536 := by omega
          obtain ⟨Q, eQ⟩ : ∃ Q, Q = 65536 * r + X := ⟨_, rfl⟩
          have t0 : 0 ≤ Q := by omega
          have t1 : Q < 655360 := by omega
          have hN := HK.out.step (X := Q / 10) (q := Q.toNat / 10) (r' := Q.toNat % 10) hk HI.out.ge (by have := HRN.out; omega) (by have := HRN.out; omega) (by omega) (by omega)
          have HN := Lib.hid hN
          have hQ : 65536 * r + X = Q := eQ.symm
          clear eX eQ hN hxl
          go_wp2_with fail
          go_roundw
          case rel => exact ⟨k, (k : Int) - 1, Q % 10, Q.toNat % 10, _, by omega, rfl, by omega, by omega, rfl, by omega, by omega, by show _ = _; omega, HN⟩
          case measure => simp [intOf]
    · obtain rfl : n = 0 := by omega
      have y0 : y = 0 := by
        rcases Nat.eq_zero_or_pos y with e | e
        · exact e
        · have := Nt.ln_pos (B := 65536) (x := y) (by omega) (by omega); rw [HI.out.l] at this; omega
      have hw := HI.out.wr
      rw [y0] at hw
      have F := Lib.hid hw.fin
      have HB := Lib.hid HI.out.bel
      have hE : T.toList.isEmpty = false := by
        rw [F.out]; exact txt_empty x
      clear hw
      go_wp2_with fail
      go_ret
      exact ⟨ret_str F.out, HB.out⟩
theorem ref3_Format {n c x : Nat} {A : Option Addr} (w : World) (h : IsN w w.heap.size A n x) (hn : n ≤ 64) :
    Calls Tryd.prog 8 #[.agg #[.slice A n c]] w (Said x w) := by
  by_cases x0 : x = 0
  · exact ref3_Format_zero w h hn x0
  · exact ref3_Format_pos w h hn (by omega)
end Go.Proofs.YtcgbgaljjhopiaaDoor
