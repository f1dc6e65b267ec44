/- nat.appendPart: a row of limbs times 10^9, and a number of up to nine digits more. -/
import Derived.Test.YtcgbgaljjhopiaaDoorNatW
import Derived.Lib.ParseIntB
namespace Go.Proofs.YtcgbgaljjhopiaaDoor
set_option maxRecDepth 20000
open Go.RowKit
set_option linter.unusedVariables false
set_option linter.unusedSimpArgs false
theorem Nm.parseM : ∀ (r : List UInt8) (acc : Nat), r.all Nm.isDig = true → Nm.val acc r ≤ 4294967295 → Lib.parseUintM 4294967295 acc r = .ok (Nm.val acc r)
  | [], acc, _, _ => by rw [Nm.val_nil, Lib.parseUintM]
  | c :: r, acc, h, hv => by
    rw [List.all_cons, Bool.and_eq_true] at h
    have hc := (Nm.isDig_iff c).1 h.1
    rw [Nm.val_cons] at hv
    have hg := Nm.val_ge r (acc * 10 + (c.toNat - 48))
    rw [Lib.parseUintM, if_pos hc, if_neg (by omega), if_neg (by omega), Nm.val_cons]
    exact Nm.parseM r _ h.2 hv
theorem Nm.parseB {r : List UInt8} (h : r.all Nm.isDig = true) (h0 : r ≠ []) (hl : r.length ≤ 9) : Lib.parseUintB 32 r = .ok (Nm.val 0 r) := by
  have h1 := Nm.val_lt r 0 h
  have h2 : 10 ^ r.length ≤ 10 ^ 9 := Nat.pow_le_pow_right (by omega) hl
  rw [Lib.parseUintB, if_neg h0]
  exact Nm.parseM r 0 h (by omega)
structure PartInv (g k m u : Nat) (F : Nat → Nat) (c : Nat) (w wr : World) (G : Nat → Nat) : Prop where
  row : Rw wr g 32 .u32 m G
  same : ∀ i, k ≤ i → G i = F i
  lt : ∀ i, G i < 4294967296
  val : Nt.vl 4294967296 G k + c * 4294967296 ^ k = Nt.vl 4294967296 F k * 1000000000 + u
  gr : w.grownBy wr (some g)
theorem Nt.mul_step {P V W c y q r u : Nat} (h : V + c * P = W * 1000000000 + u) (hs : y * 1000000000 + c = q * 4294967296 + r) : V + r * P + q * (P * 4294967296) = (W + y * P) * 1000000000 + u := by
  have h2 : (y * 1000000000 + c) * P = (q * 4294967296 + r) * P := by rw [hs]
  grind
theorem PartInv.step {g k m u c q r : Nat} {F G : Nat → Nat} {w wr : World} (h : PartInv g k m u F c w wr G) (hs : G k * 1000000000 + c = q * 4294967296 + r) (hr : r < 4294967296) {x : Int} (hx : x = (r : Nat)) (d : Nat) :
    PartInv g (k + 1) m u F q w ((wr.drewN d).setCell ⟨g, k, none⟩ (.int .u32 x)) (upd G k r) where
  row := (h.row.drewN d).set hx
  same := fun i hi => by rw [upd_ne _ _ (by omega)]; exact h.same i (by omega)
  lt := upd_lt h.lt hr k
  val := by
    have e := h.same k (by omega)
    rw [Nt.vl_succ, Nt.vl_upd, upd_same, Nt.vl_succ, Nat.pow_succ, ← e]
    exact Nt.mul_step h.val hs
  gr := grown_set (grown_drewN h.gr d) (.inl rfl) _
theorem Nt.mul_wraps {y c : Int} (y0 : 0 ≤ y) (y1 : y < 4294967296) (c0 : 0 ≤ c) (c1 : c < 4294967296) :
    IntKind.u64.wrap (IntKind.u64.wrap (IntKind.u64.wrap y * 1000000000) + IntKind.u64.wrap c) = y * 1000000000 + c := by
  have e1 : IntKind.u64.wrap (y * 1000000000) = y * 1000000000 := Nt.w64 (by omega) (by omega)
  rw [Nt.w64 y0 (by omega), Nt.w64 c0 (by omega), e1, Nt.w64 (by omega) (by omega)]
/-- What appendPart leaves. -/
def Appended (g m u : Nat) (F : Nat → Nat) (w : World) (e : Ending) (w' : World) : Prop :=
  ∃ (v : Value) (c : Nat) (G : Nat → Nat), e = .returned v ∧ PartInv g m m u F c w w' G
theorem grown_of_below {w w' : World} {g : Nat} (h : Below w.heap.size w w') : w.grownBy w' (some g) := ⟨h.os, h.tape, h.output, h.size, fun i hi _ => h.block i hi⟩
set_option maxHeartbeats 400000 in
theorem nat_appendPart (s : ByteArray) {g m c u : Nat} {F : Nat → Nat} (w : World) (hR : Rw w g 32 .u32 m F) (hF : ∀ i, F i < 4294967296) (hm : m ≤ 9223372036854775807)
    (hs : s.data.toList.all Nm.isDig = true) (h0 : s.data.toList ≠ []) (hl : s.data.toList.length ≤ 9) (hu : Nm.val 0 s.data.toList = u) :
    Calls Tryd.prog 12 #[.slice (some ⟨g, 0, none⟩) m c, .string s] w (Appended g m u F w) := by
  have hp := Nm.parseB hs h0 hl
  rw [hu] at hp
  have hu9 : u < 1000000000 := by
    have h1 := Nm.val_lt s.data.toList 0 hs
    have h2 : 10 ^ s.data.toList.length ≤ 10 ^ 9 := Nat.pow_le_pow_right (by omega) hl
    omega
  have cp := Tryd.strconv_ParseUint_10_at32_ok s (by rw [Lib.size_eq]; omega) u hp w
  have CP := Lib.hid cp
  have HF := Lib.hid hF
  have HR := Lib.hid hR
  have wu : IntKind.wrap .u32 (u : Int) = (u : Int) := by rw [IntKind.wrap_u32]; omega
  clear hp cp hR hF hs h0 hl hu
  go_enter Tryd.func12, Tryd.ntmps12
  go_wp2_with fail
  refine CP.out.mono ?_
  rintro e w' ⟨rfl, hw⟩
  have R2 : Hid (Rw w' g 32 .u32 m F ∧ Below w.heap.size w w') := by
    show _ ∧ _
    rcases hw with rfl | rfl
    · exact ⟨HR.out, Below.refl _ _⟩
    · exact ⟨HR.out.below (Lib.bytesWorld_below w _ s) HR.out.lt, Lib.bytesWorld_below w _ s⟩
  clear hw
  go_wp2_with fail
  go_loopw [6, 17] (fun a i wr => ∃ (k : Nat) (cr : Int) (cn : Nat) (G : Nat → Nat), k ≤ m ∧ i = .int .i64 k ∧ a = .int .u32 cr ∧ 0 ≤ cr ∧ cr < 4294967296 ∧ Hid (cr = (cn : Nat)) ∧ Hid (PartInv g k m u F cn w wr G)) (fun _ i _ => m - (intOf i).toNat)
  case atStart => exact ⟨0, (u : Int), u, F, by omega, rfl, rfl, by omega, by omega, rfl, R2.out.1, fun _ _ => rfl, HF.out, by simp [Nt.vl_zero], grown_of_below R2.out.2⟩
  case round =>
    obtain ⟨k, cr, cn, G, hk, rfl, rfl, c0, c1, HC, HI⟩ := hrel
    by_cases hlt : k < m
    · have hcell := HI.out.row.cell (i := k) (by omega)
      have hfree := HI.out.row.free k
      obtain ⟨y, ey⟩ : ∃ y : Int, y = (G k : Nat) := ⟨_, rfl⟩
      have hyl := HI.out.lt k
      have y0 : 0 ≤ y := by omega
      have y1 : y < 4294967296 := by omega
      rw [← ey] at hcell
      have TW := Lib.hid (Nt.mul_wraps y0 y1 c0 c1)
      obtain ⟨t, et⟩ : ∃ t, t = y * 1000000000 + cr := ⟨_, rfl⟩
      rw [← et] at TW
      have t0 : 0 ≤ t := by omega
      have t1 : t < 18446744073709551616 := by omega
      have ET := Lib.hid et
      have EY := Lib.hid ey
      clear ey hyl et
      have HN : Hid (∀ d, PartInv g (k + 1) m u F (t.toNat / 4294967296) w ((wr.drewN d).setCell ⟨g, k, none⟩ (.int .u32 (t % 4294967296))) (upd G k (t.toNat % 4294967296))) := fun d =>
        HI.out.step (by
          have e1 := ET.out
          rw [EY.out, HC.out] at e1
          have e3 : t.toNat = G k * 1000000000 + cn := by omega
          rw [← e3]; exact (Nat.div_add_mod' _ _).symm) (Nat.mod_lt _ (by omega)) (by omega) d
      have k0 : (0 : Int) ≤ (k : Int) := by omega
      have k1 : (k : Int) < (m : Int) := by omega
      go_wp2_with fail
      refine (nat_split_at ET.out.symm t0 t1 _).mono ?_
      rintro e w'' ⟨rfl, rfl⟩
      go_wp2
      go_roundw
      case rel => exact ⟨k + 1, t / 4294967296, t.toNat / 4294967296, _, by omega, by go_num, rfl, by omega, by omega, by show _ = _; omega, by first | exact HN.out _ | exact HN.out 0⟩
      case measure => simp [intOf]; omega
    · obtain rfl : k = m := by omega
      go_wp2
      first | go_ret | go_end0
      exact ⟨_, cn, G, rfl, HI.out⟩
end Go.Proofs.YtcgbgaljjhopiaaDoor
