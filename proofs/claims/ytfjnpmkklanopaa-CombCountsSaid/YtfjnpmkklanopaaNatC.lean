/- Contracts of layer 3's loops over limbs: nat.addProduct, nat.subtractProduct. -/
import Derived.Test.YtfjnpmkklanopaaNatB
import Derived.Deep.RegionWith
namespace Go.Proofs.Ytfjnpmkklanopaa
set_option maxRecDepth 20000
open Go.RowKit
set_option linter.unusedVariables false
set_option linter.unusedSimpArgs false

/-- What a multiple of b, added to l, leaves behind k limbs: the row's new digits and the carry. -/
structure AddInv (g off n k m : Nat) (fc : Nat) (b F : Nat → Nat) (c : Nat) (w wr : World) (G : Nat → Nat) : Prop where
  row : Rw wr g 58 .u32 m G
  same : ∀ i, i < off ∨ off + k ≤ i → G i = F i
  lt : ∀ i, G i < 4294967296
  val : Nt.vl 4294967296 (fun i => G (off + i)) k + c * 4294967296 ^ k = Nt.vl 4294967296 (fun i => F (off + i)) k + fc * Nt.vl 4294967296 b k
  gr : w.grownBy wr (some g)
namespace Nt
theorem prod_bd {x f : Int} (x0 : 0 ≤ x) (x1 : x < 4294967296) (f0 : 0 ≤ f) (f1 : f < 4294967296) : 0 ≤ x * f ∧ x * f ≤ 18446744065119617025 := by
  refine ⟨Int.mul_nonneg x0 f0, ?_⟩
  have h := Int.mul_le_mul (show x ≤ 4294967295 by omega) (show f ≤ 4294967295 by omega) f0 (by omega)
  omega
theorem upd_off (G : Nat → Nat) (off k v : Nat) : (fun i => upd G (off + k) v (off + i)) = upd (fun i => G (off + i)) k v := by
  funext i
  unfold upd
  by_cases h : i = k
  · subst h; simp
  · rw [if_neg h, if_neg (by omega)]
theorem vl_upd {B : Nat} (G : Nat → Nat) (k v : Nat) : vl B (upd G k v) k = vl B G k := vl_congr fun i hi => upd_ne G v (by omega)
theorem add_step {P V W c x fc y q r b : Nat} (h : V + c * P = W + fc * b) (hs : fc * x + y + c = q * 4294967296 + r) : V + r * P + q * (P * 4294967296) = W + y * P + fc * (b + x * P) := by
  have h2 : (fc * x + y + c) * P = (q * 4294967296 + r) * P := by rw [hs]
  grind
theorem w64 {x : Int} (h0 : 0 ≤ x) (h1 : x < 18446744073709551616) : IntKind.u64.wrap x = x := by rw [IntKind.wrap_u64]; omega
theorem add_wraps {x f y c : Int} (x0 : 0 ≤ x) (x1 : x < 4294967296) (f0 : 0 ≤ f) (f1 : f < 4294967296) (y0 : 0 ≤ y) (y1 : y < 4294967296) (c0 : 0 ≤ c) (c1 : c < 4294967296) :
    IntKind.u64.wrap (IntKind.u64.wrap (IntKind.u64.wrap (IntKind.u64.wrap x * IntKind.u64.wrap f) + IntKind.u64.wrap y) + IntKind.u64.wrap c) = x * f + y + c := by
  obtain ⟨p0, p1⟩ := prod_bd x0 x1 f0 f1
  have e1 : IntKind.u64.wrap (x * f + y) = x * f + y := w64 (by omega) (by omega)
  rw [w64 x0 (by omega), w64 f0 (by omega), w64 y0 (by omega), w64 c0 (by omega), w64 p0 (by omega), e1, w64 (by omega) (by omega)]
end Nt
theorem nat_split_at {v t : Int} (hv : v = t) (h0 : 0 ≤ t) (h1 : t < 18446744073709551616) (w : World) :
    Calls Try.prog 45 #[.int .u64 v] w fun e w' => e = .returned (.tuple #[.int .u32 (t % 4294967296), .int .u32 (t / 4294967296)]) ∧ w = w' := by subst hv; exact nat_split v h0 h1 w
theorem still_l {P : Program} {f : FuncId} {args : Array Value} {w : World} {v : Value} (h : Calls P f args w fun e w' => e = .returned v ∧ w = w') : Calls P f args w fun e w'' => e = .returned v ∧ w'' = w :=
  h.mono fun _ _ ⟨he, hw⟩ => ⟨he, hw.symm⟩
theorem grown_drewN {w wr : World} {r : Option Nat} (h : w.grownBy wr r) (k : Nat) : w.grownBy (wr.drewN k) r := ⟨h.os, h.tape, h.output, h.size, h.block⟩
theorem grown_set {a w : World} {g : Nat} (h : a.grownBy w (some g)) {p : Addr} (hp : p.block = g ∨ a.heap.size ≤ p.block) (u : Value) : a.grownBy (w.setCell p u) (some g) :=
  ⟨h.os, h.tape, h.output, by simpa [World.setCell] using h.size, fun i hi hne => (Below.heap_setCell w p u i (by
    rintro rfl
    rcases hp with hp | hp
    · exact hne (by rw [hp])
    · omega)).trans (h.block i hi hne)⟩

theorem AddInv.step {g off n k m fc c q r : Nat} {b F G : Nat → Nat} {w wr : World} (h : AddInv g off n k m fc b F c w wr G) (hs : fc * b k + G (off + k) + c = q * 4294967296 + r) (hr : r < 4294967296) {x : Int} (hx : x = (r : Nat)) (d : Nat) :
    AddInv g off n (k + 1) m fc b F q w ((wr.drewN d).setCell ⟨g, off + k, none⟩ (.int .u32 x)) (upd G (off + k) r) where
  row := (h.row.drewN d).set hx
  same := fun i hi => by rw [upd_ne _ _ (by omega)]; exact h.same i (by omega)
  lt := upd_lt h.lt hr (off + k)
  val := by
    have e := h.same (off + k) (by omega)
    rw [Nt.upd_off, Nt.vl_succ, Nt.vl_upd, upd_same, Nt.vl_succ, Nt.vl_succ, Nat.pow_succ, ← e]
    exact Nt.add_step h.val hs
  gr := grown_set (grown_drewN h.gr d) (.inl rfl) _
/-- What addProduct leaves. -/
def Added (g off n m fc : Nat) (b F : Nat → Nat) (w : World) (e : Ending) (w' : World) : Prop :=
  ∃ (c : Nat) (G : Nat → Nat), e = .returned (.int .u32 (c : Nat)) ∧ c < 4294967296 ∧ AddInv g off n n m fc b F c w w' G

set_option maxHeartbeats 400000 in
theorem nat_addProduct {B g off n m nb c cb fc : Nat} {A : Option Addr} {F b : Nat → Nat} (fac : Int) (w : World) (hR : Rw w g 58 .u32 m F) (hF : ∀ i, F i < 4294967296) (hoff : off + n ≤ m) (hm : m ≤ 9223372036854775807)
    (hb : Digs w B .u32 A nb b) (hbl : ∀ i, b i < 4294967296) (hbz : ∀ i, nb ≤ i → b i = 0) (hnb : nb ≤ 9223372036854775807) (hB : B ≤ g) (hfac : fac = (fc : Nat)) (hfc : fc < 4294967296) :
    Calls Try.prog 54 #[.slice (some ⟨g, off, none⟩) n c, .slice A nb cb, .int .u32 fac] w (Added g off n m fc b F w) := by
  have HR := Lib.hid hR
  have HF := Lib.hid hF
  have HB := Lib.hid hb
  have HBL := Lib.hid hbl
  have HBZ := Lib.hid hbz
  have f0 : 0 ≤ fac := by omega
  have f1 : fac < 4294967296 := by omega
  have HFC := Lib.hid hfac
  clear hR hF hb hbl hbz hfac
  go_enter Try.func54, Try.ntmps54
  go_wp2_with fail
  go_loopw [7, 11] (fun s i wr => ∃ (k : Nat) (cr : Int) (cn : Nat) (G : Nat → Nat), k ≤ n ∧ i = .int .i64 k ∧ s = .int .u32 cr ∧ 0 ≤ cr ∧ cr < 4294967296 ∧ Hid (cr = (cn : Nat)) ∧ Hid (AddInv g off n k m fc b F cn w wr G)) (fun _ i _ => n - (intOf i).toNat)
  case atStart => exact ⟨0, 0, 0, F, by omega, rfl, rfl, by omega, by omega, rfl, HR.out, fun _ _ => rfl, HF.out, by simp [Nt.vl_zero], World.grownBy.refl w _⟩
  case round =>
    obtain ⟨k, cr, cn, G, hk, rfl, rfl, c0, c1, HC, HI⟩ := hrel
    by_cases hlt : k < n
    · have hdb : Digs wr B .u32 A nb b := HB.out.grown HI.out.gr (by have := HR.out.lt; omega) hB
      have hcell := HI.out.row.cell (i := off + k) (by omega)
      have hfree := HI.out.row.free (off + k)
      obtain ⟨y, ey⟩ : ∃ y : Int, y = (G (off + k) : Nat) := ⟨_, rfl⟩
      obtain ⟨x, ex⟩ : ∃ x : Int, x = (b k : Nat) := ⟨_, rfl⟩
      have hyl := HI.out.lt (off + k)
      have hxl := HBL.out k
      have y0 : 0 ≤ y := by omega
      have y1 : y < 4294967296 := by omega
      have x0 : 0 ≤ x := by omega
      have x1 : x < 4294967296 := by omega
      rw [← ey] at hcell
      have cl := fun W (h : Digs W B .u32 A nb b) => nat_limb (c := cb) (k : Int) k W h HBZ.out hnb rfl
      rw [← ex] at cl
      have CL := Lib.hid cl
      obtain ⟨p0, p1⟩ := Nt.prod_bd x0 x1 f0 f1
      have TW := Lib.hid (Nt.add_wraps x0 x1 f0 f1 y0 y1 c0 c1)
      obtain ⟨t, et⟩ : ∃ t, t = x * fac + y + cr := ⟨_, rfl⟩
      rw [← et] at TW
      have t0 : 0 ≤ t := by omega
      have t1 : t < 18446744073709551616 := by omega
      have ET := Lib.hid et
      have EY := Lib.hid ey
      have EX := Lib.hid ex
      have HDB := Lib.hid hdb
      clear ey ex hyl hxl cl hdb et p0 p1
      have HN : Hid (∀ d, AddInv g off n (k + 1) m fc b F (t.toNat / 4294967296) w ((wr.drewN d).setCell ⟨g, off + k, none⟩ (.int .u32 (t % 4294967296))) (upd G (off + k) (t.toNat % 4294967296))) := fun d =>
        HI.out.step (by
          have e1 := ET.out
          rw [EX.out, EY.out, HC.out, HFC.out] at e1
          have e2 : t = ((fc * b k + G (off + k) + cn : Nat) : Int) := by rw [e1, Nat.mul_comm]; simp
          have e3 : t.toNat = fc * b k + G (off + k) + cn := by omega
          rw [← e3]; exact (Nat.div_add_mod' _ _).symm) (Nat.mod_lt _ (by omega)) (by omega) d
      have k0 : (0 : Int) ≤ (k : Int) := by omega
      have k1 : (k : Int) < (n : Int) := by omega
      go_wp2_with fail
      go_region_with ((first | (go_at_call 66; refine (CL.out _ (HDB.out.drewN _)).mono ?_; rintro e w' ⟨rfl, rfl⟩) | (go_at_call 45; refine (nat_split_at TW.out t0 t1 _).mono ?_; rintro e w' ⟨rfl, rfl⟩)))
      all_goals
        go_wp2
        go_roundw
        case rel => exact ⟨k + 1, t / 4294967296, t.toNat / 4294967296, _, by omega, by go_num, rfl, by omega, by omega, by show _ = _; omega, HN.out _⟩
        case measure => simp [intOf]; omega
    · obtain rfl : k = n := by omega
      have c2 : cn < 4294967296 := by have := HC.out; omega
      go_wp2
      go_ret
      exact ⟨cn, G, ret_int HC.out, c2, HI.out⟩
/-! ### Subtraction -/
structure SubInv (g off n k m : Nat) (fc : Nat) (b F : Nat → Nat) (c : Nat) (w wr : World) (G : Nat → Nat) : Prop where
  row : Rw wr g 58 .u32 m G
  same : ∀ i, i < off ∨ off + k ≤ i → G i = F i
  lt : ∀ i, G i < 4294967296
  val : Nt.vl 4294967296 (fun i => G (off + i)) k + fc * Nt.vl 4294967296 b k = Nt.vl 4294967296 (fun i => F (off + i)) k + c * 4294967296 ^ k
  gr : w.grownBy wr (some g)
namespace Nt
theorem sub_step {P V W c x fc y q r b : Nat} (h : V + fc * b = W + c * P) (hs : r + fc * x + c = y + q * 4294967296) : V + r * P + fc * (b + x * P) = W + y * P + q * (P * 4294967296) := by
  have h2 : (r + fc * x + c) * P = (y + q * 4294967296) * P := by rw [hs]
  grind
theorem prod_bd2 {x f c : Int} (x0 : 0 ≤ x) (x1 : x < 4294967296) (f0 : 0 ≤ f) (f1 : f < 4294967296) (c0 : 0 ≤ c) (c1 : c < 4294967296) : 0 ≤ x * f + c ∧ x * f + c ≤ 18446744069414584320 := by
  obtain ⟨p0, p1⟩ := prod_bd x0 x1 f0 f1
  omega
theorem sub_wraps {x f c : Int} (x0 : 0 ≤ x) (x1 : x < 4294967296) (f0 : 0 ≤ f) (f1 : f < 4294967296) (c0 : 0 ≤ c) (c1 : c < 4294967296) :
    IntKind.u64.wrap (IntKind.u64.wrap (IntKind.u64.wrap x * IntKind.u64.wrap f) + IntKind.u64.wrap c) = x * f + c := by
  obtain ⟨p0, p1⟩ := prod_bd x0 x1 f0 f1
  rw [w64 x0 (by omega), w64 f0 (by omega), w64 c0 (by omega), w64 p0 (by omega), w64 (by omega) (by omega)]
end Nt
theorem SubInv.step {g off n k m fc c q r : Nat} {b F G : Nat → Nat} {w wr : World} (h : SubInv g off n k m fc b F c w wr G) (hs : r + fc * b k + c = G (off + k) + q * 4294967296) (hr : r < 4294967296) {x : Int} (hx : x = (r : Nat)) :
    SubInv g off n (k + 1) m fc b F q w (wr.setCell ⟨g, off + k, none⟩ (.int .u32 x)) (upd G (off + k) r) where
  row := h.row.set hx
  same := fun i hi => by rw [upd_ne _ _ (by omega)]; exact h.same i (by omega)
  lt := upd_lt h.lt hr (off + k)
  val := by
    have e := h.same (off + k) (by omega)
    rw [Nt.upd_off, Nt.vl_succ, Nt.vl_upd, upd_same, Nt.vl_succ, Nt.vl_succ, Nat.pow_succ, ← e]
    exact Nt.sub_step h.val hs
  gr := grown_set h.gr (.inl rfl) _
/-- What subtractProduct leaves. -/
def Subbed (g off n m fc : Nat) (b F : Nat → Nat) (w : World) (e : Ending) (w' : World) : Prop :=
  ∃ (c : Nat) (G : Nat → Nat), e = .returned (.int .u32 (c : Nat)) ∧ c < 4294967296 ∧ SubInv g off n n m fc b F c w w' G

set_option maxHeartbeats 400000 in
theorem nat_subtractProduct {B g off n m nb c cb fc : Nat} {A : Option Addr} {F b : Nat → Nat} (fac : Int) (w : World) (hR : Rw w g 58 .u32 m F) (hF : ∀ i, F i < 4294967296) (hoff : off + n ≤ m) (hm : m ≤ 9223372036854775807)
    (hb : Digs w B .u32 A nb b) (hbl : ∀ i, b i < 4294967296) (hbz : ∀ i, nb ≤ i → b i = 0) (hnb : nb ≤ 9223372036854775807) (hB : B ≤ g) (hfac : fac = (fc : Nat)) (hfc : fc < 4294967296) :
    Calls Try.prog 71 #[.slice (some ⟨g, off, none⟩) n c, .slice A nb cb, .int .u32 fac] w (Subbed g off n m fc b F w) := by
  have HR := Lib.hid hR
  have HF := Lib.hid hF
  have HB := Lib.hid hb
  have HBL := Lib.hid hbl
  have HBZ := Lib.hid hbz
  have f0 : 0 ≤ fac := by omega
  have f1 : fac < 4294967296 := by omega
  have HFC := Lib.hid hfac
  clear hR hF hb hbl hbz hfac
  go_enter Try.func71, Try.ntmps71
  go_wp2_with fail
  go_loopw [7, 15] (fun s i wr => ∃ (k : Nat) (cr : Int) (cn : Nat) (G : Nat → Nat), k ≤ n ∧ i = .int .i64 k ∧ s = .int .u32 cr ∧ 0 ≤ cr ∧ cr < 4294967296 ∧ Hid (cr = (cn : Nat)) ∧ Hid (SubInv g off n k m fc b F cn w wr G)) (fun _ i _ => n - (intOf i).toNat)
  case atStart => exact ⟨0, 0, 0, F, by omega, rfl, rfl, by omega, by omega, rfl, HR.out, fun _ _ => rfl, HF.out, by simp [Nt.vl_zero], World.grownBy.refl w _⟩
  case round =>
    obtain ⟨k, cr, cn, G, hk, rfl, rfl, c0, c1, HC, HI⟩ := hrel
    by_cases hlt : k < n
    · have hdb : Digs wr B .u32 A nb b := HB.out.grown HI.out.gr (by have := HR.out.lt; omega) hB
      have hcell := HI.out.row.cell (i := off + k) (by omega)
      have hfree := HI.out.row.free (off + k)
      obtain ⟨y, ey⟩ : ∃ y : Int, y = (G (off + k) : Nat) := ⟨_, rfl⟩
      obtain ⟨x, ex⟩ : ∃ x : Int, x = (b k : Nat) := ⟨_, rfl⟩
      have hyl := HI.out.lt (off + k)
      have hxl := HBL.out k
      have y0 : 0 ≤ y := by omega
      have y1 : y < 4294967296 := by omega
      have x0 : 0 ≤ x := by omega
      have x1 : x < 4294967296 := by omega
      rw [← ey] at hcell
      have cl := fun W (h : Digs W B .u32 A nb b) => nat_limb (c := cb) (k : Int) k W h HBZ.out hnb rfl
      rw [← ex] at cl
      have CL := Lib.hid cl
      obtain ⟨q0, q1⟩ := Nt.prod_bd2 x0 x1 f0 f1 c0 c1
      obtain ⟨p0, p1⟩ := Nt.prod_bd x0 x1 f0 f1
      obtain ⟨t, et⟩ : ∃ t, t = x * fac + cr := ⟨_, rfl⟩
      have TW := Lib.hid et.symm
      have TW2 := Lib.hid ((Nt.sub_wraps x0 x1 f0 f1 c0 c1).trans et.symm)
      rw [← et] at q0 q1
      have ET := Lib.hid et
      have EY := Lib.hid ey
      have EX := Lib.hid ex
      have HDB := Lib.hid hdb
      have t1 : t < 18446744073709551616 := by omega
      obtain ⟨lo, elo⟩ : ∃ lo, lo = t % 4294967296 := ⟨_, rfl⟩
      obtain ⟨hi, ehi⟩ : ∃ hi, hi = t / 4294967296 := ⟨_, rfl⟩
      have lo0 : 0 ≤ lo := by omega
      have lo1 : lo < 4294967296 := by omega
      have hi0 : 0 ≤ hi := by omega
      have hi1 : hi < 4294967296 := by omega
      obtain ⟨df, edf⟩ : ∃ df, df = (4294967296 + y - lo) % 4294967296 := ⟨_, rfl⟩
      obtain ⟨un, eun⟩ : ∃ un, un = (4294967296 + y - lo) / 4294967296 := ⟨_, rfl⟩
      have un0 : 0 ≤ un := by omega
      have un1 : un ≤ 1 := by omega
      have ow : hi + (1 - un) < 4294967296 := by omega
      have df0 : 0 ≤ df := by omega
      have df1 : df < 4294967296 := by omega
      have hs : df + t = y + (hi + (1 - un)) * 4294967296 := by omega
      have cs := fun (v : Int) (hv : v = t) W => nat_split_at hv q0 t1 W
      rw [← elo, ← ehi] at cs
      have cs2 := fun (v : Int) (hv : v = 4294967296 + y - lo) W => nat_split_at hv (by omega) (by omega) W
      rw [← edf, ← eun] at cs2
      have CS := Lib.hid cs
      have CS2 := Lib.hid cs2
      have HN : Hid (SubInv g off n (k + 1) m fc b F (hi + (1 - un)).toNat w (wr.setCell ⟨g, off + k, none⟩ (.int .u32 df)) (upd G (off + k) df.toNat)) :=
        HI.out.step (by
          have e1 := ET.out
          rw [EX.out, HC.out, HFC.out] at e1
          have e2 : t = ((fc * b k + cn : Nat) : Int) := by rw [e1, Nat.mul_comm]; simp
          have e3 := EY.out
          omega) (by omega) (by omega)
      clear ey ex hyl hxl cl hdb et q0 q1 t1 elo ehi edf eun cs cs2 hs
      go_wp2_with fail
      refine (CL.out _ HDB.out).mono ?_
      rintro e w' ⟨rfl, rfl⟩
      go_wp2_with fail
      refine (CS.out _ (by first | exact TW.out | exact TW2.out) _).mono ?_
      rintro e w' ⟨rfl, rfl⟩
      go_wp2_with fail
      refine (nat_join 1 y (by omega) (by omega) y0 y1 _).mono ?_
      rintro e w' ⟨rfl, rfl⟩
      go_wp2_with fail
      refine (CS2.out _ (by first | rfl | omega) _).mono ?_
      rintro e w' ⟨rfl, rfl⟩
      go_wp2_with fail
      go_roundw
      case rel => exact ⟨k + 1, hi + (1 - un), (hi + (1 - un)).toNat, _, by omega, by go_num, rfl, by omega, by omega, by show _ = _; omega, HN⟩
      case measure => simp [intOf]; omega
    · obtain rfl : k = n := by omega
      have c2 : cn < 4294967296 := by have := HC.out; omega
      go_wp2
      go_ret
      exact ⟨cn, G, ret_int HC.out, c2, HI.out⟩
end Go.Proofs.Ytfjnpmkklanopaa
