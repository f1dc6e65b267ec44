/- The reference of layer 3: divide, bit by bit. -/
import Derived.Test.YtfjnpmkklanopaaNatRC
namespace Go.Proofs.Ytfjnpmkklanopaa
set_option maxRecDepth 20000
open Go.RowKit
set_option linter.unusedVariables false
set_option linter.unusedSimpArgs false
namespace Nt
theorem bit_step (X s : Nat) (hs : s < 16) : X % 65536 / 2 ^ s % 2 = X / 2 ^ s % 2 := by
  obtain ⟨p, hp⟩ : ∃ p, s + p = 15 := ⟨15 - s, by omega⟩
  have e : 65536 = 2 ^ s * (2 * 2 ^ p) := by
    have : (65536 : Nat) = 2 ^ (s + p) * 2 := by rw [hp]
    rw [this, Nat.pow_add, Nat.mul_assoc, Nat.mul_comm 2]
  have h := Nat.div_add_mod X 65536
  have e2 : X / 2 ^ s = 2 * 2 ^ p * (X / 65536) + X % 65536 / 2 ^ s := by
    have h2 : X = 2 ^ s * (2 * 2 ^ p * (X / 65536)) + X % 65536 := by
      rw [← Nat.mul_assoc, ← e]; exact h.symm
    conv => lhs; rw [h2]
    exact Nat.mul_add_div (Nat.two_pow_pos s) _ _
  rw [e2, Nat.mul_assoc, Nat.mul_add_mod]
theorem M_step (x i s : Nat) (hs : s < 16) : x / (65536 ^ i * 2 ^ s) = 2 * (x / (65536 ^ i * 2 ^ (s + 1))) + dg 65536 x i / 2 ^ s % 2 := by
  have h1 : x / (65536 ^ i * 2 ^ s) = x / 65536 ^ i / 2 ^ s := (Nat.div_div_eq_div_mul _ _ _).symm
  have h2 : x / (65536 ^ i * 2 ^ (s + 1)) = x / 65536 ^ i / 2 ^ s / 2 := by
    rw [Nat.pow_succ, ← Nat.mul_assoc, ← Nat.div_div_eq_div_mul, ← Nat.div_div_eq_div_mul]
  rw [h1, h2]
  have h3 : dg 65536 x i / 2 ^ s % 2 = x / 65536 ^ i / 2 ^ s % 2 := bit_step _ s hs
  rw [h3]; omega
theorem div_bit {M' M t y R : Nat} (hy : 0 < y) (hM : M' = 2 * M + t) (ht : t < 2) (hR : R = 2 * (M % y) + t) :
    (R < y → M' % y = R ∧ M' / y = 2 * (M / y)) ∧ (¬ R < y → M' % y = R - y ∧ M' / y = 2 * (M / y) + 1) := by
  have h := Nat.div_add_mod M y
  have hlt := Nat.mod_lt M hy
  have e : M' = y * (2 * (M / y)) + R := by rw [hM, hR]; grind
  refine ⟨fun h1 => ?_, fun h1 => ?_⟩
  · rw [e, Nat.mul_add_mod, Nat.mul_add_div hy, Nat.mod_eq_of_lt h1, Nat.div_eq_of_lt h1]
    exact ⟨rfl, rfl⟩
  · have e2 : M' = y * (2 * (M / y) + 1) + (R - y) := by rw [e, Nat.mul_add]; omega
    have h2 : R - y < y := by omega
    rw [e2, Nat.mul_add_mod, Nat.mul_add_div hy, Nat.mod_eq_of_lt h2, Nat.div_eq_of_lt h2]
    exact ⟨rfl, rfl⟩
theorem vl_bump {B : Nat} (G : Nat → Nat) {i n : Nat} (a : Nat) (h : i < n) : vl B (upd G i (G i + a)) n = vl B G n + a * B ^ i := by
  obtain ⟨r, rfl⟩ : ∃ r, n = i + 1 + r := ⟨n - i - 1, by omega⟩
  rw [vl_split (i + 1) r, vl_split (f := G) (i + 1) r, vl_succ, vl_succ, vl_upd, upd_same,
    vl_congr (f := fun j => upd G i (G i + a) (i + 1 + j)) (g := fun j => G (i + 1 + j)) (fun j _ => upd_ne _ _ (by omega)), Nat.add_mul]
  omega
end Nt

theorem Digs.setFar {w : World} {B n : Nat} {K : IntKind} {A : Option Addr} {f : Nat → Nat} (h : Digs w B K A n f) {p : Addr} (hp : 0 < n → ∀ ad, A = some ad → ad.block ≠ p.block) (u : Value) : Digs (w.setCell p u) B K A n f := fun hn => by
  obtain ⟨ad, e, hb, hd⟩ := h hn
  refine ⟨ad, e, hb, fun j hj => ?_⟩
  rw [World.cell?_setCell_other w p _ u (fun e2 => hp hn ad e (by rw [e2, block_of_add]))]
  exact hd j hj
theorem IsH.setFar {w : World} {B n x : Nat} {A : Option Addr} (h : IsH w B A n x) {p : Addr} (hp : 0 < n → ∀ ad, A = some ad → ad.block ≠ p.block) (u : Value) : IsH (w.setCell p u) B A n x := ⟨h.d.setFar hp u, h.l⟩
/-- What stands in divide's variables: digit i in work, of which the bits from 2^s on are done. -/
structure DivK (g n i s x y : Nat) (w W : World) (G : Nat → Nat) (A : Option Addr) (nr : Nat) : Prop where
  row : Rw W g 3 .i64 n G
  lt : ∀ j, G j < 65536
  low : ∀ j, j < i → G j = 0
  here : G i + 2 ^ s ≤ 65536
  val : Nt.vl 65536 G n = x / (65536 ^ i * 2 ^ s) / y * 2 ^ s * 65536 ^ i
  r : IsH W W.heap.size A nr (x / (65536 ^ i * 2 ^ s) % y)
  far : 0 < nr → ∀ ad, A = some ad → g < ad.block
  bel : Below g w W
theorem DivK.sz {g n i s x y : Nat} {w W : World} {G : Nat → Nat} {A : Option Addr} {nr : Nat} (h : DivK g n i s x y w W G A nr) : g < W.heap.size := h.row.lt
/-- A row that reads 1. -/
theorem isH_one (w : World) : IsH (w.alloc (.cells #[.int .i64 1] 3)) (w.alloc (.cells #[.int .i64 1] 3)).heap.size (some ⟨w.heap.size, 0, none⟩) 1 1 := by
  have hl : Nt.ln 65536 1 = 1 := Nt.Len.eq (by omega) ⟨by omega, fun m hm => by
    obtain rfl : m = 0 := by omega
    simp⟩
  refine ⟨fun _ => ⟨_, rfl, by simp, fun j hj => ?_⟩, hl⟩
  obtain rfl : j = 0 := by omega
  have e : Nt.dg 65536 1 0 = 1 := by simp [Nt.dg]
  rw [add0, e]
  exact cell_of_one (heap_alloc_new w _)
theorem dv_sub (a b p : Nat) : a * (b * 2) * p + b * p = (2 * a + 1) * b * p := by grind
theorem dv_no (a b p : Nat) : a * (b * 2) * p = 2 * a * b * p := by grind
theorem ln_up {x y k : Nat} (hy : Nt.ln 65536 y ≤ k) (h : x < 65536 * y) : Nt.ln 65536 x ≤ k + 1 := by
  refine (Nt.ln_le_iff (by omega)).2 ?_
  have := (Nt.ln_le_iff (B := 65536) (by omega)).1 hy
  rw [Nat.pow_succ]; omega
/-- The quotient of a division by digits, and the remainder. -/
def HRes2 (q r : Nat) (w : World) (e : Ending) (w' : World) : Prop :=
  ∃ A n c A' n' c', e = .returned (.tuple #[.slice A n c, .slice A' n' c']) ∧ Below w.heap.size w w' ∧ IsH w' w'.heap.size A n q ∧ IsH w' w'.heap.size A' n' r ∧ (n ≤ c ∧ c ≤ 9223372036854775807) ∧ (n' ≤ c' ∧ c' ≤ 9223372036854775807)

set_option maxHeartbeats 2000000 in
theorem ref3_divide {n c n' c' x y : Nat} {A A' : Option Addr} (w : World) (h : IsH w w.heap.size A n x) (h' : IsH w w.heap.size A' n' y) (hn : n ≤ 200) (hn' : n' ≤ 200) (y0 : 0 < y) :
    Calls Try.prog 49 #[.slice A n c, .slice A' n' c'] w (HRes2 (x / y) (x % y) w) := by
  have H := Lib.hid h
  have H' := Lib.hid h'
  have hmk := make_ints n (by omega)
  have R0 := Lib.hid (Rw.made w n 3 .i64)
  have B0 := Lib.hid ((Below.refl w.heap.size w).alloc (Nat.le_refl _) (.cells (madeCells #[.int .i64 0] n) 3))
  clear h h'
  go_enter Try.func49, Try.ntmps49
  go_wp2_with fail
  clear hmk
  go_loopw [7, 8] (fun t i W => ∃ (k : Nat) (v : Int) (Ar : Option Addr) (nr cr : Nat) (G : Nat → Nat), k ≤ n ∧ i = .int .i64 v ∧ v < k ∧ (k : Int) ≤ v + 1 ∧ t = .slice Ar nr cr ∧ (nr ≤ cr ∧ cr ≤ 9223372036854775807) ∧ Hid (DivK w.heap.size n k 0 x y w W G Ar nr) ∧ Hid (k = n → ∀ j, G j = 0)) (fun _ i _ => (intOf i + 1).toNat)
  case atStart =>
    have e : x / (65536 ^ n * 2 ^ 0) = 0 := by rw [Nat.pow_zero, Nat.mul_one]; exact Nat.div_eq_of_lt (by rw [← H.out.l]; exact Nt.ln_lt (by omega) x)
    refine ⟨n, (n : Int) - 1, none, 0, 0, fun _ => 0, Nat.le_refl _, rfl, by omega, by omega, rfl, ⟨by omega, by omega⟩, ⟨R0.out, fun _ => by omega, fun _ _ => rfl, by simp, ?_, ?_, fun h => absurd h (by omega), B0.out⟩, fun _ _ => rfl⟩
    · rw [e, Nt.vl_more (n := 0) (by omega) (fun _ _ _ => rfl), Nt.vl_zero]; simp
    · rw [e, Nat.zero_mod]; exact IsH.zero
  case round =>
    obtain ⟨k, v, Ar, nr, cr, G, hk, rfl, hv1, hv2, rfl, hncr, HO, HG0⟩ := hrel
    obtain ⟨wo, rfl⟩ : ∃ wo : World, wo = wr := ⟨_, rfl⟩
    rcases k with _ | i
    · obtain rfl : v = -1 := by omega
      have hd := HO.out.row.digs (B := wo.heap.size) (off := 0) (n := n) HO.out.sz (by omega)
      have e0 : (fun j => G (0 + j)) = G := by funext j; rw [Nat.zero_add]
      rw [e0] at hd
      have hr := hd.isH_tl (fun j _ => HO.out.lt j)
      have hR := HO.out.r
      have hv := HO.out.val
      simp only [Nat.pow_zero, Nat.mul_one, Nat.div_one] at hv hR
      rw [hv] at hr
      have ct := ref3_trim (c := n) wo hd (Nat.le_refl _) (by omega)
      have HTL := Lib.hid (Nt.tl_le G n)
      have CT := Lib.hid ct
      have HQ := Lib.hid hr
      have HR := Lib.hid hR
      have HBL := Lib.hid HO.out.bel
      clear hd e0 hr ct hR hv
      go_wp2_with fail
      refine CT.out.mono ?_
      rintro e w' ⟨rfl, rfl⟩
      go_wp2_with fail
      go_ret2
      exact ⟨_, _, _, _, _, _, rfl, HBL.out, HQ.out, HR.out, ⟨HTL.out, by omega⟩, hncr⟩
    · obtain rfl : v = (i : Int) := by omega
      have hin : i < n := by omega
      have hstart : DivK w.heap.size n i 16 x y w wo G Ar nr := by
        have hO := HO.out
        have e : 65536 ^ (i + 1) * 2 ^ 0 = 65536 ^ i * 2 ^ 16 := by rw [Nat.pow_zero, Nat.mul_one, Nat.pow_succ]
        have hv := hO.val
        have hr := hO.r
        rw [e] at hv hr
        refine ⟨hO.row, hO.lt, fun j hj => hO.low j (by omega), by rw [hO.low i (by omega)]; omega, ?_, hr, hO.far, hO.bel⟩
        have e2 : (65536 : Nat) ^ (i + 1) = 2 ^ 16 * 65536 ^ i := by rw [Nat.pow_succ, Nat.mul_comm]
        rw [hv, Nat.pow_zero, Nat.mul_one, e2, Nat.mul_assoc]
      have HS := Lib.hid hstart
      clear hstart HO HG0
      go_wp2_with fail
      go_loopw [7, 9] (fun t b W => ∃ (s : Nat) (bt : Int) (Ar : Option Addr) (nr cr : Nat) (G : Nat → Nat), s ≤ 16 ∧ b = .int .i64 bt ∧ t = .slice Ar nr cr ∧ Hid (bt = ((2 ^ s / 2 : Nat) : Int)) ∧ 0 ≤ bt ∧ bt ≤ 32768 ∧ (nr ≤ cr ∧ cr ≤ 9223372036854775807) ∧ Hid (DivK w.heap.size n i s x y w W G Ar nr)) (fun _ b _ => (intOf b).toNat)
      case atStart => exact ⟨16, 32768, Ar, nr, cr, G, by omega, rfl, rfl, by show _ = _; omega, by omega, by omega, hncr, HS⟩
      case round =>
        clear HS hncr
        obtain ⟨s, bt, Ar, nr, cr, G, hs, rfl, rfl, HBT, bt0, bt1, hncr, HK⟩ := hrel
        rcases s with _ | s
        · obtain rfl : bt = 0 := by have := HBT.out; omega
          go_wp2_with fail
          refine ⟨⟨i, (i : Int) - 1, Ar, nr, cr, G, by omega, rfl, by omega, by omega, rfl, hncr, HK, fun h => by omega⟩, ?_⟩
          simp [intOf]
        · have hs16 : s < 16 := by omega
          have hbt2 : bt = ((2 ^ s : Nat) : Int) := by rw [HBT.out, Nat.pow_succ]; omega
          have hbp : 0 < bt := by have := Nat.two_pow_pos s; omega
          have HBT := Lib.hid hbt2
          clear hbt2
          obtain ⟨ad, X, rfl, hb, hcell, HX, x0, x1⟩ := (H.out.below HK.out.bel).d.at_ hin (Nt.dg_lt (B := 65536) (by omega) x i)
          have x1' : X < 65536 := by omega
          have R1 := HK.out.r
          obtain ⟨M, eM⟩ : ∃ M, M = x / (65536 ^ i * 2 ^ (s + 1)) := ⟨_, rfl⟩
          rw [← eM] at R1
          have hRy : M % y < y := Nat.mod_lt _ y0
          have hnr : nr ≤ n' := by rw [← R1.l, ← H'.out.l]; exact Nt.ln_mono (by omega) (Nat.le_of_lt hRy)
          have ca := ref3_add (c := cr) (c' := cr) wr R1 R1 (by omega) (by omega)
          rw [show M % y + M % y = 2 * (M % y) by omega] at ca
          have CA := Lib.hid ca
          obtain ⟨q, eq⟩ : ∃ q, q = X / bt := ⟨_, rfl⟩
          have q0 : 0 ≤ q := by rw [eq]; exact Int.ediv_nonneg x0 (by omega)
          have hbit : (q % 2).toNat = Nt.dg 65536 x i / 2 ^ s % 2 := by
            have e1 : q = ((Nt.dg 65536 x i / 2 ^ s : Nat) : Int) := by rw [eq, HX.out, HBT.out, ← Int.natCast_ediv]
            omega
          have HBIT := Lib.hid hbit
          have HM := Lib.hid eM
          have HRY := Lib.hid hRy
          have HQ := Lib.hid eq
          have hq2 : X / bt = q := eq.symm
          have bz : (bt == 0) = false := by simp; omega
          clear R1 ca hbit eM hRy x1 eq
          go_wp2_with fail
          refine CA.out.mono ?_
          rintro e w2 ⟨A2, n2, c2, rfl, hb2, hH2, hc2, hf2⟩
          have hB2 : Below w.heap.size w w2 := HK.out.bel.trans (hb2.mono (Nat.le_of_lt HK.out.sz))
          have hROW2 := HK.out.row.below hb2 HK.out.sz
          have hcell2 := ((H.out.below hB2).d.at_ hin (Nt.dg_lt (B := 65536) (by omega) x i))
          obtain ⟨ad2, X2, he2, -, hcell2, HX2, -, -⟩ := hcell2
          obtain rfl : ad = ad2 := by injection he2
          obtain rfl : X = X2 := by have := HX.out; have := HX2.out; omega
          have HZG2 : Hid (w.heap.size < w2.heap.size) := Nat.lt_of_lt_of_le HK.out.sz hb2.size
          cases hbc : decide (q % 2 = 1)
          case true =>
            have hb1 := of_decide_eq_true hbc
            have hbb : (q % 2 == 1) = true := by simpa using hb1
            have c1a := isH_one w2
            have d2 : IsH (w2.alloc (.cells #[.int .i64 1] 3)) (w2.alloc (.cells #[.int .i64 1] 3)).heap.size A2 n2 (2 * (M % y)) := (hH2.below ((Below.refl _ _).alloc (Nat.le_refl _) _)).more (by simp)
            have hn2 : n2 ≤ n' + 1 := by rw [← hH2.l]; exact ln_up (by rw [H'.out.l]; exact Nat.le_refl _) (by have := HRY.out; omega)
            have ca1 := ref3_add (c := c2) (c' := 1) _ d2 c1a (by omega) (by omega)
            obtain ⟨R2, eR2⟩ : ∃ R2, R2 = 2 * (M % y) + 1 := ⟨_, rfl⟩
            rw [← eR2] at ca1
            have CA1 := Lib.hid ca1
            have HT2 : Hid (Nt.dg 65536 x i / 2 ^ s % 2 < 2) := Nat.mod_lt _ (by omega)
            have HR2 : Hid (R2 = 2 * (x / (65536 ^ i * 2 ^ (s + 1)) % y) + Nt.dg 65536 x i / 2 ^ s % 2) := by
              show _ = _
              rw [← HM.out, eR2, ← HBIT.out]; omega
            have HB2a := Lib.hid hB2
            have HROWa := Lib.hid hROW2
            clear hbc hb1 c1a d2 ca1 hb2 hB2 hROW2 hH2 hf2 he2 hcell
            go_wp2_with fail
            refine CA1.out.mono ?_
            rintro e w3 ⟨A3, n3, c3, rfl, hb3, hH3, hc3, hf3⟩
            have hb23 : Below w2.heap.size w2 w3 := ((Below.refl w2.heap.size w2).alloc (Nat.le_refl _) _).trans (hb3.mono (by simp))
            have HB2 := Lib.hid (HB2a.out.trans (hb23.mono (Nat.le_of_lt HZG2.out)))
            have HROW := Lib.hid (HROWa.out.below hb23 HZG2.out)
            have HZG : Hid (w.heap.size < w3.heap.size) := Nat.lt_of_lt_of_le HZG2.out hb23.size
            have HZ := Lib.hid hH3
            have HZF : Hid (0 < n3 → ∀ ad, A3 = some ad → w.heap.size < ad.block) := fun h0 ad e => by
              have h1 := hf3 h0 ad e
              have h2 := HZG2.out
              simp at h1
              omega
            have HZN : Hid (n3 ≤ n' + 1) := by
              show _ ≤ _
              rw [← hH3.l]; exact ln_up (by rw [H'.out.l]; exact Nat.le_refl _) (by have := HRY.out; omega)
            have HCZ := Lib.hid hc3
            clear hb3 hH3 hf3 hb23 hcell2

            cases hcm : decide (0 ≤ Nt.cmpI ((R2 : Nat) : Int) ((y : Nat) : Int))
            case true =>
              have hge : ¬ R2 < y := fun h => by
                have := of_decide_eq_true hcm
                rw [Nt.cmpI_lt (by omega)] at this; omega
              obtain ⟨o, eo⟩ : ∃ o, o = Nt.cmpI ((R2 : Nat) : Int) ((y : Nat) : Int) := ⟨_, rfl⟩
              have o0 : 0 ≤ o := by rw [eo]; exact of_decide_eq_true hcm
              have cc := ref3_cmp (c := c3) (c' := c') w3 HZ.out ((H'.out.below HB2.out).more (by have := HB2.out.size; omega)) (by have := HZN.out; omega) (by omega)
              rw [← eo] at cc
              have CC := Lib.hid cc
              have HGE := Lib.hid hge
              clear hcm hge eo cc
              go_wp2_with fail
              refine CC.out.mono ?_
              rintro e w' ⟨rfl, dk, rfl⟩
              have csb := ref3_sub (c := c3) (c' := c') (w3.drewN dk) (HZ.out.drewN dk) (((H'.out.below HB2.out).more HB2.out.size).drewN dk) (by have := HZN.out; omega) (by omega) (Nat.le_of_not_lt HGE.out)
              have CSB := Lib.hid csb
              clear csb
              go_wp2_with fail
              refine CSB.out.mono ?_
              rintro e w5 ⟨A5, n5, c5, rfl, hb5, hH5, hc5, hf5⟩
              have hr5 : Rw w5 (w.heap.size) 3 .i64 n G := HROW.out.below ((below_dr _ _ dk).trans hb5) HZG.out
              have hcl := hr5.cell (i := i) hin
              have hfl := hr5.free i
              obtain ⟨z, ez⟩ : ∃ z : Int, z = (G i : Nat) := ⟨_, rfl⟩
              rw [← ez] at hcl
              have z0 : 0 ≤ z := by omega
              have z1 : z < 65536 := by have := HK.out.lt i; omega
              have hN : DivK w.heap.size n i s x y w (w5.setCell ⟨w.heap.size, i, none⟩ (.int .i64 (z + bt))) (upd G i (G i + 2 ^ s)) A5 n5 := by
                obtain ⟨e1, e2⟩ := (Nt.div_bit y0 (Nt.M_step x i s hs16) HT2.out HR2.out).2 HGE.out
                have hh := HK.out.here
                rw [Nat.pow_succ] at hh
                refine ⟨hr5.set (by have := HBT.out; omega), upd_lt HK.out.lt (by have := Nat.two_pow_pos s; omega) _, fun j hj => by rw [upd_ne _ _ (by omega)]; exact HK.out.low j hj, by rw [upd_same]; omega, ?_, ?_, fun h0 ad e => ?_, ?_⟩
                · rw [Nt.vl_bump G _ hin, HK.out.val, e2, Nat.pow_succ]
                  exact dv_sub _ _ _
                · rw [e1, size_setCell]
                  exact hH5.setFar (fun h0 ad e => by have h1 := hf5 h0 ad e; have h2 := HZG.out; have h3 := (show (w3.drewN dk).heap.size = w3.heap.size from rfl); simp only []; omega) _
                · have h1 := hf5 h0 ad e; have h2 := HZG.out; have h3 := (show (w3.drewN dk).heap.size = w3.heap.size from rfl); omega
                · exact (((HB2.out.trans (below_dr _ _ dk)).trans (hb5.mono (by have := HZG.out; simp; omega)))).setCell (Nat.le_refl _) _
              have HN := Lib.hid hN
              clear hb5 hH5 hf5 hr5 ez hN
              go_wp2_with fail
              refine ⟨⟨s, bt / 2, A5, n5, c5, _, by omega, rfl, rfl, by show _ = _; rw [HBT.out]; omega, by omega, by omega, hc5, HN⟩, ?_⟩
              simp [intOf]; omega
            case false =>
              have hlt2 : R2 < y := by
                rcases Nat.lt_or_ge R2 y with h | h
                · exact h
                · exfalso
                  have h1 := of_decide_eq_false hcm
                  apply h1
                  rw [Nt.cmpI, if_neg (by omega)]; split <;> omega
              obtain ⟨o, eo⟩ : ∃ o, o = Nt.cmpI ((R2 : Nat) : Int) ((y : Nat) : Int) := ⟨_, rfl⟩
              have o0 : ¬ 0 ≤ o := by rw [eo]; exact of_decide_eq_false hcm
              have cc := ref3_cmp (c := c3) (c' := c') w3 HZ.out ((H'.out.below HB2.out).more (by have := HB2.out.size; omega)) (by have := HZN.out; omega) (by omega)
              rw [← eo] at cc
              have CC := Lib.hid cc
              have HLT2 := Lib.hid hlt2
              clear hcm hlt2 eo cc
              go_wp2_with fail
              refine CC.out.mono ?_
              rintro e w' ⟨rfl, dk, rfl⟩
              have hN : DivK w.heap.size n i s x y w (w3.drewN dk) G A3 n3 := by
                obtain ⟨e1, e2⟩ := (Nt.div_bit y0 (Nt.M_step x i s hs16) HT2.out HR2.out).1 HLT2.out
                have hh := HK.out.here
                rw [Nat.pow_succ] at hh
                refine ⟨HROW.out.drewN dk, HK.out.lt, HK.out.low, by omega, ?_, ?_, HZF.out, HB2.out.trans (below_dr _ _ dk)⟩
                · rw [HK.out.val, e2, Nat.pow_succ]
                  exact dv_no _ _ _
                · rw [e1]; exact HZ.out.drewN dk
              have HN := Lib.hid hN
              clear hN
              go_wp2_with fail
              refine ⟨⟨s, bt / 2, A3, n3, c3, G, by omega, rfl, rfl, by show _ = _; rw [HBT.out]; omega, by omega, by omega, HCZ.out, HN⟩, ?_⟩
              simp [intOf]; omega
          case false =>
            have hb1 := of_decide_eq_false hbc
            have hbb : (q % 2 == 1) = false := by simpa using hb1
            obtain ⟨R2, eR2⟩ : ∃ R2, R2 = 2 * (M % y) := ⟨_, rfl⟩
            rw [← eR2] at hH2
            have HT2 : Hid (Nt.dg 65536 x i / 2 ^ s % 2 < 2) := Nat.mod_lt _ (by omega)
            have HR2 : Hid (R2 = 2 * (x / (65536 ^ i * 2 ^ (s + 1)) % y) + Nt.dg 65536 x i / 2 ^ s % 2) := by
              show _ = _
              rw [← HM.out, eR2, ← HBIT.out]; omega
            have HB2 := Lib.hid hB2
            have HROW := Lib.hid hROW2
            have HZG := HZG2
            have HZ := Lib.hid hH2
            have HZF : Hid (0 < n2 → ∀ ad, A2 = some ad → w.heap.size < ad.block) := fun h0 ad e => by
              have h1 := hf2 h0 ad e
              have h2 := HK.out.sz
              omega
            have HZN : Hid (n2 ≤ n' + 1) := by
              show _ ≤ _
              rw [← hH2.l]; exact ln_up (by rw [H'.out.l]; exact Nat.le_refl _) (by have := HRY.out; omega)
            have HCZ := Lib.hid hc2
            clear hbc hb1 hb2 hB2 hROW2 hH2 hf2 he2 hcell

            cases hcm : decide (0 ≤ Nt.cmpI ((R2 : Nat) : Int) ((y : Nat) : Int))
            case true =>
              have hge : ¬ R2 < y := fun h => by
                have := of_decide_eq_true hcm
                rw [Nt.cmpI_lt (by omega)] at this; omega
              obtain ⟨o, eo⟩ : ∃ o, o = Nt.cmpI ((R2 : Nat) : Int) ((y : Nat) : Int) := ⟨_, rfl⟩
              have o0 : 0 ≤ o := by rw [eo]; exact of_decide_eq_true hcm
              have cc := ref3_cmp (c := c2) (c' := c') w2 HZ.out ((H'.out.below HB2.out).more (by have := HB2.out.size; omega)) (by have := HZN.out; omega) (by omega)
              rw [← eo] at cc
              have CC := Lib.hid cc
              have HGE := Lib.hid hge
              clear hcm hge eo cc
              go_wp2_with fail
              refine CC.out.mono ?_
              rintro e w' ⟨rfl, dk, rfl⟩
              have csb := ref3_sub (c := c2) (c' := c') (w2.drewN dk) (HZ.out.drewN dk) (((H'.out.below HB2.out).more HB2.out.size).drewN dk) (by have := HZN.out; omega) (by omega) (Nat.le_of_not_lt HGE.out)
              have CSB := Lib.hid csb
              clear csb
              go_wp2_with fail
              refine CSB.out.mono ?_
              rintro e w5 ⟨A5, n5, c5, rfl, hb5, hH5, hc5, hf5⟩
              have hr5 : Rw w5 (w.heap.size) 3 .i64 n G := HROW.out.below ((below_dr _ _ dk).trans hb5) HZG.out
              have hcl := hr5.cell (i := i) hin
              have hfl := hr5.free i
              obtain ⟨z, ez⟩ : ∃ z : Int, z = (G i : Nat) := ⟨_, rfl⟩
              rw [← ez] at hcl
              have z0 : 0 ≤ z := by omega
              have z1 : z < 65536 := by have := HK.out.lt i; omega
              have hN : DivK w.heap.size n i s x y w (w5.setCell ⟨w.heap.size, i, none⟩ (.int .i64 (z + bt))) (upd G i (G i + 2 ^ s)) A5 n5 := by
                obtain ⟨e1, e2⟩ := (Nt.div_bit y0 (Nt.M_step x i s hs16) HT2.out HR2.out).2 HGE.out
                have hh := HK.out.here
                rw [Nat.pow_succ] at hh
                refine ⟨hr5.set (by have := HBT.out; omega), upd_lt HK.out.lt (by have := Nat.two_pow_pos s; omega) _, fun j hj => by rw [upd_ne _ _ (by omega)]; exact HK.out.low j hj, by rw [upd_same]; omega, ?_, ?_, fun h0 ad e => ?_, ?_⟩
                · rw [Nt.vl_bump G _ hin, HK.out.val, e2, Nat.pow_succ]
                  exact dv_sub _ _ _
                · rw [e1, size_setCell]
                  exact hH5.setFar (fun h0 ad e => by have h1 := hf5 h0 ad e; have h2 := HZG.out; have h3 := (show (w2.drewN dk).heap.size = w2.heap.size from rfl); simp only []; omega) _
                · have h1 := hf5 h0 ad e; have h2 := HZG.out; have h3 := (show (w2.drewN dk).heap.size = w2.heap.size from rfl); omega
                · exact (((HB2.out.trans (below_dr _ _ dk)).trans (hb5.mono (by have := HZG.out; simp; omega)))).setCell (Nat.le_refl _) _
              have HN := Lib.hid hN
              clear hb5 hH5 hf5 hr5 ez hN
              go_wp2_with fail
              refine ⟨⟨s, bt / 2, A5, n5, c5, _, by omega, rfl, rfl, by show _ = _; rw [HBT.out]; omega, by omega, by omega, hc5, HN⟩, ?_⟩
              simp [intOf]; omega
            case false =>
              have hlt2 : R2 < y := by
                rcases Nat.lt_or_ge R2 y with h | h
                · exact h
                · exfalso
                  have h1 := of_decide_eq_false hcm
                  apply h1
                  rw [Nt.cmpI, if_neg (by omega)]; split <;> omega
              obtain ⟨o, eo⟩ : ∃ o, o = Nt.cmpI ((R2 : Nat) : Int) ((y : Nat) : Int) := ⟨_, rfl⟩
              have o0 : ¬ 0 ≤ o := by rw [eo]; exact of_decide_eq_false hcm
              have cc := ref3_cmp (c := c2) (c' := c') w2 HZ.out ((H'.out.below HB2.out).more (by have := HB2.out.size; omega)) (by have := HZN.out; omega) (by omega)
              rw [← eo] at cc
              have CC := Lib.hid cc
              have HLT2 := Lib.hid hlt2
              clear hcm hlt2 eo cc
              go_wp2_with fail
              refine CC.out.mono ?_
              rintro e w' ⟨rfl, dk, rfl⟩
              have hN : DivK w.heap.size n i s x y w (w2.drewN dk) G A2 n2 := by
                obtain ⟨e1, e2⟩ := (Nt.div_bit y0 (Nt.M_step x i s hs16) HT2.out HR2.out).1 HLT2.out
                have hh := HK.out.here
                rw [Nat.pow_succ] at hh
                refine ⟨HROW.out.drewN dk, HK.out.lt, HK.out.low, by omega, ?_, ?_, HZF.out, HB2.out.trans (below_dr _ _ dk)⟩
                · rw [HK.out.val, e2, Nat.pow_succ]
                  exact dv_no _ _ _
                · rw [e1]; exact HZ.out.drewN dk
              have HN := Lib.hid hN
              clear hN
              go_wp2_with fail
              refine ⟨⟨s, bt / 2, A2, n2, c2, G, by omega, rfl, rfl, by show _ = _; rw [HBT.out]; omega, by omega, by omega, HCZ.out, HN⟩, ?_⟩
              simp [intOf]; omega
end Go.Proofs.Ytfjnpmkklanopaa
