/- Contracts of the long division: nat.estimate, nat.reduce, nat.divide; nat.DivMod, nat.GCD. -/
import Derived.Test.YtfjnpmkklanopaaNatE
import Derived.Deep.RegionHeld3
namespace Go.Proofs.Ytfjnpmkklanopaa
set_option maxRecDepth 20000
open Go.RowKit
set_option linter.unusedVariables false
set_option linter.unusedSimpArgs false

theorem nat_limb_in {B n c : Nat} {A : Option Addr} {f : Nat → Nat} (i v : Int) (k : Nat) (w : World) (h : Digs w B .u32 A n f) (hk : k < n) (hn : n ≤ 9223372036854775807) (hi : i = (k : Int)) (hv : v = (f k : Nat)) :
    Calls Try.prog 66 #[.slice A n c, .int .i64 i] w fun e w' => e = .returned (.int .u32 v) ∧ w = w' := by
  subst hi hv
  have h2 : Digs w B .u32 A n (over f n (fun _ => 0)) := h.congr fun i hi => by simp [over, hi]
  have := nat_limb (c := c) (k : Int) k w h2 (fun j hj => by unfold over; rw [if_neg (by omega)]) hn rfl
  rw [show over f n (fun _ => 0) k = f k by simp [over, hk]] at this
  exact this
theorem div64_e (hi lo y q r : Int) (h0 : 0 ≤ hi) (h1 : hi < y) (l0 : 0 ≤ lo) (l1 : lo < 18446744073709551616) (y1 : y < 18446744073709551616) (hq : q = (hi * 18446744073709551616 + lo) / y) (hr : r = (hi * 18446744073709551616 + lo) % y) (w : World) :
    Calls Try.prog 65 #[.int .u64 hi, .int .u64 lo, .int .u64 y] w fun e w' => e = .returned (.tuple #[.int .u64 q, .int .u64 r]) ∧ ∃ k, w' = w.drewN k := by
  refine (div64 hi lo y h0 h1 l0 l1 y1 w).mono ?_
  rintro e w' ⟨q', r', rfl, hw, -, -, r0, r1, h2, h3⟩
  have e1 : q' = q := by rw [hq]; exact h3.out
  have e2 : r' = r := by
    rw [hr, ← h2.out, Int.add_comm, Int.add_mul_emod_self_right]
    exact (Int.emod_eq_of_lt r0 r1).symm
  rw [e1, e2]
  exact ⟨rfl, hw⟩
theorem quiet_dk {P : Program} {f : FuncId} {args : Array Value} {w : World} {n : Nat} {v : Value} (h : Calls P f args (w.drewN n) fun e w' => e = .returned v ∧ ∃ k, w' = (w.drewN n).drewN k) :
    Calls P f args (w.drewN n) fun e w'' => e = .returned v ∧ ∃ m, w'' = w.drewN m := h.mono fun _ _ ⟨he, k, hw⟩ => ⟨he, n + k, by rw [hw, World.drewN_drewN]⟩
namespace Nt
/-- The trial digit. -/
def est (l b : Nat) (d : Nat) : Prop := d < 4294967296 ∧ (l < b * 4294967296 → l / b ≤ d) ∧ d ≤ l / b + 1
theorem est_mk {X v P l b l' b' q d : Nat} (hl : l = X * P + l') (hb : b = v * P + b') (hl' : l' < P) (hb' : b' < P) (hv : 4294967296 ≤ v) (hq : q = X / v) (hd : d = min q 4294967295) : est l b d := by
  have h1 := est_lo hl hb hl' (by omega)
  refine ⟨by omega, fun h => ?_, est_hi hl hb hb' hv (by omega) (by omega) (by omega)⟩
  have hbp : 0 < b := by
    rcases Nat.eq_zero_or_pos b with e | e
    · rw [e] at h; omega
    · exact e
  have h2 : l / b < 4294967296 := (Nat.div_lt_iff_lt_mul hbp).2 (by rw [Nat.mul_comm]; exact h)
  omega
theorem est_one {l b q d : Nat} (hb : 0 < b) (hq : q = (l * 4294967296) / (b * 4294967296)) (hd : d = min q 4294967295) : est l b d := by
  rw [Nat.mul_div_mul_right _ _ (by omega)] at hq
  refine ⟨by omega, fun h => ?_, by omega⟩
  have h2 : l / b < 4294967296 := (Nat.div_lt_iff_lt_mul hb).2 (by rw [Nat.mul_comm]; exact h)
  omega
/-- The number's last three limbs, and what is below them. -/
theorem top3 (L : Nat → Nat) (k : Nat) (hL : ∀ i, L i < 4294967296) : ∃ l', l' < 4294967296 ^ k ∧ vl 4294967296 L (k + 3) = (L (k + 2) * 18446744073709551616 + (L (k + 1) * 4294967296 + L k)) * 4294967296 ^ k + l' := by
  refine ⟨vl 4294967296 L k, vl_lt fun i _ => hL i, ?_⟩
  have e1 : (4294967296 : Nat) ^ (k + 1) = 4294967296 ^ k * 4294967296 := Nat.pow_succ _ _
  have e2 : (4294967296 : Nat) ^ (k + 2) = 4294967296 ^ k * 4294967296 * 4294967296 := by rw [Nat.pow_succ, Nat.pow_succ]
  rw [vl_succ, vl_succ, vl_succ, e1, e2]
  generalize vl 4294967296 L k = V
  generalize (4294967296 : Nat) ^ k = P
  generalize L (k + 2) = a
  generalize L (k + 1) = b
  generalize L k = c
  clear hL e1 e2
  grind
theorem top2 (b : Nat → Nat) (k : Nat) (hb : ∀ i, b i < 4294967296) : ∃ b', b' < 4294967296 ^ k ∧ vl 4294967296 b (k + 2) = (b (k + 1) * 4294967296 + b k) * 4294967296 ^ k + b' := by
  refine ⟨vl 4294967296 b k, vl_lt fun i _ => hb i, ?_⟩
  rw [vl_succ, vl_succ, Nat.pow_succ]
  generalize vl 4294967296 b k = V
  generalize 4294967296 ^ k = P
  grind
end Nt
/-- What estimate leaves: a trial digit. -/
def Estim (l b : Nat) (w : World) (e : Ending) (w' : World) : Prop := ∃ d : Nat, e = .returned (.int .u32 (d : Nat)) ∧ (∃ k, w' = w.drewN k) ∧ Nt.est l b d
set_option maxHeartbeats 400000 in
theorem nat_estimate2 {B g off n m c cb : Nat} {A : Option Addr} {F b : Nat → Nat} (w : World) (hR : Rw w g 58 .u32 m F) (hF : ∀ i, F i < 4294967296) (hoff : off + (n + 3) ≤ m) (hn : n ≤ 100)
    (hb : Digs w B .u32 A (n + 2) b) (hbl : ∀ i, b i < 4294967296) (hb0 : b (n + 1) ≠ 0) :
    Calls Try.prog 70 #[.slice (some ⟨g, off, none⟩) (n + 2 + 1) c, .slice A (n + 2) cb] w (Estim (Nt.vl 4294967296 (fun i => F (off + i)) (n + 3)) (Nt.vl 4294967296 b (n + 2)) w) := by
  have hL : ∀ i, (fun i => F (off + i)) i < 4294967296 := fun i => hF _
  obtain ⟨l', hl', el⟩ := Nt.top3 (fun i => F (off + i)) n hL
  obtain ⟨b', hb', eb⟩ := Nt.top2 b n hbl
  have hD := hR.digs (B := g + 1) (off := off) (n := n + 3) (by omega) (by omega)
  obtain ⟨l2, el2⟩ : ∃ x : Int, x = (F (off + (n + 2)) : Nat) := ⟨_, rfl⟩
  obtain ⟨l1, el1⟩ : ∃ x : Int, x = (F (off + (n + 1)) : Nat) := ⟨_, rfl⟩
  obtain ⟨l0, el0⟩ : ∃ x : Int, x = (F (off + n) : Nat) := ⟨_, rfl⟩
  obtain ⟨ad, b1, rfl, hbb, hcb, HB1, b10, b11⟩ := hb.at_ (k := n + 1) (by omega) (hbl _)
  obtain ⟨b0, eb0⟩ : ∃ x : Int, x = (b n : Nat) := ⟨_, rfl⟩
  have hl2 := hF (off + (n + 2))
  have hl1 := hF (off + (n + 1))
  have hl0 := hF (off + n)
  have hbn := hbl n
  have q1 : 0 ≤ l2 ∧ l2 < 4294967296 := by omega
  have q2 : 0 ≤ l1 ∧ l1 < 4294967296 := by omega
  have q3 : 0 ≤ l0 ∧ l0 < 4294967296 := by omega
  have q4 : 0 ≤ b0 ∧ b0 < 4294967296 := by omega
  have q5 : 1 ≤ b1 := by have := HB1.out; omega
  obtain ⟨q10, q11⟩ := q1
  obtain ⟨q20, q21⟩ := q2
  obtain ⟨q30, q31⟩ := q3
  obtain ⟨q40, q41⟩ := q4
  have hcl := hR.cell (i := off + (n + 2)) (by omega)
  rw [← el2] at hcl
  obtain ⟨Q, eQ⟩ : ∃ Q, Q = (l2 * 18446744073709551616 + (l1 * 4294967296 + l0)) / (b1 * 4294967296 + b0) := ⟨_, rfl⟩
  obtain ⟨R, eR⟩ : ∃ R, R = (l2 * 18446744073709551616 + (l1 * 4294967296 + l0)) % (b1 * 4294967296 + b0) := ⟨_, rfl⟩
  have cd := fun W => div64_e l2 (l1 * 4294967296 + l0) (b1 * 4294967296 + b0) Q R (by omega) (by omega) (by omega) (by omega) (by omega) eQ eR W
  have cL1 := fun (i : Int) (hi : i = ((n + 1 : Nat) : Int)) d => nat_limb_in (n := n + 2 + 1) (c := c) i l1 (n + 1) (w.drewN d) (hD.drewN d) (by omega) (by omega) hi el1
  have cL0 := fun (i : Int) (hi : i = (n : Int)) d => nat_limb_in (n := n + 2 + 1) (c := c) i l0 n (w.drewN d) (hD.drewN d) (by omega) (by omega) hi el0
  have cB0 := fun (i : Int) (hi : i = (n : Int)) d => nat_limb_in (c := cb) i b0 n (w.drewN d) (hb.drewN d) (by omega) (by omega) hi eb0
  have Q0 : 0 ≤ Q := by rw [eQ]; exact Int.ediv_nonneg (by omega) (by omega)
  have FIN : Hid (∀ d : Nat, (d : Int) = min Q 4294967295 → Nt.est (Nt.vl 4294967296 (fun i => F (off + i)) (n + 3)) (Nt.vl 4294967296 b (n + 2)) d) := fun d hd => by
    refine Nt.est_mk (q := Q.toNat) el eb hl' hb' (by have := HB1.out; omega) ?_ (by omega)
    have e1 : (l2 * 18446744073709551616 + (l1 * 4294967296 + l0)) = ((F (off + (n + 2)) * 18446744073709551616 + (F (off + (n + 1)) * 4294967296 + F (off + n)) : Nat) : Int) := by omega
    have e2 : (b1 * 4294967296 + b0) = ((b (n + 1) * 4294967296 + b n : Nat) : Int) := by have := HB1.out; omega
    rw [eQ, e1, e2, ← Int.natCast_ediv, Int.toNat_natCast]
  have CD := Lib.hid cd
  have CL1 := Lib.hid cL1
  have CL0 := Lib.hid cL0
  have CB0 := Lib.hid cB0
  obtain ⟨N, hN⟩ : ∃ N, N = n + 2 := ⟨_, rfl⟩
  have v1 : (N : Int) - 1 = ((n + 1 : Nat) : Int) := by omega
  have v2 : (N : Int) - 2 = (n : Int) := by omega
  have V1 := Lib.hid v1
  have V2 := Lib.hid v2
  have ev : N - 1 = n + 1 := by omega
  have b12 : b1 < 4294967296 := by omega
  rw [← ev] at hcb
  have N2 : 2 ≤ N := by omega
  have N3 : N ≤ 102 := by omega
  rw [← hN] at hcl CL1 CL0 CB0 FIN ⊢
  clear v1 v2 ev
  clear el eb hl' hb' el2 el1 el0 eb0 eQ eR cd cL1 cL0 cB0 hl2 hl1 hl0 hbn hD hF hbl hL
  have HN := Lib.hid hN
  clear hN
  have i0 : (0 : Int) ≤ (N : Int) := by omega
  have i1 : (N : Int) < (N : Int) + 1 := by omega
  have i2 : (0 : Int) ≤ (N : Int) - 1 := by omega
  have i3 : (N : Int) - 1 < (N : Int) := by omega
  obtain ⟨M, eM⟩ : ∃ M, M = min Q 4294967295 := ⟨_, rfl⟩
  have M0 : 0 ≤ M := by omega
  have M1 : M < 4294967296 := by omega
  have EM := Lib.hid eM
  have mM : min Q 4294967295 = M := eM.symm
  clear eM
  go_enter Try.func70, Try.ntmps70
  go_wp2_with fail
  go_quiet (first
    | (go_at_call 66; first | (with_reducible exact quiet_l (CL1.out _ V1.out _)) | (with_reducible exact quiet_l (CL0.out _ V2.out _)) | (with_reducible exact quiet_l (CB0.out _ V2.out _)))
    | (go_at_call 67; first | (with_reducible exact quiet_l (nat_join l1 l0 q20 q21 q30 q31 _)) | (with_reducible exact quiet_l (nat_join b1 b0 b10 b12 q40 q41 _)))
    | (go_at_call 65; with_reducible exact quiet_dk (CD.out _)))
  go_wp2
  go_ret
  exact ⟨M.toNat, ret_int (by first | omega | (rw [IntKind.wrap_u32]; omega)), ⟨_, rfl⟩, FIN.out _ ((Int.toNat_of_nonneg M0).trans EM.out)⟩
set_option maxHeartbeats 400000 in
theorem nat_estimate1 {B g off m c cb : Nat} {A : Option Addr} {F b : Nat → Nat} (w : World) (hR : Rw w g 58 .u32 m F) (hF : ∀ i, F i < 4294967296) (hoff : off + 2 ≤ m)
    (hb : Digs w B .u32 A 1 b) (hbl : ∀ i, b i < 4294967296) (hb0 : b 0 ≠ 0) :
    Calls Try.prog 70 #[.slice (some ⟨g, off, none⟩) (1 + 1) c, .slice A 1 cb] w (Estim (Nt.vl 4294967296 (fun i => F (off + i)) 2) (Nt.vl 4294967296 b 1) w) := by
  have hD := hR.digs (B := g + 1) (off := off) (n := 2) (by omega) (by omega)
  obtain ⟨l1, el1⟩ : ∃ x : Int, x = (F (off + 1) : Nat) := ⟨_, rfl⟩
  obtain ⟨l0, el0⟩ : ∃ x : Int, x = (F (off + 0) : Nat) := ⟨_, rfl⟩
  obtain ⟨ad, b1, rfl, hbb, hcb, HB1, b10, b11⟩ := hb.at_ (k := 0) (by omega) (hbl _)
  have hl1 := hF (off + 1)
  have hl0 := hF (off + 0)
  have q20 : 0 ≤ l1 := by omega
  have q21 : l1 < 4294967296 := by omega
  have q30 : 0 ≤ l0 := by omega
  have q31 : l0 < 4294967296 := by omega
  have q5 : 1 ≤ b1 := by have := HB1.out; omega
  have b12 : b1 < 4294967296 := by omega
  have hcl := hR.cell (i := off + 1) (by omega)
  rw [← el1] at hcl
  obtain ⟨Q, eQ⟩ : ∃ Q, Q = (l1 * 18446744073709551616 + (l0 * 4294967296)) / (b1 * 4294967296) := ⟨_, rfl⟩
  obtain ⟨R, eR⟩ : ∃ R, R = (l1 * 18446744073709551616 + (l0 * 4294967296)) % (b1 * 4294967296) := ⟨_, rfl⟩
  have cd := fun W => div64_e l1 (l0 * 4294967296) (b1 * 4294967296) Q R (by omega) (by omega) (by omega) (by omega) (by omega) eQ eR W
  have cL0 := fun (i : Int) (hi : i = ((0 : Nat) : Int)) d => nat_limb_in (c := c) i l0 0 (w.drewN d) (hD.drewN d) (by omega) (by omega) hi el0
  have cL := fun (i : Int) (hi : i < 0) d => nat_limb_neg (n := 2) (c := c) (A := some ⟨g, off, none⟩) i (w.drewN d) hi
  have cB := fun (i : Int) (hi : i < 0) d => nat_limb_neg (n := 1) (c := cb) (A := some ad) i (w.drewN d) hi
  have Q0 : 0 ≤ Q := by rw [eQ]; exact Int.ediv_nonneg (by omega) (by omega)
  have FIN : Hid (∀ d : Nat, (d : Int) = min Q 4294967295 → Nt.est (Nt.vl 4294967296 (fun i => F (off + i)) 2) (Nt.vl 4294967296 b 1) d) := fun d hd => by
    have e3 : Nt.vl 4294967296 (fun i => F (off + i)) 2 = F (off + 1) * 4294967296 + F (off + 0) := by simp only [Nt.vl_succ, Nt.vl_zero]; omega
    have e4 : Nt.vl 4294967296 b 1 = b 0 := by simp only [Nt.vl_succ, Nt.vl_zero]; omega
    rw [e3, e4]
    refine Nt.est_one (q := Q.toNat) (by omega) ?_ (by omega)
    have e1 : (l1 * 18446744073709551616 + (l0 * 4294967296)) = (((F (off + 1) * 4294967296 + F (off + 0)) * 4294967296 : Nat) : Int) := by omega
    have e2 : (b1 * 4294967296) = ((b 0 * 4294967296 : Nat) : Int) := by have := HB1.out; omega
    rw [eQ, e1, e2, ← Int.natCast_ediv, Int.toNat_natCast]
  have cj1 := fun W => nat_join l0 0 q30 q31 (by omega) (by omega) W
  have cj2 := fun W => nat_join b1 0 b10 b12 (by omega) (by omega) W
  simp only [Int.add_zero] at cj1 cj2
  have CJ1 := Lib.hid cj1
  have CJ2 := Lib.hid cj2
  have hcb2 := hcb
  rw [Addr.add_zero'] at hcb2
  have CD := Lib.hid cd
  have CL0 := Lib.hid cL0
  have CL := Lib.hid cL
  have CB := Lib.hid cB
  have Z := Lib.hid (show (0 : Int) = ((0 : Nat) : Int) from rfl)
  have Z1 := Lib.hid (show (-1 : Int) < 0 by omega)
  obtain ⟨M, eM⟩ : ∃ M, M = min Q 4294967295 := ⟨_, rfl⟩
  have M0 : 0 ≤ M := by omega
  have M1 : M < 4294967296 := by omega
  have EM := Lib.hid eM
  have mM : min Q 4294967295 = M := eM.symm
  clear cj1 cj2 eM el1 el0 eQ eR cd cL0 cL cB hl1 hl0 hD hF hbl
  go_enter Try.func70, Try.ntmps70
  go_wp2_with fail
  go_quiet (first
    | (go_at_call 66; first | (with_reducible exact quiet_l (CL0.out _ Z.out _)) | (with_reducible exact quiet_l (CL.out _ Z1.out _)) | (with_reducible exact quiet_l (CB.out _ Z1.out _)))
    | (go_at_call 67; first | (with_reducible exact quiet_l (CJ1.out _)) | (with_reducible exact quiet_l (CJ2.out _)))
    | (go_at_call 65; with_reducible exact quiet_dk (CD.out _)))
  go_wp2
  go_ret
  exact ⟨M.toNat, ret_int (by first | omega | (rw [IntKind.wrap_u32]; omega)), ⟨_, rfl⟩, FIN.out _ ((Int.toNat_of_nonneg M0).trans EM.out)⟩

theorem nat_estimate {B g off n m c cb : Nat} {A : Option Addr} {F b : Nat → Nat} (w : World) (hR : Rw w g 58 .u32 m F) (hF : ∀ i, F i < 4294967296) (hoff : off + (n + 1) ≤ m) (hn1 : 1 ≤ n) (hn : n ≤ 100)
    (hb : Digs w B .u32 A n b) (hbl : ∀ i, b i < 4294967296) (hb0 : b (n - 1) ≠ 0) :
    Calls Try.prog 70 #[.slice (some ⟨g, off, none⟩) (n + 1) c, .slice A n cb] w (Estim (Nt.vl 4294967296 (fun i => F (off + i)) (n + 1)) (Nt.vl 4294967296 b n) w) := by
  rcases n with _ | _ | n
  · omega
  · exact nat_estimate1 w hR hF (by omega) hb hbl hb0
  · exact nat_estimate2 w hR hF (by omega) (by omega) hb hbl hb0

/-- What reduce leaves: the quotient's digit; in the row, the remainder. -/
structure Reduced (g off n m : Nat) (bb L : Nat) (F : Nat → Nat) (w w' : World) (G : Nat → Nat) : Prop where
  row : Rw w' g 58 .u32 m G
  same : ∀ i, i < off ∨ off + n < i → G i = F i
  lt : ∀ i, G i < 4294967296
  top : G (off + n) = 0
  val : Nt.vl 4294967296 (fun i => G (off + i)) n = L % bb
  gr : w.grownBy w' (some g)
def Reduc (g off n m : Nat) (bb L : Nat) (F : Nat → Nat) (w : World) (e : Ending) (w' : World) : Prop :=
  ∃ (d : Nat) (G : Nat → Nat), e = .returned (.int .u32 (d : Nat)) ∧ d = L / bb ∧ d < 4294967296 ∧ Reduced g off n m bb L F w w' G
set_option maxRecDepth 100000 in
set_option maxHeartbeats 800000 in
theorem nat_reduce {B g off n m c cb : Nat} {A : Option Addr} {F b : Nat → Nat} (w : World) (hR : Rw w g 58 .u32 m F) (hF : ∀ i, F i < 4294967296) (hoff : off + (n + 1) ≤ m) (hn1 : 1 ≤ n) (hn : n ≤ 100) (hm : m ≤ 100000) (hc : n + 1 ≤ c)
    (hb : Digs w B .u32 A n b) (hbl : ∀ i, b i < 4294967296) (hbz : ∀ i, n ≤ i → b i = 0) (hb0 : b (n - 1) ≠ 0) (hB : B ≤ g)
    (hlt : Nt.vl 4294967296 (fun i => F (off + i)) (n + 1) < Nt.vl 4294967296 b n * 4294967296) :
    Calls Try.prog 68 #[.slice (some ⟨g, off, none⟩) (n + 1) c, .slice A n cb] w (Reduc g off n m (Nt.vl 4294967296 b n) (Nt.vl 4294967296 (fun i => F (off + i)) (n + 1)) F w) := by
  have ce := nat_estimate (c := c) (cb := cb) w hR hF hoff hn1 hn hb hbl hb0
  obtain ⟨bb, ebb⟩ : ∃ bb, bb = Nt.vl 4294967296 b n := ⟨_, rfl⟩
  obtain ⟨L, eL⟩ : ∃ L, L = Nt.vl 4294967296 (fun i => F (off + i)) (n + 1) := ⟨_, rfl⟩
  have hbp : bb < 4294967296 ^ n := by rw [ebb]; exact Nt.vl_lt fun i _ => hbl i
  have hbb0 : 0 < bb := by
    rw [ebb]
    obtain ⟨k, rfl⟩ : ∃ k, n = k + 1 := ⟨n - 1, by omega⟩
    have := Nt.vl_top (B := 4294967296) (f := b) (n := k) hb0
    have hp : 0 < 4294967296 ^ k := Nat.pow_pos (by omega)
    omega
  rw [← ebb, ← eL] at ce hlt ⊢
  have CE := Lib.hid ce
  have HR := Lib.hid hR
  have HF := Lib.hid hF
  have HB := Lib.hid hb
  have HBL := Lib.hid hbl
  have HBZ := Lib.hid hbz
  have HLT := Lib.hid hlt
  have EB := Lib.hid ebb
  have EL := Lib.hid eL
  have HBP := Lib.hid hbp
  have HBB := Lib.hid hbb0
  obtain ⟨y, ey⟩ : ∃ y : Int, y = (F (off + n) : Nat) := ⟨_, rfl⟩
  have hcell := hR.cell (i := off + n) (by omega)
  rw [← ey] at hcell
  have hyl := hF (off + n)
  have y0 : 0 ≤ y := by omega
  have EY := Lib.hid ey
  clear ce hR hF hb hbl hbz hlt ebb eL ey hbp hbb0 hyl
  have i0 : (0 : Int) ≤ (n : Int) := by omega
  have i1 : (n : Int) < (n : Int) + 1 := by omega
  have i2 : (n : Int) ≤ (c : Int) := by omega
  go_enter Try.func68, Try.ntmps68
  go_wp2_with fail
  refine CE.out.mono ?_
  rintro e w1 ⟨d, rfl, ⟨dk, rfl⟩, hest⟩
  have d1 : (d : Int) < 4294967296 := by have := hest.1; omega
  have HEST := Lib.hid hest
  clear hest
  have cs := fun k => nat_subtractProduct (c := n) (cb := cb) (B := B) (g := g) (off := off) (n := n) (m := m) (nb := n) (F := F) (b := b) (fc := d) (d : Int) (w.drewN k) (HR.out.drewN k) HF.out (by omega) (by omega) (HB.out.drewN k) HBL.out HBZ.out (by omega) hB rfl (by omega)
  have CS := Lib.hid cs
  clear cs
  go_wp2_with fail
  go_region_held3 (fun w' => w'.cell? ⟨g, off + n, none⟩ = some (.int .u32 y)) (go_keep)
    ((go_at_call 71; refine (CS.out _).mono ?_; rintro e w2 ⟨ow, G, rfl, how, hA⟩; have q := hA.row.cell (i := off + n) (by omega); rw [hA.same (off + n) (by omega), ← EY.out] at q; have HA := Lib.hid hA; clear hA))
  have hl : L = Nt.vl 4294967296 (fun i => F (off + i)) n + F (off + n) * 4294967296 ^ n := by rw [EL.out, Nt.vl_succ]
  have hv := HA.out.val
  rw [← EB.out] at hv
  have hGn : Nt.vl 4294967296 (fun i => G (off + i)) n < 4294967296 ^ n := Nt.vl_lt fun i _ => HA.out.lt _
  have HL := Lib.hid hl
  have HV := Lib.hid hv
  have HGN := Lib.hid hGn
  have hfr := HA.out.row.free (off + n)
  have gr2 : w.grownBy w2 (some g) := ⟨HA.out.gr.os, HA.out.gr.tape, HA.out.gr.output, HA.out.gr.size, HA.out.gr.block⟩
  have GR2 := Lib.hid gr2
  have HB2 := Lib.hid (HB.out.grown gr2 (by have := HR.out.lt; omega) hB)
  have HOW := Lib.hid how
  clear hl hv hGn gr2 how hcell
  cases hyb : decide (y < (ow : Int))
  case true =>
    have hy := Lib.hid (of_decide_eq_true hyb)
    clear hyb
    have ca := nat_addProduct (c := n) (cb := cb) (B := B) (g := g) (off := off) (n := n) (m := m) (nb := n) (F := G) (b := b) (fc := 1) 1 w2 HA.out.row HA.out.lt (by omega) (by omega) HB2.out HBL.out HBZ.out (by omega) hB rfl (by omega)
    have CA := Lib.hid ca
    clear ca
    go_wp2_with fail
    refine CA.out.mono ?_
    rintro e w3 ⟨car, G2, rfl, hcar, hA2⟩
    have h2 := hA2.val
    rw [Nat.one_mul, ← EB.out] at h2
    obtain ⟨h3, h4⟩ := Nt.red_back HV.out HGN.out HL.out (by have := EY.out; have := hy.out; omega) HEST.out.2.2 HBB.out (Nat.le_of_lt HBP.out) h2 (Nt.vl_lt fun i _ => hA2.lt _)
    obtain ⟨qq, eqq⟩ : ∃ qq, qq = L / bb := ⟨_, rfl⟩
    rw [← eqq] at h4
    have EQQ := Lib.hid eqq
    clear eqq
    have d0 : 1 ≤ (d : Int) := by omega
    have hc3 := hA2.row.cell (i := off + n) (by omega)
    have hf3 := hA2.row.free (off + n)
    have hfin : Reduced g off n m bb L F w (w3.setCell ⟨g, off + n, none⟩ (.int .u32 0)) (upd G2 (off + n) 0) := by
      refine ⟨hA2.row.set rfl, fun i hi => ?_, upd_lt hA2.lt (by omega) _, upd_same _ _ _, ?_, ?_⟩
      · rw [upd_ne _ _ (by omega), hA2.same i (by omega), HA.out.same i (by omega)]
      · rw [Nt.upd_off, Nt.vl_upd]; exact h3
      · refine grown_set ⟨hA2.gr.os.trans GR2.out.os, hA2.gr.tape.trans GR2.out.tape, hA2.gr.output.trans GR2.out.output, Nat.le_trans GR2.out.size hA2.gr.size, fun k hk hne => ?_⟩ (.inl rfl) _
        exact (hA2.gr.block k (Nat.lt_of_lt_of_le hk GR2.out.size) hne).trans (GR2.out.block k hk hne)
    have HFIN := Lib.hid hfin
    have H4 := Lib.hid h4
    clear hA2 h2 h3 h4 hfin
    go_wp2_with fail
    go_ret
    exact ⟨qq, _, ret_int (by have := H4.out; omega), EQQ.out, by have := H4.out; omega, HFIN.out⟩
  case false =>
    have hy := Lib.hid (of_decide_eq_false hyb)
    clear hyb
    obtain ⟨h3, h4⟩ := Nt.red_ok HV.out HL.out (by have := EY.out; have := hy.out; omega) (HEST.out.2.1 HLT.out) HBB.out (Nat.le_of_lt HBP.out)
    have hfin : Reduced g off n m bb L F w (w2.setCell ⟨g, off + n, none⟩ (.int .u32 0)) (upd G (off + n) 0) := by
      refine ⟨HA.out.row.set rfl, fun i hi => ?_, upd_lt HA.out.lt (by omega) _, upd_same _ _ _, ?_, grown_set GR2.out (.inl rfl) _⟩
      · rw [upd_ne _ _ (by omega), HA.out.same i (by omega)]
      · rw [Nt.upd_off, Nt.vl_upd]; exact h3
    have HFIN := Lib.hid hfin
    have H4 := Lib.hid h4
    clear h3 h4 hfin
    go_wp2_with fail
    go_ret
    exact ⟨d, _, rfl, H4.out, by omega, HFIN.out⟩
end Go.Proofs.Ytfjnpmkklanopaa
