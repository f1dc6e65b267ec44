/- Contracts of nat.Of, nat.Uint, of the reference's Of, Uint, Same, and of the statements' small helpers. -/
import Derived.Test.YtfjnpmkklanopaaNatRG
namespace Go.Proofs.Ytfjnpmkklanopaa
set_option maxRecDepth 20000
open Go.RowKit
set_option linter.unusedVariables false
set_option linter.unusedSimpArgs false

/-- What a call that answers a number leaves. -/
def ORes (x : Nat) (w : World) (e : Ending) (w' : World) : Prop :=
  ∃ A n c, e = .returned (.agg #[.slice A n c]) ∧ Below w.heap.size w w' ∧ IsN w' w'.heap.size A n x ∧ n ≤ 64 ∧ n ≤ c
theorem ln_word {x : Nat} (h : x < 18446744073709551616) : Nt.ln 4294967296 x ≤ 2 := (Nt.ln_le_iff (by omega)).2 (by omega)
theorem Nt.tl_dgN {x m : Nat} (h : Nt.ln 4294967296 x ≤ m) : Nt.tl (Nt.dg 4294967296 x) m = Nt.ln 4294967296 x := by
  rw [← Nt.tl_ln (B := 4294967296) (by omega) (fun i _ => Nt.dg_lt (by omega) x i), Nt.vl_dg_all ((Nt.ln_le_iff (by omega)).1 h)]
theorem dgw0 (x : Nat) : Nt.dg 4294967296 x 0 = x % 4294967296 := by unfold Nt.dg; rw [Nat.pow_zero, Nat.div_one]
theorem dgw1 {x : Nat} (h : x < 18446744073709551616) : Nt.dg 4294967296 x 1 = x / 4294967296 := by unfold Nt.dg; rw [Nat.pow_one]; omega
/-- Two limbs laid in a block of their own. -/
theorem digs_two (w : World) (a b : Int) (f : Nat → Nat) (ha : a = (f 0 : Nat)) (hb : b = (f 1 : Nat)) : Digs (w.alloc (.cells #[.int .u32 a, .int .u32 b] 58)) (w.alloc (.cells #[.int .u32 a, .int .u32 b] 58)).heap.size .u32 (some ⟨w.heap.size, 0, none⟩) 2 f :=
  fun _ => ⟨_, rfl, by simp, fun j hj => by
    rw [add0, cell_of_row _ _ _ _ _ _ (heap_alloc_new w _)]
    rcases j with _ | _ | j
    · simp [ha]
    · simp [hb]
    · omega⟩
theorem digs_one (w : World) (a : Int) (f : Nat → Nat) (ha : a = (f 0 : Nat)) : Digs (w.alloc (.cells #[.int .u32 a] 58)) (w.alloc (.cells #[.int .u32 a] 58)).heap.size .u32 (some ⟨w.heap.size, 0, none⟩) 1 f :=
  fun _ => ⟨_, rfl, by simp, fun j hj => by
    obtain rfl : j = 0 := by omega
    rw [add0, cell_of_row _ _ _ _ _ _ (heap_alloc_new w _)]
    simp [ha]⟩
/-- The world behind a box and a row of limbs laid one behind the other. -/
theorem boxed_below (w : World) (o : Value) (l : Array Value) (t t' : TypeId) : Below w.heap.size w ((w.alloc (.cells #[o] t)).alloc (.cells l t')) :=
  ((Below.refl w.heap.size w).alloc (Nat.le_refl _) _).alloc (by simp) _
theorem nat_Of (n : Int) (x : Nat) (w : World) (hx : n = (x : Nat)) (h1 : x < 18446744073709551616) :
    Calls Try.prog 27 #[.int .u64 n] w (ORes x w) := by
  have hl := ln_word h1
  have cs := fun W => nat_split n (by omega) (by omega) W
  obtain ⟨lo, elo⟩ : ∃ lo, lo = n % 4294967296 := ⟨_, rfl⟩
  obtain ⟨hi, ehi⟩ : ∃ hi, hi = n / 4294967296 := ⟨_, rfl⟩
  rw [← elo, ← ehi] at cs
  have CS := Lib.hid cs
  have hd := fun o => digs_two (w.alloc (.cells #[o] 24)) lo hi (Nt.dg 4294967296 x) (by rw [dgw0]; omega) (by rw [dgw1 h1]; omega)
  have hz1 : ∀ o, (w.alloc (.cells #[o] 24)).heap.size = w.heap.size + 1 := fun o => by simp
  simp only [hz1] at hd
  have ct := nat_trim (c := 2) _ (hd (.slice none 0 0)) (Nat.le_refl _) (by omega)
  rw [Nt.tl_dgN hl] at ct
  obtain ⟨t, et⟩ : ∃ t, t = Nt.ln 4294967296 x := ⟨_, rfl⟩
  have hn := fun o => (⟨(hd o).less (by omega), et.symm⟩ : IsN _ _ _ t x)
  rw [← et] at ct hl
  have CT := Lib.hid ct
  have HN := Lib.hid hn
  clear cs elo ehi hd ct et hn hz1 hx
  go_enter Try.func27, Try.ntmps27
  go_wp2_with fail
  refine (CS.out _).mono ?_
  rintro e w' ⟨rfl, rfl⟩
  go_wp2_with fail
  refine CT.out.mono ?_
  rintro e w' ⟨rfl, rfl⟩
  go_wp2_with fail
  refine bodyPost_ret (v := .agg #[.slice (some ⟨w.heap.size + 1, 0, none⟩) t t]) (by simp [results, Try.results27, go_sem]) rfl ?_
  exact ⟨_, t, t, rfl, boxed_below w _ _ _ _, HN.out _, by omega, Nat.le_refl _⟩
def Nt.few (n n' : Nat) : Bool := decide (n ≤ 70 ∧ n' ≤ 70)
/-- Two numbers that are the same: Same says so. -/
theorem ref3_Same {n n' c c' x : Nat} {A A' : Option Addr} (w : World) (h : IsN w w.heap.size A n x) (h' : IsN w w.heap.size A' n' x) (hn : n ≤ 9223372036854775807) :
    Calls Try.prog 14 #[.agg #[.slice A n c], .agg #[.slice A' n' c']] w fun e w' => e = .returned (.bool true) ∧ Below w.heap.size w w' := by
  obtain rfl : n = n' := by rw [← h.l, h'.l]
  have f0 := Fr2.start w (.slice A n c) (.slice A' n c')
  have F0 := Lib.hid f0
  have D1 := Lib.hid ((h.below f0.bel).more f0.bel.size)
  have D2 := Lib.hid ((h'.below f0.bel).more f0.bel.size)
  obtain ⟨w0, ew0⟩ : ∃ W, W = (w.alloc (.cells #[.slice A n c] 24)).alloc (.cells #[.slice A' n c'] 24) := ⟨_, rfl⟩
  have hnb : ((n : Int) != (n : Int)) = false := by simp
  clear f0 h h'
  rw [← ew0] at F0 D1 D2
  have x1 := F0.out.n1.cell
  have x2 := F0.out.n2.cell
  rw [ew0] at x1 x2
  go_enter Try.func14, Try.ntmps14
  go_wp2_with fail
  clear x1 x2
  rw [← ew0]
  clear ew0
  go_loopw [5] (fun i W => ∃ (k d : Nat), k ≤ n ∧ i = .int .i64 k ∧ W = w0.drewN d) (fun i _ => n - (intOf i).toNat)
  case atStart => exact ⟨0, 0, by omega, rfl, rfl⟩
  case round =>
    obtain ⟨k, d, hk, rfl, rfl⟩ := hrel
    have x1 := F0.out.n1.cell
    have x2 := F0.out.n2.cell
    by_cases hlt : k < n
    · obtain ⟨ad, u, rfl, hb, hcell, HX, u0, u1⟩ := D1.out.d.at_ hlt (Nt.dg_lt (B := 4294967296) (by omega) x k)
      obtain ⟨ad', u', rfl, hb', hcell', HX', -, -⟩ := D2.out.d.at_ hlt (Nt.dg_lt (B := 4294967296) (by omega) x k)
      obtain rfl : u = u' := by have := HX.out; have := HX'.out; omega
      have hu : (u != u) = false := by simp
      have j0 : (0 : Int) ≤ (k : Int) := by omega
      have j1 : (k : Int) < (n : Int) := by omega
      clear u1
      go_wp2_with fail
      go_quiet (fail)
      go_wp2_with fail
      go_roundw
      case rel => exact ⟨k + 1, _, by omega, by go_num, rfl⟩
      case measure => simp [intOf]; omega
    · go_wp2
      go_ret
      exact ⟨rfl, F0.out.bel.trans (below_dr _ _ _)⟩
end Go.Proofs.Ytfjnpmkklanopaa
