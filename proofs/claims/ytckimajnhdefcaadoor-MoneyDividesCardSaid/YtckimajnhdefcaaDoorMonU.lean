/- Contract of the reference's Format; the statements' helper that compares two lists. -/
import Derived.Test.YtckimajnhdefcaaDoorMonT
namespace Go.Proofs.YtckimajnhdefcaaDoor
open Go.RowKit

theorem conv_bytes3 (x y : Int) (hx : 0 ≤ x ∧ x ≤ 255) (hy : 0 ≤ y ∧ y ≤ 255) (w : World) :
    (convert 53 9 (.slice (some ⟨w.heap.size, 0, none⟩) 3 3)).run Tryd.prog (w.alloc (.cells #[.int .u8 46, .int .u8 x, .int .u8 y] 5)) = .ok (.string ⟨#[46, UInt8.ofNat x.toNat, UInt8.ofNat y.toNat]⟩) (w.alloc (.cells #[.int .u8 46, .int .u8 x, .int .u8 y] 5)) := by
  refine run_convert_bytes_back (P := Tryd.prog) _ 53 9 5 ⟨w.heap.size, 0, none⟩ 3 [46, UInt8.ofNat x.toNat, UInt8.ofNat y.toNat] Tryd.underlying53 Tryd.underlying5 Tryd.underlying9 ?_
  intro j hj
  have ex : ((UInt8.ofNat x.toNat).toNat : Int) = x := by rw [UInt8.toNat_ofNat']; omega
  have ey : ((UInt8.ofNat y.toNat).toNat : Int) = y := by rw [UInt8.toNat_ofNat']; omega
  have hj3 : j < 3 := by simpa using hj
  match j, hj3 with
  | 0, _ => simp [Addr.add]
  | 1, _ => simp only [List.getElem_cons_succ, List.getElem_cons_zero, ex]; simp [Addr.add]
  | 2, _ => simp only [List.getElem_cons_succ, List.getElem_cons_zero, ey]; simp [Addr.add]

namespace Mn
def tailS (m : Int) : ByteArray := ⟨#[46, UInt8.ofNat (48 + m / 10 % 10).toNat, UInt8.ofNat (48 + m % 10).toNat]⟩
/-- What the loop keeps: digits D ahead of the tail, n being still to write. -/
def Kept (m n : Int) (T : ByteArray) : Prop := ∃ D, T.data.toList = D ++ (tailS m).data.toList ∧ Wr (m / 100) n D
theorem Kept.start {m : Int} (h : 0 ≤ m) : Kept m (m / 100 / 10) (⟨#[UInt8.ofNat (48 + m / 100 % 10).toNat]⟩ ++ tailS m) :=
  ⟨_, by rw [ByteArray.data_append, Array.toList_append], Wr.start (by omega)⟩
theorem Kept.step {m n : Int} {T : ByteArray} (h : Kept m n T) (hn : 0 < n) : Kept m (n / 10) (⟨#[UInt8.ofNat (48 + n % 10).toNat]⟩ ++ T) := by
  obtain ⟨D, h1, h2⟩ := h
  exact ⟨_, by rw [ByteArray.data_append, Array.toList_append, h1, ← List.append_assoc]; rfl, h2.step hn⟩
theorem Kept.size {m n : Int} {T : ByteArray} (h : Kept m n T) (m0 : 0 ≤ m) (m1 : m ≤ 1000000000000) : T.size ≤ 15 := by
  obtain ⟨D, h1, h2⟩ := h
  have h3 := h2.len (by omega) (by omega)
  rw [Lib.size_eq, h1, List.length_append]
  show _ + 3 ≤ _
  omega
theorem Kept.fin {m : Int} {T : ByteArray} (h : Kept m 0 T) (hv : vld m = true) : T = mfmtS m := by
  obtain ⟨D, h1, h2⟩ := h
  have m0 := ((vld_iff m).1 hv).1
  rw [mfmtS, hv, if_pos rfl, mfmt]
  refine ByteArray.ext ?_
  rw [← Array.toList_inj, h1, h2.fin]
  show _ ++ [46, UInt8.ofNat (48 + m / 10 % 10).toNat, UInt8.ofNat (48 + m % 10).toNat] = _
  rw [show (48 + m / 10 % 10).toNat = 48 + (m / 10 % 10).toNat by omega, show (48 + m % 10).toNat = 48 + (m % 10).toNat by omega]
end Mn

theorem ref2_Format (m : Int) (w : World) :
    Calls Tryd.prog 30 #[.int .i64 m] w fun e w' => e = .returned (.string (Mn.mfmtS m)) ∧ Below w.heap.size w w' := by
  cases hv : Mn.vld m
  · have F : Hid (ByteArray.empty = Mn.mfmtS m) := by show _ = _; rw [Mn.mfmtS, hv]; rfl
    go_enter Tryd.func30, Tryd.ntmps30
    go_wp2_with (go_at_call 15; refine (ref2_Valid _ _).mono ?_; rintro e w' ⟨rfl, rfl⟩)
    go_ret
    exact ⟨ret_str F.out, Below.refl _ _⟩
  · obtain ⟨m0, m1⟩ := (Mn.vld_iff m).1 hv
    have HV := Lib.hid hv
    have hc3 := conv_bytes3 (48 + m / 10 % 10) (48 + m % 10) (by omega) (by omega)
    have hc1 := conv_byte (48 + m / 100 % 10) (by omega) (w.alloc (.cells #[.int .u8 46, .int .u8 (48 + m / 10 % 10), .int .u8 (48 + m % 10)] 5))
    rw [show (w.alloc (.cells #[.int .u8 46, .int .u8 (48 + m / 10 % 10), .int .u8 (48 + m % 10)] 5)).heap.size = w.heap.size + 1 by simp] at hc1
    obtain ⟨T0, eT0⟩ : ∃ T, T = Mn.tailS m := ⟨_, rfl⟩
    have hc3' : ∀ W : World, (convert 53 9 (.slice (some ⟨W.heap.size, 0, none⟩) 3 3)).run Tryd.prog (W.alloc (.cells #[.int .u8 46, .int .u8 (48 + m / 10 % 10), .int .u8 (48 + m % 10)] 5)) = .ok (.string T0) (W.alloc (.cells #[.int .u8 46, .int .u8 (48 + m / 10 % 10), .int .u8 (48 + m % 10)] 5)) := fun W => by rw [eT0]; exact hc3 W
    have hz : T0.size = 3 := by rw [eT0]; rfl
    have hz3 : T0.size ≤ 3 := by omega
    have ET := Lib.hid eT0
    clear hc3 eT0 hz
    go_enter Tryd.func30, Tryd.ntmps30
    go_wp2_with (go_at_call 15; refine (ref2_Valid _ _).mono ?_; rintro e w' ⟨rfl, rfl⟩)
    clear hc3' hc1
    go_loopw [4, 3] (fun nv tv wr => ∃ (N : Int) (T : ByteArray), nv = .int .i64 N ∧ tv = .string T ∧ 0 ≤ N ∧ N ≤ 10000000000 ∧ T.size ≤ 15 ∧ Hid (Mn.Kept m N T) ∧ Below w.heap.size w wr) (fun nv _ _ => (intOf nv).toNat)
    case atStart =>
      have hk := Mn.Kept.start m0
      rw [← ET.out] at hk
      exact ⟨_, _, rfl, rfl, by omega, by omega, hk.size m0 m1, hk, ((Below.refl _ _).alloc (Nat.le_refl _) _).alloc (by simp) _⟩
    case round =>
      obtain ⟨N, T, rfl, rfl, n0, n1, hT, HK, hb⟩ := hrel
      have hsz := hb.size
      by_cases hN : 0 < N
      · have hc := conv_byte (48 + N % 10) (by omega)
        have hk := HK.out.step hN
        have hs2 := hk.size m0 m1
        have HK2 := Lib.hid hk
        have HS2 := Lib.hid hs2
        clear hk hs2
        go_wp2_with fail
        go_roundw
        case rel => exact ⟨_, _, rfl, rfl, by omega, by omega, HS2.out, HK2, hb.alloc hsz _⟩
        case measure => simp [intOf]; omega
      · obtain rfl : N = 0 := by omega
        have F : Hid (T = Mn.mfmtS m) := HK.out.fin HV.out
        go_wp2_with fail
        go_ret
        exact ⟨ret_str F.out, hb⟩

/-- The statements' comparison of two lists. -/
theorem law2_same {B B' n n' c c' : Nat} {A A' : Option Addr} {xs ys : List Int} (w : World) (h : Ints w B A n xs) (h' : Ints w B' A' n' ys) (hn : n ≤ 9223372036854775807) (e : xs = ys) :
    Calls Tryd.prog 24 #[.slice A n c, .slice A' n' c'] w fun e w' => e = .returned (.bool true) ∧ ∃ k, w' = w.drewN k := by
  subst e
  obtain rfl : n = n' := by have := h.len; have := h'.len; omega
  have H := Lib.hid h
  have H' := Lib.hid h'
  clear h h'
  go_enter Tryd.func24, Tryd.ntmps24
  go_wp2_with fail
  go_loopw [13] (fun i wr => ∃ (k d : Nat), k ≤ n ∧ i = .int .i64 k ∧ wr = w.drewN d) (fun i _ => n - (intOf i).toNat)
  case atStart => exact ⟨0, 0, by omega, rfl, rfl⟩
  case round =>
    obtain ⟨k, d, hk, rfl, rfl⟩ := hrel
    by_cases hlt : k < n
    · have hk1 : (k : Int) < (n : Int) := by omega
      obtain ⟨ad, x, rfl, hb, hc, HX⟩ := H.out.at_ hlt
      obtain ⟨ad', y, rfl, hb', hc', HY⟩ := H'.out.at_ hlt
      obtain rfl : y = x := by rw [HX.out, HY.out]
      go_wp2_with fail
      go_quiet (fail)
      go_wp2
      go_roundw
      case rel => exact ⟨k + 1, _, by omega, by go_num, rfl⟩
      case measure => simp [intOf]; omega
    · go_wp2
      go_ret
      exact ⟨rfl, _, rfl⟩
end Go.Proofs.YtckimajnhdefcaaDoor
