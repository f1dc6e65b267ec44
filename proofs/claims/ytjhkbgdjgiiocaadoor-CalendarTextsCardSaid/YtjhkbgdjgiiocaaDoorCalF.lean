/- Layer 6: the text of a time is parsed to the time. -/
import Derived.Test.YtjhkbgdjgiiocaaDoorCalE
namespace Go.Proofs.YtjhkbgdjgiiocaaDoor
set_option maxRecDepth 20000
namespace Cl
theorem tw_list (n : Nat) : (tw n).data.toList = [UInt8.ofNat (48 + n / 10), UInt8.ofNat (48 + n % 10)] := rfl
theorem fmt_list (T : Nat) : (fmtS T).data.toList = (tw (yr (T / 1440) / 100)).data.toList ++ (tw (yr (T / 1440) % 100)).data.toList ++ [45] ++ (tw (mo (T / 1440))).data.toList ++ [45] ++ (tw (dy (T / 1440))).data.toList ++ [32] ++ (tw (T % 1440 / 60)).data.toList ++ [58] ++ (tw (T % 60)).data.toList := by
  unfold fmtS
  simp only [ByteArray.data_append, Array.toList_append]
theorem dig8 {a : Nat} (h : a ≤ 9) : (UInt8.ofNat (48 + a)).toNat = 48 + a := by
  rw [UInt8.toNat_ofNat']
  omega
theorem dig_ok {a : Nat} (h : a ≤ 9) : okAt 100 (48 + a) = true := by
  unfold okAt; rw [if_pos rfl, decide_eq_true_iff]; omega
/-- A text of six numbers of two digits is parsed to these numbers. -/
theorem par_six {a b c d e f : Nat} (ha : a ≤ 99) (hb : b ≤ 99) (hc : c ≤ 99) (hd : d ≤ 99) (he : e ≤ 99) (hf : f ≤ 99) {L : List UInt8}
    (hL : L = (tw a).data.toList ++ (tw b).data.toList ++ [45] ++ (tw c).data.toList ++ [45] ++ (tw d).data.toList ++ [32] ++ (tw e).data.toList ++ [58] ++ (tw f).data.toList) :
    frm L = true ∧ nm L 0 = a ∧ nm L 2 = b ∧ nm L 5 = c ∧ nm L 8 = d ∧ nm L 11 = e ∧ nm L 14 = f := by
  have x0 : byt L 0 = 48 + a / 10 := by subst hL; exact dig8 (by omega)
  have x1 : byt L 1 = 48 + a % 10 := by subst hL; exact dig8 (by omega)
  have x2 : byt L 2 = 48 + b / 10 := by subst hL; exact dig8 (by omega)
  have x3 : byt L 3 = 48 + b % 10 := by subst hL; exact dig8 (by omega)
  have x4 : byt L 4 = 45 := by subst hL; rfl
  have x5 : byt L 5 = 48 + c / 10 := by subst hL; exact dig8 (by omega)
  have x6 : byt L 6 = 48 + c % 10 := by subst hL; exact dig8 (by omega)
  have x7 : byt L 7 = 45 := by subst hL; rfl
  have x8 : byt L 8 = 48 + d / 10 := by subst hL; exact dig8 (by omega)
  have x9 : byt L 9 = 48 + d % 10 := by subst hL; exact dig8 (by omega)
  have x10 : byt L 10 = 32 := by subst hL; rfl
  have x11 : byt L 11 = 48 + e / 10 := by subst hL; exact dig8 (by omega)
  have x12 : byt L 12 = 48 + e % 10 := by subst hL; exact dig8 (by omega)
  have x13 : byt L 13 = 58 := by subst hL; rfl
  have x14 : byt L 14 = 48 + f / 10 := by subst hL; exact dig8 (by omega)
  have x15 : byt L 15 = 48 + f % 10 := by subst hL; exact dig8 (by omega)
  have hlen : L.length = 16 := by subst hL; rfl
  refine ⟨frm_iff.2 ⟨hlen, fun i hi => ?_⟩, ?_, ?_, ?_, ?_, ?_, ?_⟩
  · match i, hi with
    | 0, _ => rw [x0]; exact dig_ok (by omega)
    | 1, _ => rw [x1]; exact dig_ok (by omega)
    | 2, _ => rw [x2]; exact dig_ok (by omega)
    | 3, _ => rw [x3]; exact dig_ok (by omega)
    | 4, _ => rw [x4]; rfl
    | 5, _ => rw [x5]; exact dig_ok (by omega)
    | 6, _ => rw [x6]; exact dig_ok (by omega)
    | 7, _ => rw [x7]; rfl
    | 8, _ => rw [x8]; exact dig_ok (by omega)
    | 9, _ => rw [x9]; exact dig_ok (by omega)
    | 10, _ => rw [x10]; rfl
    | 11, _ => rw [x11]; exact dig_ok (by omega)
    | 12, _ => rw [x12]; exact dig_ok (by omega)
    | 13, _ => rw [x13]; rfl
    | 14, _ => rw [x14]; exact dig_ok (by omega)
    | 15, _ => rw [x15]; exact dig_ok (by omega)
    | n + 16, h => exact absurd h (by omega)
  · rw [nm, x0, x1]; omega
  · rw [nm, x2, x3]; omega
  · rw [nm, x5, x6]; omega
  · rw [nm, x8, x9]; omega
  · rw [nm, x11, x12]; omega
  · rw [nm, x14, x15]; omega
theorem par_fmt {T : Nat} (hT : T ≤ 1073741824) : parV (fmtS T).data.toList = (T : Nat) ∧ parE (fmtS T).data.toList = 0 := by
  obtain ⟨d, ed⟩ : ∃ d, d = T / 1440 := ⟨_, rfl⟩
  have hy := yr_bd (n := d) (by omega)
  have hb := dy_bd d
  have hc := civ_is d
  have hf := fmt_list T
  rw [← ed] at hf
  obtain ⟨f1, f2, f3, f4, f5, f6, f7⟩ := par_six (by omega) (by omega) (by omega) (by omega) (by omega) (by omega) hf
  have hY : pY (fmtS T).data.toList = yr d := by rw [pY, f2, f3]; omega
  have hnum : num (yr d) (mo d) (dy d) = d := by unfold num; exact hc.n.symm
  have hTT : parT (fmtS T).data.toList = T := by
    rw [parT, hY, f4, f5, f6, f7, hnum]; omega
  have hO : parO (fmtS T).data.toList = true := by
    rw [parO, hY, f4, f5, f6, f7]
    have h1 : ex (yr d : Nat) (mo d : Nat) (dy d : Nat) = true := ex_iff.2 ⟨by omega, by omega, by omega, by omega, by omega, by
      rw [Int.toNat_natCast, Int.toNat_natCast]; have := hc.d1; omega⟩
    rw [h1, Bool.true_and, Bool.and_eq_true, decide_eq_true_iff, decide_eq_true_iff]
    omega
  have := par_ok f1 (by rw [hO, hTT, Bool.true_and, decide_eq_true_iff]; exact hT)
  rw [hTT] at this
  exact this
theorem fmt_1501 : fmtS 1501 = ⟨#[50, 48, 48, 48, 45, 48, 49, 45, 48, 50, 32, 48, 49, 58, 48, 49]⟩ := by
  obtain ⟨a1, a2, a3⟩ := civ_eq (n := 1) (y := 2000) (m := 1) (d := 2) ⟨by decide, by decide, by decide, by decide, by decide, by decide⟩
  unfold fmtS
  rw [show 1501 / 1440 = 1 from rfl, ← a1, ← a2, ← a3]
  rfl
theorem fmt_size (T : Nat) : (fmtS T).size = 16 := rfl
end Cl
end Go.Proofs.YtjhkbgdjgiiocaaDoor
