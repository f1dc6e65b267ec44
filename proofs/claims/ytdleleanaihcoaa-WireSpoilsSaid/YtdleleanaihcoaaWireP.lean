/- Layer 8: one byte changed changes the digest; a chain of frames: plain mathematics. -/
import Derived.Test.YtdleleanaihcoaaWireI
import Derived.Test.YtdleleanaihcoaaWireK
namespace Go.Proofs.Ytdleleanaihcoaa
set_option maxRecDepth 20000
namespace Dg
def PI : V := 0xCE965057AFF6957B#64
theorem pr_pi : PR * PI = 1#64 := by decide
theorem xor_back (x b : V) : x ^^^ b ^^^ b = x := by rw [BitVec.xor_assoc, BitVec.xor_self, BitVec.xor_zero]
theorem mul_back (x : V) : x * PR * PI = x := by rw [BitVec.mul_assoc, pr_pi, BitVec.mul_one]
theorem step_one {x y : V} {c : UInt8} (h : stepV x c = stepV y c) : x = y := by
  unfold stepV at h
  have h1 := congrArg (· * PI) h
  simp only [mul_back] at h1
  have h2 := congrArg (· ^^^ BitVec.ofNat 64 c.toNat) h1
  simp only [xor_back] at h2
  exact h2
theorem step_byte {x : V} {c d : UInt8} (h : stepV x c = stepV x d) : c = d := by
  unfold stepV at h
  have h1 := congrArg (· * PI) h
  simp only [mul_back] at h1
  have h2 := congrArg (x ^^^ ·) h1
  simp only [← BitVec.xor_assoc, BitVec.xor_self, BitVec.zero_xor] at h2
  have h3 := congrArg BitVec.toNat h2
  rw [BitVec.toNat_ofNat, BitVec.toNat_ofNat, Nat.mod_eq_of_lt (by have := c.toNat_lt; omega), Nat.mod_eq_of_lt (by have := d.toNat_lt; omega)] at h3
  exact UInt8.toNat_inj.1 h3
theorem fold_one : ∀ (L : List UInt8) {x y : V}, L.foldl stepV x = L.foldl stepV y → x = y
  | [], _, _, h => h
  | _ :: L, _, _, h => step_one (fold_one L h)
theorem sumV_changed (A B : List UInt8) {b c : UInt8} (h : c ≠ b) : sumV (A ++ c :: B) ≠ sumV (A ++ b :: B) := fun e => by
  rw [sum_app, sum_app] at e
  exact h (step_byte (fold_one B e))
end Dg
namespace Wr
theorem dg_changed (A B : List UInt8) {b c : UInt8} (h : c ≠ b) : dg (A ++ c :: B) ≠ dg (A ++ b :: B) := fun e => by
  apply Dg.sumV_changed A B h
  have h1 := dg_int (A ++ c :: B)
  have h2 := dg_int (A ++ b :: B)
  rw [e] at h1
  have h3 : Dg.sum (A ++ c :: B) = Dg.sum (A ++ b :: B) := h1.symm.trans h2
  exact Dg.I_inj h3
/-- What Next answers for a length, as many bytes, and eight bytes that are not their digest. -/
theorem nx0_spoilt {X D : List UInt8} (hX : X.length < 18446744073709551616) (hD : D.length = 8) (hne : D ≠ bg 8 (dg X)) : nx0 (enc X.length ++ (X ++ D)) = ([], 0, 27) := by
  have ht := tk_enc 0 X.length (X ++ D) (by omega) (by rw [lim_zero]; exact hX) (by omega)
  have hd : (enc X.length ++ (X ++ D)).drop (enc X.length).length = X ++ D := by rw [List.drop_left]
  refine nx0_bad ht (by rw [hd, List.length_append]; omega) ?_
  rw [hd, List.drop_left, List.take_left, List.take_of_length_le (by omega)]
  exact hne
theorem frame_len (L : List UInt8) (hL : L.length < 18446744073709551616) : (frame L).length = (enc L.length).length + L.length + 8 ∧ (enc L.length).length ≤ 10 ∧ 0 < (enc L.length).length := by
  refine ⟨by unfold frame; rw [List.length_append, List.length_append, bg_len], enc_ten hL, enc_pos _⟩
theorem set_parts {L : List UInt8} {i : Nat} {b c : UInt8} (h : L[i]? = some b) : L.set i c = L.take i ++ c :: L.drop (i + 1) ∧ L = L.take i ++ b :: L.drop (i + 1) := by
  obtain ⟨hi, e⟩ := List.getElem?_eq_some_iff.1 h
  refine ⟨by rw [List.set_eq_take_append_cons_drop, if_pos hi], ?_⟩
  rw [← e, ← List.drop_eq_getElem_cons hi, List.take_append_drop]
theorem set_same {L : List UInt8} {i : Nat} {b : UInt8} (h : L[i]? = some b) : L.set i b = L := by
  obtain ⟨h1, h2⟩ := set_parts (c := b) h
  rw [h1]; exact h2.symm
/-- A frame in which one byte of the contents or of the digest is another one is refused. -/
theorem frame_spoilt {L : List UInt8} (hL : L.length < 18446744073709551616) {j : Nat} {b c : UInt8} (hb : (frame L)[(enc L.length).length + j]? = some b) (hne : c ≠ b) : nx0 ((frame L).set ((enc L.length).length + j) c) = ([], 0, 27) := by
  have hf : frame L = enc L.length ++ (L ++ bg 8 (dg L)) := by unfold frame; rw [List.append_assoc]
  rw [hf] at hb ⊢
  rw [List.set_append_right _ _ (by omega), Nat.add_sub_cancel_left]
  rw [List.getElem?_append_right (by omega), Nat.add_sub_cancel_left] at hb
  by_cases hj : j < L.length
  · rw [List.getElem?_append_left hj] at hb
    obtain ⟨h1, h2⟩ := set_parts (c := c) hb
    rw [List.set_append_left _ _ hj]
    have hl : (L.set j c).length = L.length := List.length_set ..
    have := nx0_spoilt (X := L.set j c) (D := bg 8 (dg L)) (by rw [hl]; exact hL) (bg_len 8 _) (fun e => by
      have e2 := bg_inj 8 _ _ (by have := dg_bd L; exact this) (by have := dg_bd (L.set j c); exact this) e
      rw [h1] at e2
      exact dg_changed (L.take j) (L.drop (j + 1)) hne (by rw [← e2, ← h2]))
    rw [hl] at this
    exact this
  · rw [List.getElem?_append_right (by omega)] at hb
    rw [List.set_append_right _ _ (by omega)]
    refine nx0_spoilt hL (by rw [List.length_set, bg_len]) fun e => ?_
    obtain ⟨hi, -⟩ := List.getElem?_eq_some_iff.1 hb
    have h3 : ((bg 8 (dg L)).set (j - L.length) c)[j - L.length]? = some c := by rw [List.getElem?_set_self hi]
    rw [e, hb] at h3
    injection h3 with h3
    exact hne h3.symm
/-- Frames, one after the other. -/
def frames : List Bs → List UInt8
  | [] => []
  | x :: L => frame x.L ++ frames L
theorem frames_app : ∀ a b, frames (a ++ b) = frames a ++ frames b
  | [], b => rfl
  | x :: a, b => by show frame x.L ++ frames (a ++ b) = (frame x.L ++ frames a) ++ frames b; rw [frames_app a b, List.append_assoc]
theorem frames_snoc (a : List Bs) (x : Bs) : frames (a ++ [x]) = frames a ++ frame x.L := by rw [frames_app]; show _ ++ (_ ++ []) = _; rw [List.append_nil]
theorem frames_len {z : Nat} (hz : z ≤ 1000000) : ∀ {L : List Bs}, (∀ x, x ∈ L → x.L.length ≤ z) → (frames L).length ≤ (18 + z) * L.length
  | [], _ => Nat.zero_le _
  | x :: L, h => by
    have h1 := h x (by simp)
    have h2 := frame_len x.L (by omega)
    have h3 := frames_len hz (L := L) fun y hy => h y (List.mem_cons_of_mem _ hy)
    show (frame x.L ++ frames L).length ≤ _
    rw [List.length_append, List.length_cons, Nat.mul_succ]
    omega
/-- Next at the beginning of a frame of the chain. -/
theorem chain_at {L : List Bs} {k : Nat} {x : Bs} (hx : L[k]? = some x) (hL : x.L.length < 18446744073709551616) {p : Nat} (hp : p = (frames (L.take k)).length) :
    nxL (frames L) (p : Int) = x.L ∧ nxA (frames L) (p : Int) = ((frames (L.take (k + 1))).length : Nat) ∧ nxE (frames L) (p : Int) = 0 := by
  subst hp
  have e0 : frames L = frames (L.take k) ++ frames (L.drop k) := by rw [← frames_app, List.take_append_drop]
  obtain ⟨hk, ex⟩ := List.getElem?_eq_some_iff.1 hx
  have e1 : frames (L.drop k) = frame x.L ++ frames (L.drop (k + 1)) := by rw [List.drop_eq_getElem_cons hk, ex]; rfl
  have e2 : (frames L).drop (frames (L.take k)).length = frame x.L ++ frames (L.drop (k + 1)) := by rw [e0, List.drop_left, e1]
  have hn := nx0_frame x.L (frames (L.drop (k + 1))) hL
  rw [← e2] at hn
  obtain ⟨h1, h2, h3⟩ := nx_in (L := frames L) (k := (frames (L.take k)).length) (by rw [e0, List.length_append]; omega) hn
  refine ⟨h1, ?_, h3⟩
  rw [h2, if_pos rfl, List.take_add_one, hx]
  show _ = (((frames (L.take k ++ [x])).length : Nat) : Int)
  rw [frames_snoc, List.length_append]; omega
theorem chain_end (L : List Bs) {p : Nat} (hp : p = (frames L).length) : nxL (frames L) (p : Int) = [] ∧ nxA (frames L) (p : Int) = 0 ∧ nxE (frames L) (p : Int) = 28 := by
  subst hp
  have hn : nx0 ((frames L).drop (frames L).length) = ([], 0, 28) := by rw [List.drop_length]; exact nx0_err (tk_nil 0) (by decide)
  obtain ⟨h1, h2, h3⟩ := nx_in (L := frames L) (k := (frames L).length) (Nat.le_refl _) hn
  exact ⟨h1, h2, h3⟩
end Wr
end Go.Proofs.Ytdleleanaihcoaa
