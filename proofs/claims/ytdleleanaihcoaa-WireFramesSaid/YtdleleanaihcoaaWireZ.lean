/- What the project's package wire answers: see WireU to WireYY. A writer is a struct of one row of bytes; a reader is a struct of the bytes that are left and an error. -/
import Derived.Test.YtdleleanaihcoaaWireYY
namespace Go.Proofs.Ytdleleanaihcoaa
set_option maxRecDepth 20000
open Go.RowKit
set_option linter.unusedVariables false
set_option linter.unusedSimpArgs false
/-- Block p is a writer of the project that has written L; fp are its blocks. -/
def WrP (W : World) (p : Nat) (L : List UInt8) (fp : Nat → Prop) : Prop := ∃ T v, fp = fpv p v ∧ RWv W T p v L
theorem WrP.lt {W : World} {p : Nat} {L : List UInt8} {fp : Nat → Prop} (h : WrP W p L fp) : ∀ b, fp b → b < W.heap.size := by
  obtain ⟨T, v, rfl, h⟩ := h
  exact h.fp_lt
theorem WrP.keep {W W' : World} {p : Nat} {L : List UInt8} {fp fq : Nat → Prop} (h : WrP W p L fp) (ht : Turns fq W W') (ha : ∀ b, fp b → ¬ fq b) : WrP W' p L fp := by
  obtain ⟨T, v, rfl, h⟩ := h
  exact ⟨T, v, rfl, h.keep ht ha⟩
/-- Block p is a reader of the project in the state s; fp are its blocks. -/
def RdP (W : World) (p : Nat) (s : Wr.St) (fp : Nat → Prop) : Prop := ∃ T A c, fp = fpr p A ∧ RPv W T p A c s
theorem RdP.lt {W : World} {p : Nat} {s : Wr.St} {fp : Nat → Prop} (h : RdP W p s fp) : ∀ b, fp b → b < W.heap.size := by
  obtain ⟨T, A, c, rfl, h⟩ := h
  exact h.fp_lt
theorem RdP.keep {W W' : World} {p : Nat} {s : Wr.St} {fp fq : Nat → Prop} (h : RdP W p s fp) (ht : Turns fq W W') (ha : ∀ b, fp b → ¬ fq b) : RdP W' p s fp := by
  obtain ⟨T, A, c, rfl, h⟩ := h
  exact ⟨T, A, c, rfl, h.keep ht ha⟩
theorem WStep.st {W w' : World} {T : TypeId} {p : Nat} {v : Value} {M : List UInt8} {e : Ending} (h : WStep W T p v M e w') : WSt WrP W p (fpv p v) M e w' := by
  obtain ⟨rfl, v', h1, h2, h3⟩ := h
  exact ⟨rfl, _, ⟨T, v', rfl, h1⟩, h2, h3⟩
theorem RPS.st {W w' : World} {T : TypeId} {p : Nat} {A : Option Addr} {r : Value} {s : Wr.St} {e : Ending} (h : RPS W T p A r s e w') : RSt RdP W p (fpr p A) r s e w' := by
  obtain ⟨rfl, A', c', h1, h2, h3⟩ := h
  exact ⟨rfl, _, ⟨T, A', c', rfl, h1⟩, h2, fun b hb => .inl (h3 b hb)⟩
theorem wire_NewWriter (w : World) : Calls Try.prog 13 #[] w fun e w' => ∃ p fp, e = .returned (.pointer (some ⟨p, 0, none⟩)) ∧ WrP w' p [] fp ∧ Below w.heap.size w w' ∧ (∀ b, fp b → w.heap.size ≤ b) :=
  (wireV_NewWriter w).mono fun e w' ⟨p, T, h1, h2, h3, h4⟩ => ⟨p, fpv p (.slice none 0 0), h1, ⟨T, _, rfl, h2⟩, h3, fun b hb => by
    rcases hb with rfl | hb
    · exact h4
    · cases hb⟩
theorem wire_Uint {p : Nat} {fp : Nat → Prop} {L : List UInt8} (x : Nat) (hx : x < 18446744073709551616) (w : World) (h : WrP w p L fp) (hl : L.length ≤ 500000000000) :
    Calls Try.prog 42 #[.pointer (some ⟨p, 0, none⟩), .int .u64 (x : Int)] w (WSt WrP w p fp (L ++ Wr.enc x)) := by
  obtain ⟨T, v, rfl, h⟩ := h
  exact (wireV_Uint x hx w h (by omega)).mono fun e w' hs => hs.st
theorem wire_Int {p : Nat} {fp : Nat → Prop} {L : List UInt8} (x : Int) (x0 : -9223372036854775808 ≤ x) (x1 : x ≤ 9223372036854775807) (w : World) (h : WrP w p L fp) (hl : L.length ≤ 500000000000) :
    Calls Try.prog 43 #[.pointer (some ⟨p, 0, none⟩), .int .i64 x] w (WSt WrP w p fp (L ++ Wr.encI x)) := by
  obtain ⟨T, v, rfl, h⟩ := h
  exact (wireV_Int x x0 x1 w h (by omega)).mono fun e w' hs => hs.st
theorem wire_WText {p : Nat} {fp : Nat → Prop} {L : List UInt8} (s : ByteArray) (hs : s.size ≤ 1000000) (w : World) (h : WrP w p L fp) (hl : L.length ≤ 500000000000) :
    Calls Try.prog 44 #[.pointer (some ⟨p, 0, none⟩), .string s] w (WSt WrP w p fp (L ++ Wr.encT s.data.toList)) := by
  obtain ⟨T, v, rfl, h⟩ := h
  exact (wireV_WText s (by omega) w h (by omega)).mono fun e w' hs => hs.st
theorem wire_WInts {p n c : Nat} {fp : Nat → Prop} {L : List UInt8} {A : Option Addr} {zs : List Int} (w : World) (h : WrP w p L fp) (hI : Ints w w.heap.size A n zs) (hA : ∀ ad, A = some ad → 0 < n → ¬ fp ad.block) (hn : n ≤ 1000000) (hnc : n ≤ c) (hc : c ≤ 9223372036854775807) (hz : ∀ x, x ∈ zs → -9223372036854775808 ≤ x ∧ x ≤ 9223372036854775807) (hl : L.length ≤ 500000000000) :
    Calls Try.prog 45 #[.pointer (some ⟨p, 0, none⟩), .slice A n c] w (WSt WrP w p fp (L ++ Wr.encL zs)) := by
  obtain ⟨T, v, rfl, h⟩ := h
  exact (wireV_WInts w h hI hA (by omega) hz hl).mono fun e w' hs => hs.st
theorem wire_WBytes {p : Nat} {fp : Nat → Prop} {L : List UInt8} (w : World) (h : WrP w p L fp) (hl : L.length ≤ 500000000000) :
    Calls Try.prog 20 #[.pointer (some ⟨p, 0, none⟩)] w (BRes L w) := by
  obtain ⟨T, v, rfl, h⟩ := h
  exact wireV_WBytes w h (by omega)
theorem wire_NewReader {A : Option Addr} {n c : Nat} {L : List UInt8} (w : World) (h : Byts w w.heap.size A n L) (hn : n ≤ 500000000000) (hnc : n ≤ c) (hc : c ≤ 9223372036854775807) :
    Calls Try.prog 22 #[.slice A n c] w fun e w' => ∃ p fp, e = .returned (.pointer (some ⟨p, 0, none⟩)) ∧ RdP w' p ⟨L, 0⟩ fp ∧ Below w.heap.size w w' ∧ (∀ b, fp b → w.heap.size ≤ b) :=
  (wireR_NewReader w h (by omega)).mono fun e w' ⟨p, T, A', c', h1, h2, h3, h4⟩ => ⟨p, fpr p A', h1, ⟨T, A', c', rfl, h2⟩, h3, h4⟩
theorem wire_RUint {p : Nat} {fp : Nat → Prop} {s : Wr.St} (w : World) (h : RdP w p s fp) :
    Calls Try.prog 26 #[.pointer (some ⟨p, 0, none⟩)] w (RSt RdP w p fp (.int .u64 ((Wr.rdU s).1 : Nat)) (Wr.rdU s).2) := by
  obtain ⟨T, A, c, rfl, h⟩ := h
  exact (wireR_Uint w h).mono fun e w' hs => hs.st
theorem wire_RInt {p : Nat} {fp : Nat → Prop} {s : Wr.St} (w : World) (h : RdP w p s fp) :
    Calls Try.prog 24 #[.pointer (some ⟨p, 0, none⟩)] w (RSt RdP w p fp (.int .i64 (Wr.rdI s).1) (Wr.rdI s).2) := by
  obtain ⟨T, A, c, rfl, h⟩ := h
  exact (wireR_Int w h).mono fun e w' hs => hs.st
theorem wire_RText {p : Nat} {fp : Nat → Prop} {s : Wr.St} (w : World) (h : RdP w p s fp) (most : Int) (m0 : -9223372036854775808 ≤ most) (m1 : most ≤ 9223372036854775807) :
    Calls Try.prog 28 #[.pointer (some ⟨p, 0, none⟩), .int .i64 most] w (RSt RdP w p fp (.string ⟨(Wr.rdT most s).1.toArray⟩) (Wr.rdT most s).2) := by
  obtain ⟨T, A, c, rfl, h⟩ := h
  exact (wireR_Text w h most m0 m1).mono fun e w' hs => hs.st
theorem wire_RInts {p : Nat} {fp : Nat → Prop} {s : Wr.St} (w : World) (h : RdP w p s fp) (most : Int) (m0 : -9223372036854775808 ≤ most) (m1 : most ≤ 9223372036854775807) :
    Calls Try.prog 31 #[.pointer (some ⟨p, 0, none⟩), .int .i64 most] w (RLSt RdP w p fp (Wr.rdL most s).1 (Wr.rdL most s).2) := by
  obtain ⟨T, A, c, rfl, h⟩ := h
  exact (wireR_Ints w h most m0 m1).mono fun e w' ⟨B, c2, h1, h2, h3, h4, h5, A', c', h6, h7, h8⟩ => ⟨B, c2, _, h1, h2, h3, h4, fun ad e h0 => ⟨h5 ad e, fun hb => absurd (h.fp_lt _ (h8 _ hb)) (by have := h5 ad e; omega)⟩, ⟨T, A', c', rfl, h6⟩, h7, fun b hb => .inl (h8 b hb)⟩
theorem wire_Left {p : Nat} {fp : Nat → Prop} {s : Wr.St} (w : World) (h : RdP w p s fp) :
    Calls Try.prog 33 #[.pointer (some ⟨p, 0, none⟩)] w fun e w' => e = .returned (.int .i64 (Wr.left s)) ∧ Below w.heap.size w w' := by
  obtain ⟨T, A, c, rfl, h⟩ := h
  exact (wireR_Left w h).mono fun e w' ⟨h1, h2⟩ => ⟨h1, h2 ▸ Below.refl _ _⟩
theorem wire_Err {p : Nat} {fp : Nat → Prop} {s : Wr.St} (w : World) (h : RdP w p s fp) :
    Calls Try.prog 35 #[.pointer (some ⟨p, 0, none⟩)] w fun e w' => e = .returned (.int .i64 s.err) ∧ Below w.heap.size w w' := by
  obtain ⟨T, A, c, rfl, h⟩ := h
  exact (wireR_Err w h).mono fun e w' ⟨h1, h2⟩ => ⟨h1, h2 ▸ Below.refl _ _⟩
theorem wire_Frame {A : Option Addr} {n c : Nat} {L : List UInt8} (w : World) (h : Byts w w.heap.size A n L) (hn : n ≤ 1000000) (hnc : n ≤ c) (hc : c ≤ 9223372036854775807) :
    Calls Try.prog 40 #[.slice A n c] w (BRes (Wr.frame L) w) := wireF_Frame w h (by omega)
theorem wire_Next {A : Option Addr} {n c : Nat} {L : List UInt8} (w : World) (h : Byts w w.heap.size A n L) (hn : n ≤ 100000000) (hnc : n ≤ c) (hc : c ≤ 9223372036854775807) (q : Int) (q0 : -9223372036854775808 ≤ q) (q1 : q ≤ 9223372036854775807) :
    Calls Try.prog 38 #[.slice A n c, .int .i64 q] w (NRes (Wr.nxL L q) (Wr.nxA L q) (Wr.nxE L q) w) := wireF_Next w h (by omega) hnc q q0 q1
theorem wire_Uint_nil (x : Nat) (hx : x < 18446744073709551616) (w : World) : Calls Try.prog 42 #[.pointer none, .int .u64 (x : Int)] w fun e w' => e = .returned (.tuple #[]) ∧ Below w.heap.size w w' := by
  have B0 := Lib.hid (Below.refl w.heap.size w)
  have hx1 : x ≤ 18446744073709551615 := by omega
  clear hx
  go_enter Try.func42, Try.ntmps42
  go_wp2_with fail
  go_loopw [1] (fun a W => ∃ X : Nat, a = .int .u64 (X : Int) ∧ X ≤ 18446744073709551615 ∧ Hid (Below w.heap.size w W)) (fun a _ => (intOf a).toNat)
  case atStart => exact ⟨x, rfl, hx1, B0⟩
  case round =>
    obtain ⟨X, rfl, hX, HB⟩ := hrel
    by_cases hlt : X < 128
    · have h1 : ¬ (128 : Int) ≤ (X : Int) := by omega
      go_wp2_with (go_at_call 60; refine (wire_add_nil _ _).mono ?_; rintro e w2 ⟨rfl, rfl⟩)
      go_end0
      exact ⟨rfl, HB.out.alloc HB.out.size _⟩
    · have h1 : (128 : Int) ≤ (X : Int) := by omega
      obtain ⟨q, eq⟩ : ∃ q : Nat, q = X / 128 := ⟨_, rfl⟩
      have hq : (X : Int) / 128 = (q : Int) := by omega
      have q1 : q ≤ 18446744073709551615 := by omega
      have qX : q < X := by omega
      clear eq
      go_wp2_with (go_at_call 60; refine (wire_add_nil _ _).mono ?_; rintro e w2 ⟨rfl, rfl⟩)
      go_roundw
      case rel => exact ⟨q, rfl, q1, HB.out.alloc HB.out.size _⟩
      case measure => simp [intOf]; omega
theorem wire_Int_nil (x : Int) (x0 : -9223372036854775808 ≤ x) (x1 : x ≤ 9223372036854775807) (w : World) : Calls Try.prog 43 #[.pointer none, .int .i64 x] w fun e w' => e = .returned (.tuple #[]) ∧ Below w.heap.size w w' := by
  have U := Lib.hid (wire_Uint_nil (Wr.zz x) (Wr.zz_bd x0 x1) w)
  have Z := Lib.hid (wire_zigzag x w x0 x1)
  go_enter Try.func43, Try.ntmps43
  go_wp2_with (first
    | (go_at_call 61; refine Z.out.mono ?_; rintro e w' ⟨rfl, rfl⟩)
    | (go_at_call 42; refine U.out.mono ?_; rintro e w' ⟨rfl, h1⟩; have H1 := Lib.hid h1; clear h1))
  go_end0
  exact ⟨rfl, H1.out⟩
theorem wire_WText_nil (s : ByteArray) (hs : s.size ≤ 9223372036854775807) (w : World) : Calls Try.prog 44 #[.pointer none, .string s] w fun e w' => e = .returned (.tuple #[]) ∧ Below w.heap.size w w' := by
  have hb : s.size ≤ 18446744073709551615 := by omega
  have U := Lib.hid (wire_Uint_nil s.size (by omega) w)
  go_enter Try.func44, Try.ntmps44
  go_wp2_with (first
    | (go_at_call 42; refine U.out.mono ?_; rintro e w' ⟨rfl, h1⟩; obtain ⟨w2, c2, hcv, hB2, -⟩ := conv_any w' s; have H1 := Lib.hid (bthn6 h1 hB2); clear h1 hB2)
    | (go_at_call 60; refine (wire_add_nil _ _).mono ?_; rintro e w3 ⟨rfl, rfl⟩))
  go_end0
  exact ⟨rfl, H1.out⟩
theorem wire_WInts_nil {A : Option Addr} {n c : Nat} {zs : List Int} (w : World) (hI : Ints w w.heap.size A n zs) (hn : n ≤ 9223372036854775807) (hz : ∀ x, x ∈ zs → -9223372036854775808 ≤ x ∧ x ≤ 9223372036854775807) : Calls Try.prog 45 #[.pointer none, .slice A n c] w fun e w' => e = .returned (.tuple #[]) ∧ Below w.heap.size w w' := by
  have hb : n ≤ 18446744073709551615 := by omega
  have U := Lib.hid (wire_Uint_nil n (by omega) w)
  have HI := Lib.hid hI
  have HZ := Lib.hid hz
  clear hI hz
  go_enter Try.func45, Try.ntmps45
  go_wp2_with (go_at_call 42; refine U.out.mono ?_; rintro e w' ⟨rfl, h1⟩; have H1 := Lib.hid h1; clear h1)
  go_loopw [13] (fun i W => ∃ (j : Nat), i = .int .i64 (j : Int) ∧ j ≤ n ∧ Hid (Below w.heap.size w W)) (fun i _ => n - (intOf i).toNat)
  case atStart => exact ⟨0, rfl, Nat.zero_le _, H1⟩
  case round =>
    obtain ⟨j, rfl, hj, HB⟩ := hrel
    by_cases hlt : j < n
    · obtain ⟨ad, x, rfl, hb2, hcell, HX⟩ := (HI.out.below HB.out).at_ hlt
      have hx : -9223372036854775808 ≤ x ∧ x ≤ 9223372036854775807 := HZ.out x (by
        rw [HX.out, List.getD_eq_getElem?_getD, List.getElem?_eq_getElem (by rw [HI.out.len]; exact hlt)]
        exact List.getElem_mem _)
      obtain ⟨x0, x1⟩ := hx
      have hlt2 : (j : Int) < (n : Int) := by omega
      have V := Lib.hid (wire_Int_nil x x0 x1 wr)
      clear hb2
      go_wp2_with (go_at_call 43; refine V.out.mono ?_; rintro e w3 ⟨rfl, h1⟩; have Q1 := Lib.hid (bthn6 HB.out h1); clear h1)
      go_roundw
      case rel => exact ⟨j + 1, by go_num, by omega, Q1⟩
      case measure => simp [intOf]; omega
    · obtain rfl : j = n := by omega
      go_wp2_with fail
      go_end0
      exact ⟨rfl, HB.out⟩
theorem wire_WBytes_nil (w : World) : Calls Try.prog 20 #[.pointer none] w fun e w' => (∃ A c, e = .returned (.slice A 0 c)) ∧ Below w.heap.size w w' := by
  go_enter Try.func20, Try.ntmps20
  go_wp2_with fail
  go_ret
  exact ⟨⟨_, _, rfl⟩, Below.refl _ _⟩
theorem wire_RUint_nil (w : World) : Calls Try.prog 26 #[.pointer none] w fun e w' => e = .returned (.int .u64 0) ∧ Below w.heap.size w w' := by
  go_enter Try.func26, Try.ntmps26
  go_wp2_with (go_at_call 35; refine (wire_Err_nil0 _).mono ?_; rintro e w1 ⟨rfl, rfl⟩)
  go_ret
  exact ⟨rfl, Below.refl _ _⟩
theorem wire_RInt_nil (w : World) : Calls Try.prog 24 #[.pointer none] w fun e w' => e = .returned (.int .i64 0) ∧ Below w.heap.size w w' := by
  have U := Lib.hid (wire_RUint_nil w)
  have S := Lib.hid fun W => wire_unzigzag 0 W (by omega)
  go_enter Try.func24, Try.ntmps24
  go_wp2_with (first
    | (go_at_call 26; refine U.out.mono ?_; rintro e w' ⟨rfl, h1⟩; have H1 := Lib.hid h1; clear h1)
    | (go_at_call 49; refine (S.out _).mono ?_; rintro e w' ⟨rfl, rfl⟩))
  go_ret
  exact ⟨rfl, H1.out⟩
theorem wire_length_nil (most : Int) (m0 : -9223372036854775808 ≤ most) (m1 : most ≤ 9223372036854775807) (w : World) : Calls Try.prog 53 #[.pointer none, .int .i64 most] w fun e w' => e = .returned (.int .u64 0) ∧ Below w.heap.size w w' := by
  have U := Lib.hid (wire_RUint_nil w)
  by_cases hm : most < 0
  · go_enter Try.func53, Try.ntmps53
    go_wp2_with (go_at_call 26; refine U.out.mono ?_; rintro e w' ⟨rfl, h1⟩; have H1 := Lib.hid h1; clear h1)
    go_ret
    exact ⟨rfl, H1.out⟩
  · obtain ⟨K, rfl⟩ : ∃ K : Nat, most = (K : Int) := ⟨most.toNat, by omega⟩
    go_enter Try.func53, Try.ntmps53
    go_wp2_with (go_at_call 26; refine U.out.mono ?_; rintro e w' ⟨rfl, h1⟩; have H1 := Lib.hid h1; clear h1)
    go_ret
    exact ⟨rfl, H1.out⟩
theorem wire_RText_nil (most : Int) (m0 : -9223372036854775808 ≤ most) (m1 : most ≤ 9223372036854775807) (w : World) : Calls Try.prog 28 #[.pointer none, .int .i64 most] w fun e w' => e = .returned (.string ⟨#[]⟩) ∧ Below w.heap.size w w' := by
  have U := Lib.hid (wire_length_nil most m0 m1 w)
  go_enter Try.func28, Try.ntmps28
  go_wp2_with (first
    | (go_at_call 53; refine U.out.mono ?_; rintro e w' ⟨rfl, h1⟩; have H1 := Lib.hid h1; clear h1)
    | (go_at_call 35; refine (wire_Err_nil0 _).mono ?_; rintro e w1 ⟨rfl, rfl⟩))
  go_ret
  exact ⟨rfl, H1.out⟩
theorem wire_list_nil (w : World) (f : Value) : Calls Try.prog 55 #[.pointer none, .int .u64 0, f] w fun e w' => (∃ A c, e = .returned (.slice A 0 c)) ∧ Below w.heap.size w w' := by
  have B0 := Lib.hid (Below.refl w.heap.size w)
  go_enter Try.func55, Try.ntmps55
  go_wp2_with fail
  go_loopw [7, 10] (fun r i W => i = .int .u64 0 ∧ r = .slice none 0 0 ∧ W = w) (fun _ _ _ => 0)
  case atStart => exact ⟨rfl, rfl, rfl⟩
  case round =>
    obtain ⟨rfl, rfl, rfl⟩ := hrel
    go_wp2_with fail
    go_ret
    exact ⟨⟨_, _, rfl⟩, Below.refl _ _⟩
theorem wire_RInts_nil (most : Int) (m0 : -9223372036854775808 ≤ most) (m1 : most ≤ 9223372036854775807) (w : World) : Calls Try.prog 31 #[.pointer none, .int .i64 most] w fun e w' => (∃ A c, e = .returned (.slice A 0 c)) ∧ Below w.heap.size w w' := by
  have U := Lib.hid (wire_length_nil most m0 m1 w)
  have hmf : ∀ (fn : Fn) (first cap : Array Value) (w : World), (Instr.makeFunc fn first cap).run Try.prog w = .ok (.func fn first cap) w := fun _ _ _ _ => rfl
  go_enter Try.func31, Try.ntmps31
  go_wp2_with (first
    | (go_at_call 53; refine U.out.mono ?_; rintro e w' ⟨rfl, h1⟩; have H1 := Lib.hid h1; clear h1)
    | (go_at_call 55; refine (wire_list_nil _ _).mono ?_; rintro e w2 ⟨⟨A2, c2, rfl⟩, h2⟩; have H2 := Lib.hid (bthn6 H1.out h2); clear h2))
  go_ret
  exact ⟨⟨_, _, rfl⟩, H2.out⟩
theorem wire_Left_nil (w : World) : Calls Try.prog 33 #[.pointer none] w fun e w' => e = .returned (.int .i64 0) ∧ Below w.heap.size w w' := by
  go_enter Try.func33, Try.ntmps33
  go_wp2_with (go_at_call 35; refine (wire_Err_nil0 _).mono ?_; rintro e w1 ⟨rfl, rfl⟩)
  go_ret
  exact ⟨rfl, Below.refl _ _⟩
theorem wire_Err_nil (w : World) : Calls Try.prog 35 #[.pointer none] w fun e w' => e = .returned (.int .i64 5) ∧ Below w.heap.size w w' := (wire_Err_nil0 w).mono fun e w' ⟨h1, h2⟩ => ⟨h1, h2 ▸ Below.refl _ _⟩
end Go.Proofs.Ytdleleanaihcoaa
