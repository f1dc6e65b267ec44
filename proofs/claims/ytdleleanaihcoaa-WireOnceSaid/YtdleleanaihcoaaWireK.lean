/- Layer 8, the laws: items, asks and rows of byte strings as arguments. -/
import Derived.Test.YtdleleanaihcoaaArgB
import Derived.Test.YtdleleanaihcoaaWireC
namespace Go.Proofs.Ytdleleanaihcoaa
set_option maxRecDepth 20000
open Go.RowKit Go.ChangeShapes Go.WideShapes Go.ChangeAt Go.WideElems
set_option linter.unusedVariables false
set_option linter.unusedSimpArgs false
/-- An item of the laws: its fields, and where its list lies. -/
structure It where
  k : Int
  n : Int
  u : Nat
  s : ByteArray
  l : List Int
  A : Option Addr
  c : Nat
def It.cells (x : It) : List Value := [.int .i64 x.k, .int .i64 x.n, .int .u64 (x.u : Nat), .string x.s, .slice x.A x.l.length x.c]
/-- An item that reads so; what it points to lies in blocks with P. -/
structure ItOk (w : World) (P : Nat → Prop) (x : It) : Prop where
  k0 : -9223372036854775808 ≤ x.k
  k1 : x.k ≤ 9223372036854775807
  n0 : -9223372036854775808 ≤ x.n
  n1 : x.n ≤ 9223372036854775807
  u1 : x.u < 18446744073709551616
  z : ∀ y, y ∈ x.l → -9223372036854775808 ≤ y ∧ y ≤ 9223372036854775807
  s1 : x.s.size ≤ 9223372036854775807
  c0 : x.l.length ≤ x.c
  c1 : x.c ≤ 9223372036854775807
  i : Ints w w.heap.size x.A x.l.length x.l
  a : ∀ ad, x.A = some ad → 0 < x.l.length → P ad.block
def Its (w : World) (P : Nat → Prop) (A : Option Addr) (n : Nat) (L : List It) : Prop :=
  L.length = n ∧ (0 < n → ∃ ad, A = some ad ∧ ad.block < w.heap.size ∧ P ad.block ∧ ∀ j x, L[j]? = some x → (∀ i v, x.cells[i]? = some v → w.cell? (ad.add (j * 5 + i)) = some v) ∧ ItOk w P x)
theorem ItOk.turn {W W' : World} {P fq : Nat → Prop} {x : It} (h : ItOk W P x) (ht : Turns fq W W') (ha : ∀ b, P b → ¬ fq b) : ItOk W' P x :=
  ⟨h.k0, h.k1, h.n0, h.n1, h.u1, h.z, h.s1, h.c0, h.c1, ⟨h.i.1, fun hn => by
    obtain ⟨ad, e, hb, hc⟩ := h.i.2 hn
    exact ⟨ad, e, Nat.lt_of_lt_of_le hb ht.size, fun j hj => (ht.cell (by rw [block_of_add]; exact hb) (by rw [block_of_add]; exact ha _ (h.a ad e hn))).trans (hc j hj)⟩⟩, h.a⟩
theorem Its.turn {W W' : World} {P fq : Nat → Prop} {A : Option Addr} {n : Nat} {L : List It} (h : Its W P A n L) (ht : Turns fq W W') (ha : ∀ b, P b → ¬ fq b) : Its W' P A n L :=
  ⟨h.1, fun hn => by
    obtain ⟨ad, e, hb, hp, hc⟩ := h.2 hn
    exact ⟨ad, e, Nat.lt_of_lt_of_le hb ht.size, hp, fun j x hx => ⟨fun i v hv => (ht.cell (by rw [block_of_add]; exact hb) (by rw [block_of_add]; exact ha _ hp)).trans ((hc j x hx).1 i v hv), (hc j x hx).2.turn ht ha⟩⟩⟩
theorem Its.below {W W' : World} {P : Nat → Prop} {A : Option Addr} {n : Nat} {L : List It} (h : Its W P A n L) (hb : Below W.heap.size W W') : Its W' P A n L :=
  h.turn (fq := noB) (Turns.of_below hb) fun _ _ e => e.elim
theorem Its.more {W : World} {P Q : Nat → Prop} {A : Option Addr} {n : Nat} {L : List It} (h : Its W P A n L) (hq : ∀ b, P b → Q b) : Its W Q A n L :=
  ⟨h.1, fun hn => by
    obtain ⟨ad, e, hb, hp, hc⟩ := h.2 hn
    exact ⟨ad, e, hb, hq _ hp, fun j x hx => ⟨(hc j x hx).1, ⟨(hc j x hx).2.k0, (hc j x hx).2.k1, (hc j x hx).2.n0, (hc j x hx).2.n1, (hc j x hx).2.u1, (hc j x hx).2.z, (hc j x hx).2.s1, (hc j x hx).2.c0, (hc j x hx).2.c1, (hc j x hx).2.i, fun ad e hn => hq _ ((hc j x hx).2.a ad e hn)⟩⟩⟩⟩
/-- A field's address, as the walks write it. -/
theorem fld_at (ad : Addr) (i j : Nat) : ad.add (i + (j + 1)) = ⟨(ad.add i).block, (ad.add i).off + (j + 1), none⟩ := by
  unfold Addr.add
  rw [if_neg (by omega)]
  split
  · rename_i h; subst h; simp
  · simp [Nat.add_assoc]
/-- What is known of place k. -/
theorem Its.at_ {W : World} {P : Nat → Prop} {A : Option Addr} {n : Nat} {L : List It} (h : Its W P A n L) {k : Nat} (hk : k < n) :
    ∃ ad x, A = some ad ∧ P ad.block ∧ L[k]? = some x ∧ W.cell? (ad.add (k * 5)) = some (.int .i64 x.k) ∧ W.cell? ⟨(ad.add (k * 5)).block, (ad.add (k * 5)).off + 1, none⟩ = some (.int .i64 x.n) ∧ W.cell? ⟨(ad.add (k * 5)).block, (ad.add (k * 5)).off + 2, none⟩ = some (.int .u64 (x.u : Nat)) ∧ W.cell? ⟨(ad.add (k * 5)).block, (ad.add (k * 5)).off + 3, none⟩ = some (.string x.s) ∧ W.cell? ⟨(ad.add (k * 5)).block, (ad.add (k * 5)).off + 4, none⟩ = some (.slice x.A x.l.length x.c) ∧ ItOk W P x := by
  obtain ⟨ad, e, hb, hp, hc⟩ := h.2 (by omega)
  obtain ⟨x, hx⟩ : ∃ x, L[k]? = some x := ⟨_, List.getElem?_eq_getElem (by rw [h.1]; exact hk)⟩
  obtain ⟨h1, h2⟩ := hc k x hx
  exact ⟨ad, x, e, hp, hx, h1 0 _ rfl, fld_at ad (k * 5) 0 ▸ h1 1 _ rfl, fld_at ad (k * 5) 1 ▸ h1 2 _ rfl, fld_at ad (k * 5) 2 ▸ h1 3 _ rfl, fld_at ad (k * 5) 3 ▸ h1 4 _ rfl, h2⟩
def ItTy : Ty := .cons (.int .i64) (.cons (.int .i64) (.cons (.int .u64) (.cons .str (.cons (.sl (.int .i64)) .nil))))
theorem its_of_rd {w : World} {cs : List Value} {d : Dat} (h : Rd w w.heap.size (.sl ItTy) cs d) :
    ∃ A len cap L, cs = [.slice A len cap] ∧ len ≤ cap ∧ cap ≤ 9223372036854775807 ∧ Its w (· < w.heap.size) A len L := by
  obtain ⟨A, len, cap, f, rfl, -, hlc, hcm, hx⟩ := h
  obtain ⟨L, hz1, hz2⟩ := list_of (P := fun j (x : It) => (∀ ad, A = some ad → ∀ i v, x.cells[i]? = some v → w.cell? (ad.add (j * 5 + i)) = some v) ∧ ItOk w (· < w.heap.size) x) len fun i hi => by
    obtain ⟨ad, e, hb, hc⟩ := hx (by omega)
    obtain ⟨vs, hl, hv, hr⟩ := hc i hi
    obtain ⟨c1, r1, d1, d1', rfl, -, -, ⟨k, rfl, -, hk⟩, c2, r2, d2, d2', rfl, -, -, ⟨n, rfl, -, hn⟩, c3, r3, d3, d3', rfl, -, -, ⟨u, rfl, -, hu⟩, c4, r4, d4, d4', rfl, -, -, ⟨s, rfl, -, hs⟩, c5, r5, d5, d5', rfl, -, -, h5, rfl, -⟩ := hr
    obtain ⟨A', l', cap', zs, rfl, q1, q2, q3, q4⟩ := ints_of_rd h5
    obtain ⟨u0, u1⟩ := bounds_u64 hu
    have hl' := q3.len
    subst hl'
    refine ⟨⟨k, n, u.toNat, s, zs, A', cap'⟩, fun ad' e' i' v hv' => ?_, ⟨(bounds_i64 hk).1, (bounds_i64 hk).2, (bounds_i64 hn).1, (bounds_i64 hn).2, by show u.toNat < _; omega, q4, hs, q1, q2, q3, fun ad2 e2 h0 => ?_⟩⟩
    · obtain rfl : ad = ad' := by rw [e] at e'; exact Option.some.inj e'
      have e3 : (⟨k, n, u.toNat, s, zs, A', cap'⟩ : It).cells = [.int .i64 k] ++ ([.int .i64 n] ++ ([.int .u64 u] ++ ([.string s] ++ ([.slice A' zs.length cap'] ++ [])))) := by
        unfold It.cells
        show [_, _, Value.int .u64 ((u.toNat : Nat) : Int), _, _] = _
        rw [Int.toNat_of_nonneg u0]; rfl
      rw [e3] at hv'
      exact hv i' v hv'
    · obtain ⟨ad3, e3, hb3, -⟩ := q3.2 h0
      obtain rfl : ad2 = ad3 := by
        have : some ad2 = some ad3 := by rw [← e2, ← e3]
        exact Option.some.inj this
      exact hb3
  refine ⟨A, len, cap, L, rfl, hlc, hcm, hz1, fun h0 => ?_⟩
  obtain ⟨ad, e, hb, -⟩ := hx h0
  exact ⟨ad, e, hb, hb, fun j x hj => ⟨(hz2 j x hj).1 ad e, (hz2 j x hj).2⟩⟩
theorem it_of_rd {w : World} {cs : List Value} {d : Dat} (hr : Rd w w.heap.size ItTy cs d) : ∃ x : It, cs = x.cells ∧ ItOk w (· < w.heap.size) x := by
  obtain ⟨c1, r1, d1, d1', rfl, -, -, ⟨k, rfl, -, hk⟩, c2, r2, d2, d2', rfl, -, -, ⟨n, rfl, -, hn⟩, c3, r3, d3, d3', rfl, -, -, ⟨u, rfl, -, hu⟩, c4, r4, d4, d4', rfl, -, -, ⟨s, rfl, -, hs⟩, c5, r5, d5, d5', rfl, -, -, h5, rfl, -⟩ := hr
  obtain ⟨A', l', cap', zs, rfl, q1, q2, q3, q4⟩ := ints_of_rd h5
  obtain ⟨u0, u1⟩ := bounds_u64 hu
  have hl' := q3.len
  subst hl'
  refine ⟨⟨k, n, u.toNat, s, zs, A', cap'⟩, ?_, ⟨(bounds_i64 hk).1, (bounds_i64 hk).2, (bounds_i64 hn).1, (bounds_i64 hn).2, by show u.toNat < _; omega, q4, hs, q1, q2, q3, fun ad2 e2 h0 => ?_⟩⟩
  · unfold It.cells
    show _ = [_, _, Value.int .u64 ((u.toNat : Nat) : Int), _, _]
    rw [Int.toNat_of_nonneg u0]; rfl
  · obtain ⟨ad3, e3, hb3, -⟩ := q3.2 h0
    obtain rfl : ad2 = ad3 := by
      have : some ad2 = some ad3 := by rw [← e2, ← e3]
      exact Option.some.inj this
    exact hb3
/-- A list of one item, made by the call itself. -/
theorem its_one (w0 w : World) {t : TypeId} {x : It} {N : Nat} (hN : N = w.heap.size) (h : ItOk w0 (· < w0.heap.size) x) (hb : Below w0.heap.size w0 w) :
    Its (w.alloc (.cells #[.int .i64 x.k, .int .i64 x.n, .int .u64 (x.u : Nat), .string x.s, .slice x.A x.l.length x.c] t)) (· < w.heap.size + 1) (some ⟨N, 0, none⟩) 1 [x] := by
  subst hN
  have hb2 : Below w0.heap.size w0 (w.alloc (.cells #[.int .i64 x.k, .int .i64 x.n, .int .u64 (x.u : Nat), .string x.s, .slice x.A x.l.length x.c] t)) := hb.alloc hb.size _
  refine ⟨rfl, fun _ => ⟨_, rfl, by rw [size_alloc]; exact Nat.lt_succ_self _, Nat.lt_succ_self _, fun j y hj => ?_⟩⟩
  have hj0 : j = 0 := by
    have := (List.getElem?_eq_some_iff.1 hj).1
    simp at this; exact this
  subst hj0
  obtain rfl : x = y := by simpa using hj
  refine ⟨fun i v hv => ?_, ?_⟩
  · have e : (⟨w.heap.size, 0, none⟩ : Addr).add (0 * 5 + i) = ⟨w.heap.size, i, none⟩ := by
      unfold Addr.add
      split
      · rename_i h0; have : i = 0 := by omega
        subst this; rfl
      · simp
    have hw : (w.alloc (.cells #[.int .i64 x.k, .int .i64 x.n, .int .u64 (x.u : Nat), .string x.s, .slice x.A x.l.length x.c] t)).heap[w.heap.size]? = some (.cells #[.int .i64 x.k, .int .i64 x.n, .int .u64 (x.u : Nat), .string x.s, .slice x.A x.l.length x.c] t) := by
      show (w.heap.push _)[w.heap.size]? = _
      simp
    rw [e]
    unfold World.cell?
    rw [hw]
    unfold It.cells at hv
    match i, hv with
    | 0, hv => exact hv
    | 1, hv => exact hv
    | 2, hv => exact hv
    | 3, hv => exact hv
    | 4, hv => exact hv
    | n + 5, hv => simp at hv
  · have h2 := h.turn (fq := noB) (Turns.of_below hb2) fun _ _ e => e.elim
    exact ⟨h2.k0, h2.k1, h2.n0, h2.n1, h2.u1, h2.z, h2.s1, h2.c0, h2.c1, h2.i, fun ad e hn => by
      have h3 := h2.a ad e hn
      have h4 := hb.size
      show ad.block < _
      omega⟩
/-- A list of one item, made by the call itself, in blocks with P. -/
theorem its_new (w : World) {t : TypeId} {x : It} {P : Nat → Prop} (h : ItOk w P x) (hP : P w.heap.size) :
    Its (w.alloc (.cells #[.int .i64 x.k, .int .i64 x.n, .int .u64 (x.u : Nat), .string x.s, .slice x.A x.l.length x.c] t)) P (some ⟨w.heap.size, 0, none⟩) 1 [x] := by
  have hb2 : Below w.heap.size w (w.alloc (.cells #[.int .i64 x.k, .int .i64 x.n, .int .u64 (x.u : Nat), .string x.s, .slice x.A x.l.length x.c] t)) := (Below.refl _ _).alloc (Nat.le_refl _) _
  refine ⟨rfl, fun _ => ⟨_, rfl, by rw [size_alloc]; exact Nat.lt_succ_self _, hP, fun j y hj => ?_⟩⟩
  have hj0 : j = 0 := by
    have := (List.getElem?_eq_some_iff.1 hj).1
    simp at this; exact this
  subst hj0
  obtain rfl : x = y := by simpa using hj
  refine ⟨fun i v hv => ?_, h.turn (fq := noB) (Turns.of_below hb2) fun _ _ e => e.elim⟩
  have e : (⟨w.heap.size, 0, none⟩ : Addr).add (0 * 5 + i) = ⟨w.heap.size, i, none⟩ := by
    unfold Addr.add
    split
    · rename_i h0; have : i = 0 := by omega
      subst this; rfl
    · simp
  have hw : (w.alloc (.cells #[.int .i64 x.k, .int .i64 x.n, .int .u64 (x.u : Nat), .string x.s, .slice x.A x.l.length x.c] t)).heap[w.heap.size]? = some (.cells #[.int .i64 x.k, .int .i64 x.n, .int .u64 (x.u : Nat), .string x.s, .slice x.A x.l.length x.c] t) := by
    show (w.heap.push _)[w.heap.size]? = _
    simp
  rw [e]
  unfold World.cell?
  rw [hw]
  unfold It.cells at hv
  match i, hv with
  | 0, hv => exact hv
  | 1, hv => exact hv
  | 2, hv => exact hv
  | 3, hv => exact hv
  | 4, hv => exact hv
  | n + 5, hv => simp at hv
/-- What is asked: a kind, a limit. -/
def AkTy : Ty := .cons (.int .i64) (.cons (.int .i64) .nil)
def Aks (w : World) (P : Nat → Prop) (A : Option Addr) (n : Nat) (L : List (Int × Int)) : Prop :=
  L.length = n ∧ (0 < n → ∃ ad, A = some ad ∧ ad.block < w.heap.size ∧ P ad.block ∧ ∀ j x, L[j]? = some x → (w.cell? (ad.add (j * 2)) = some (.int .i64 x.1) ∧ w.cell? (ad.add (j * 2 + 1)) = some (.int .i64 x.2)) ∧ (-9223372036854775808 ≤ x.1 ∧ x.1 ≤ 9223372036854775807) ∧ (-9223372036854775808 ≤ x.2 ∧ x.2 ≤ 9223372036854775807))
theorem Aks.turn {W W' : World} {P fq : Nat → Prop} {A : Option Addr} {n : Nat} {L : List (Int × Int)} (h : Aks W P A n L) (ht : Turns fq W W') (ha : ∀ b, P b → ¬ fq b) : Aks W' P A n L :=
  ⟨h.1, fun hn => by
    obtain ⟨ad, e, hb, hp, hc⟩ := h.2 hn
    exact ⟨ad, e, Nat.lt_of_lt_of_le hb ht.size, hp, fun j x hx => ⟨⟨(ht.cell (by rw [block_of_add]; exact hb) (by rw [block_of_add]; exact ha _ hp)).trans (hc j x hx).1.1, (ht.cell (by rw [block_of_add]; exact hb) (by rw [block_of_add]; exact ha _ hp)).trans (hc j x hx).1.2⟩, (hc j x hx).2⟩⟩⟩
theorem Aks.at_ {W : World} {P : Nat → Prop} {A : Option Addr} {n : Nat} {L : List (Int × Int)} (h : Aks W P A n L) {k : Nat} (hk : k < n) :
    ∃ ad q m, A = some ad ∧ P ad.block ∧ L[k]? = some (q, m) ∧ W.cell? (ad.add (k * 2)) = some (.int .i64 q) ∧ W.cell? ⟨(ad.add (k * 2)).block, (ad.add (k * 2)).off + 1, none⟩ = some (.int .i64 m) ∧ (-9223372036854775808 ≤ q ∧ q ≤ 9223372036854775807) ∧ (-9223372036854775808 ≤ m ∧ m ≤ 9223372036854775807) := by
  obtain ⟨ad, e, hb, hp, hc⟩ := h.2 (by omega)
  obtain ⟨⟨q, m⟩, hx⟩ : ∃ x, L[k]? = some x := ⟨_, List.getElem?_eq_getElem (by rw [h.1]; exact hk)⟩
  obtain ⟨⟨h1, h2⟩, h3, h4⟩ := hc k _ hx
  exact ⟨ad, q, m, e, hp, hx, h1, fld_at ad (k * 2) 0 ▸ h2, h3, h4⟩
theorem aks_of_rd {w : World} {cs : List Value} {d : Dat} (h : Rd w w.heap.size (.sl AkTy) cs d) :
    ∃ A len cap L, cs = [.slice A len cap] ∧ len ≤ cap ∧ cap ≤ 9223372036854775807 ∧ Aks w (· < w.heap.size) A len L := by
  obtain ⟨A, len, cap, f, rfl, -, hlc, hcm, hx⟩ := h
  obtain ⟨L, hz1, hz2⟩ := list_of (P := fun j (x : Int × Int) => (∀ ad, A = some ad → w.cell? (ad.add (j * 2)) = some (.int .i64 x.1) ∧ w.cell? (ad.add (j * 2 + 1)) = some (.int .i64 x.2)) ∧ (-9223372036854775808 ≤ x.1 ∧ x.1 ≤ 9223372036854775807) ∧ (-9223372036854775808 ≤ x.2 ∧ x.2 ≤ 9223372036854775807)) len fun i hi => by
    obtain ⟨ad, e, hb, hc⟩ := hx (by omega)
    obtain ⟨vs, hl, hv, hr⟩ := hc i hi
    obtain ⟨c1, r1, d1, d1', rfl, -, -, ⟨k, rfl, -, hk⟩, c2, r2, d2, d2', rfl, -, -, ⟨n, rfl, -, hn⟩, rfl, -⟩ := hr
    refine ⟨(k, n), fun ad' e' => ?_, bounds_i64 hk, bounds_i64 hn⟩
    obtain rfl : ad = ad' := by rw [e] at e'; exact Option.some.inj e'
    exact ⟨hv 0 _ rfl, hv 1 _ rfl⟩
  refine ⟨A, len, cap, L, rfl, hlc, hcm, hz1, fun h0 => ?_⟩
  obtain ⟨ad, e, hb, -⟩ := hx h0
  exact ⟨ad, e, hb, hb, fun j x hj => ⟨(hz2 j x hj).1 ad e, (hz2 j x hj).2⟩⟩
/-- A byte string of a list: its bytes, and where they lie. -/
structure Bs where
  L : List UInt8
  A : Option Addr
  c : Nat
def Rows2 (w : World) (A : Option Addr) (n : Nat) (L : List Bs) : Prop :=
  L.length = n ∧ (0 < n → ∃ ad, A = some ad ∧ ad.block < w.heap.size ∧ ∀ j x, L[j]? = some x → w.cell? (ad.add j) = some (.slice x.A x.L.length x.c) ∧ x.L.length ≤ x.c ∧ x.c ≤ 9223372036854775807 ∧ Byts w w.heap.size x.A x.L.length x.L)
theorem Rows2.on {W W' : World} {A : Option Addr} {n : Nat} {L : List Bs} (h : Rows2 W A n L) (hb : Below W.heap.size W W') : Rows2 W' A n L :=
  ⟨h.1, fun hn => by
    obtain ⟨ad, e, hl, hc⟩ := h.2 hn
    exact ⟨ad, e, Nat.lt_of_lt_of_le hl hb.size, fun j x hx => ⟨(hb.cell (by rw [block_of_add]; exact hl)).trans (hc j x hx).1, (hc j x hx).2.1, (hc j x hx).2.2.1, (hc j x hx).2.2.2.on hb⟩⟩⟩
theorem Rows2.at_ {W : World} {A : Option Addr} {n : Nat} {L : List Bs} (h : Rows2 W A n L) {k : Nat} (hk : k < n) :
    ∃ ad x, A = some ad ∧ ad.block < W.heap.size ∧ L[k]? = some x ∧ W.cell? (ad.add k) = some (.slice x.A x.L.length x.c) ∧ x.L.length ≤ x.c ∧ x.c ≤ 9223372036854775807 ∧ Byts W W.heap.size x.A x.L.length x.L := by
  obtain ⟨ad, e, hb, hc⟩ := h.2 (by omega)
  obtain ⟨x, hx⟩ : ∃ x, L[k]? = some x := ⟨_, List.getElem?_eq_getElem (by rw [h.1]; exact hk)⟩
  obtain ⟨h1, h2, h3, h4⟩ := hc k x hx
  exact ⟨ad, x, e, hb, hx, h1, h2, h3, h4⟩
theorem rows_of_rd {w : World} {cs : List Value} {d : Dat} (h : Rd w w.heap.size (.sl (.sl (.int .u8))) cs d) :
    ∃ A len cap L, cs = [.slice A len cap] ∧ len ≤ cap ∧ cap ≤ 9223372036854775807 ∧ Rows2 w A len L := by
  obtain ⟨A, len, cap, f, rfl, -, hlc, hcm, hx⟩ := h
  obtain ⟨L, hz1, hz2⟩ := list_of (P := fun j (x : Bs) => (∀ ad, A = some ad → w.cell? (ad.add j) = some (.slice x.A x.L.length x.c)) ∧ x.L.length ≤ x.c ∧ x.c ≤ 9223372036854775807 ∧ Byts w w.heap.size x.A x.L.length x.L) len fun i hi => by
    obtain ⟨ad, e, hb, hc⟩ := hx (by omega)
    obtain ⟨vs, hl, hv, hr⟩ := hc i hi
    obtain ⟨A', l', c', M, rfl, q1, q2, q3⟩ := byts_of_rd hr
    have hM := q3.len
    subst hM
    refine ⟨⟨M, A', c'⟩, fun ad' e' => ?_, q1, q2, q3⟩
    obtain rfl : ad = ad' := by rw [e] at e'; exact Option.some.inj e'
    have := hv 0 _ rfl
    simpa [Ty.n] using this
  refine ⟨A, len, cap, L, rfl, hlc, hcm, hz1, fun h0 => ?_⟩
  obtain ⟨ad, e, hb, -⟩ := hx h0
  exact ⟨ad, e, hb, fun j x hj => ⟨(hz2 j x hj).1 ad e, (hz2 j x hj).2⟩⟩
end Go.Proofs.Ytdleleanaihcoaa
