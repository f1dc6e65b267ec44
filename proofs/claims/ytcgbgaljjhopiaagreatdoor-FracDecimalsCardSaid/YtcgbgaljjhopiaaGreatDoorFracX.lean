/- The reference's Decimal of a fraction in lowest terms, up to 18 places. (Written by tools/frac16.py.) -/
import Derived.Test.YtcgbgaljjhopiaaGreatDoorFracW
import Derived.Test.YtcgbgaljjhopiaaGreatDoorFracT
import Derived.Test.YtcgbgaljjhopiaaGreatDoorFracQ
import Derived.Test.YtcgbgaljjhopiaaGreatDoorNatRJ
namespace Go.Proofs.YtcgbgaljjhopiaaGreatDoor
set_option maxRecDepth 20000
open Go.RowKit
set_option linter.unusedVariables false
set_option linter.unusedSimpArgs false
theorem kAl1 {W : World} {b : Nat} {u : Value} {o : Obj} (h : W.cell? ⟨b, 0, none⟩ = some u) : (W.alloc o).cell? ⟨b, 0, none⟩ = some u :=
  (World.cell?_alloc_lt W o _ (World.block_lt_of_cell? W _ h)).trans h
theorem kAd1 {W : World} {b : Nat} {u : Value} {o : Obj} (h : W.drew.cell? ⟨b, 0, none⟩ = some u) : (W.alloc o).drew.cell? ⟨b, 0, none⟩ = some u := kAl1 (W := W) h
theorem kSt1 {W : World} {b R : Nat} {u : Value} (hb : Hid (b ≠ R)) (h : W.cell? ⟨b, 0, none⟩ = some u) {x : Value} : (W.setCell ⟨R, 0, none⟩ x).cell? ⟨b, 0, none⟩ = some u := (cell_far _ _ hb.out).trans h
theorem heap_put1 {W : World} {b : Nat} {u u' : Value} {T : TypeId} (h : W.heap[b]? = some (.cells #[u] T (0, 0))) : (W.setCell ⟨b, 0, none⟩ u').heap[b]? = some (.cells #[u'] T (0, 0)) := by
  simp [World.setCell, Array.getElem?_modify, h]
theorem Ks.put1 {w W : World} {bs bs' : List (Nat × List Value × TypeId)} {ns : List (Option Addr × Nat × Nat)} {R : Nat} {T : TypeId} {a0 : Option Addr} {l0 r0 : Nat} (h : Ks w W bs ns) (hR : (R, [.slice a0 l0 r0], T) ∈ bs) (hw : w.heap.size ≤ R)
    (hs : ∀ p ∈ bs', p ∈ bs ∧ p.1 ≠ R) (u : Value) : Ks w (W.setCell ⟨R, 0, none⟩ u) ((R, [u], T) :: bs') ns :=
  ⟨h.bel.setCell hw _, fun p hp => by
    rcases List.mem_cons.1 hp with rfl | hp
    · exact heap_put1 (h.b _ hR)
    · exact (Below.heap_setCell W ⟨R, 0, none⟩ u p.1 (hs p hp).2).trans (h.b p (hs p hp).1),
    fun p hp => ((h.n p hp).setAt (h.cell0 hR) (by intro i h; cases h) u).more (by rw [size_setCell]; exact Nat.le_refl _)⟩
/-- What a region leaves that makes a number and keeps it in a variable of its own, and an error. -/
def OutN (w W0 : World) (x : Nat) (er : Int) (s t : Value) (wx : World) : Prop :=
  ∃ R A n c, s = .pointer (some ⟨R, 0, none⟩) ∧ t = .int .i64 er ∧ (∀ bs ns, Ks w W0 bs ns → Ks w wx ((R, [.slice A n c], 24) :: bs) ((A, n, x) :: ns)) ∧ n ≤ 64 ∧ n ≤ c
theorem kStL {W : World} {b R : Nat} {u : Value} (hb : b < R) (h : W.cell? ⟨b, 0, none⟩ = some u) {x : Value} : (W.setCell ⟨R, 0, none⟩ x).cell? ⟨b, 0, none⟩ = some u := (cell_far _ _ (Nat.ne_of_lt hb)).trans h
/-- The same, for two numbers. -/
def OutN2 (W0 : World) (x y : Nat) (s t u : Value) (wx : World) : Prop :=
  ∃ R R' A n c A' n' c', s = .pointer (some ⟨R, 0, none⟩) ∧ t = .pointer (some ⟨R', 0, none⟩) ∧ u = .int .i64 0 ∧ Ks W0 wx [(R, [.slice A n c], 24), (R', [.slice A' n' c'], 24)] [(A, n, x), (A', n', y)] ∧ n ≤ 64 ∧ n ≤ c ∧ n' ≤ 64 ∧ n' ≤ c'
theorem Ks.thenK {w W0 wx : World} {bs bs' : List (Nat × List Value × TypeId)} {ns ns' : List (Option Addr × Nat × Nat)} (h : Ks w W0 bs ns) (h' : Ks W0 wx bs' ns') : Ks w wx (bs' ++ bs) (ns' ++ ns) :=
  have k := h.call h'.bel
  ⟨k.bel, fun p hp => by
    rcases List.mem_append.1 hp with hp | hp
    · exact h'.b p hp
    · exact k.b p hp, fun p hp => by
    rcases List.mem_append.1 hp with hp | hp
    · exact h'.n p hp
    · exact k.n p hp⟩
theorem OutN2.mk {W0 wx : World} {x y R R' n c n' c' : Nat} {A A' : Option Addr} {bs : List (Nat × List Value × TypeId)} {ns : List (Option Addr × Nat × Nat)} (h : Ks W0 wx bs ns) (h1 : (R, [.slice A n c], 24) ∈ bs) (h2 : (R', [.slice A' n' c'], 24) ∈ bs) (h3 : (A, n, x) ∈ ns) (h4 : (A', n', y) ∈ ns) (h5 : n ≤ 64) (h6 : n ≤ c) (h7 : n' ≤ 64) (h8 : n' ≤ c') :
    OutN2 W0 x y (.pointer (some ⟨R, 0, none⟩)) (.pointer (some ⟨R', 0, none⟩)) (.int .i64 0) wx :=
  ⟨R, R', A, n, c, A', n', c', rfl, rfl, rfl, h.less (fun p hp => by
    rcases List.mem_cons.1 hp with rfl | hp
    · exact h1
    · rcases List.mem_cons.1 hp with rfl | hp
      · exact h2
      · exact nomatch hp) (fun p hp => by
    rcases List.mem_cons.1 hp with rfl | hp
    · exact h3
    · rcases List.mem_cons.1 hp with rfl | hp
      · exact h4
      · exact nomatch hp), h5, h6, h7, h8⟩
section
variable {W0 wd : World} {bs : List (Nat × List Value × TypeId)} {ns : List (Option Addr × Nat × Nat)} {x y n c n' c' R R' l0 r0 l1 r1 : Nat} {A A' a0 a1 : Option Addr} (K : Ks W0 wd bs ns)
include K
theorem Ks.box2 (l l' : List Value) (T T' : TypeId) : Ks W0 ((wd.alloc (.cells l.toArray T)).alloc (.cells l'.toArray T')) ((wd.heap.size + 1, l', T') :: (wd.heap.size, l, T) :: bs) ns := by
  have h := (K.box l T).box l' T'
  simp only [size_alloc] at h
  exact h
theorem out_new (h3 : (A, n, x) ∈ ns) (h4 : (A', n', y) ∈ ns) (h5 : n ≤ 64) (h6 : n ≤ c) (h7 : n' ≤ 64) (h8 : n' ≤ c') :
    OutN2 W0 x y (.pointer (some ⟨wd.heap.size, 0, none⟩)) (.pointer (some ⟨wd.heap.size + 1, 0, none⟩)) (.int .i64 0) ((wd.alloc (.cells #[.slice A n c] 24)).alloc (.cells #[.slice A' n' c'] 24)) :=
  OutN2.mk (K.box2 [.slice A n c] [.slice A' n' c'] _ _) at1 at0 h3 h4 h5 h6 h7 h8
theorem out_wen (h3 : (A, n, x) ∈ ns) (h4 : (A', n', y) ∈ ns) (h5 : n ≤ 64) (h6 : n ≤ c) (h7 : n' ≤ 64) (h8 : n' ≤ c') :
    OutN2 W0 x y (.pointer (some ⟨wd.heap.size + 1, 0, none⟩)) (.pointer (some ⟨wd.heap.size, 0, none⟩)) (.int .i64 0) ((wd.alloc (.cells #[.slice A' n' c'] 24)).alloc (.cells #[.slice A n c] 24)) :=
  OutN2.mk (K.box2 [.slice A' n' c'] [.slice A n c] _ _) at0 at1 h3 h4 h5 h6 h7 h8
theorem out_old (hR : (R, [.slice a0 l0 r0], 24) ∈ bs) (hw : W0.heap.size ≤ R) (h3 : (A, n, x) ∈ ns) (h4 : (A', n', y) ∈ ns) (h5 : n ≤ 64) (h6 : n ≤ c) (h7 : n' ≤ 64) (h8 : n' ≤ c') :
    OutN2 W0 x y (.pointer (some ⟨R, 0, none⟩)) (.pointer (some ⟨wd.heap.size, 0, none⟩)) (.int .i64 0) (((wd.alloc (.cells #[.slice none 0 0] 24)).setCell ⟨R, 0, none⟩ (.slice A n c)).setCell ⟨wd.heap.size, 0, none⟩ (.slice A' n' c')) := by
  have hl := K.lt hR
  have k1 := (K.box [.slice none 0 0] 24).put1 (bs' := [(wd.heap.size, [.slice none 0 0], 24)]) (List.mem_cons_of_mem _ hR) hw (fun p hp => by
    rcases List.mem_cons.1 hp with rfl | hp
    · exact ⟨at0, by show wd.heap.size ≠ R; omega⟩
    · exact nomatch hp) (.slice A n c)
  have k2 := k1.put1 (bs' := [(R, [.slice A n c], 24)]) at1 K.bel.size (fun p hp => by
    rcases List.mem_cons.1 hp with rfl | hp
    · exact ⟨at0, by show R ≠ wd.heap.size; omega⟩
    · exact nomatch hp) (.slice A' n' c')
  exact OutN2.mk k2 at1 at0 h3 h4 h5 h6 h7 h8
theorem out_dlo (hR : (R, [.slice a0 l0 r0], 24) ∈ bs) (hw : W0.heap.size ≤ R) (h3 : (A, n, x) ∈ ns) (h4 : (A', n', y) ∈ ns) (h5 : n ≤ 64) (h6 : n ≤ c) (h7 : n' ≤ 64) (h8 : n' ≤ c') :
    OutN2 W0 x y (.pointer (some ⟨wd.heap.size, 0, none⟩)) (.pointer (some ⟨R, 0, none⟩)) (.int .i64 0) ((wd.alloc (.cells #[.slice A n c] 24)).setCell ⟨R, 0, none⟩ (.slice A' n' c')) := by
  have hl := K.lt hR
  have k1 := (K.box [.slice A n c] 24).put1 (bs' := [(wd.heap.size, [.slice A n c], 24)]) (List.mem_cons_of_mem _ hR) hw (fun p hp => by
    rcases List.mem_cons.1 hp with rfl | hp
    · exact ⟨at0, by show wd.heap.size ≠ R; omega⟩
    · exact nomatch hp) (.slice A' n' c')
  exact OutN2.mk k1 at1 at0 h3 h4 h5 h6 h7 h8
theorem out_two (hR : (R, [.slice a0 l0 r0], 24) ∈ bs) (hR' : (R', [.slice a1 l1 r1], 24) ∈ bs) (hw : W0.heap.size ≤ R) (hw' : W0.heap.size ≤ R') (hn : R ≠ R') (h3 : (A, n, x) ∈ ns) (h4 : (A', n', y) ∈ ns) (h5 : n ≤ 64) (h6 : n ≤ c) (h7 : n' ≤ 64) (h8 : n' ≤ c') :
    OutN2 W0 x y (.pointer (some ⟨R, 0, none⟩)) (.pointer (some ⟨R', 0, none⟩)) (.int .i64 0) ((wd.setCell ⟨R, 0, none⟩ (.slice A n c)).setCell ⟨R', 0, none⟩ (.slice A' n' c')) := by
  have k1 := K.put1 (bs' := [(R', [.slice a1 l1 r1], 24)]) hR hw (fun p hp => by
    rcases List.mem_cons.1 hp with rfl | hp
    · exact ⟨hR', fun e => hn e.symm⟩
    · exact nomatch hp) (.slice A n c)
  have k2 := k1.put1 (bs' := [(R, [.slice A n c], 24)]) at1 hw' (fun p hp => by
    rcases List.mem_cons.1 hp with rfl | hp
    · exact ⟨at0, hn⟩
    · exact nomatch hp) (.slice A' n' c')
  exact OutN2.mk k2 at1 at0 h3 h4 h5 h6 h7 h8
end
section
variable {n c n' c' a b p : Nat} {A A' : Option Addr}
/-- The power of ten that the first loop lays. -/
def Ten (T : Int) (k : Nat) : Prop := T = ((10 ^ k : Nat) : Int)
theorem Ten.step {T : Int} {k : Nat} (h : Ten T k) : Ten (10 * T) (k + 1) := by
  unfold Ten at h ⊢
  rw [h, Nat.pow_succ]; omega
theorem Ten.bd {T : Int} {k : Nat} (h : Ten T k) (hk : k ≤ 18) : 1 ≤ T ∧ T ≤ 1000000000000000000 := by
  unfold Ten at h
  have h1 : 10 ^ k ≤ 10 ^ 18 := Nat.pow_le_pow_right (by omega) hk
  have h2 : (10 : Nat) ^ 18 = 1000000000000000000 := by decide
  have h3 : 0 < 10 ^ k := Nat.pow_pos (by omega)
  omega
/-- A text of a number, with zeros laid ahead of it. -/
def PadT (r p k : Nat) (S : ByteArray) : Prop := S.data.toList = List.replicate k 48 ++ Lib.decDigits r ∧ k + (Lib.decDigits r).length ≤ p
theorem PadT.size {r p k : Nat} {S : ByteArray} (h : PadT r p k S) : S.size = k + (Lib.decDigits r).length := by
  have h1 := congrArg List.length h.1
  rw [List.length_append, List.length_replicate] at h1
  rw [← h1]; rfl
theorem PadT.step {r p k : Nat} {S : ByteArray} (h : PadT r p k S) (hl : S.size < p) : PadT r p (k + 1) (⟨#[48]⟩ ++ S) := by
  have hs := h.size
  refine ⟨?_, by omega⟩
  rw [ByteArray.data_append, Array.toList_append, h.1, List.replicate_succ]; rfl
theorem PadT.fin {q p k : Nat} {S : ByteArray} (h : PadT (q % 10 ^ p) p k S) (hp : 1 ≤ p) (hl : ¬ S.size < p) : Nm.txt (q / 10 ^ p) ++ ⟨#[46]⟩ ++ S = Fr.decS q p := by
  have hs := h.size
  have h2 := h.2
  refine ByteArray.ext (Array.toList_inj.1 ?_)
  rw [ByteArray.data_append, ByteArray.data_append, Array.toList_append, Array.toList_append, Nm.txt_list, h.1, Fr.decS, Fr.decL, if_neg (by omega), Fr.padL, show p - (Lib.decDigits (q % 10 ^ p)).length = k by omega]
  simp
theorem Ten.of {T : Int} {k : Nat} (h : Ten T k) (hk : k ≤ 18) (W : World) : Calls Tryz.prog 25 #[.int .u64 T] W (ORes (10 ^ k) W) := by
  have h1 := h.bd hk
  unfold Ten at h
  exact ref3_Of T (10 ^ k) W h (by omega)
set_option maxHeartbeats 2000000 in
theorem ref4_Decimal_over (w : World) (h : FIs w A n c A' n' c' a b) (hp : p ≤ 18) (hf : Nt.fits (a * 10 ^ p) = false) :
    Calls Tryz.prog 7 #[.agg #[.slice A n c, .slice A' n' c'], .int .i64 (p : Int)] w (TRes ByteArray.empty 9 w) := by
  have V1 := Lib.hid fun W (hb : Below w.heap.size w W) => ref4_Valid_is W (h.on hb)
  have v0 : (0 : Int) ≤ (p : Int) := by omega
  have v18 : (p : Int) ≤ 18 := by omega
  have HF := Lib.hid h
  have k0 := (Ks.start w).box [.slice A n c, .slice A' n' c'] 26
  have K0 := Lib.hid k0
  clear k0 h
  go_enter Tryz.func7, Tryz.ntmps7
  go_wp2_with fail
  refine (V1.out _ K0.out.bel).mono ?_
  rintro e w1 ⟨rfl, B1⟩
  have K1 := Lib.hid (K0.out.call B1)
  clear B1
  go_wp2_with fail
  go_loopw [6, 7] (fun t i W => ∃ (k : Nat) (T : Int), k ≤ p ∧ i = .int .i64 k ∧ t = .int .u64 T ∧ 1 ≤ T ∧ T ≤ 1000000000000000000 ∧ Hid (Ten T k) ∧ W = w1) (fun _ i _ => p - (intOf i).toNat)
  case atStart => exact ⟨0, 1, by omega, rfl, rfl, by omega, by omega, rfl, rfl⟩
  case round =>
    obtain ⟨k, T, hk, rfl, rfl, t0, t1, HT, rfl⟩ := hrel
    by_cases hlt : k < p
    · have hs := HT.out.step
      obtain ⟨s0, s1⟩ := hs.bd (by omega)
      have HS := Lib.hid hs
      clear hs
      have hwr : IntKind.u64.wrap (10 * T) = 10 * T := Nt.w64 (by omega) (by omega)
      go_wp2_with fail
      go_roundw
      case rel => exact ⟨k + 1, 10 * T, by omega, by go_num, rfl, s0, s1, HS, trivial⟩
      case measure => simp [intOf]; omega
    · obtain rfl : p = k := by omega
      have OF := Lib.hid (HT.out.of (by omega))
      have ml := fun W {C : Option Addr} {m j : Nat} (hb : Below w.heap.size w W) (h : NumAt W C m j (10 ^ p)) => ref3_Mul_nums W (HF.out.on hb).n h
      rw [Fr.be_no hf] at ml
      have ML := Lib.hid ml
      clear ml
      have x0_0 := K1.out.cell0 at0
      have x0_1 := K1.out.cell1 at0
      go_wp2_with fail
      go_cut [8, 9] from 36 to 43 (fun sx tx wx => OutN w wr (Nt.bv (a * 10 ^ p)) 9 sx tx wx)
      case first =>
        have K1d := Lib.hid (K1.out.call (Below.refl _ wr).drew)
        go_region_held3 (fun W => W.cell? ⟨w.heap.size, 0, none⟩ = some (.slice A n c))
          (first | (with_reducible exact K1d.out.cell0 at0) | (with_reducible exact K2.out.cell0 at0) | (with_reducible exact K3.out.cell0 at1) | (with_reducible exact K4.out.cell0 at0) | (with_reducible exact K5.out.cell0 at1) | (with_reducible exact K6.out.cell0 at1) | (with_reducible exact kAl1 (by assumption)) | (with_reducible exact kAd1 (by assumption)) | (with_reducible exact kSt1 NR (by assumption)) | (with_reducible exact kAl1 (K4.out.cell0 at0)) | fail)
          (first
            | (go_at_call 25; (with_reducible refine (OF.out _).mono ?_); rintro e w2 ⟨A2, n2, c2, rfl, B2, D2, h2, l2⟩; have K2 := Lib.hid ((K1d.out.call B2).num D2); have HB2 := Lib.hid B2; clear B2 D2)
            | (go_at_call 24; have K2a := Lib.hid (K2.out.box [.slice none 0 0] 24); (with_reducible refine (ML.out _ K2a.out.bel ⟨K2a.out.get at0, h2, l2⟩).mono ?_); rintro e w3 ⟨A3, n3, c3, rfl, B3, D3, h3, l3⟩; have K3 := Lib.hid ((K2a.out.call B3).num D3); have HB3 := Lib.hid B3; have HD3 := Lib.hid D3; have q0 := K3.out.cell0 at0; have qf := K3.out.free at0; have NR : Hid (w.heap.size ≠ w2.heap.size) := Nat.ne_of_lt (lt_of_block (K2.out.b _ at0)); clear B3 D3)
            | (go_at_call 24; (with_reducible refine (ML.out _ K2.out.bel ⟨K2.out.get at0, h2, l2⟩).mono ?_); rintro e w4 ⟨A4, n4, c4, rfl, B4, D4, h4, l4⟩; have K4 := Lib.hid ((K2.out.call B4).num D4); have HB4 := Lib.hid B4; have HD4 := Lib.hid D4; clear B4 D4)
            | (go_at_call 25; (with_reducible refine (OF.out _).mono ?_); rintro e w5 ⟨A5, n5, c5, rfl, B5, D5, h5, l5⟩; have k5 := (((K1.out.box [.slice none 0 0] 24).call (Below.refl _ _).drew).call B5).num D5; have K5 := Lib.hid k5; have HB5 := Lib.hid B5; have NR : Hid (w.heap.size ≠ wr.heap.size) := (by have h := lt_of_block (K1.out.b _ at0); exact Nat.ne_of_lt h); clear k5 B5 D5)
            | (go_at_call 24; (with_reducible refine (ML.out _ K5.out.bel ⟨K5.out.get at0, h5, l5⟩).mono ?_); rintro e w6 ⟨A6, n6, c6, rfl, B6, D6, h6, l6⟩; have K6 := Lib.hid ((K5.out.call B6).num D6); have HB6 := Lib.hid B6; have HD6 := Lib.hid D6; have q0 := K6.out.cell0 at0; have qf := K6.out.free at0; clear B6 D6)
            | fail)
        all_goals (
          go_wp2_with fail
          go_meet
          first
            | exact ⟨w2.heap.size, A3, n3, c3, rfl, rfl, fun bs ns K => (((((K.call (Below.refl _ _).drew).call HB2.out).box [.slice none 0 0] 24).call HB3.out).num HD3.out).put1 at0 ((K.call (Below.refl _ _).drew).call HB2.out).bel.size (fun p hp => ⟨List.mem_cons_of_mem _ hp, Nat.ne_of_lt (lt_of_block (((K.call (Below.refl _ _).drew).call HB2.out).b p hp))⟩) _, h3, l3⟩
            | exact ⟨_, A4, n4, c4, rfl, rfl, fun bs ns K => ((((K.call (Below.refl _ _).drew).call HB2.out).call HB4.out).num HD4.out).box [.slice A4 n4 c4] 24, h4, l4⟩
            | exact ⟨wr.heap.size, A6, n6, c6, rfl, rfl, fun bs ns K => (((((K.box [.slice none 0 0] 24).call (Below.refl _ _).drew).call HB5.out).call HB6.out).num HD6.out).put1 at0 K.bel.size (fun p hp => ⟨List.mem_cons_of_mem _ hp, Nat.ne_of_lt (lt_of_block (K.b p hp))⟩) _, h6, l6⟩)
      case rest =>
        obtain ⟨R7, A7, n7, c7, rfl, rfl, hk7, h7, l7⟩ := hcut
        have K7 := Lib.hid (hk7 _ _ K1.out)
        clear hk7
        have x0_0 := K7.out.cell0 at1
        have x0_1 := K7.out.cell1 at1
        have x1_0 := K7.out.cell0 at0
        go_wp2_with fail
        go_ret2
        exact ⟨rfl, K7.out.bel⟩
set_option maxHeartbeats 4000000 in
theorem ref4_Decimal_fit (w : World) (h : FIs w A n c A' n' c' a b) (hp : p ≤ 18) (hf : Nt.fits (a * 10 ^ p) = true) :
    Calls Tryz.prog 7 #[.agg #[.slice A n c, .slice A' n' c'], .int .i64 (p : Int)] w (TRes (Fr.decS (a * 10 ^ p / b) p) 0 w) := by
  have V1 := Lib.hid fun W (hb : Below w.heap.size w W) => ref4_Valid_is W (h.on hb)
  have v0 : (0 : Int) ≤ (p : Int) := by omega
  have v18 : (p : Int) ≤ 18 := by omega
  have HF := Lib.hid h
  have k0 := (Ks.start w).box [.slice A n c, .slice A' n' c'] 26
  have K0 := Lib.hid k0
  clear k0 h
  go_enter Tryz.func7, Tryz.ntmps7
  go_wp2_with fail
  refine (V1.out _ K0.out.bel).mono ?_
  rintro e w1 ⟨rfl, B1⟩
  have K1 := Lib.hid (K0.out.call B1)
  clear B1
  go_wp2_with fail
  go_loopw [6, 7] (fun t i W => ∃ (k : Nat) (T : Int), k ≤ p ∧ i = .int .i64 k ∧ t = .int .u64 T ∧ 1 ≤ T ∧ T ≤ 1000000000000000000 ∧ Hid (Ten T k) ∧ W = w1) (fun _ i _ => p - (intOf i).toNat)
  case atStart => exact ⟨0, 1, by omega, rfl, rfl, by omega, by omega, rfl, rfl⟩
  case round =>
    obtain ⟨k, T, hk, rfl, rfl, t0, t1, HT, rfl⟩ := hrel
    by_cases hlt : k < p
    · have hs := HT.out.step
      obtain ⟨s0, s1⟩ := hs.bd (by omega)
      have HS := Lib.hid hs
      clear hs
      have hwr : IntKind.u64.wrap (10 * T) = 10 * T := Nt.w64 (by omega) (by omega)
      go_wp2_with fail
      go_roundw
      case rel => exact ⟨k + 1, 10 * T, by omega, by go_num, rfl, s0, s1, HS, trivial⟩
      case measure => simp [intOf]; omega
    · obtain rfl : p = k := by omega
      have of := HT.out.of (by omega)
      have ml := fun W {C : Option Addr} {m j : Nat} (hb : Below w.heap.size w W) (h : NumAt W C m j (10 ^ p)) => ref3_Mul_nums W (HF.out.on hb).n h
      rw [Fr.be_yes hf, Fr.bv_yes hf] at ml
      have dm := fun W {C : Option Addr} {m j : Nat} (hb : Below w.heap.size w W) (h : NumAt W C m j (a * 10 ^ p)) => ref3_DivMod_ok (c := j) (c' := c') W h.d (HF.out.on hb).d.d h.h (HF.out.on hb).d.h HF.out.b0
      have tp : 0 < 10 ^ p := Nat.pow_pos (by omega)
      obtain ⟨t, et⟩ : ∃ t, t = 10 ^ p := ⟨_, rfl⟩
      obtain ⟨q, eq⟩ : ∃ q, q = a * 10 ^ p / b := ⟨_, rfl⟩
      rw [← eq] at dm
      rw [← et] at ml of tp dm
      have dn := fun W {C E : Option Addr} {m j k l : Nat} (h : NumAt W C m j q) (h' : NumAt W E k l t) => ref3_DivMod_ok (c := j) (c' := l) W h.d h'.d h.h h'.h tp
      have OF := Lib.hid of
      have ML := Lib.hid ml
      have DM := Lib.hid fun W {C : Option Addr} {m j : Nat} (hb : Below w.heap.size w W) => dm W (C := C) (m := m) (j := j) hb
      have DN := Lib.hid dn
      have HQ : Hid (q = a * 10 ^ p / b) := eq
      have HTT : Hid (t = 10 ^ p) := et
      clear ml dm dn of eq et tp
      have x0_0 := K1.out.cell0 at0
      have x0_1 := K1.out.cell1 at0
      go_wp2_with fail
      go_cut [8, 9] from 36 to 43 (fun sx tx wx => OutN w wr (a * t) 0 sx tx wx)
      case first =>
        have K1d := Lib.hid (K1.out.call (Below.refl _ wr).drew)
        go_region_held3 (fun W => W.cell? ⟨w.heap.size, 0, none⟩ = some (.slice A n c))
          (first | (with_reducible exact K1d.out.cell0 at0) | (with_reducible exact K2.out.cell0 at0) | (with_reducible exact K3.out.cell0 at1) | (with_reducible exact K4.out.cell0 at0) | (with_reducible exact K5.out.cell0 at1) | (with_reducible exact K6.out.cell0 at1) | (with_reducible exact kAl1 (by assumption)) | (with_reducible exact kAd1 (by assumption)) | (with_reducible exact kSt1 NR (by assumption)) | (with_reducible exact kAl1 (K4.out.cell0 at0)) | fail)
          (first
            | (go_at_call 25; (with_reducible refine (OF.out _).mono ?_); rintro e w2 ⟨A2, n2, c2, rfl, B2, D2, h2, l2⟩; have K2 := Lib.hid ((K1d.out.call B2).num D2); have HB2 := Lib.hid B2; clear B2 D2)
            | (go_at_call 24; have K2a := Lib.hid (K2.out.box [.slice none 0 0] 24); (with_reducible refine (ML.out _ K2a.out.bel ⟨K2a.out.get at0, h2, l2⟩).mono ?_); rintro e w3 ⟨A3, n3, c3, rfl, B3, D3, h3, l3⟩; have K3 := Lib.hid ((K2a.out.call B3).num D3); have HB3 := Lib.hid B3; have HD3 := Lib.hid D3; have q0 := K3.out.cell0 at0; have qf := K3.out.free at0; have NR : Hid (w.heap.size ≠ w2.heap.size) := Nat.ne_of_lt (lt_of_block (K2.out.b _ at0)); clear B3 D3)
            | (go_at_call 24; (with_reducible refine (ML.out _ K2.out.bel ⟨K2.out.get at0, h2, l2⟩).mono ?_); rintro e w4 ⟨A4, n4, c4, rfl, B4, D4, h4, l4⟩; have K4 := Lib.hid ((K2.out.call B4).num D4); have HB4 := Lib.hid B4; have HD4 := Lib.hid D4; clear B4 D4)
            | (go_at_call 25; (with_reducible refine (OF.out _).mono ?_); rintro e w5 ⟨A5, n5, c5, rfl, B5, D5, h5, l5⟩; have k5 := (((K1.out.box [.slice none 0 0] 24).call (Below.refl _ _).drew).call B5).num D5; have K5 := Lib.hid k5; have HB5 := Lib.hid B5; have NR : Hid (w.heap.size ≠ wr.heap.size) := (by have h := lt_of_block (K1.out.b _ at0); exact Nat.ne_of_lt h); clear k5 B5 D5)
            | (go_at_call 24; (with_reducible refine (ML.out _ K5.out.bel ⟨K5.out.get at0, h5, l5⟩).mono ?_); rintro e w6 ⟨A6, n6, c6, rfl, B6, D6, h6, l6⟩; have K6 := Lib.hid ((K5.out.call B6).num D6); have HB6 := Lib.hid B6; have HD6 := Lib.hid D6; have q0 := K6.out.cell0 at0; have qf := K6.out.free at0; clear B6 D6)
            | fail)
        all_goals (
          go_wp2_with fail
          go_meet
          first
            | exact ⟨w2.heap.size, A3, n3, c3, rfl, rfl, fun bs ns K => (((((K.call (Below.refl _ _).drew).call HB2.out).box [.slice none 0 0] 24).call HB3.out).num HD3.out).put1 at0 ((K.call (Below.refl _ _).drew).call HB2.out).bel.size (fun p hp => ⟨List.mem_cons_of_mem _ hp, Nat.ne_of_lt (lt_of_block (((K.call (Below.refl _ _).drew).call HB2.out).b p hp))⟩) _, h3, l3⟩
            | exact ⟨_, A4, n4, c4, rfl, rfl, fun bs ns K => ((((K.call (Below.refl _ _).drew).call HB2.out).call HB4.out).num HD4.out).box [.slice A4 n4 c4] 24, h4, l4⟩
            | exact ⟨wr.heap.size, A6, n6, c6, rfl, rfl, fun bs ns K => (((((K.box [.slice none 0 0] 24).call (Below.refl _ _).drew).call HB5.out).call HB6.out).num HD6.out).put1 at0 K.bel.size (fun p hp => ⟨List.mem_cons_of_mem _ hp, Nat.ne_of_lt (lt_of_block (K.b p hp))⟩) _, h6, l6⟩)
      case rest =>
        obtain ⟨R7, A7, n7, c7, rfl, rfl, hk7, h7, l7⟩ := hcut
        have K7 := Lib.hid (hk7 _ _ K1.out)
        clear hk7
        have x0_0 := K7.out.cell0 at1
        have x0_1 := K7.out.cell1 at1
        have x1_0 := K7.out.cell0 at0
        go_wp2_with fail
        refine (DM.out _ K7.out.bel ⟨K7.out.get at0, h7, l7⟩).mono ?_
        rintro e w8 ⟨A8, n8, c8, A8r, n8r, c8r, rfl, B8, D8, D8r, h8, h8r, l8, l8r⟩
        have k8 := ((((K7.out.call B8).num D8).num D8r).box [.slice A8 n8 c8] 24).box [.slice A8r n8r c8r] 24
        simp only [size_alloc] at k8
        have K8 := Lib.hid k8
        clear k8 B8 D8 D8r
        clear x0_0 x0_1 x1_0
        have x0_0 := K8.out.cell0 at3
        have x0_1 := K8.out.cell1 at3
        have x1_0 := K8.out.cell0 at2
        go_wp2_with fail
        obtain ⟨W0, eW⟩ : ∃ W0, W0 = (w8.alloc (.cells #[.slice A8 n8 c8] 24)).alloc (.cells #[.slice A8r n8r c8r] 24) := ⟨_, rfl⟩
        have s8 : w8.heap.size + 1 + 1 = W0.heap.size := by rw [eW]; simp
        clear x0_0 x0_1 x1_0
        rw [← eW] at K8 ⊢
        clear eW
        have r0 := Lib.hid ((Ks.start W0).call (Below.refl W0.heap.size W0).drew)
        have r1 := Lib.hid (((Ks.start W0).box [.slice none 0 0] 24).call (Below.refl _ _).drew)
        have k2 := (((Ks.start W0).box [.slice none 0 0] 24).box [.slice none 0 0] 24).call (Below.refl _ _).drew
        simp only [size_alloc] at k2
        have r2 := Lib.hid k2
        clear k2
        have HN8 := Lib.hid fun W (hb : Below W0.heap.size W0 W) => (⟨(K8.out.call hb).get at1, h8, l8⟩ : NumAt W A8 n8 c8 q)
        have C8 := Lib.hid fun W (hb : Below W0.heap.size W0 W) => (K8.out.call hb).cell0 at1
        go_cut [13, 14, 15] from 57 to 64 (fun sx tx ex wx => OutN2 W0 (q / t) (q % t) sx tx ex wx)
        case first =>
          go_region_held3 (fun W => W.cell? ⟨w8.heap.size, 0, none⟩ = some (.slice A8 n8 c8))
            (first | (with_reducible exact C8.out _ r0.out.bel) | (with_reducible exact C8.out _ KO.out.bel) | (with_reducible exact C8.out _ KD.out.bel) | (with_reducible exact kAl1 (by assumption)) | (with_reducible exact kAd1 (by assumption)) | (with_reducible exact kStL (by omega) (by assumption)) | ((repeat (first | (with_reducible refine kAl1 ?_) | (with_reducible refine kStL (by omega) ?_))); (first | (with_reducible exact C8.out _ KD.out.bel) | (with_reducible exact C8.out _ KO.out.bel) | (with_reducible exact C8.out _ r0.out.bel))) | fail)
            (first
              | (go_at_call 25; (with_reducible refine (OF.out _).mono ?_); rintro e wo ⟨Ao, no, co, rfl, Bo, Do, ho, lo⟩; (first | (have KO := Lib.hid ((r0.out.call Bo).num Do)) | (have KO := Lib.hid ((r1.out.call Bo).num Do)) | (have KO := Lib.hid ((r2.out.call Bo).num Do))); have HBo := Lib.hid Bo; have sy := Bo.size; (try simp only [World.size_drew, size_alloc] at sy); have so : W0.heap.size ≤ wo.heap.size := KO.out.bel.size; clear Bo Do)
              | (go_at_call 26; (first | ((with_reducible refine (DN.out _ (HN8.out _ KO.out.bel) ⟨KO.out.get at0, ho, lo⟩).mono ?_); rintro e wd ⟨Ad, nd, cd, Ar, nr, cr, rfl, Bd, Dd, Dr, hd, hr, ld, lr⟩; have KD := Lib.hid (((KO.out.call Bd).num Dd).num Dr); have HBd := Lib.hid Bd; have HDd := Lib.hid Dd; have HDr := Lib.hid Dr; have sd : W0.heap.size ≤ wd.heap.size := KD.out.bel.size; (try (have q0 := KD.out.cell0 at0; have qf := KD.out.free at0; have q0a := fun o => (KD.out.call ((Below.refl _ _).alloc (Nat.le_refl _) o)).cell0 at0; have qfa := fun o => (KD.out.call ((Below.refl _ _).alloc (Nat.le_refl _) o)).free at0)); (try (have q1 := KD.out.cell0 at1; have qg := KD.out.free at1)); have sx := Bd.size; (try simp only [size_alloc] at sx); (try (have g01 : ∀ (W : World) (v : Value), (W.setCell ⟨W0.heap.size, 0, none⟩ v).cell? ⟨W0.heap.size + 1, 0, none⟩ = W.cell? ⟨W0.heap.size + 1, 0, none⟩ := fun W v => cell_far W v (by show W0.heap.size + 1 ≠ W0.heap.size; omega))); (try (have g02 : ∀ (W : World) (v : Value), (W.setCell ⟨W0.heap.size, 0, none⟩ v).cell? ⟨wo.heap.size, 0, none⟩ = W.cell? ⟨wo.heap.size, 0, none⟩ := fun W v => cell_far W v (by show wo.heap.size ≠ W0.heap.size; omega))); (try (have g03 : ∀ (W : World) (v : Value), (W.setCell ⟨W0.heap.size, 0, none⟩ v).cell? ⟨wo.heap.size + 1, 0, none⟩ = W.cell? ⟨wo.heap.size + 1, 0, none⟩ := fun W v => cell_far W v (by show wo.heap.size + 1 ≠ W0.heap.size; omega))); (try (have g04 : ∀ (W : World) (v : Value), (W.setCell ⟨W0.heap.size, 0, none⟩ v).cell? ⟨wd.heap.size, 0, none⟩ = W.cell? ⟨wd.heap.size, 0, none⟩ := fun W v => cell_far W v (by show wd.heap.size ≠ W0.heap.size; omega))); (try (have g05 : ∀ (W : World) (v : Value), (W.setCell ⟨W0.heap.size, 0, none⟩ v).cell? ⟨wd.heap.size + 1, 0, none⟩ = W.cell? ⟨wd.heap.size + 1, 0, none⟩ := fun W v => cell_far W v (by show wd.heap.size + 1 ≠ W0.heap.size; omega))); (try (have g10 : ∀ (W : World) (v : Value), (W.setCell ⟨W0.heap.size + 1, 0, none⟩ v).cell? ⟨W0.heap.size, 0, none⟩ = W.cell? ⟨W0.heap.size, 0, none⟩ := fun W v => cell_far W v (by show W0.heap.size ≠ W0.heap.size + 1; omega))); (try (have g12 : ∀ (W : World) (v : Value), (W.setCell ⟨W0.heap.size + 1, 0, none⟩ v).cell? ⟨wo.heap.size, 0, none⟩ = W.cell? ⟨wo.heap.size, 0, none⟩ := fun W v => cell_far W v (by show wo.heap.size ≠ W0.heap.size + 1; omega))); (try (have g13 : ∀ (W : World) (v : Value), (W.setCell ⟨W0.heap.size + 1, 0, none⟩ v).cell? ⟨wo.heap.size + 1, 0, none⟩ = W.cell? ⟨wo.heap.size + 1, 0, none⟩ := fun W v => cell_far W v (by show wo.heap.size + 1 ≠ W0.heap.size + 1; omega))); (try (have g14 : ∀ (W : World) (v : Value), (W.setCell ⟨W0.heap.size + 1, 0, none⟩ v).cell? ⟨wd.heap.size, 0, none⟩ = W.cell? ⟨wd.heap.size, 0, none⟩ := fun W v => cell_far W v (by show wd.heap.size ≠ W0.heap.size + 1; omega))); (try (have g15 : ∀ (W : World) (v : Value), (W.setCell ⟨W0.heap.size + 1, 0, none⟩ v).cell? ⟨wd.heap.size + 1, 0, none⟩ = W.cell? ⟨wd.heap.size + 1, 0, none⟩ := fun W v => cell_far W v (by show wd.heap.size + 1 ≠ W0.heap.size + 1; omega))); (try (have g20 : ∀ (W : World) (v : Value), (W.setCell ⟨wo.heap.size, 0, none⟩ v).cell? ⟨W0.heap.size, 0, none⟩ = W.cell? ⟨W0.heap.size, 0, none⟩ := fun W v => cell_far W v (by show W0.heap.size ≠ wo.heap.size; omega))); (try (have g21 : ∀ (W : World) (v : Value), (W.setCell ⟨wo.heap.size, 0, none⟩ v).cell? ⟨W0.heap.size + 1, 0, none⟩ = W.cell? ⟨W0.heap.size + 1, 0, none⟩ := fun W v => cell_far W v (by show W0.heap.size + 1 ≠ wo.heap.size; omega))); (try (have g23 : ∀ (W : World) (v : Value), (W.setCell ⟨wo.heap.size, 0, none⟩ v).cell? ⟨wo.heap.size + 1, 0, none⟩ = W.cell? ⟨wo.heap.size + 1, 0, none⟩ := fun W v => cell_far W v (by show wo.heap.size + 1 ≠ wo.heap.size; omega))); (try (have g24 : ∀ (W : World) (v : Value), (W.setCell ⟨wo.heap.size, 0, none⟩ v).cell? ⟨wd.heap.size, 0, none⟩ = W.cell? ⟨wd.heap.size, 0, none⟩ := fun W v => cell_far W v (by show wd.heap.size ≠ wo.heap.size; omega))); (try (have g25 : ∀ (W : World) (v : Value), (W.setCell ⟨wo.heap.size, 0, none⟩ v).cell? ⟨wd.heap.size + 1, 0, none⟩ = W.cell? ⟨wd.heap.size + 1, 0, none⟩ := fun W v => cell_far W v (by show wd.heap.size + 1 ≠ wo.heap.size; omega))); (try (have g30 : ∀ (W : World) (v : Value), (W.setCell ⟨wo.heap.size + 1, 0, none⟩ v).cell? ⟨W0.heap.size, 0, none⟩ = W.cell? ⟨W0.heap.size, 0, none⟩ := fun W v => cell_far W v (by show W0.heap.size ≠ wo.heap.size + 1; omega))); (try (have g31 : ∀ (W : World) (v : Value), (W.setCell ⟨wo.heap.size + 1, 0, none⟩ v).cell? ⟨W0.heap.size + 1, 0, none⟩ = W.cell? ⟨W0.heap.size + 1, 0, none⟩ := fun W v => cell_far W v (by show W0.heap.size + 1 ≠ wo.heap.size + 1; omega))); (try (have g32 : ∀ (W : World) (v : Value), (W.setCell ⟨wo.heap.size + 1, 0, none⟩ v).cell? ⟨wo.heap.size, 0, none⟩ = W.cell? ⟨wo.heap.size, 0, none⟩ := fun W v => cell_far W v (by show wo.heap.size ≠ wo.heap.size + 1; omega))); (try (have g34 : ∀ (W : World) (v : Value), (W.setCell ⟨wo.heap.size + 1, 0, none⟩ v).cell? ⟨wd.heap.size, 0, none⟩ = W.cell? ⟨wd.heap.size, 0, none⟩ := fun W v => cell_far W v (by show wd.heap.size ≠ wo.heap.size + 1; omega))); (try (have g35 : ∀ (W : World) (v : Value), (W.setCell ⟨wo.heap.size + 1, 0, none⟩ v).cell? ⟨wd.heap.size + 1, 0, none⟩ = W.cell? ⟨wd.heap.size + 1, 0, none⟩ := fun W v => cell_far W v (by show wd.heap.size + 1 ≠ wo.heap.size + 1; omega))); (try (have g40 : ∀ (W : World) (v : Value), (W.setCell ⟨wd.heap.size, 0, none⟩ v).cell? ⟨W0.heap.size, 0, none⟩ = W.cell? ⟨W0.heap.size, 0, none⟩ := fun W v => cell_far W v (by show W0.heap.size ≠ wd.heap.size; omega))); (try (have g41 : ∀ (W : World) (v : Value), (W.setCell ⟨wd.heap.size, 0, none⟩ v).cell? ⟨W0.heap.size + 1, 0, none⟩ = W.cell? ⟨W0.heap.size + 1, 0, none⟩ := fun W v => cell_far W v (by show W0.heap.size + 1 ≠ wd.heap.size; omega))); (try (have g42 : ∀ (W : World) (v : Value), (W.setCell ⟨wd.heap.size, 0, none⟩ v).cell? ⟨wo.heap.size, 0, none⟩ = W.cell? ⟨wo.heap.size, 0, none⟩ := fun W v => cell_far W v (by show wo.heap.size ≠ wd.heap.size; omega))); (try (have g43 : ∀ (W : World) (v : Value), (W.setCell ⟨wd.heap.size, 0, none⟩ v).cell? ⟨wo.heap.size + 1, 0, none⟩ = W.cell? ⟨wo.heap.size + 1, 0, none⟩ := fun W v => cell_far W v (by show wo.heap.size + 1 ≠ wd.heap.size; omega))); (try (have g45 : ∀ (W : World) (v : Value), (W.setCell ⟨wd.heap.size, 0, none⟩ v).cell? ⟨wd.heap.size + 1, 0, none⟩ = W.cell? ⟨wd.heap.size + 1, 0, none⟩ := fun W v => cell_far W v (by show wd.heap.size + 1 ≠ wd.heap.size; omega))); (try (have g50 : ∀ (W : World) (v : Value), (W.setCell ⟨wd.heap.size + 1, 0, none⟩ v).cell? ⟨W0.heap.size, 0, none⟩ = W.cell? ⟨W0.heap.size, 0, none⟩ := fun W v => cell_far W v (by show W0.heap.size ≠ wd.heap.size + 1; omega))); (try (have g51 : ∀ (W : World) (v : Value), (W.setCell ⟨wd.heap.size + 1, 0, none⟩ v).cell? ⟨W0.heap.size + 1, 0, none⟩ = W.cell? ⟨W0.heap.size + 1, 0, none⟩ := fun W v => cell_far W v (by show W0.heap.size + 1 ≠ wd.heap.size + 1; omega))); (try (have g52 : ∀ (W : World) (v : Value), (W.setCell ⟨wd.heap.size + 1, 0, none⟩ v).cell? ⟨wo.heap.size, 0, none⟩ = W.cell? ⟨wo.heap.size, 0, none⟩ := fun W v => cell_far W v (by show wo.heap.size ≠ wd.heap.size + 1; omega))); (try (have g53 : ∀ (W : World) (v : Value), (W.setCell ⟨wd.heap.size + 1, 0, none⟩ v).cell? ⟨wo.heap.size + 1, 0, none⟩ = W.cell? ⟨wo.heap.size + 1, 0, none⟩ := fun W v => cell_far W v (by show wo.heap.size + 1 ≠ wd.heap.size + 1; omega))); (try (have g54 : ∀ (W : World) (v : Value), (W.setCell ⟨wd.heap.size + 1, 0, none⟩ v).cell? ⟨wd.heap.size, 0, none⟩ = W.cell? ⟨wd.heap.size, 0, none⟩ := fun W v => cell_far W v (by show wd.heap.size ≠ wd.heap.size + 1; omega))); clear Bd Dd Dr) | (have KOa := Lib.hid (KO.out.box [.slice none 0 0] 24); (with_reducible refine (DN.out _ (HN8.out _ KOa.out.bel) ⟨KOa.out.get at0, ho, lo⟩).mono ?_); rintro e wd ⟨Ad, nd, cd, Ar, nr, cr, rfl, Bd, Dd, Dr, hd, hr, ld, lr⟩; have KD := Lib.hid (((KOa.out.call Bd).num Dd).num Dr); have HBd := Lib.hid Bd; have HDd := Lib.hid Dd; have HDr := Lib.hid Dr; have sd : W0.heap.size ≤ wd.heap.size := KD.out.bel.size; (try (have q0 := KD.out.cell0 at0; have qf := KD.out.free at0; have q0a := fun o => (KD.out.call ((Below.refl _ _).alloc (Nat.le_refl _) o)).cell0 at0; have qfa := fun o => (KD.out.call ((Below.refl _ _).alloc (Nat.le_refl _) o)).free at0)); (try (have q1 := KD.out.cell0 at1; have qg := KD.out.free at1)); have sx := Bd.size; (try simp only [size_alloc] at sx); (try (have g01 : ∀ (W : World) (v : Value), (W.setCell ⟨W0.heap.size, 0, none⟩ v).cell? ⟨W0.heap.size + 1, 0, none⟩ = W.cell? ⟨W0.heap.size + 1, 0, none⟩ := fun W v => cell_far W v (by show W0.heap.size + 1 ≠ W0.heap.size; omega))); (try (have g02 : ∀ (W : World) (v : Value), (W.setCell ⟨W0.heap.size, 0, none⟩ v).cell? ⟨wo.heap.size, 0, none⟩ = W.cell? ⟨wo.heap.size, 0, none⟩ := fun W v => cell_far W v (by show wo.heap.size ≠ W0.heap.size; omega))); (try (have g03 : ∀ (W : World) (v : Value), (W.setCell ⟨W0.heap.size, 0, none⟩ v).cell? ⟨wo.heap.size + 1, 0, none⟩ = W.cell? ⟨wo.heap.size + 1, 0, none⟩ := fun W v => cell_far W v (by show wo.heap.size + 1 ≠ W0.heap.size; omega))); (try (have g04 : ∀ (W : World) (v : Value), (W.setCell ⟨W0.heap.size, 0, none⟩ v).cell? ⟨wd.heap.size, 0, none⟩ = W.cell? ⟨wd.heap.size, 0, none⟩ := fun W v => cell_far W v (by show wd.heap.size ≠ W0.heap.size; omega))); (try (have g05 : ∀ (W : World) (v : Value), (W.setCell ⟨W0.heap.size, 0, none⟩ v).cell? ⟨wd.heap.size + 1, 0, none⟩ = W.cell? ⟨wd.heap.size + 1, 0, none⟩ := fun W v => cell_far W v (by show wd.heap.size + 1 ≠ W0.heap.size; omega))); (try (have g10 : ∀ (W : World) (v : Value), (W.setCell ⟨W0.heap.size + 1, 0, none⟩ v).cell? ⟨W0.heap.size, 0, none⟩ = W.cell? ⟨W0.heap.size, 0, none⟩ := fun W v => cell_far W v (by show W0.heap.size ≠ W0.heap.size + 1; omega))); (try (have g12 : ∀ (W : World) (v : Value), (W.setCell ⟨W0.heap.size + 1, 0, none⟩ v).cell? ⟨wo.heap.size, 0, none⟩ = W.cell? ⟨wo.heap.size, 0, none⟩ := fun W v => cell_far W v (by show wo.heap.size ≠ W0.heap.size + 1; omega))); (try (have g13 : ∀ (W : World) (v : Value), (W.setCell ⟨W0.heap.size + 1, 0, none⟩ v).cell? ⟨wo.heap.size + 1, 0, none⟩ = W.cell? ⟨wo.heap.size + 1, 0, none⟩ := fun W v => cell_far W v (by show wo.heap.size + 1 ≠ W0.heap.size + 1; omega))); (try (have g14 : ∀ (W : World) (v : Value), (W.setCell ⟨W0.heap.size + 1, 0, none⟩ v).cell? ⟨wd.heap.size, 0, none⟩ = W.cell? ⟨wd.heap.size, 0, none⟩ := fun W v => cell_far W v (by show wd.heap.size ≠ W0.heap.size + 1; omega))); (try (have g15 : ∀ (W : World) (v : Value), (W.setCell ⟨W0.heap.size + 1, 0, none⟩ v).cell? ⟨wd.heap.size + 1, 0, none⟩ = W.cell? ⟨wd.heap.size + 1, 0, none⟩ := fun W v => cell_far W v (by show wd.heap.size + 1 ≠ W0.heap.size + 1; omega))); (try (have g20 : ∀ (W : World) (v : Value), (W.setCell ⟨wo.heap.size, 0, none⟩ v).cell? ⟨W0.heap.size, 0, none⟩ = W.cell? ⟨W0.heap.size, 0, none⟩ := fun W v => cell_far W v (by show W0.heap.size ≠ wo.heap.size; omega))); (try (have g21 : ∀ (W : World) (v : Value), (W.setCell ⟨wo.heap.size, 0, none⟩ v).cell? ⟨W0.heap.size + 1, 0, none⟩ = W.cell? ⟨W0.heap.size + 1, 0, none⟩ := fun W v => cell_far W v (by show W0.heap.size + 1 ≠ wo.heap.size; omega))); (try (have g23 : ∀ (W : World) (v : Value), (W.setCell ⟨wo.heap.size, 0, none⟩ v).cell? ⟨wo.heap.size + 1, 0, none⟩ = W.cell? ⟨wo.heap.size + 1, 0, none⟩ := fun W v => cell_far W v (by show wo.heap.size + 1 ≠ wo.heap.size; omega))); (try (have g24 : ∀ (W : World) (v : Value), (W.setCell ⟨wo.heap.size, 0, none⟩ v).cell? ⟨wd.heap.size, 0, none⟩ = W.cell? ⟨wd.heap.size, 0, none⟩ := fun W v => cell_far W v (by show wd.heap.size ≠ wo.heap.size; omega))); (try (have g25 : ∀ (W : World) (v : Value), (W.setCell ⟨wo.heap.size, 0, none⟩ v).cell? ⟨wd.heap.size + 1, 0, none⟩ = W.cell? ⟨wd.heap.size + 1, 0, none⟩ := fun W v => cell_far W v (by show wd.heap.size + 1 ≠ wo.heap.size; omega))); (try (have g30 : ∀ (W : World) (v : Value), (W.setCell ⟨wo.heap.size + 1, 0, none⟩ v).cell? ⟨W0.heap.size, 0, none⟩ = W.cell? ⟨W0.heap.size, 0, none⟩ := fun W v => cell_far W v (by show W0.heap.size ≠ wo.heap.size + 1; omega))); (try (have g31 : ∀ (W : World) (v : Value), (W.setCell ⟨wo.heap.size + 1, 0, none⟩ v).cell? ⟨W0.heap.size + 1, 0, none⟩ = W.cell? ⟨W0.heap.size + 1, 0, none⟩ := fun W v => cell_far W v (by show W0.heap.size + 1 ≠ wo.heap.size + 1; omega))); (try (have g32 : ∀ (W : World) (v : Value), (W.setCell ⟨wo.heap.size + 1, 0, none⟩ v).cell? ⟨wo.heap.size, 0, none⟩ = W.cell? ⟨wo.heap.size, 0, none⟩ := fun W v => cell_far W v (by show wo.heap.size ≠ wo.heap.size + 1; omega))); (try (have g34 : ∀ (W : World) (v : Value), (W.setCell ⟨wo.heap.size + 1, 0, none⟩ v).cell? ⟨wd.heap.size, 0, none⟩ = W.cell? ⟨wd.heap.size, 0, none⟩ := fun W v => cell_far W v (by show wd.heap.size ≠ wo.heap.size + 1; omega))); (try (have g35 : ∀ (W : World) (v : Value), (W.setCell ⟨wo.heap.size + 1, 0, none⟩ v).cell? ⟨wd.heap.size + 1, 0, none⟩ = W.cell? ⟨wd.heap.size + 1, 0, none⟩ := fun W v => cell_far W v (by show wd.heap.size + 1 ≠ wo.heap.size + 1; omega))); (try (have g40 : ∀ (W : World) (v : Value), (W.setCell ⟨wd.heap.size, 0, none⟩ v).cell? ⟨W0.heap.size, 0, none⟩ = W.cell? ⟨W0.heap.size, 0, none⟩ := fun W v => cell_far W v (by show W0.heap.size ≠ wd.heap.size; omega))); (try (have g41 : ∀ (W : World) (v : Value), (W.setCell ⟨wd.heap.size, 0, none⟩ v).cell? ⟨W0.heap.size + 1, 0, none⟩ = W.cell? ⟨W0.heap.size + 1, 0, none⟩ := fun W v => cell_far W v (by show W0.heap.size + 1 ≠ wd.heap.size; omega))); (try (have g42 : ∀ (W : World) (v : Value), (W.setCell ⟨wd.heap.size, 0, none⟩ v).cell? ⟨wo.heap.size, 0, none⟩ = W.cell? ⟨wo.heap.size, 0, none⟩ := fun W v => cell_far W v (by show wo.heap.size ≠ wd.heap.size; omega))); (try (have g43 : ∀ (W : World) (v : Value), (W.setCell ⟨wd.heap.size, 0, none⟩ v).cell? ⟨wo.heap.size + 1, 0, none⟩ = W.cell? ⟨wo.heap.size + 1, 0, none⟩ := fun W v => cell_far W v (by show wo.heap.size + 1 ≠ wd.heap.size; omega))); (try (have g45 : ∀ (W : World) (v : Value), (W.setCell ⟨wd.heap.size, 0, none⟩ v).cell? ⟨wd.heap.size + 1, 0, none⟩ = W.cell? ⟨wd.heap.size + 1, 0, none⟩ := fun W v => cell_far W v (by show wd.heap.size + 1 ≠ wd.heap.size; omega))); (try (have g50 : ∀ (W : World) (v : Value), (W.setCell ⟨wd.heap.size + 1, 0, none⟩ v).cell? ⟨W0.heap.size, 0, none⟩ = W.cell? ⟨W0.heap.size, 0, none⟩ := fun W v => cell_far W v (by show W0.heap.size ≠ wd.heap.size + 1; omega))); (try (have g51 : ∀ (W : World) (v : Value), (W.setCell ⟨wd.heap.size + 1, 0, none⟩ v).cell? ⟨W0.heap.size + 1, 0, none⟩ = W.cell? ⟨W0.heap.size + 1, 0, none⟩ := fun W v => cell_far W v (by show W0.heap.size + 1 ≠ wd.heap.size + 1; omega))); (try (have g52 : ∀ (W : World) (v : Value), (W.setCell ⟨wd.heap.size + 1, 0, none⟩ v).cell? ⟨wo.heap.size, 0, none⟩ = W.cell? ⟨wo.heap.size, 0, none⟩ := fun W v => cell_far W v (by show wo.heap.size ≠ wd.heap.size + 1; omega))); (try (have g53 : ∀ (W : World) (v : Value), (W.setCell ⟨wd.heap.size + 1, 0, none⟩ v).cell? ⟨wo.heap.size + 1, 0, none⟩ = W.cell? ⟨wo.heap.size + 1, 0, none⟩ := fun W v => cell_far W v (by show wo.heap.size + 1 ≠ wd.heap.size + 1; omega))); (try (have g54 : ∀ (W : World) (v : Value), (W.setCell ⟨wd.heap.size + 1, 0, none⟩ v).cell? ⟨wd.heap.size, 0, none⟩ = W.cell? ⟨wd.heap.size, 0, none⟩ := fun W v => cell_far W v (by show wd.heap.size ≠ wd.heap.size + 1; omega))); clear Bd Dd Dr) | (have kOb := (KO.out.box [.slice none 0 0] 24).box [.slice none 0 0] 24; simp only [size_alloc] at kOb; have KOb := Lib.hid kOb; clear kOb; (with_reducible refine (DN.out _ (HN8.out _ KOb.out.bel) ⟨KOb.out.get at0, ho, lo⟩).mono ?_); rintro e wd ⟨Ad, nd, cd, Ar, nr, cr, rfl, Bd, Dd, Dr, hd, hr, ld, lr⟩; have KD := Lib.hid (((KOb.out.call Bd).num Dd).num Dr); have HBd := Lib.hid Bd; have HDd := Lib.hid Dd; have HDr := Lib.hid Dr; have sd : W0.heap.size ≤ wd.heap.size := KD.out.bel.size; (try (have q0 := KD.out.cell0 at0; have qf := KD.out.free at0; have q0a := fun o => (KD.out.call ((Below.refl _ _).alloc (Nat.le_refl _) o)).cell0 at0; have qfa := fun o => (KD.out.call ((Below.refl _ _).alloc (Nat.le_refl _) o)).free at0)); (try (have q1 := KD.out.cell0 at1; have qg := KD.out.free at1)); have sx := Bd.size; (try simp only [size_alloc] at sx); (try (have g01 : ∀ (W : World) (v : Value), (W.setCell ⟨W0.heap.size, 0, none⟩ v).cell? ⟨W0.heap.size + 1, 0, none⟩ = W.cell? ⟨W0.heap.size + 1, 0, none⟩ := fun W v => cell_far W v (by show W0.heap.size + 1 ≠ W0.heap.size; omega))); (try (have g02 : ∀ (W : World) (v : Value), (W.setCell ⟨W0.heap.size, 0, none⟩ v).cell? ⟨wo.heap.size, 0, none⟩ = W.cell? ⟨wo.heap.size, 0, none⟩ := fun W v => cell_far W v (by show wo.heap.size ≠ W0.heap.size; omega))); (try (have g03 : ∀ (W : World) (v : Value), (W.setCell ⟨W0.heap.size, 0, none⟩ v).cell? ⟨wo.heap.size + 1, 0, none⟩ = W.cell? ⟨wo.heap.size + 1, 0, none⟩ := fun W v => cell_far W v (by show wo.heap.size + 1 ≠ W0.heap.size; omega))); (try (have g04 : ∀ (W : World) (v : Value), (W.setCell ⟨W0.heap.size, 0, none⟩ v).cell? ⟨wd.heap.size, 0, none⟩ = W.cell? ⟨wd.heap.size, 0, none⟩ := fun W v => cell_far W v (by show wd.heap.size ≠ W0.heap.size; omega))); (try (have g05 : ∀ (W : World) (v : Value), (W.setCell ⟨W0.heap.size, 0, none⟩ v).cell? ⟨wd.heap.size + 1, 0, none⟩ = W.cell? ⟨wd.heap.size + 1, 0, none⟩ := fun W v => cell_far W v (by show wd.heap.size + 1 ≠ W0.heap.size; omega))); (try (have g10 : ∀ (W : World) (v : Value), (W.setCell ⟨W0.heap.size + 1, 0, none⟩ v).cell? ⟨W0.heap.size, 0, none⟩ = W.cell? ⟨W0.heap.size, 0, none⟩ := fun W v => cell_far W v (by show W0.heap.size ≠ W0.heap.size + 1; omega))); (try (have g12 : ∀ (W : World) (v : Value), (W.setCell ⟨W0.heap.size + 1, 0, none⟩ v).cell? ⟨wo.heap.size, 0, none⟩ = W.cell? ⟨wo.heap.size, 0, none⟩ := fun W v => cell_far W v (by show wo.heap.size ≠ W0.heap.size + 1; omega))); (try (have g13 : ∀ (W : World) (v : Value), (W.setCell ⟨W0.heap.size + 1, 0, none⟩ v).cell? ⟨wo.heap.size + 1, 0, none⟩ = W.cell? ⟨wo.heap.size + 1, 0, none⟩ := fun W v => cell_far W v (by show wo.heap.size + 1 ≠ W0.heap.size + 1; omega))); (try (have g14 : ∀ (W : World) (v : Value), (W.setCell ⟨W0.heap.size + 1, 0, none⟩ v).cell? ⟨wd.heap.size, 0, none⟩ = W.cell? ⟨wd.heap.size, 0, none⟩ := fun W v => cell_far W v (by show wd.heap.size ≠ W0.heap.size + 1; omega))); (try (have g15 : ∀ (W : World) (v : Value), (W.setCell ⟨W0.heap.size + 1, 0, none⟩ v).cell? ⟨wd.heap.size + 1, 0, none⟩ = W.cell? ⟨wd.heap.size + 1, 0, none⟩ := fun W v => cell_far W v (by show wd.heap.size + 1 ≠ W0.heap.size + 1; omega))); (try (have g20 : ∀ (W : World) (v : Value), (W.setCell ⟨wo.heap.size, 0, none⟩ v).cell? ⟨W0.heap.size, 0, none⟩ = W.cell? ⟨W0.heap.size, 0, none⟩ := fun W v => cell_far W v (by show W0.heap.size ≠ wo.heap.size; omega))); (try (have g21 : ∀ (W : World) (v : Value), (W.setCell ⟨wo.heap.size, 0, none⟩ v).cell? ⟨W0.heap.size + 1, 0, none⟩ = W.cell? ⟨W0.heap.size + 1, 0, none⟩ := fun W v => cell_far W v (by show W0.heap.size + 1 ≠ wo.heap.size; omega))); (try (have g23 : ∀ (W : World) (v : Value), (W.setCell ⟨wo.heap.size, 0, none⟩ v).cell? ⟨wo.heap.size + 1, 0, none⟩ = W.cell? ⟨wo.heap.size + 1, 0, none⟩ := fun W v => cell_far W v (by show wo.heap.size + 1 ≠ wo.heap.size; omega))); (try (have g24 : ∀ (W : World) (v : Value), (W.setCell ⟨wo.heap.size, 0, none⟩ v).cell? ⟨wd.heap.size, 0, none⟩ = W.cell? ⟨wd.heap.size, 0, none⟩ := fun W v => cell_far W v (by show wd.heap.size ≠ wo.heap.size; omega))); (try (have g25 : ∀ (W : World) (v : Value), (W.setCell ⟨wo.heap.size, 0, none⟩ v).cell? ⟨wd.heap.size + 1, 0, none⟩ = W.cell? ⟨wd.heap.size + 1, 0, none⟩ := fun W v => cell_far W v (by show wd.heap.size + 1 ≠ wo.heap.size; omega))); (try (have g30 : ∀ (W : World) (v : Value), (W.setCell ⟨wo.heap.size + 1, 0, none⟩ v).cell? ⟨W0.heap.size, 0, none⟩ = W.cell? ⟨W0.heap.size, 0, none⟩ := fun W v => cell_far W v (by show W0.heap.size ≠ wo.heap.size + 1; omega))); (try (have g31 : ∀ (W : World) (v : Value), (W.setCell ⟨wo.heap.size + 1, 0, none⟩ v).cell? ⟨W0.heap.size + 1, 0, none⟩ = W.cell? ⟨W0.heap.size + 1, 0, none⟩ := fun W v => cell_far W v (by show W0.heap.size + 1 ≠ wo.heap.size + 1; omega))); (try (have g32 : ∀ (W : World) (v : Value), (W.setCell ⟨wo.heap.size + 1, 0, none⟩ v).cell? ⟨wo.heap.size, 0, none⟩ = W.cell? ⟨wo.heap.size, 0, none⟩ := fun W v => cell_far W v (by show wo.heap.size ≠ wo.heap.size + 1; omega))); (try (have g34 : ∀ (W : World) (v : Value), (W.setCell ⟨wo.heap.size + 1, 0, none⟩ v).cell? ⟨wd.heap.size, 0, none⟩ = W.cell? ⟨wd.heap.size, 0, none⟩ := fun W v => cell_far W v (by show wd.heap.size ≠ wo.heap.size + 1; omega))); (try (have g35 : ∀ (W : World) (v : Value), (W.setCell ⟨wo.heap.size + 1, 0, none⟩ v).cell? ⟨wd.heap.size + 1, 0, none⟩ = W.cell? ⟨wd.heap.size + 1, 0, none⟩ := fun W v => cell_far W v (by show wd.heap.size + 1 ≠ wo.heap.size + 1; omega))); (try (have g40 : ∀ (W : World) (v : Value), (W.setCell ⟨wd.heap.size, 0, none⟩ v).cell? ⟨W0.heap.size, 0, none⟩ = W.cell? ⟨W0.heap.size, 0, none⟩ := fun W v => cell_far W v (by show W0.heap.size ≠ wd.heap.size; omega))); (try (have g41 : ∀ (W : World) (v : Value), (W.setCell ⟨wd.heap.size, 0, none⟩ v).cell? ⟨W0.heap.size + 1, 0, none⟩ = W.cell? ⟨W0.heap.size + 1, 0, none⟩ := fun W v => cell_far W v (by show W0.heap.size + 1 ≠ wd.heap.size; omega))); (try (have g42 : ∀ (W : World) (v : Value), (W.setCell ⟨wd.heap.size, 0, none⟩ v).cell? ⟨wo.heap.size, 0, none⟩ = W.cell? ⟨wo.heap.size, 0, none⟩ := fun W v => cell_far W v (by show wo.heap.size ≠ wd.heap.size; omega))); (try (have g43 : ∀ (W : World) (v : Value), (W.setCell ⟨wd.heap.size, 0, none⟩ v).cell? ⟨wo.heap.size + 1, 0, none⟩ = W.cell? ⟨wo.heap.size + 1, 0, none⟩ := fun W v => cell_far W v (by show wo.heap.size + 1 ≠ wd.heap.size; omega))); (try (have g45 : ∀ (W : World) (v : Value), (W.setCell ⟨wd.heap.size, 0, none⟩ v).cell? ⟨wd.heap.size + 1, 0, none⟩ = W.cell? ⟨wd.heap.size + 1, 0, none⟩ := fun W v => cell_far W v (by show wd.heap.size + 1 ≠ wd.heap.size; omega))); (try (have g50 : ∀ (W : World) (v : Value), (W.setCell ⟨wd.heap.size + 1, 0, none⟩ v).cell? ⟨W0.heap.size, 0, none⟩ = W.cell? ⟨W0.heap.size, 0, none⟩ := fun W v => cell_far W v (by show W0.heap.size ≠ wd.heap.size + 1; omega))); (try (have g51 : ∀ (W : World) (v : Value), (W.setCell ⟨wd.heap.size + 1, 0, none⟩ v).cell? ⟨W0.heap.size + 1, 0, none⟩ = W.cell? ⟨W0.heap.size + 1, 0, none⟩ := fun W v => cell_far W v (by show W0.heap.size + 1 ≠ wd.heap.size + 1; omega))); (try (have g52 : ∀ (W : World) (v : Value), (W.setCell ⟨wd.heap.size + 1, 0, none⟩ v).cell? ⟨wo.heap.size, 0, none⟩ = W.cell? ⟨wo.heap.size, 0, none⟩ := fun W v => cell_far W v (by show wo.heap.size ≠ wd.heap.size + 1; omega))); (try (have g53 : ∀ (W : World) (v : Value), (W.setCell ⟨wd.heap.size + 1, 0, none⟩ v).cell? ⟨wo.heap.size + 1, 0, none⟩ = W.cell? ⟨wo.heap.size + 1, 0, none⟩ := fun W v => cell_far W v (by show wo.heap.size + 1 ≠ wd.heap.size + 1; omega))); (try (have g54 : ∀ (W : World) (v : Value), (W.setCell ⟨wd.heap.size + 1, 0, none⟩ v).cell? ⟨wd.heap.size, 0, none⟩ = W.cell? ⟨wd.heap.size, 0, none⟩ := fun W v => cell_far W v (by show wd.heap.size ≠ wd.heap.size + 1; omega))); clear Bd Dd Dr)))
              | fail)
          all_goals (
            go_wp2_with fail
            go_meet
            first
              | exact out_new KD.out at1 at0 hd ld hr lr
              | exact out_wen KD.out at1 at0 hd ld hr lr
              | exact out_old KD.out at0 (by omega) at1 at0 hd ld hr lr
              | exact out_dlo KD.out at0 (by omega) at1 at0 hd ld hr lr
              | exact out_two KD.out at0 at1 (by omega) (by omega) (by omega) at1 at0 hd ld hr lr
              | exact out_two KD.out at1 at0 (by omega) (by omega) (by omega) at1 at0 hd ld hr lr)
        case rest =>
          clear r0 r1 r2 HN8 C8 DN
          obtain ⟨R9, R9r, A9, n9, c9, A9r, n9r, c9r, rfl, rfl, rfl, k9, h9, l9, h9r, l9r⟩ := hcut
          have K9 := Lib.hid (K8.out.thenK k9)
          clear k9 K8
          have x2_0 := K9.out.cell0 (b := w8.heap.size) at3
          have x4_0 := K9.out.cell0 (b := R9) at0
          have x5_0 := K9.out.cell0 (b := R9r) at1
          cases hp0 : ((p : Int) == 0)
          · have p1 : 1 ≤ p := by
              have : ¬ (p : Int) = 0 := by intro e; rw [e] at hp0; exact absurd hp0 (by decide)
              omega
            go_wp2_with fail
            refine (ref3_Format _ (K9.out.get at1) h9r).mono ?_
            rintro e w10 ⟨rfl, B10⟩
            have k10 := K9.out.call B10
            have x3_0 := k10.cell0 (b := R9) at0
            have BT := Lib.hid k10.bel
            have HY := Lib.hid fun W (hb : Below w10.heap.size w10 W) => ref3_Format (c := c9) W ((k10.call hb).get at0) h9
            have tp : 0 < 10 ^ p := Nat.pow_pos (by omega)
            have qs : (Nm.txt (q / t)).size ≤ 700 := by
              have h1 := Nt.fits_iff.1 hf
              have h2 : Nt.ln 4294967296 (q / t) ≤ 64 := Nat.le_trans (Nt.ln_mono (by omega) (Nat.le_trans (Nat.div_le_self _ _) (by rw [HQ.out]; exact Nat.div_le_self _ _))) h1
              have := Nm.txt_le h2
              omega
            have s0 : PadT (q % t) p 0 (Nm.txt (q % t)) := ⟨by rw [Nm.txt_list]; rfl, by
              have := Nm.digits_len p1 (show q % t < 10 ^ p by rw [HTT.out]; exact Nat.mod_lt _ tp)
              omega⟩
            have s1 := s0.size
            have s2 := s0.2
            have S0 := Lib.hid s0
            obtain ⟨Y, eY⟩ : ∃ Y : ByteArray, Y = Nm.txt (q / t) := ⟨_, rfl⟩
            have HEY : Hid (Y = Nm.txt (q / t)) := eY
            unfold Said at HY
            rw [← eY] at HY qs
            clear eY k10 B10 s0 tp
            go_wp2_with fail
            go_loopw [16, 17] (fun s i W => ∃ (k : Nat) (S : ByteArray), k ≤ 18 ∧ i = .int .i64 k ∧ s = .string S ∧ S.size ≤ 18 ∧ Hid (PadT (q % t) p k S) ∧ W = w10) (fun _ i _ => 18 - (intOf i).toNat)
            case atStart => exact ⟨0, _, by omega, rfl, rfl, by omega, S0, rfl⟩
            case round =>
              obtain ⟨k, S, hk, rfl, rfl, hS, HP, rfl⟩ := hrel
              by_cases hl : S.size < p
              · have h1 := HP.out.size
                have h2 := HP.out.2
                have h3 : (k : Int) < 18 := by omega
                have h4 : (S.size : Int) < (p : Int) := by omega
                have N := Lib.hid (HP.out.step hl)
                clear h1 h2
                go_wp2_with fail
                go_roundw
                case rel => exact ⟨k + 1, _, by omega, by go_num, rfl, by rw [ByteArray.size_append]; show 1 + S.size ≤ 18; omega, N, trivial⟩
                case measure => simp [intOf]; omega
              · have h1 := HP.out.size
                have h2 := HP.out.2
                have h5 : 1 ≤ (Lib.decDigits (q % t)).length := by
                  rcases h0 : Lib.decDigits (q % t) with _ | _
                  · exact absurd h0 (Nm.digits_ne _)
                  · simp
                have h3 : (k : Int) < 18 := by omega
                have h4 : ¬ (S.size : Int) < (p : Int) := by omega
                have F : Hid (Y ++ ⟨#[46]⟩ ++ S = Fr.decS q p) := by
                  have hp := HP.out
                  rw [HTT.out] at hp
                  show _ = _
                  rw [HEY.out, HTT.out]
                  exact hp.fin p1 hl
                clear h1 h2 h5
                go_wp2_with fail
                refine (HY.out _ (Below.refl _ _)).mono ?_
                rintro e w11 ⟨rfl, B11⟩
                have BB := Lib.hid (BT.out.trans (B11.mono BT.out.size))
                clear B11
                go_wp2_with fail
                go_ret2
                exact TRes.eq (F.out.trans (by rw [HQ.out])) BB.out
          · obtain rfl : p = 0 := by have := eq_of_beq hp0; omega
            go_wp2_with fail
            refine (ref3_Format _ (K9.out.get at3) h8).mono ?_
            rintro e w10 ⟨rfl, B10⟩
            go_wp2_with fail
            go_ret2
            refine TRes.eq ?_ (K9.out.call B10).bel
            rw [← HQ.out, Fr.decS, Fr.decL, if_pos rfl]; rfl
end
end Go.Proofs.YtcgbgaljjhopiaaGreatDoor
