/- What regions leave that draw their order and make numbers: one number kept in a variable of its own (OutN), two (OutN2). -/
import Derived.Test.YtfjnpmkklanopaaFA
namespace Go.Proofs.Ytfjnpmkklanopaa
set_option maxRecDepth 20000
open Go.RowKit
set_option linter.unusedVariables false
set_option linter.unusedSimpArgs false
theorem kAl1 {W : World} {b : Nat} {u : Value} {o : Obj} (h : W.cell? ⟨b, 0, none⟩ = some u) : (W.alloc o).cell? ⟨b, 0, none⟩ = some u :=
  (World.cell?_alloc_lt W o _ (World.block_lt_of_cell? W _ h)).trans h
theorem kAd1 {W : World} {b : Nat} {u : Value} {o : Obj} (h : W.drew.cell? ⟨b, 0, none⟩ = some u) : (W.alloc o).drew.cell? ⟨b, 0, none⟩ = some u := kAl1 (W := W) h
theorem kSt1 {W : World} {b R : Nat} {u : Value} (hb : Hid (b ≠ R)) (h : W.cell? ⟨b, 0, none⟩ = some u) {x : Value} : (W.setCell ⟨R, 0, none⟩ x).cell? ⟨b, 0, none⟩ = some u := (cell_far _ _ hb.out).trans h
theorem heap_put1 {W : World} {b : Nat} {u u' : Value} {T : TypeId} (h : W.heap[b]? = some (.cells #[u] T (0, 0))) : (W.setCell ⟨b, 0, none⟩ u').heap[b]? = some (.cells #[u'] T (0, 0)) := by
  simp [World.setCell, Array.getElem?_modify, h]
theorem Ks.put1 {w W : World} {bs bs' : List (Nat × List Value × TypeId)} {ns : List (Option Addr × Nat × Nat)} {R : Nat} {T : TypeId} {a0 : Option Addr} {l0 r0 : Nat} (h : Ks w W bs ns) (hR : (R, [.slice a0 l0 r0], T) ∈ bs) (hw : w.heap.size ≤ R)
    (hs : ∀ p ∈ bs', p ∈ bs ∧ p.1 ≠ R) (u : Value) : Ks w (W.setCell ⟨R, 0, none⟩ u) ((R, [u], T) :: bs') ns :=
  ⟨h.bel.setCell hw _, fun p hp => by
    rcases List.mem_cons.1 hp with rfl | hp
    · exact heap_put1 (h.b _ hR)
    · exact (Below.heap_setCell W ⟨R, 0, none⟩ u p.1 (hs p hp).2).trans (h.b p (hs p hp).1),
    fun p hp => ((h.n p hp).setAt (h.cell0 hR) (by intro i h; cases h) u).more (by rw [size_setCell]; exact Nat.le_refl _)⟩
/-- What a region leaves that makes a number and keeps it in a variable of its own, and an error. -/
def OutN (w W0 : World) (x : Nat) (er : Int) (s t : Value) (wx : World) : Prop :=
  ∃ R A n c, s = .pointer (some ⟨R, 0, none⟩) ∧ t = .int .i64 er ∧ (∀ bs ns, Ks w W0 bs ns → Ks w wx ((R, [.slice A n c], 24) :: bs) ((A, n, x) :: ns)) ∧ n ≤ 64 ∧ n ≤ c
theorem kStL {W : World} {b R : Nat} {u : Value} (hb : b < R) (h : W.cell? ⟨b, 0, none⟩ = some u) {x : Value} : (W.setCell ⟨R, 0, none⟩ x).cell? ⟨b, 0, none⟩ = some u := (cell_far _ _ (Nat.ne_of_lt hb)).trans h
/-- The same, for two numbers. -/
def OutN2 (W0 : World) (x y : Nat) (s t u : Value) (wx : World) : Prop :=
  ∃ R R' A n c A' n' c', s = .pointer (some ⟨R, 0, none⟩) ∧ t = .pointer (some ⟨R', 0, none⟩) ∧ u = .int .i64 0 ∧ Ks W0 wx [(R, [.slice A n c], 24), (R', [.slice A' n' c'], 24)] [(A, n, x), (A', n', y)] ∧ n ≤ 64 ∧ n ≤ c ∧ n' ≤ 64 ∧ n' ≤ c'
theorem Ks.thenK {w W0 wx : World} {bs bs' : List (Nat × List Value × TypeId)} {ns ns' : List (Option Addr × Nat × Nat)} (h : Ks w W0 bs ns) (h' : Ks W0 wx bs' ns') : Ks w wx (bs' ++ bs) (ns' ++ ns) :=
  have k := h.call h'.bel
  ⟨k.bel, fun p hp => by
    rcases List.mem_append.1 hp with hp | hp
    · exact h'.b p hp
    · exact k.b p hp, fun p hp => by
    rcases List.mem_append.1 hp with hp | hp
    · exact h'.n p hp
    · exact k.n p hp⟩
theorem OutN2.mk {W0 wx : World} {x y R R' n c n' c' : Nat} {A A' : Option Addr} {bs : List (Nat × List Value × TypeId)} {ns : List (Option Addr × Nat × Nat)} (h : Ks W0 wx bs ns) (h1 : (R, [.slice A n c], 24) ∈ bs) (h2 : (R', [.slice A' n' c'], 24) ∈ bs) (h3 : (A, n, x) ∈ ns) (h4 : (A', n', y) ∈ ns) (h5 : n ≤ 64) (h6 : n ≤ c) (h7 : n' ≤ 64) (h8 : n' ≤ c') :
    OutN2 W0 x y (.pointer (some ⟨R, 0, none⟩)) (.pointer (some ⟨R', 0, none⟩)) (.int .i64 0) wx :=
  ⟨R, R', A, n, c, A', n', c', rfl, rfl, rfl, h.less (fun p hp => by
    rcases List.mem_cons.1 hp with rfl | hp
    · exact h1
    · rcases List.mem_cons.1 hp with rfl | hp
      · exact h2
      · exact nomatch hp) (fun p hp => by
    rcases List.mem_cons.1 hp with rfl | hp
    · exact h3
    · rcases List.mem_cons.1 hp with rfl | hp
      · exact h4
      · exact nomatch hp), h5, h6, h7, h8⟩
section
variable {W0 wd : World} {bs : List (Nat × List Value × TypeId)} {ns : List (Option Addr × Nat × Nat)} {x y n c n' c' R R' l0 r0 l1 r1 : Nat} {A A' a0 a1 : Option Addr} (K : Ks W0 wd bs ns)
include K
theorem Ks.box2 (l l' : List Value) (T T' : TypeId) : Ks W0 ((wd.alloc (.cells l.toArray T)).alloc (.cells l'.toArray T')) ((wd.heap.size + 1, l', T') :: (wd.heap.size, l, T) :: bs) ns := by
  have h := (K.box l T).box l' T'
  simp only [size_alloc] at h
  exact h
theorem out_new (h3 : (A, n, x) ∈ ns) (h4 : (A', n', y) ∈ ns) (h5 : n ≤ 64) (h6 : n ≤ c) (h7 : n' ≤ 64) (h8 : n' ≤ c') :
    OutN2 W0 x y (.pointer (some ⟨wd.heap.size, 0, none⟩)) (.pointer (some ⟨wd.heap.size + 1, 0, none⟩)) (.int .i64 0) ((wd.alloc (.cells #[.slice A n c] 24)).alloc (.cells #[.slice A' n' c'] 24)) :=
  OutN2.mk (K.box2 [.slice A n c] [.slice A' n' c'] _ _) at1 at0 h3 h4 h5 h6 h7 h8
theorem out_wen (h3 : (A, n, x) ∈ ns) (h4 : (A', n', y) ∈ ns) (h5 : n ≤ 64) (h6 : n ≤ c) (h7 : n' ≤ 64) (h8 : n' ≤ c') :
    OutN2 W0 x y (.pointer (some ⟨wd.heap.size + 1, 0, none⟩)) (.pointer (some ⟨wd.heap.size, 0, none⟩)) (.int .i64 0) ((wd.alloc (.cells #[.slice A' n' c'] 24)).alloc (.cells #[.slice A n c] 24)) :=
  OutN2.mk (K.box2 [.slice A' n' c'] [.slice A n c] _ _) at0 at1 h3 h4 h5 h6 h7 h8
theorem out_old (hR : (R, [.slice a0 l0 r0], 24) ∈ bs) (hw : W0.heap.size ≤ R) (h3 : (A, n, x) ∈ ns) (h4 : (A', n', y) ∈ ns) (h5 : n ≤ 64) (h6 : n ≤ c) (h7 : n' ≤ 64) (h8 : n' ≤ c') :
    OutN2 W0 x y (.pointer (some ⟨R, 0, none⟩)) (.pointer (some ⟨wd.heap.size, 0, none⟩)) (.int .i64 0) (((wd.alloc (.cells #[.slice none 0 0] 24)).setCell ⟨R, 0, none⟩ (.slice A n c)).setCell ⟨wd.heap.size, 0, none⟩ (.slice A' n' c')) := by
  have hl := K.lt hR
  have k1 := (K.box [.slice none 0 0] 24).put1 (bs' := [(wd.heap.size, [.slice none 0 0], 24)]) (List.mem_cons_of_mem _ hR) hw (fun p hp => by
    rcases List.mem_cons.1 hp with rfl | hp
    · exact ⟨at0, by show wd.heap.size ≠ R; omega⟩
    · exact nomatch hp) (.slice A n c)
  have k2 := k1.put1 (bs' := [(R, [.slice A n c], 24)]) at1 K.bel.size (fun p hp => by
    rcases List.mem_cons.1 hp with rfl | hp
    · exact ⟨at0, by show R ≠ wd.heap.size; omega⟩
    · exact nomatch hp) (.slice A' n' c')
  exact OutN2.mk k2 at1 at0 h3 h4 h5 h6 h7 h8
theorem out_dlo (hR : (R, [.slice a0 l0 r0], 24) ∈ bs) (hw : W0.heap.size ≤ R) (h3 : (A, n, x) ∈ ns) (h4 : (A', n', y) ∈ ns) (h5 : n ≤ 64) (h6 : n ≤ c) (h7 : n' ≤ 64) (h8 : n' ≤ c') :
    OutN2 W0 x y (.pointer (some ⟨wd.heap.size, 0, none⟩)) (.pointer (some ⟨R, 0, none⟩)) (.int .i64 0) ((wd.alloc (.cells #[.slice A n c] 24)).setCell ⟨R, 0, none⟩ (.slice A' n' c')) := by
  have hl := K.lt hR
  have k1 := (K.box [.slice A n c] 24).put1 (bs' := [(wd.heap.size, [.slice A n c], 24)]) (List.mem_cons_of_mem _ hR) hw (fun p hp => by
    rcases List.mem_cons.1 hp with rfl | hp
    · exact ⟨at0, by show wd.heap.size ≠ R; omega⟩
    · exact nomatch hp) (.slice A' n' c')
  exact OutN2.mk k1 at1 at0 h3 h4 h5 h6 h7 h8
theorem out_two (hR : (R, [.slice a0 l0 r0], 24) ∈ bs) (hR' : (R', [.slice a1 l1 r1], 24) ∈ bs) (hw : W0.heap.size ≤ R) (hw' : W0.heap.size ≤ R') (hn : R ≠ R') (h3 : (A, n, x) ∈ ns) (h4 : (A', n', y) ∈ ns) (h5 : n ≤ 64) (h6 : n ≤ c) (h7 : n' ≤ 64) (h8 : n' ≤ c') :
    OutN2 W0 x y (.pointer (some ⟨R, 0, none⟩)) (.pointer (some ⟨R', 0, none⟩)) (.int .i64 0) ((wd.setCell ⟨R, 0, none⟩ (.slice A n c)).setCell ⟨R', 0, none⟩ (.slice A' n' c')) := by
  have k1 := K.put1 (bs' := [(R', [.slice a1 l1 r1], 24)]) hR hw (fun p hp => by
    rcases List.mem_cons.1 hp with rfl | hp
    · exact ⟨hR', fun e => hn e.symm⟩
    · exact nomatch hp) (.slice A n c)
  have k2 := k1.put1 (bs' := [(R, [.slice A n c], 24)]) at1 hw' (fun p hp => by
    rcases List.mem_cons.1 hp with rfl | hp
    · exact ⟨at0, hn⟩
    · exact nomatch hp) (.slice A' n' c')
  exact OutN2.mk k2 at1 at0 h3 h4 h5 h6 h7 h8
end
end Go.Proofs.Ytfjnpmkklanopaa
