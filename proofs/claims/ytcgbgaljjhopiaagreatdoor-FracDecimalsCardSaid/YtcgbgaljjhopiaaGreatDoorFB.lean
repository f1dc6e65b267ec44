/- What a step of frac.calculate's closure keeps and leaves. frac.calculate's closure, with each operation that it is given. (Written by tools/frac4.py.) The closures of frac.Add, frac.Sub, frac.Mul and frac.Div: a fraction's parts, step by step. (Written by tools/frac5.py.) frac.calculate with each of the four closures. (Written by tools/frac6.py.) frac.Add, frac.Sub, frac.Mul and frac.Div for every argument. (Written by tools/frac6.py.) -/
import Derived.Test.YtcgbgaljjhopiaaGreatDoorFA
import Derived.Test.YtcgbgaljjhopiaaGreatDoorNatX
namespace Go.Proofs.YtcgbgaljjhopiaaGreatDoor
set_option maxRecDepth 20000
open Go.RowKit
set_option linter.unusedVariables false
set_option linter.unusedSimpArgs false
/-- The variable that holds the first error. -/
def EBox (w : World) (F : Nat) (e : Int) : Prop := w.heap[F]? = some (.cells #[.int .i64 e] 29 (0, 0))
theorem EBox.cell {w : World} {F : Nat} {e : Int} (h : EBox w F e) : w.cell? ⟨F, 0, none⟩ = some (.int .i64 e) := cell_of_one h
theorem EBox.free {w : World} {F : Nat} {e : Int} (h : EBox w F e) (i : Nat) : w.frozen? ⟨F, i, none⟩ = false := by
  unfold EBox at h; simp [World.frozen?, h]
theorem EBox.lt {w : World} {F : Nat} {e : Int} (h : EBox w F e) : F < w.heap.size := lt_of_block h
theorem EBox.set {w : World} {F : Nat} {e e' : Int} (h : EBox w F e) : EBox (w.setCell ⟨F, 0, none⟩ (.int .i64 e')) F e' := one_setCell h
theorem EBox.far {w : World} {F : Nat} {e : Int} (h : EBox w F e) {p : Addr} (hp : F ≠ p.block) (u : Value) : EBox (w.setCell p u) F e := (Below.heap_setCell w p u F hp).trans h
theorem EBox.on {w w' : World} {F B : Nat} {e : Int} (h : EBox w F e) (hb : Below B w w') (hg : F < B) : EBox w' F e := (hb.block F hg).trans h
theorem EBox.no {w : World} {F : Nat} {e : Int} (h : EBox w F e) {a : Addr} (ha : a.block = F) {i : Int} : w.cell? a ≠ some (.int .u32 i) := by
  obtain ⟨b, o, s⟩ := a
  obtain rfl : b = F := ha
  unfold EBox at h
  intro hc
  cases s with
  | none =>
    simp only [World.cell?, h] at hc
    rcases o with _ | o <;> simp at hc
  | some s => simp [World.cell?, h] at hc
theorem IsN.err {w w' : World} {B F n x : Nat} {e : Int} {A : Option Addr} (h : IsN w B A n x) (hf : EBox w F e) (hg : w.grownBy w' (some F)) (hB : B ≤ w.heap.size) : IsN w' B A n x :=
  ⟨fun hn => by
    obtain ⟨ad, e, hb, hd⟩ := h.d hn
    refine ⟨ad, e, hb, fun j hj => ?_⟩
    have h1 : ad.block ≠ F := fun ha => hf.no (a := ad.add j) (by rw [block_of_add]; exact ha) (hd j hj)
    rw [World.cell?_of_block (w := w) (w' := w') (hg.block _ (by rw [block_of_add]; omega) (by rw [block_of_add]; intro e; injection e with e; exact h1 e))]
    exact hd j hj, h.l⟩
/-- The first of two errors. -/
def Fr.ec (e0 e : Int) : Int := if e0 = 0 then e else e0
/-- What a step leaves: a number; the first error. -/
def Nx (F : Nat) (e0 : Int) (x : Nat) (er : Int) (w : World) (e : Ending) (w' : World) : Prop :=
  ∃ A n c, e = .returned (.agg #[.slice A n c]) ∧ w.grownBy w' (some F) ∧ EBox w' F (Fr.ec e0 er) ∧ IsN w' w'.heap.size A n x ∧ n ≤ 64 ∧ n ≤ c
theorem Nx.stored {w W : World} {bs : List (Nat × List Value × TypeId)} {ns : List (Option Addr × Nat × Nat)} {F R n c x : Nat} {e0 er : Int} {T : TypeId} {A : Option Addr} (K : Ks w W bs ns) (hF : EBox W F e0) (h0 : e0 ≠ 0) (hR : (R, [.slice none 0 0], T) ∈ bs) (hw : w.heap.size ≤ R) (hFR : F < w.heap.size)
    (hn : IsN W W.heap.size A n x) (h1 : n ≤ 64) (h2 : n ≤ c) : Nx F e0 x er w (.returned (.agg #[.slice A n c])) (W.setCell ⟨R, 0, none⟩ (.slice A n c)) :=
  ⟨A, n, c, rfl, grown_set (grown_of_below K.bel) (.inr hw) _, by rw [Fr.ec, if_neg h0]; exact hF.far (by show F ≠ R; omega) _, (hn.setAt (K.cell0 hR) (by intro i h; cases h) _).more (by rw [size_setCell]; exact Nat.le_refl _), h1, h2⟩
theorem Nx.stored2 {w W : World} {bs : List (Nat × List Value × TypeId)} {ns : List (Option Addr × Nat × Nat)} {F R n c x : Nat} {e0 er : Int} {T : TypeId} {A : Option Addr} (K : Ks w W bs ns) (hF : EBox W F e0) (h0 : e0 = 0) (hR : (R, [.slice none 0 0], T) ∈ bs) (hw : w.heap.size ≤ R) (hFR : F < w.heap.size)
    (hn : IsN W W.heap.size A n x) (h1 : n ≤ 64) (h2 : n ≤ c) : Nx F e0 x er w (.returned (.agg #[.slice A n c])) ((W.setCell ⟨F, 0, none⟩ (.int .i64 er)).setCell ⟨R, 0, none⟩ (.slice A n c)) :=
  ⟨A, n, c, rfl, grown_set (grown_set (grown_of_below K.bel) (.inl rfl) _) (.inr hw) _, by rw [Fr.ec, if_pos h0]; exact hF.set.far (by show F ≠ R; omega) _,
    ((hn.setAt hF.cell (by intro i h; cases h) _).setAt ((cell_far W _ (by show R ≠ F; omega)).trans (K.cell0 hR)) (by intro i h; cases h) _).more (by rw [size_setCell, size_setCell]; exact Nat.le_refl _), h1, h2⟩
theorem nat_Mul_nums {n c m j x y : Nat} {A C : Option Addr} (w : World) (h : NumAt w A n c x) (h' : NumAt w C m j y) :
    Calls Tryz.prog 20 #[.agg #[.slice A n c], .agg #[.slice C m j]] w (NRes (Nt.bv (x * y)) (Nt.be (x * y)) w) := nat_Mul_ok w h.d h'.d h.h h'.h
theorem nat_Add_nums {n c m j x y : Nat} {A C : Option Addr} (w : World) (h : NumAt w A n c x) (h' : NumAt w C m j y) :
    Calls Tryz.prog 32 #[.agg #[.slice A n c], .agg #[.slice C m j]] w (NRes (Nt.bv (x + y)) (Nt.be (x + y)) w) := nat_Add_ok w h.d h'.d h.h h'.h
def Nt.se (x y : Nat) : Int := if x < y then 2 else 0
theorem nat_Sub_nums {n c m j x y : Nat} {A C : Option Addr} (w : World) (h : NumAt w A n c x) (h' : NumAt w C m j y) :
    Calls Tryz.prog 34 #[.agg #[.slice A n c], .agg #[.slice C m j]] w (NRes (x - y) (Nt.se x y) w) := by
  unfold Nt.se
  by_cases hl : x < y
  · rw [if_pos hl, show x - y = 0 by omega]; exact nat_Sub_less w h.d h'.d h.h h'.h hl
  · rw [if_neg hl]; exact nat_Sub_ok w h.d h'.d h.h h'.h h.l (by omega)
end Go.Proofs.YtcgbgaljjhopiaaGreatDoor
namespace Go.Proofs.YtcgbgaljjhopiaaGreatDoor
set_option maxRecDepth 20000
open Go.RowKit
set_option linter.unusedVariables false
set_option linter.unusedSimpArgs false
section
variable {n c m j x y F : Nat} {A C : Option Addr} {e0 : Int}
set_option maxHeartbeats 400000 in
theorem next_Mul (w : World) (h : NumAt w A n c x) (h' : NumAt w C m j y) (hF : EBox w F e0) :
    Calls Tryz.prog 65 #[.func (.func 20) #[] #[], .agg #[.slice A n c], .agg #[.slice C m j], .pointer (some ⟨F, 0, none⟩)] w (Nx F e0 (Nt.bv (x * y)) (Nt.be (x * y)) w) := by
  have k0 := ((Ks.start w).box [.slice A n c] 24).box [.slice C m j] 24
  have k0 := k0.box [.slice none 0 0] 24
  simp only [size_alloc] at k0
  have c1 := fun W (hb : Below w.heap.size w W) => nat_Mul_nums W (h.on hb) (h'.on hb)
  obtain ⟨v, ev⟩ : ∃ v, v = Nt.bv (x * y) := ⟨_, rfl⟩
  obtain ⟨er, ee⟩ : ∃ er, er = Nt.be (x * y) := ⟨_, rfl⟩
  rw [← ev, ← ee] at c1 ⊢
  have C1 := Lib.hid c1
  have K0 := Lib.hid k0
  have HF := Lib.hid hF
  have hlt := hF.lt
  clear k0 c1 ev ee h h' hF
  by_cases he : e0 = 0
  · go_enter Tryz.func65, Tryz.ntmps65
    go_wp2_with fail
    refine (C1.out _ K0.out.bel).mono ?_
    rintro e w1 ⟨A1, n1, c1, rfl, B1, D1, h1, l1⟩
    have hw1 := B1.size
    simp only [size_alloc] at hw1
    have k1 := ((K0.out.call B1).num D1).box [.slice A1 n1 c1] 24
    have K1 := Lib.hid k1
    clear k1 B1 D1
    have x0_0 := K1.out.cell0 at3
    have x1_0 := K1.out.cell0 at2
    have x2_0 := K1.out.cell0 at1
    have f1 : Hid (EBox (w1.alloc (.cells #[.slice A1 n1 c1] 24)) F e0) := HF.out.on K1.out.bel hlt
    have xf := f1.out.cell
    have zf := f1.out.free 0
    have z2 := K1.out.free at1 0
    have h0 : (e0 == 0) = true := by simp [he]
    have hR := Lib.hid (Nx.stored2 (er := er) K1.out f1.out he at1 (by omega) hlt (K1.out.get at0) h1 l1)
    have kf : ∀ (W : World) (v : Value), (W.setCell ⟨F, 0, none⟩ v).cell? ⟨w.heap.size + 1 + 1, 0, none⟩ = W.cell? ⟨w.heap.size + 1 + 1, 0, none⟩ := fun W v => cell_far W v (by show w.heap.size + 1 + 1 ≠ F; omega)
    have kg : ∀ (W : World) (v : Value), (W.setCell ⟨F, 0, none⟩ v).cell? ⟨w1.heap.size, 0, none⟩ = W.cell? ⟨w1.heap.size, 0, none⟩ := fun W v => cell_far W v (by show w1.heap.size ≠ F; omega)
    have xg := K1.out.cell0 at0
    clear he
    go_wp2_with fail
    refine bodyPost_ret (v := .agg #[.slice A1 n1 c1]) (by simp [results, Tryz.results65, go_sem, x2_0, kf]) rfl ?_
    exact hR.out
  · go_enter Tryz.func65, Tryz.ntmps65
    go_wp2_with fail
    refine (C1.out _ K0.out.bel).mono ?_
    rintro e w1 ⟨A1, n1, c1, rfl, B1, D1, h1, l1⟩
    have hw1 := B1.size
    simp only [size_alloc] at hw1
    have k1 := ((K0.out.call B1).num D1).box [.slice A1 n1 c1] 24
    have K1 := Lib.hid k1
    clear k1 B1 D1
    have x0_0 := K1.out.cell0 at3
    have x1_0 := K1.out.cell0 at2
    have x2_0 := K1.out.cell0 at1
    have f1 : Hid (EBox (w1.alloc (.cells #[.slice A1 n1 c1] 24)) F e0) := HF.out.on K1.out.bel hlt
    have xf := f1.out.cell
    have zf := f1.out.free 0
    have z2 := K1.out.free at1 0
    have h0 : (e0 == 0) = false := by simp [he]
    have hR := Lib.hid (Nx.stored (er := er) K1.out f1.out he at1 (by omega) hlt (K1.out.get at0) h1 l1)
    clear he
    go_wp2_with fail
    refine bodyPost_ret (v := .agg #[.slice A1 n1 c1]) (by simp [results, Tryz.results65, go_sem, x2_0]) rfl ?_
    exact hR.out
set_option maxHeartbeats 400000 in
theorem next_Add (w : World) (h : NumAt w A n c x) (h' : NumAt w C m j y) (hF : EBox w F e0) :
    Calls Tryz.prog 65 #[.func (.func 32) #[] #[], .agg #[.slice A n c], .agg #[.slice C m j], .pointer (some ⟨F, 0, none⟩)] w (Nx F e0 (Nt.bv (x + y)) (Nt.be (x + y)) w) := by
  have k0 := ((Ks.start w).box [.slice A n c] 24).box [.slice C m j] 24
  have k0 := k0.box [.slice none 0 0] 24
  simp only [size_alloc] at k0
  have c1 := fun W (hb : Below w.heap.size w W) => nat_Add_nums W (h.on hb) (h'.on hb)
  obtain ⟨v, ev⟩ : ∃ v, v = Nt.bv (x + y) := ⟨_, rfl⟩
  obtain ⟨er, ee⟩ : ∃ er, er = Nt.be (x + y) := ⟨_, rfl⟩
  rw [← ev, ← ee] at c1 ⊢
  have C1 := Lib.hid c1
  have K0 := Lib.hid k0
  have HF := Lib.hid hF
  have hlt := hF.lt
  clear k0 c1 ev ee h h' hF
  by_cases he : e0 = 0
  · go_enter Tryz.func65, Tryz.ntmps65
    go_wp2_with fail
    refine (C1.out _ K0.out.bel).mono ?_
    rintro e w1 ⟨A1, n1, c1, rfl, B1, D1, h1, l1⟩
    have hw1 := B1.size
    simp only [size_alloc] at hw1
    have k1 := ((K0.out.call B1).num D1).box [.slice A1 n1 c1] 24
    have K1 := Lib.hid k1
    clear k1 B1 D1
    have x0_0 := K1.out.cell0 at3
    have x1_0 := K1.out.cell0 at2
    have x2_0 := K1.out.cell0 at1
    have f1 : Hid (EBox (w1.alloc (.cells #[.slice A1 n1 c1] 24)) F e0) := HF.out.on K1.out.bel hlt
    have xf := f1.out.cell
    have zf := f1.out.free 0
    have z2 := K1.out.free at1 0
    have h0 : (e0 == 0) = true := by simp [he]
    have hR := Lib.hid (Nx.stored2 (er := er) K1.out f1.out he at1 (by omega) hlt (K1.out.get at0) h1 l1)
    have kf : ∀ (W : World) (v : Value), (W.setCell ⟨F, 0, none⟩ v).cell? ⟨w.heap.size + 1 + 1, 0, none⟩ = W.cell? ⟨w.heap.size + 1 + 1, 0, none⟩ := fun W v => cell_far W v (by show w.heap.size + 1 + 1 ≠ F; omega)
    have kg : ∀ (W : World) (v : Value), (W.setCell ⟨F, 0, none⟩ v).cell? ⟨w1.heap.size, 0, none⟩ = W.cell? ⟨w1.heap.size, 0, none⟩ := fun W v => cell_far W v (by show w1.heap.size ≠ F; omega)
    have xg := K1.out.cell0 at0
    clear he
    go_wp2_with fail
    refine bodyPost_ret (v := .agg #[.slice A1 n1 c1]) (by simp [results, Tryz.results65, go_sem, x2_0, kf]) rfl ?_
    exact hR.out
  · go_enter Tryz.func65, Tryz.ntmps65
    go_wp2_with fail
    refine (C1.out _ K0.out.bel).mono ?_
    rintro e w1 ⟨A1, n1, c1, rfl, B1, D1, h1, l1⟩
    have hw1 := B1.size
    simp only [size_alloc] at hw1
    have k1 := ((K0.out.call B1).num D1).box [.slice A1 n1 c1] 24
    have K1 := Lib.hid k1
    clear k1 B1 D1
    have x0_0 := K1.out.cell0 at3
    have x1_0 := K1.out.cell0 at2
    have x2_0 := K1.out.cell0 at1
    have f1 : Hid (EBox (w1.alloc (.cells #[.slice A1 n1 c1] 24)) F e0) := HF.out.on K1.out.bel hlt
    have xf := f1.out.cell
    have zf := f1.out.free 0
    have z2 := K1.out.free at1 0
    have h0 : (e0 == 0) = false := by simp [he]
    have hR := Lib.hid (Nx.stored (er := er) K1.out f1.out he at1 (by omega) hlt (K1.out.get at0) h1 l1)
    clear he
    go_wp2_with fail
    refine bodyPost_ret (v := .agg #[.slice A1 n1 c1]) (by simp [results, Tryz.results65, go_sem, x2_0]) rfl ?_
    exact hR.out
set_option maxHeartbeats 400000 in
theorem next_Sub (w : World) (h : NumAt w A n c x) (h' : NumAt w C m j y) (hF : EBox w F e0) :
    Calls Tryz.prog 65 #[.func (.func 34) #[] #[], .agg #[.slice A n c], .agg #[.slice C m j], .pointer (some ⟨F, 0, none⟩)] w (Nx F e0 (x - y) (Nt.se x y) w) := by
  have k0 := ((Ks.start w).box [.slice A n c] 24).box [.slice C m j] 24
  have k0 := k0.box [.slice none 0 0] 24
  simp only [size_alloc] at k0
  have c1 := fun W (hb : Below w.heap.size w W) => nat_Sub_nums W (h.on hb) (h'.on hb)
  obtain ⟨v, ev⟩ : ∃ v, v = x - y := ⟨_, rfl⟩
  obtain ⟨er, ee⟩ : ∃ er, er = Nt.se x y := ⟨_, rfl⟩
  rw [← ev, ← ee] at c1 ⊢
  have C1 := Lib.hid c1
  have K0 := Lib.hid k0
  have HF := Lib.hid hF
  have hlt := hF.lt
  clear k0 c1 ev ee h h' hF
  by_cases he : e0 = 0
  · go_enter Tryz.func65, Tryz.ntmps65
    go_wp2_with fail
    refine (C1.out _ K0.out.bel).mono ?_
    rintro e w1 ⟨A1, n1, c1, rfl, B1, D1, h1, l1⟩
    have hw1 := B1.size
    simp only [size_alloc] at hw1
    have k1 := ((K0.out.call B1).num D1).box [.slice A1 n1 c1] 24
    have K1 := Lib.hid k1
    clear k1 B1 D1
    have x0_0 := K1.out.cell0 at3
    have x1_0 := K1.out.cell0 at2
    have x2_0 := K1.out.cell0 at1
    have f1 : Hid (EBox (w1.alloc (.cells #[.slice A1 n1 c1] 24)) F e0) := HF.out.on K1.out.bel hlt
    have xf := f1.out.cell
    have zf := f1.out.free 0
    have z2 := K1.out.free at1 0
    have h0 : (e0 == 0) = true := by simp [he]
    have hR := Lib.hid (Nx.stored2 (er := er) K1.out f1.out he at1 (by omega) hlt (K1.out.get at0) h1 l1)
    have kf : ∀ (W : World) (v : Value), (W.setCell ⟨F, 0, none⟩ v).cell? ⟨w.heap.size + 1 + 1, 0, none⟩ = W.cell? ⟨w.heap.size + 1 + 1, 0, none⟩ := fun W v => cell_far W v (by show w.heap.size + 1 + 1 ≠ F; omega)
    have kg : ∀ (W : World) (v : Value), (W.setCell ⟨F, 0, none⟩ v).cell? ⟨w1.heap.size, 0, none⟩ = W.cell? ⟨w1.heap.size, 0, none⟩ := fun W v => cell_far W v (by show w1.heap.size ≠ F; omega)
    have xg := K1.out.cell0 at0
    clear he
    go_wp2_with fail
    refine bodyPost_ret (v := .agg #[.slice A1 n1 c1]) (by simp [results, Tryz.results65, go_sem, x2_0, kf]) rfl ?_
    exact hR.out
  · go_enter Tryz.func65, Tryz.ntmps65
    go_wp2_with fail
    refine (C1.out _ K0.out.bel).mono ?_
    rintro e w1 ⟨A1, n1, c1, rfl, B1, D1, h1, l1⟩
    have hw1 := B1.size
    simp only [size_alloc] at hw1
    have k1 := ((K0.out.call B1).num D1).box [.slice A1 n1 c1] 24
    have K1 := Lib.hid k1
    clear k1 B1 D1
    have x0_0 := K1.out.cell0 at3
    have x1_0 := K1.out.cell0 at2
    have x2_0 := K1.out.cell0 at1
    have f1 : Hid (EBox (w1.alloc (.cells #[.slice A1 n1 c1] 24)) F e0) := HF.out.on K1.out.bel hlt
    have xf := f1.out.cell
    have zf := f1.out.free 0
    have z2 := K1.out.free at1 0
    have h0 : (e0 == 0) = false := by simp [he]
    have hR := Lib.hid (Nx.stored (er := er) K1.out f1.out he at1 (by omega) hlt (K1.out.get at0) h1 l1)
    clear he
    go_wp2_with fail
    refine bodyPost_ret (v := .agg #[.slice A1 n1 c1]) (by simp [results, Tryz.results65, go_sem, x2_0]) rfl ?_
    exact hR.out
end
end Go.Proofs.YtcgbgaljjhopiaaGreatDoor
namespace Go.Proofs.YtcgbgaljjhopiaaGreatDoor
set_option maxRecDepth 20000
open Go.RowKit
set_option linter.unusedVariables false
set_option linter.unusedSimpArgs false
/-- What steps keep: all but block F, which holds the first error; variables, and numbers. -/
structure Kc (F : Nat) (w W : World) (e : Int) (bs : List (Nat × List Value × TypeId)) (ns : List (Option Addr × Nat × Nat)) : Prop where
  gr : w.grownBy W (some F)
  fb : EBox W F e
  b : ∀ p ∈ bs, p.1 ≠ F ∧ W.heap[p.1]? = some (.cells p.2.1.toArray p.2.2 (0, 0))
  n : ∀ p ∈ ns, IsN W W.heap.size p.1 p.2.1 p.2.2
theorem grown_trans {w w1 w2 : World} {F : Nat} (h : w.grownBy w1 (some F)) (h' : w1.grownBy w2 (some F)) : w.grownBy w2 (some F) :=
  ⟨h'.os.trans h.os, h'.tape.trans h.tape, h'.output.trans h.output, Nat.le_trans h.size h'.size, fun k hk hne => (h'.block k (Nat.lt_of_lt_of_le hk h.size) hne).trans (h.block k hk hne)⟩
section
variable {F : Nat} {w W W' : World} {e e' : Int} {bs bs' : List (Nat × List Value × TypeId)} {ns : List (Option Addr × Nat × Nat)} {b : Nat} {u v : Value} {l : List Value} {T : TypeId}
theorem Kc.next (h : Kc F w W e bs ns) (hg : W.grownBy W' (some F)) (hf : EBox W' F e') : Kc F w W' e' bs ns :=
  ⟨grown_trans h.gr hg, hf, fun p hp => ⟨(h.b p hp).1, (hg.block p.1 (lt_of_block (h.b p hp).2) (by intro e; injection e with e; exact (h.b p hp).1 e)).trans (h.b p hp).2⟩,
    fun p hp => ((h.n p hp).err h.fb hg (Nat.le_refl _)).more hg.size⟩
theorem Kc.num (h : Kc F w W e bs ns) {A : Option Addr} {n x : Nat} (hn : IsN W W.heap.size A n x) : Kc F w W e bs ((A, n, x) :: ns) :=
  ⟨h.gr, h.fb, h.b, fun p hp => by
    rcases List.mem_cons.1 hp with rfl | hp
    · exact hn
    · exact h.n p hp⟩
theorem Kc.get (h : Kc F w W e bs ns) {A : Option Addr} {n x : Nat} (hp : (A, n, x) ∈ ns) : IsN W W.heap.size A n x := h.n _ hp
theorem Kc.cell0 (h : Kc F w W e bs ns) (hp : (b, v :: l, T) ∈ bs) : W.cell? ⟨b, 0, none⟩ = some v := by
  rw [cell_of_row W b 0 _ T (0, 0) (h.b _ hp).2]; rfl
theorem Kc.cell1 (h : Kc F w W e bs ns) (hp : (b, u :: v :: l, T) ∈ bs) : W.cell? ⟨b, 1, none⟩ = some v := by
  rw [cell_of_row W b 1 _ T (0, 0) (h.b _ hp).2]; rfl
theorem Kc.free (h : Kc F w W e bs ns) (hp : (b, l, T) ∈ bs) (i : Nat) : W.frozen? ⟨b, i, none⟩ = false := by
  have := (h.b _ hp).2
  simp [World.frozen?, this]
theorem Kc.put (h : Kc F w W e bs ns) {a : Option Addr} {m r : Nat} (hp : (b, [.slice a m r], T) ∈ bs) (hb : w.heap.size ≤ b) (hs : ∀ p ∈ bs', p ∈ bs ∧ p.1 ≠ b) (v : Value) : Kc F w (W.setCell ⟨b, 0, none⟩ v) e ((b, [v], T) :: bs') ns :=
  have hF := (h.b _ hp).1
  have c0 := h.cell0 hp
  ⟨grown_set h.gr (.inr hb) _, h.fb.far (by show F ≠ b; exact fun e => hF e.symm) _, fun p hp' => by
    rcases List.mem_cons.1 hp' with rfl | hp'
    · exact ⟨hF, by have := (h.b _ hp).2; simp [World.setCell, Array.getElem?_modify, this]⟩
    · exact ⟨(h.b p (hs p hp').1).1, (Below.heap_setCell W ⟨b, 0, none⟩ v p.1 (hs p hp').2).trans (h.b p (hs p hp').1).2⟩,
    fun p hp' => ((h.n p hp').setAt c0 (by intro i h; cases h) _).more (by rw [size_setCell]; exact Nat.le_refl _)⟩
end
theorem NumAt.err {w W : World} {A : Option Addr} {n c x F : Nat} {e : Int} (h : NumAt w A n c x) (hF : EBox w F e) (hg : w.grownBy W (some F)) : NumAt W A n c x := ⟨(h.d.err hF hg (Nat.le_refl _)).more hg.size, h.h, h.l⟩
/-- What the parts' closures leave: two numbers; the first error. -/
def Px (F x y : Nat) (er : Int) (w : World) (e : Ending) (w' : World) : Prop :=
  ∃ A n c A' n' c', e = .returned (.tuple #[.agg #[.slice A n c], .agg #[.slice A' n' c']]) ∧ w.grownBy w' (some F) ∧ EBox w' F er ∧ NumAt w' A n c x ∧ NumAt w' A' n' c' y
section
variable {F bf bg R e5 : Nat} {e : Int} {w W : World} {u0 u1 v0 v1 z0 z1 : Value} {T T' T0 T1 : TypeId} {ns : List (Option Addr × Nat × Nat)}
theorem kP (h : Hid (Kc F w W e [(R + 1, [z1], T1), (R, [z0], T0), (bg, [v0, v1], T'), (bf, [u0, u1], T)] ns)) :
    W.cell? ⟨bf, 0, none⟩ = some u0 ∧ W.cell? ⟨bf, 1, none⟩ = some u1 ∧ W.cell? ⟨bg, 0, none⟩ = some v0 ∧ W.cell? ⟨bg, 1, none⟩ = some v1 ∧ W.cell? ⟨R, 0, none⟩ = some (cellOf W R 0) ∧ W.cell? ⟨R + 1, 0, none⟩ = some (cellOf W (R + 1) 0) ∧ W.frozen? ⟨R, 0, none⟩ = false ∧ W.frozen? ⟨R + 1, 0, none⟩ = false :=
  ⟨h.out.cell0 at3, h.out.cell1 at3, h.out.cell0 at2, h.out.cell1 at2, cellOf_eq (h.out.cell0 at1), cellOf_eq (h.out.cell0 at0), h.out.free at1 0, h.out.free at0 0⟩
theorem kP0 {x : Value} (hf : Hid (bf < R)) (hg : Hid (bg < R))
    (h : W.cell? ⟨bf, 0, none⟩ = some u0 ∧ W.cell? ⟨bf, 1, none⟩ = some u1 ∧ W.cell? ⟨bg, 0, none⟩ = some v0 ∧ W.cell? ⟨bg, 1, none⟩ = some v1 ∧ W.cell? ⟨R, 0, none⟩ = some (cellOf W R 0) ∧ W.cell? ⟨R + 1, 0, none⟩ = some (cellOf W (R + 1) 0) ∧ W.frozen? ⟨R, 0, none⟩ = false ∧ W.frozen? ⟨R + 1, 0, none⟩ = false)
    {W' : World} (hW : W' = W.setCell ⟨R, 0, none⟩ x) :
    W'.cell? ⟨bf, 0, none⟩ = some u0 ∧ W'.cell? ⟨bf, 1, none⟩ = some u1 ∧ W'.cell? ⟨bg, 0, none⟩ = some v0 ∧ W'.cell? ⟨bg, 1, none⟩ = some v1 ∧ W'.cell? ⟨R, 0, none⟩ = some (cellOf W' R 0) ∧ W'.cell? ⟨R + 1, 0, none⟩ = some (cellOf W' (R + 1) 0) ∧ W'.frozen? ⟨R, 0, none⟩ = false ∧ W'.frozen? ⟨R + 1, 0, none⟩ = false := by
  subst hW
  have nf : bf ≠ R := Nat.ne_of_lt hf.out
  have ng : bg ≠ R := Nat.ne_of_lt hg.out
  obtain ⟨h1, h2, h3, h4, h5, h6, h7, h8⟩ := h
  exact ⟨(cell_far W _ nf).trans h1, (cell_far W _ nf).trans h2, (cell_far W _ ng).trans h3, (cell_far W _ ng).trans h4, cellOf_eq (cell_put h5), cellOf_eq ((cell_far W _ (by show R + 1 ≠ R; omega)).trans h6), by simpa using h7, by simpa using h8⟩
theorem kP1 {x : Value} (hf : Hid (bf < R)) (hg : Hid (bg < R))
    (h : W.cell? ⟨bf, 0, none⟩ = some u0 ∧ W.cell? ⟨bf, 1, none⟩ = some u1 ∧ W.cell? ⟨bg, 0, none⟩ = some v0 ∧ W.cell? ⟨bg, 1, none⟩ = some v1 ∧ W.cell? ⟨R, 0, none⟩ = some (cellOf W R 0) ∧ W.cell? ⟨R + 1, 0, none⟩ = some (cellOf W (R + 1) 0) ∧ W.frozen? ⟨R, 0, none⟩ = false ∧ W.frozen? ⟨R + 1, 0, none⟩ = false)
    {W' : World} (hW : W' = W.setCell ⟨R + 1, 0, none⟩ x) :
    W'.cell? ⟨bf, 0, none⟩ = some u0 ∧ W'.cell? ⟨bf, 1, none⟩ = some u1 ∧ W'.cell? ⟨bg, 0, none⟩ = some v0 ∧ W'.cell? ⟨bg, 1, none⟩ = some v1 ∧ W'.cell? ⟨R, 0, none⟩ = some (cellOf W' R 0) ∧ W'.cell? ⟨R + 1, 0, none⟩ = some (cellOf W' (R + 1) 0) ∧ W'.frozen? ⟨R, 0, none⟩ = false ∧ W'.frozen? ⟨R + 1, 0, none⟩ = false := by
  subst hW
  have nf : bf ≠ R + 1 := by have := hf.out; omega
  have ng : bg ≠ R + 1 := by have := hg.out; omega
  obtain ⟨h1, h2, h3, h4, h5, h6, h7, h8⟩ := h
  exact ⟨(cell_far W _ nf).trans h1, (cell_far W _ nf).trans h2, (cell_far W _ ng).trans h3, (cell_far W _ ng).trans h4, cellOf_eq ((cell_far W _ (by show R ≠ R + 1; omega)).trans h5), cellOf_eq (cell_put h6), by simpa using h7, by simpa using h8⟩
end
section
variable {n c n' c' m j m' j' a b p q F bf bg : Nat} {A A' C C' : Option Addr}
set_option maxHeartbeats 1000000 in
theorem parts_Mul (w : World) (ha : NumAt w A n c a) (hb : NumAt w A' n' c' b) (hc : NumAt w C m j p) (hd : NumAt w C' m' j' q) (hF : EBox w F 0)
    (hbf : bf ≠ F ∧ w.heap[bf]? = some (.cells #[.slice A n c, .slice A' n' c'] 26 (0, 0))) (hbg : bg ≠ F ∧ w.heap[bg]? = some (.cells #[.slice C m j, .slice C' m' j'] 26 (0, 0))) :
    Calls Tryz.prog 35 #[.func (.func 65) #[] #[.pointer (some ⟨F, 0, none⟩)], .pointer (some ⟨bf, 0, none⟩), .pointer (some ⟨bg, 0, none⟩)] w (Px F (Nt.bv (a * p)) (Nt.bv (b * q)) (Fr.ec (Fr.ec 0 (Nt.be (a * p))) (Nt.be (b * q))) w) := by
  have e0 := ((Ks.start w).box [.slice none 0 0] 24).box [.slice none 0 0] 24
  simp only [size_alloc] at e0
  have hlt := hF.lt
  have lf := lt_of_block hbf.2
  have lg := lt_of_block hbg.2
  have e1 := e0.call (Below.refl _ _).drew
  have K0 : Hid (Kc F w ((w.alloc (.cells #[.slice none 0 0] 24)).alloc (.cells #[.slice none 0 0] 24)).drew 0 [(w.heap.size + 1, [.slice none 0 0], 24), (w.heap.size, [.slice none 0 0], 24), (bg, [.slice C m j, .slice C' m' j'], 26), (bf, [.slice A n c, .slice A' n' c'], 26)] []) :=
    ⟨grown_of_below e1.bel, hF.on e1.bel hlt, fun r hr => by
      simp only [List.mem_cons, List.not_mem_nil, or_false] at hr
      rcases hr with rfl | rfl | rfl | rfl
      · exact ⟨by show w.heap.size + 1 ≠ F; omega, e1.b _ at0⟩
      · exact ⟨by show w.heap.size ≠ F; omega, e1.b _ at1⟩
      · exact ⟨hbg.1, (e1.bel.block bg lg).trans hbg.2⟩
      · exact ⟨hbf.1, (e1.bel.block bf lf).trans hbf.2⟩, fun r hr => nomatch hr⟩
  have HA := Lib.hid ha
  have HB := Lib.hid hb
  have HC := Lib.hid hc
  have HD := Lib.hid hd
  have HF := Lib.hid hF
  have HBF := Lib.hid lf
  have HBG := Lib.hid lg
  clear e0 e1 hlt lf lg ha hb hc hd hF hbf hbg
  go_enter Tryz.func35, Tryz.ntmps35
  go_wp2_with fail
  go_region_held3 (fun W => W.cell? ⟨bf, 0, none⟩ = some (.slice A n c) ∧ W.cell? ⟨bf, 1, none⟩ = some (.slice A' n' c') ∧ W.cell? ⟨bg, 0, none⟩ = some (.slice C m j) ∧ W.cell? ⟨bg, 1, none⟩ = some (.slice C' m' j') ∧ W.cell? ⟨w.heap.size, 0, none⟩ = some (cellOf W w.heap.size 0) ∧ W.cell? ⟨w.heap.size + 1, 0, none⟩ = some (cellOf W (w.heap.size + 1) 0) ∧ W.frozen? ⟨w.heap.size, 0, none⟩ = false ∧ W.frozen? ⟨w.heap.size + 1, 0, none⟩ = false)
    (first | (with_reducible exact kP (by assumption)) | (exact kP0 HBF HBG (by assumption) rfl) | (exact kP1 HBF HBG (by assumption) rfl))
    (first
      | (go_at_call 65; (with_reducible refine (next_Mul _ (HA.out.err HF.out K0.out.gr) (HC.out.err HF.out K0.out.gr) K0.out.fb).mono ?_); rintro e w1 ⟨A1, n1, c1, rfl, G1, E1, D1, h1, l1⟩; have K1 := Lib.hid ((K0.out.next G1 E1).num D1); clear G1 E1 D1)
      | (go_at_call 65; (with_reducible refine (next_Mul _ (HB.out.err HF.out K1.out.gr) (HD.out.err HF.out K1.out.gr) K1.out.fb).mono ?_); rintro e w2 ⟨A2, n2, c2, rfl, G2, E2, D2, h2, l2⟩; have K2 := Lib.hid ((K1.out.next G2 E2).num D2); clear G2 E2 D2)
      | fail)
  have p4 := K2.out.put (bs' := [(w.heap.size + 1, [.slice none 0 0], 24)]) at1 (Nat.le_refl _) (fun r hr => by
    simp only [List.mem_cons, List.not_mem_nil, or_false] at hr
    subst hr
    exact ⟨at0, by show w.heap.size + 1 ≠ w.heap.size; omega⟩) (.slice A1 n1 c1)
  have p5 := p4.put (bs' := [(w.heap.size, [.slice A1 n1 c1], 24)]) at1 (by omega) (fun r hr => by
    simp only [List.mem_cons, List.not_mem_nil, or_false] at hr
    subst hr
    exact ⟨at0, by show w.heap.size ≠ w.heap.size + 1; omega⟩) (.slice A2 n2 c2)
  have P5 := Lib.hid p5
  have x4 := p5.cell0 at1
  have x5 := p5.cell0 at0
  clear p4 p5
  go_wp2_with fail
  refine bodyPost_ret (v := .tuple #[.agg #[.slice A1 n1 c1], .agg #[.slice A2 n2 c2]]) (by simp [results, Tryz.results35, go_sem, x4, x5]) rfl ?_
  exact ⟨_, _, _, _, _, _, rfl, P5.out.gr, P5.out.fb, ⟨P5.out.get at1, h1, l1⟩, ⟨P5.out.get at0, h2, l2⟩⟩
set_option maxHeartbeats 1000000 in
theorem parts_Div (w : World) (ha : NumAt w A n c a) (hb : NumAt w A' n' c' b) (hc : NumAt w C m j p) (hd : NumAt w C' m' j' q) (hF : EBox w F 0)
    (hbf : bf ≠ F ∧ w.heap[bf]? = some (.cells #[.slice A n c, .slice A' n' c'] 26 (0, 0))) (hbg : bg ≠ F ∧ w.heap[bg]? = some (.cells #[.slice C m j, .slice C' m' j'] 26 (0, 0))) :
    Calls Tryz.prog 36 #[.func (.func 65) #[] #[.pointer (some ⟨F, 0, none⟩)], .pointer (some ⟨bf, 0, none⟩), .pointer (some ⟨bg, 0, none⟩)] w (Px F (Nt.bv (a * q)) (Nt.bv (b * p)) (Fr.ec (Fr.ec 0 (Nt.be (a * q))) (Nt.be (b * p))) w) := by
  have e0 := ((Ks.start w).box [.slice none 0 0] 24).box [.slice none 0 0] 24
  simp only [size_alloc] at e0
  have hlt := hF.lt
  have lf := lt_of_block hbf.2
  have lg := lt_of_block hbg.2
  have e1 := e0.call (Below.refl _ _).drew
  have K0 : Hid (Kc F w ((w.alloc (.cells #[.slice none 0 0] 24)).alloc (.cells #[.slice none 0 0] 24)).drew 0 [(w.heap.size + 1, [.slice none 0 0], 24), (w.heap.size, [.slice none 0 0], 24), (bg, [.slice C m j, .slice C' m' j'], 26), (bf, [.slice A n c, .slice A' n' c'], 26)] []) :=
    ⟨grown_of_below e1.bel, hF.on e1.bel hlt, fun r hr => by
      simp only [List.mem_cons, List.not_mem_nil, or_false] at hr
      rcases hr with rfl | rfl | rfl | rfl
      · exact ⟨by show w.heap.size + 1 ≠ F; omega, e1.b _ at0⟩
      · exact ⟨by show w.heap.size ≠ F; omega, e1.b _ at1⟩
      · exact ⟨hbg.1, (e1.bel.block bg lg).trans hbg.2⟩
      · exact ⟨hbf.1, (e1.bel.block bf lf).trans hbf.2⟩, fun r hr => nomatch hr⟩
  have HA := Lib.hid ha
  have HB := Lib.hid hb
  have HC := Lib.hid hc
  have HD := Lib.hid hd
  have HF := Lib.hid hF
  have HBF := Lib.hid lf
  have HBG := Lib.hid lg
  clear e0 e1 hlt lf lg ha hb hc hd hF hbf hbg
  go_enter Tryz.func36, Tryz.ntmps36
  go_wp2_with fail
  go_region_held3 (fun W => W.cell? ⟨bf, 0, none⟩ = some (.slice A n c) ∧ W.cell? ⟨bf, 1, none⟩ = some (.slice A' n' c') ∧ W.cell? ⟨bg, 0, none⟩ = some (.slice C m j) ∧ W.cell? ⟨bg, 1, none⟩ = some (.slice C' m' j') ∧ W.cell? ⟨w.heap.size, 0, none⟩ = some (cellOf W w.heap.size 0) ∧ W.cell? ⟨w.heap.size + 1, 0, none⟩ = some (cellOf W (w.heap.size + 1) 0) ∧ W.frozen? ⟨w.heap.size, 0, none⟩ = false ∧ W.frozen? ⟨w.heap.size + 1, 0, none⟩ = false)
    (first | (with_reducible exact kP (by assumption)) | (exact kP0 HBF HBG (by assumption) rfl) | (exact kP1 HBF HBG (by assumption) rfl))
    (first
      | (go_at_call 65; (with_reducible refine (next_Mul _ (HA.out.err HF.out K0.out.gr) (HD.out.err HF.out K0.out.gr) K0.out.fb).mono ?_); rintro e w1 ⟨A1, n1, c1, rfl, G1, E1, D1, h1, l1⟩; have K1 := Lib.hid ((K0.out.next G1 E1).num D1); clear G1 E1 D1)
      | (go_at_call 65; (with_reducible refine (next_Mul _ (HB.out.err HF.out K1.out.gr) (HC.out.err HF.out K1.out.gr) K1.out.fb).mono ?_); rintro e w2 ⟨A2, n2, c2, rfl, G2, E2, D2, h2, l2⟩; have K2 := Lib.hid ((K1.out.next G2 E2).num D2); clear G2 E2 D2)
      | fail)
  have p4 := K2.out.put (bs' := [(w.heap.size + 1, [.slice none 0 0], 24)]) at1 (Nat.le_refl _) (fun r hr => by
    simp only [List.mem_cons, List.not_mem_nil, or_false] at hr
    subst hr
    exact ⟨at0, by show w.heap.size + 1 ≠ w.heap.size; omega⟩) (.slice A1 n1 c1)
  have p5 := p4.put (bs' := [(w.heap.size, [.slice A1 n1 c1], 24)]) at1 (by omega) (fun r hr => by
    simp only [List.mem_cons, List.not_mem_nil, or_false] at hr
    subst hr
    exact ⟨at0, by show w.heap.size ≠ w.heap.size + 1; omega⟩) (.slice A2 n2 c2)
  have P5 := Lib.hid p5
  have x4 := p5.cell0 at1
  have x5 := p5.cell0 at0
  clear p4 p5
  go_wp2_with fail
  refine bodyPost_ret (v := .tuple #[.agg #[.slice A1 n1 c1], .agg #[.slice A2 n2 c2]]) (by simp [results, Tryz.results36, go_sem, x4, x5]) rfl ?_
  exact ⟨_, _, _, _, _, _, rfl, P5.out.gr, P5.out.fb, ⟨P5.out.get at1, h1, l1⟩, ⟨P5.out.get at0, h2, l2⟩⟩
end
section
variable {F bf bg R : Nat} {e : Int} {w W : World} {u0 u1 v0 v1 z0 z1 : Value} {T T' T0 T1 : TypeId} {ns : List (Option Addr × Nat × Nat)}
theorem kT (h : Hid (Kc F w W e [(R, [z0], T0), (R + 1, [z1], T1), (bg, [v0, v1], T'), (bf, [u0, u1], T)] ns)) :
    W.cell? ⟨bf, 0, none⟩ = some u0 ∧ W.cell? ⟨bf, 1, none⟩ = some u1 ∧ W.cell? ⟨bg, 0, none⟩ = some v0 ∧ W.cell? ⟨bg, 1, none⟩ = some v1 ∧ W.cell? ⟨R, 0, none⟩ = some z0 ∧ W.cell? ⟨R + 1, 0, none⟩ = some (cellOf W (R + 1) 0) ∧ W.frozen? ⟨R, 0, none⟩ = false ∧ W.frozen? ⟨R + 1, 0, none⟩ = false :=
  ⟨h.out.cell0 at3, h.out.cell1 at3, h.out.cell0 at2, h.out.cell1 at2, h.out.cell0 at0, cellOf_eq (h.out.cell0 at1), h.out.free at0 0, h.out.free at1 0⟩
theorem kT0 (hf : Hid (bf < R)) (hg : Hid (bg < R))
    (h : W.cell? ⟨bf, 0, none⟩ = some u0 ∧ W.cell? ⟨bf, 1, none⟩ = some u1 ∧ W.cell? ⟨bg, 0, none⟩ = some v0 ∧ W.cell? ⟨bg, 1, none⟩ = some v1 ∧ W.cell? ⟨R, 0, none⟩ = some z0 ∧ W.cell? ⟨R + 1, 0, none⟩ = some (cellOf W (R + 1) 0) ∧ W.frozen? ⟨R, 0, none⟩ = false ∧ W.frozen? ⟨R + 1, 0, none⟩ = false)
    {W' : World} (hW : W' = W.setCell ⟨R, 0, none⟩ z0) :
    W'.cell? ⟨bf, 0, none⟩ = some u0 ∧ W'.cell? ⟨bf, 1, none⟩ = some u1 ∧ W'.cell? ⟨bg, 0, none⟩ = some v0 ∧ W'.cell? ⟨bg, 1, none⟩ = some v1 ∧ W'.cell? ⟨R, 0, none⟩ = some z0 ∧ W'.cell? ⟨R + 1, 0, none⟩ = some (cellOf W' (R + 1) 0) ∧ W'.frozen? ⟨R, 0, none⟩ = false ∧ W'.frozen? ⟨R + 1, 0, none⟩ = false := by
  subst hW
  have nf : bf ≠ R := Nat.ne_of_lt hf.out
  have ng : bg ≠ R := Nat.ne_of_lt hg.out
  obtain ⟨h1, h2, h3, h4, h5, h6, h7, h8⟩ := h
  exact ⟨(cell_far W _ nf).trans h1, (cell_far W _ nf).trans h2, (cell_far W _ ng).trans h3, (cell_far W _ ng).trans h4, cell_put h5, cellOf_eq ((cell_far W _ (by show R + 1 ≠ R; omega)).trans h6), by simpa using h7, by simpa using h8⟩
theorem kT1 {x : Value} (hf : Hid (bf < R)) (hg : Hid (bg < R))
    (h : W.cell? ⟨bf, 0, none⟩ = some u0 ∧ W.cell? ⟨bf, 1, none⟩ = some u1 ∧ W.cell? ⟨bg, 0, none⟩ = some v0 ∧ W.cell? ⟨bg, 1, none⟩ = some v1 ∧ W.cell? ⟨R, 0, none⟩ = some z0 ∧ W.cell? ⟨R + 1, 0, none⟩ = some (cellOf W (R + 1) 0) ∧ W.frozen? ⟨R, 0, none⟩ = false ∧ W.frozen? ⟨R + 1, 0, none⟩ = false)
    {W' : World} (hW : W' = W.setCell ⟨R + 1, 0, none⟩ x) :
    W'.cell? ⟨bf, 0, none⟩ = some u0 ∧ W'.cell? ⟨bf, 1, none⟩ = some u1 ∧ W'.cell? ⟨bg, 0, none⟩ = some v0 ∧ W'.cell? ⟨bg, 1, none⟩ = some v1 ∧ W'.cell? ⟨R, 0, none⟩ = some z0 ∧ W'.cell? ⟨R + 1, 0, none⟩ = some (cellOf W' (R + 1) 0) ∧ W'.frozen? ⟨R, 0, none⟩ = false ∧ W'.frozen? ⟨R + 1, 0, none⟩ = false := by
  subst hW
  have nf : bf ≠ R + 1 := by have := hf.out; omega
  have ng : bg ≠ R + 1 := by have := hg.out; omega
  obtain ⟨h1, h2, h3, h4, h5, h6, h7, h8⟩ := h
  exact ⟨(cell_far W _ nf).trans h1, (cell_far W _ nf).trans h2, (cell_far W _ ng).trans h3, (cell_far W _ ng).trans h4, (cell_far W _ (by show R ≠ R + 1; omega)).trans h5, cellOf_eq (cell_put h6), by simpa using h7, by simpa using h8⟩
end
section
variable {n c n' c' m j m' j' a b p q F bf bg : Nat} {A A' C C' : Option Addr}
set_option maxHeartbeats 1000000 in
theorem parts_Add (w : World) (ha : NumAt w A n c a) (hb : NumAt w A' n' c' b) (hc : NumAt w C m j p) (hd : NumAt w C' m' j' q) (hF : EBox w F 0)
    (hbf : bf ≠ F ∧ w.heap[bf]? = some (.cells #[.slice A n c, .slice A' n' c'] 26 (0, 0))) (hbg : bg ≠ F ∧ w.heap[bg]? = some (.cells #[.slice C m j, .slice C' m' j'] 26 (0, 0))) :
    Calls Tryz.prog 31 #[.func (.func 65) #[] #[.pointer (some ⟨F, 0, none⟩)], .pointer (some ⟨bf, 0, none⟩), .pointer (some ⟨bg, 0, none⟩)] w (Px F (Nt.bv (Nt.bv (a * q) + Nt.bv (p * b))) (Nt.bv (b * q)) (Fr.ec (Fr.ec (Fr.ec (Fr.ec 0 (Nt.be (a * q))) (Nt.be (p * b))) (Nt.be (Nt.bv (a * q) + Nt.bv (p * b)))) (Nt.be (b * q))) w) := by
  have e0 := ((Ks.start w).box [.slice none 0 0] 24).box [.slice none 0 0] 24
  simp only [size_alloc] at e0
  have hlt := hF.lt
  have lf := lt_of_block hbf.2
  have lg := lt_of_block hbg.2
  have e1 := e0.call (Below.refl _ _).drew
  have K0 : Hid (Kc F w ((w.alloc (.cells #[.slice none 0 0] 24)).alloc (.cells #[.slice none 0 0] 24)).drew 0 [(w.heap.size + 1, [.slice none 0 0], 24), (w.heap.size, [.slice none 0 0], 24), (bg, [.slice C m j, .slice C' m' j'], 26), (bf, [.slice A n c, .slice A' n' c'], 26)] []) :=
    ⟨grown_of_below e1.bel, hF.on e1.bel hlt, fun r hr => by
      simp only [List.mem_cons, List.not_mem_nil, or_false] at hr
      rcases hr with rfl | rfl | rfl | rfl
      · exact ⟨by show w.heap.size + 1 ≠ F; omega, e1.b _ at0⟩
      · exact ⟨by show w.heap.size ≠ F; omega, e1.b _ at1⟩
      · exact ⟨hbg.1, (e1.bel.block bg lg).trans hbg.2⟩
      · exact ⟨hbf.1, (e1.bel.block bf lf).trans hbf.2⟩, fun r hr => nomatch hr⟩
  have HA := Lib.hid ha
  have HB := Lib.hid hb
  have HC := Lib.hid hc
  have HD := Lib.hid hd
  have HF := Lib.hid hF
  have HBF := Lib.hid lf
  have HBG := Lib.hid lg
  clear e0 e1 hlt lf lg ha hb hc hd hF hbf hbg
  go_enter Tryz.func31, Tryz.ntmps31
  go_wp2_with fail
  go_region_held3 (fun W => W.cell? ⟨bf, 0, none⟩ = some (.slice A n c) ∧ W.cell? ⟨bf, 1, none⟩ = some (.slice A' n' c') ∧ W.cell? ⟨bg, 0, none⟩ = some (.slice C m j) ∧ W.cell? ⟨bg, 1, none⟩ = some (.slice C' m' j') ∧ W.cell? ⟨w.heap.size, 0, none⟩ = some (cellOf W w.heap.size 0) ∧ W.cell? ⟨w.heap.size + 1, 0, none⟩ = some (cellOf W (w.heap.size + 1) 0) ∧ W.frozen? ⟨w.heap.size, 0, none⟩ = false ∧ W.frozen? ⟨w.heap.size + 1, 0, none⟩ = false)
    (first | (with_reducible exact kP (by assumption)) | (exact kP0 HBF HBG (by assumption) rfl) | (exact kP1 HBF HBG (by assumption) rfl))
    (first
      | (go_at_call 65; (with_reducible refine (next_Mul _ (HA.out.err HF.out K0.out.gr) (HD.out.err HF.out K0.out.gr) K0.out.fb).mono ?_); rintro e w1 ⟨A1, n1, c1, rfl, G1, E1, D1, h1, l1⟩; have K1 := Lib.hid ((K0.out.next G1 E1).num D1); clear G1 E1 D1)
      | (go_at_call 65; (with_reducible refine (next_Mul _ (HC.out.err HF.out K1.out.gr) (HB.out.err HF.out K1.out.gr) K1.out.fb).mono ?_); rintro e w2 ⟨A2, n2, c2, rfl, G2, E2, D2, h2, l2⟩; have K2 := Lib.hid ((K1.out.next G2 E2).num D2); clear G2 E2 D2)
      | (go_at_call 65; (with_reducible refine (next_Add _ ⟨K2.out.get at1, h1, l1⟩ ⟨K2.out.get at0, h2, l2⟩ K2.out.fb).mono ?_); rintro e w3 ⟨A3, n3, c3, rfl, G3, E3, D3, h3, l3⟩; have K3 := Lib.hid ((K2.out.next G3 E3).num D3); clear G3 E3 D3)
      | fail)
  have p4 := K3.out.put (bs' := [(w.heap.size + 1, [.slice none 0 0], 24), (bg, [.slice C m j, .slice C' m' j'], 26), (bf, [.slice A n c, .slice A' n' c'], 26)]) at1 (Nat.le_refl _) (fun r hr => by
    simp only [List.mem_cons, List.not_mem_nil, or_false] at hr
    have hf := HBF.out
    have hg := HBG.out
    rcases hr with rfl | rfl | rfl
    · exact ⟨at0, by show w.heap.size + 1 ≠ w.heap.size; omega⟩
    · exact ⟨at2, by show bg ≠ w.heap.size; omega⟩
    · exact ⟨at3, by show bf ≠ w.heap.size; omega⟩) (.slice A3 n3 c3)
  have K4 := Lib.hid (p4.next (W' := (w3.setCell ⟨w.heap.size, 0, none⟩ (.slice A3 n3 c3)).drew) ⟨rfl, rfl, rfl, Nat.le_refl _, fun _ _ _ => rfl⟩ p4.fb)
  clear p4
  go_wp2_with fail
  go_region_held3 (fun W => W.cell? ⟨bf, 0, none⟩ = some (.slice A n c) ∧ W.cell? ⟨bf, 1, none⟩ = some (.slice A' n' c') ∧ W.cell? ⟨bg, 0, none⟩ = some (.slice C m j) ∧ W.cell? ⟨bg, 1, none⟩ = some (.slice C' m' j') ∧ W.cell? ⟨w.heap.size, 0, none⟩ = some (.slice A3 n3 c3) ∧ W.cell? ⟨w.heap.size + 1, 0, none⟩ = some (cellOf W (w.heap.size + 1) 0) ∧ W.frozen? ⟨w.heap.size, 0, none⟩ = false ∧ W.frozen? ⟨w.heap.size + 1, 0, none⟩ = false)
    (first | (with_reducible exact kT (by assumption)) | (exact kT0 HBF HBG (by assumption) rfl) | (exact kT1 HBF HBG (by assumption) rfl))
    (first
      | (go_at_call 65; (with_reducible refine (next_Mul _ (HB.out.err HF.out K4.out.gr) (HD.out.err HF.out K4.out.gr) K4.out.fb).mono ?_); rintro e w5 ⟨A5, n5, c5, rfl, G5, E5, D5, h5, l5⟩; have K5 := Lib.hid ((K4.out.next G5 E5).num D5); clear G5 E5 D5)
      | fail)
  have p4 := K5.out.put (bs' := [(w.heap.size + 1, [.slice none 0 0], 24)]) at0 (Nat.le_refl _) (fun r hr => by
    simp only [List.mem_cons, List.not_mem_nil, or_false] at hr
    subst hr
    exact ⟨at1, by show w.heap.size + 1 ≠ w.heap.size; omega⟩) (.slice A3 n3 c3)
  have p5 := p4.put (bs' := [(w.heap.size, [.slice A3 n3 c3], 24)]) at1 (by omega) (fun r hr => by
    simp only [List.mem_cons, List.not_mem_nil, or_false] at hr
    subst hr
    exact ⟨at0, by show w.heap.size ≠ w.heap.size + 1; omega⟩) (.slice A5 n5 c5)
  have P5 := Lib.hid p5
  have x4 := p5.cell0 at1
  have x5 := p5.cell0 at0
  clear p4 p5
  go_wp2_with fail
  refine bodyPost_ret (v := .tuple #[.agg #[.slice A3 n3 c3], .agg #[.slice A5 n5 c5]]) (by simp [results, Tryz.results31, go_sem, x4, x5]) rfl ?_
  exact ⟨_, _, _, _, _, _, rfl, P5.out.gr, P5.out.fb, ⟨P5.out.get at1, h3, l3⟩, ⟨P5.out.get at0, h5, l5⟩⟩
set_option maxHeartbeats 1000000 in
theorem parts_Sub (w : World) (ha : NumAt w A n c a) (hb : NumAt w A' n' c' b) (hc : NumAt w C m j p) (hd : NumAt w C' m' j' q) (hF : EBox w F 0)
    (hbf : bf ≠ F ∧ w.heap[bf]? = some (.cells #[.slice A n c, .slice A' n' c'] 26 (0, 0))) (hbg : bg ≠ F ∧ w.heap[bg]? = some (.cells #[.slice C m j, .slice C' m' j'] 26 (0, 0))) :
    Calls Tryz.prog 33 #[.func (.func 65) #[] #[.pointer (some ⟨F, 0, none⟩)], .pointer (some ⟨bf, 0, none⟩), .pointer (some ⟨bg, 0, none⟩)] w (Px F (Nt.bv (a * q) - Nt.bv (p * b)) (Nt.bv (b * q)) (Fr.ec (Fr.ec (Fr.ec (Fr.ec 0 (Nt.be (a * q))) (Nt.be (p * b))) (Nt.se (Nt.bv (a * q)) (Nt.bv (p * b)))) (Nt.be (b * q))) w) := by
  have e0 := ((Ks.start w).box [.slice none 0 0] 24).box [.slice none 0 0] 24
  simp only [size_alloc] at e0
  have hlt := hF.lt
  have lf := lt_of_block hbf.2
  have lg := lt_of_block hbg.2
  have e1 := e0.call (Below.refl _ _).drew
  have K0 : Hid (Kc F w ((w.alloc (.cells #[.slice none 0 0] 24)).alloc (.cells #[.slice none 0 0] 24)).drew 0 [(w.heap.size + 1, [.slice none 0 0], 24), (w.heap.size, [.slice none 0 0], 24), (bg, [.slice C m j, .slice C' m' j'], 26), (bf, [.slice A n c, .slice A' n' c'], 26)] []) :=
    ⟨grown_of_below e1.bel, hF.on e1.bel hlt, fun r hr => by
      simp only [List.mem_cons, List.not_mem_nil, or_false] at hr
      rcases hr with rfl | rfl | rfl | rfl
      · exact ⟨by show w.heap.size + 1 ≠ F; omega, e1.b _ at0⟩
      · exact ⟨by show w.heap.size ≠ F; omega, e1.b _ at1⟩
      · exact ⟨hbg.1, (e1.bel.block bg lg).trans hbg.2⟩
      · exact ⟨hbf.1, (e1.bel.block bf lf).trans hbf.2⟩, fun r hr => nomatch hr⟩
  have HA := Lib.hid ha
  have HB := Lib.hid hb
  have HC := Lib.hid hc
  have HD := Lib.hid hd
  have HF := Lib.hid hF
  have HBF := Lib.hid lf
  have HBG := Lib.hid lg
  clear e0 e1 hlt lf lg ha hb hc hd hF hbf hbg
  go_enter Tryz.func33, Tryz.ntmps33
  go_wp2_with fail
  go_region_held3 (fun W => W.cell? ⟨bf, 0, none⟩ = some (.slice A n c) ∧ W.cell? ⟨bf, 1, none⟩ = some (.slice A' n' c') ∧ W.cell? ⟨bg, 0, none⟩ = some (.slice C m j) ∧ W.cell? ⟨bg, 1, none⟩ = some (.slice C' m' j') ∧ W.cell? ⟨w.heap.size, 0, none⟩ = some (cellOf W w.heap.size 0) ∧ W.cell? ⟨w.heap.size + 1, 0, none⟩ = some (cellOf W (w.heap.size + 1) 0) ∧ W.frozen? ⟨w.heap.size, 0, none⟩ = false ∧ W.frozen? ⟨w.heap.size + 1, 0, none⟩ = false)
    (first | (with_reducible exact kP (by assumption)) | (exact kP0 HBF HBG (by assumption) rfl) | (exact kP1 HBF HBG (by assumption) rfl))
    (first
      | (go_at_call 65; (with_reducible refine (next_Mul _ (HA.out.err HF.out K0.out.gr) (HD.out.err HF.out K0.out.gr) K0.out.fb).mono ?_); rintro e w1 ⟨A1, n1, c1, rfl, G1, E1, D1, h1, l1⟩; have K1 := Lib.hid ((K0.out.next G1 E1).num D1); clear G1 E1 D1)
      | (go_at_call 65; (with_reducible refine (next_Mul _ (HC.out.err HF.out K1.out.gr) (HB.out.err HF.out K1.out.gr) K1.out.fb).mono ?_); rintro e w2 ⟨A2, n2, c2, rfl, G2, E2, D2, h2, l2⟩; have K2 := Lib.hid ((K1.out.next G2 E2).num D2); clear G2 E2 D2)
      | (go_at_call 65; (with_reducible refine (next_Sub _ ⟨K2.out.get at1, h1, l1⟩ ⟨K2.out.get at0, h2, l2⟩ K2.out.fb).mono ?_); rintro e w3 ⟨A3, n3, c3, rfl, G3, E3, D3, h3, l3⟩; have K3 := Lib.hid ((K2.out.next G3 E3).num D3); clear G3 E3 D3)
      | fail)
  have p4 := K3.out.put (bs' := [(w.heap.size + 1, [.slice none 0 0], 24), (bg, [.slice C m j, .slice C' m' j'], 26), (bf, [.slice A n c, .slice A' n' c'], 26)]) at1 (Nat.le_refl _) (fun r hr => by
    simp only [List.mem_cons, List.not_mem_nil, or_false] at hr
    have hf := HBF.out
    have hg := HBG.out
    rcases hr with rfl | rfl | rfl
    · exact ⟨at0, by show w.heap.size + 1 ≠ w.heap.size; omega⟩
    · exact ⟨at2, by show bg ≠ w.heap.size; omega⟩
    · exact ⟨at3, by show bf ≠ w.heap.size; omega⟩) (.slice A3 n3 c3)
  have K4 := Lib.hid (p4.next (W' := (w3.setCell ⟨w.heap.size, 0, none⟩ (.slice A3 n3 c3)).drew) ⟨rfl, rfl, rfl, Nat.le_refl _, fun _ _ _ => rfl⟩ p4.fb)
  clear p4
  go_wp2_with fail
  go_region_held3 (fun W => W.cell? ⟨bf, 0, none⟩ = some (.slice A n c) ∧ W.cell? ⟨bf, 1, none⟩ = some (.slice A' n' c') ∧ W.cell? ⟨bg, 0, none⟩ = some (.slice C m j) ∧ W.cell? ⟨bg, 1, none⟩ = some (.slice C' m' j') ∧ W.cell? ⟨w.heap.size, 0, none⟩ = some (.slice A3 n3 c3) ∧ W.cell? ⟨w.heap.size + 1, 0, none⟩ = some (cellOf W (w.heap.size + 1) 0) ∧ W.frozen? ⟨w.heap.size, 0, none⟩ = false ∧ W.frozen? ⟨w.heap.size + 1, 0, none⟩ = false)
    (first | (with_reducible exact kT (by assumption)) | (exact kT0 HBF HBG (by assumption) rfl) | (exact kT1 HBF HBG (by assumption) rfl))
    (first
      | (go_at_call 65; (with_reducible refine (next_Mul _ (HB.out.err HF.out K4.out.gr) (HD.out.err HF.out K4.out.gr) K4.out.fb).mono ?_); rintro e w5 ⟨A5, n5, c5, rfl, G5, E5, D5, h5, l5⟩; have K5 := Lib.hid ((K4.out.next G5 E5).num D5); clear G5 E5 D5)
      | fail)
  have p4 := K5.out.put (bs' := [(w.heap.size + 1, [.slice none 0 0], 24)]) at0 (Nat.le_refl _) (fun r hr => by
    simp only [List.mem_cons, List.not_mem_nil, or_false] at hr
    subst hr
    exact ⟨at1, by show w.heap.size + 1 ≠ w.heap.size; omega⟩) (.slice A3 n3 c3)
  have p5 := p4.put (bs' := [(w.heap.size, [.slice A3 n3 c3], 24)]) at1 (by omega) (fun r hr => by
    simp only [List.mem_cons, List.not_mem_nil, or_false] at hr
    subst hr
    exact ⟨at0, by show w.heap.size ≠ w.heap.size + 1; omega⟩) (.slice A5 n5 c5)
  have P5 := Lib.hid p5
  have x4 := p5.cell0 at1
  have x5 := p5.cell0 at0
  clear p4 p5
  go_wp2_with fail
  refine bodyPost_ret (v := .tuple #[.agg #[.slice A3 n3 c3], .agg #[.slice A5 n5 c5]]) (by simp [results, Tryz.results33, go_sem, x4, x5]) rfl ?_
  exact ⟨_, _, _, _, _, _, rfl, P5.out.gr, P5.out.fb, ⟨P5.out.get at1, h3, l3⟩, ⟨P5.out.get at0, h5, l5⟩⟩
end
end Go.Proofs.YtcgbgaljjhopiaaGreatDoor
namespace Go.Proofs.YtcgbgaljjhopiaaGreatDoor
set_option maxRecDepth 20000
open Go.RowKit
set_option linter.unusedVariables false
set_option linter.unusedSimpArgs false
theorem Ks.after {w W W' : World} {F : Nat} {e er : Int} {T : TypeId} {bs : List (Nat × List Value × TypeId)} (h : Ks w W ((F, [.int .i64 e], T) :: bs) []) (hF : w.heap.size ≤ F) (hne : ∀ p ∈ bs, p.1 ≠ F) (g : W.grownBy W' (some F)) (f : EBox W' F er) :
    Ks w W' ((F, [.int .i64 er], 29) :: bs) [] :=
  ⟨h.bel.grown g h.bel.size fun x e => by injection e; omega, fun p hp => by
    rcases List.mem_cons.1 hp with rfl | hp
    · exact f
    · exact (g.block p.1 (lt_of_block (h.b p (List.mem_cons_of_mem _ hp))) (by intro e; injection e with e; exact hne p hp e)).trans (h.b p (List.mem_cons_of_mem _ hp)), fun p hp => nomatch hp⟩
/-- What calculate answers of the parts and the first error. -/
def Fr.calT (x y : Nat) (er : Int) : Nat × Nat × Int := if er = 0 then mkP x y else (0, 0, er)
section
variable {n c n' c' m j m' j' a b p q bf bg : Nat} {A A' C C' : Option Addr} {f f' g g' : Nat → Nat}
theorem calc_bad1 (v : Value) (w : World) (h : FArg w A n c f A' n' c' f') (h' : FArg w C m j g C' m' j' g') (hv : Fr.vld f n f' n' = false) :
    Calls Tryz.prog 30 #[.agg #[.slice A n c, .slice A' n' c'], .agg #[.slice C m j, .slice C' m' j'], v] w (FRes (0, 0, 2) w) := by
  have v1 := fun W (hb : Below w.heap.size w W) => frac_Valid_arg W (h.on hb)
  rw [hv] at v1
  have V1 := Lib.hid v1
  clear v1 hv h h'
  have k0 := (((Ks.start w).box [.slice A n c, .slice A' n' c'] 26).box [.slice C m j, .slice C' m' j'] 26).box [.slice none 0 0, .slice none 0 0] 26
  simp only [size_alloc] at k0
  have K0 := Lib.hid k0
  clear k0
  go_enter Tryz.func30, Tryz.ntmps30
  go_wp2_with fail
  refine (V1.out _ K0.out.bel).mono ?_
  rintro e w1 ⟨rfl, B1⟩
  have k1 := K0.out.call B1
  have K1 := Lib.hid k1
  clear k1 B1 
  have x0_0 := K1.out.cell0 at2
  have x0_1 := K1.out.cell1 at2
  have x1_0 := K1.out.cell0 at1
  have x1_1 := K1.out.cell1 at1
  have x2_0 := K1.out.cell0 at0
  have x2_1 := K1.out.cell1 at0
  have zf := K1.out.free at0
  have HF := Lib.hid (FRes.stored (A := none) (n := 0) (c := 0) (A' := none) (n' := 0) (c' := 0) (er := 2) K1.out at0 (by omega) IsN.zero (by omega) (by omega) IsN.zero (by omega) (by omega))
  go_wp2_with fail
  refine bodyPost_ret (v := .tuple #[.agg #[.slice none 0 0, .slice none 0 0], .int .i64 2]) (by simp [results, Tryz.results30, go_sem, x2_0, x2_1]) rfl ?_
  exact HF.out
theorem calc_bad2 (v : Value) (w : World) (h : FArg w A n c f A' n' c' f') (h' : FArg w C m j g C' m' j' g') (hv : Fr.vld f n f' n' = true) (hv' : Fr.vld g m g' m' = false) :
    Calls Tryz.prog 30 #[.agg #[.slice A n c, .slice A' n' c'], .agg #[.slice C m j, .slice C' m' j'], v] w (FRes (0, 0, 2) w) := by
  have v1 := fun W (hb : Below w.heap.size w W) => frac_Valid_arg W (h.on hb)
  rw [hv] at v1
  have V1 := Lib.hid v1
  have v2 := fun W (hb : Below w.heap.size w W) => frac_Valid_arg W (h'.on hb)
  rw [hv'] at v2
  have V2 := Lib.hid v2
  clear v1 v2 hv hv' h h'
  have k0 := (((Ks.start w).box [.slice A n c, .slice A' n' c'] 26).box [.slice C m j, .slice C' m' j'] 26).box [.slice none 0 0, .slice none 0 0] 26
  simp only [size_alloc] at k0
  have K0 := Lib.hid k0
  clear k0
  go_enter Tryz.func30, Tryz.ntmps30
  go_wp2_with fail
  refine (V1.out _ K0.out.bel).mono ?_
  rintro e w1 ⟨rfl, B1⟩
  have k1 := K0.out.call B1
  have K1 := Lib.hid k1
  clear k1 B1 
  have x0_0 := K1.out.cell0 at2
  have x0_1 := K1.out.cell1 at2
  have x1_0 := K1.out.cell0 at1
  have x1_1 := K1.out.cell1 at1
  have x2_0 := K1.out.cell0 at0
  have x2_1 := K1.out.cell1 at0
  go_wp2_with fail
  refine (V2.out _ K1.out.bel).mono ?_
  rintro e w2 ⟨rfl, B2⟩
  have k2 := K1.out.call B2
  have K2 := Lib.hid k2
  clear k2 B2 
  clear x0_0 x0_1 x1_0 x1_1 x2_0 x2_1
  have x0_0 := K2.out.cell0 at2
  have x0_1 := K2.out.cell1 at2
  have x1_0 := K2.out.cell0 at1
  have x1_1 := K2.out.cell1 at1
  have x2_0 := K2.out.cell0 at0
  have x2_1 := K2.out.cell1 at0
  have zf := K2.out.free at0
  have HF := Lib.hid (FRes.stored (A := none) (n := 0) (c := 0) (A' := none) (n' := 0) (c' := 0) (er := 2) K2.out at0 (by omega) IsN.zero (by omega) (by omega) IsN.zero (by omega) (by omega))
  go_wp2_with fail
  refine bodyPost_ret (v := .tuple #[.agg #[.slice none 0 0, .slice none 0 0], .int .i64 2]) (by simp [results, Tryz.results30, go_sem, x2_0, x2_1]) rfl ?_
  exact HF.out
set_option maxHeartbeats 1000000 in
theorem calc_Mul (w : World) (h : FIs w A n c A' n' c' a b) (h' : FIs w C m j C' m' j' p q) (hbf : w.heap[bf]? = some (.cells #[.slice A n c, .slice A' n' c'] 26 (0, 0))) (hbg : w.heap[bg]? = some (.cells #[.slice C m j, .slice C' m' j'] 26 (0, 0))) :
    Calls Tryz.prog 30 #[.agg #[.slice A n c, .slice A' n' c'], .agg #[.slice C m j, .slice C' m' j'], (.func (.func 35) #[] #[.pointer (some ⟨bf, 0, none⟩), .pointer (some ⟨bg, 0, none⟩)])] w (FRes (Fr.calT (Nt.bv (a * p)) (Nt.bv (b * q)) (Fr.ec (Fr.ec 0 (Nt.be (a * p))) (Nt.be (b * q)))) w) := by
  have hmf : ∀ (fn : Fn) (first cap : Array Value) (w : World), (Instr.makeFunc fn first cap).run Tryz.prog w = .ok (.func fn first cap) w := fun _ _ _ _ => rfl
  have V1 := Lib.hid fun W (hb : Below w.heap.size w W) => frac_Valid_is W (h.on hb)
  have V2 := Lib.hid fun W (hb : Below w.heap.size w W) => frac_Valid_is W (h'.on hb)
  have pc := fun W F (hb : Below w.heap.size w W) (hF : EBox W F 0) (h1 : bf ≠ F) (h2 : bg ≠ F) => parts_Mul W (h.on hb).n (h.on hb).d (h'.on hb).n (h'.on hb).d hF ⟨h1, (hb.block bf (lt_of_block hbf)).trans hbf⟩ ⟨h2, (hb.block bg (lt_of_block hbg)).trans hbg⟩
  obtain ⟨x, ex⟩ : ∃ x, x = Nt.bv (a * p) := ⟨_, rfl⟩
  obtain ⟨y, ey⟩ : ∃ y, y = Nt.bv (b * q) := ⟨_, rfl⟩
  obtain ⟨er, ee⟩ : ∃ er, er = Fr.ec (Fr.ec 0 (Nt.be (a * p))) (Nt.be (b * q)) := ⟨_, rfl⟩
  rw [← ex, ← ey, ← ee] at pc
  rw [← ex, ← ey, ← ee, Fr.calT]
  have k0 := (((Ks.start w).box [.slice A n c, .slice A' n' c'] 26).box [.slice C m j, .slice C' m' j'] 26).box [.slice none 0 0, .slice none 0 0] 26
  simp only [size_alloc] at k0
  have K0 := Lib.hid k0
  have PC := Lib.hid pc
  have HBF := Lib.hid hbf
  have HBG := Lib.hid hbg
  clear k0 pc ex ey ee hbf hbg h h'
  by_cases he : er = 0
  · rw [if_pos he]
    have MK := Lib.hid fun W {A : Option Addr} {n c : Nat} {A' : Option Addr} {n' c' : Nat} (h : NumAt W A n c x) (h' : NumAt W A' n' c' y) => frac_Make_nums W h h'
    obtain ⟨t, et⟩ : ∃ t, t = Fr.mkP x y := ⟨_, rfl⟩
    rw [← et] at MK ⊢
    have he2 : (er != 0) = false := by simp [he]
    clear et he
    go_enter Tryz.func30, Tryz.ntmps30
    go_wp2_with fail
    refine (V1.out _ K0.out.bel).mono ?_
    rintro e w1 ⟨rfl, B1⟩
    have k1 := K0.out.call B1
    have K1 := Lib.hid k1
    clear k1 B1 
    have x0_0 := K1.out.cell0 at2
    have x0_1 := K1.out.cell1 at2
    have x1_0 := K1.out.cell0 at1
    have x1_1 := K1.out.cell1 at1
    have x2_0 := K1.out.cell0 at0
    have x2_1 := K1.out.cell1 at0
    go_wp2_with fail
    refine (V2.out _ K1.out.bel).mono ?_
    rintro e w2 ⟨rfl, B2⟩
    have k2 := K1.out.call B2
    have K2 := Lib.hid k2
    clear k2 B2 
    clear x0_0 x0_1 x1_0 x1_1 x2_0 x2_1
    have x0_0 := K2.out.cell0 at2
    have x0_1 := K2.out.cell1 at2
    have x1_0 := K2.out.cell0 at1
    have x1_1 := K2.out.cell1 at1
    have x2_0 := K2.out.cell0 at0
    have x2_1 := K2.out.cell1 at0
    have k2 := K2.out.box [.int .i64 0] 29
    have hlf := (lt_of_block HBF.out)
    have hlg := (lt_of_block HBG.out)
    have hs2 := K2.out.bel.size
    have k2n : ∀ r ∈ [(w.heap.size + 1 + 1, [.slice none 0 0, .slice none 0 0], 26), (w.heap.size + 1, [.slice C m j, .slice C' m' j'], 26), (w.heap.size, [.slice A n c, .slice A' n' c'], 26)], (r : Nat × List Value × TypeId).1 ≠ w2.heap.size := fun r hr => Nat.ne_of_lt (lt_of_block (K2.out.b r hr))
    have KN := Lib.hid k2n
    have k2F : EBox (w2.alloc (.cells #[.int .i64 0] 29)) w2.heap.size 0 := k2.b _ at0
    have cp := PC.out (w2.alloc (.cells #[.int .i64 0] 29)) w2.heap.size k2.bel k2F (by omega) (by omega)
    have CP := Lib.hid cp
    have K3 := Lib.hid k2
    clear k2 k2n k2F cp hlf hlg
    clear x0_0 x0_1 x1_0 x1_1 x2_0 x2_1
    go_wp2_with fail
    refine CP.out.mono ?_
    rintro e w4 ⟨A4, n4, c4, A4r, n4r, c4r, rfl, G4, E4, D4, D4r⟩
    have k4 := (K3.out.after hs2 KN.out G4 E4).num D4.d
    have k4 := (((k4.num D4r.d).box [.slice A4 n4 c4] 24).box [.slice A4r n4r c4r] 24)
    simp only [size_alloc] at k4
    have K4 := Lib.hid k4
    have N4 := Lib.hid D4
    have N4r := Lib.hid D4r
    clear k4 G4 E4 D4 D4r
    have x8 := K4.out.cell0 at2
    go_wp2_with fail
    refine (MK.out _ ⟨K4.out.get at1, N4.out.h, N4.out.l⟩ ⟨K4.out.get at0, N4r.out.h, N4r.out.l⟩).mono ?_
    rintro e w5 ⟨A5, n5, c5, A5r, n5r, c5r, rfl, B5, D5, D5r, h5, h5r, l5, l5r⟩
    have k5 := ((K4.out.call B5).num D5).num D5r
    have K5 := Lib.hid k5
    clear k5 B5 D5 D5r
    clear x8
    have x0_0 := K5.out.cell0 at5
    have x0_1 := K5.out.cell1 at5
    have x1_0 := K5.out.cell0 at4
    have x1_1 := K5.out.cell1 at4
    have x2_0 := K5.out.cell0 at3
    have x2_1 := K5.out.cell1 at3
    have x3_0 := K5.out.cell0 at2
    have x4_0 := K5.out.cell0 at1
    have x5_0 := K5.out.cell0 at0
    have zf := K5.out.free at3
    have HF := Lib.hid (FRes.stored (A := A5) (n := n5) (c := c5) (A' := A5r) (n' := n5r) (c' := c5r) (er := t.2.2) K5.out at3 (by omega) (K5.out.get at1) h5 l5 (K5.out.get at0) h5r l5r)
    go_wp2_with fail
    refine bodyPost_ret (v := .tuple #[.agg #[.slice A5 n5 c5, .slice A5r n5r c5r], .int .i64 t.2.2]) (by simp [results, Tryz.results30, go_sem, x2_0, x2_1]) rfl ?_
    exact HF.out
  · rw [if_neg he]
    have he2 : (er != 0) = true := by simp [he]
    clear he
    go_enter Tryz.func30, Tryz.ntmps30
    go_wp2_with fail
    refine (V1.out _ K0.out.bel).mono ?_
    rintro e w1 ⟨rfl, B1⟩
    have k1 := K0.out.call B1
    have K1 := Lib.hid k1
    clear k1 B1 
    have x0_0 := K1.out.cell0 at2
    have x0_1 := K1.out.cell1 at2
    have x1_0 := K1.out.cell0 at1
    have x1_1 := K1.out.cell1 at1
    have x2_0 := K1.out.cell0 at0
    have x2_1 := K1.out.cell1 at0
    go_wp2_with fail
    refine (V2.out _ K1.out.bel).mono ?_
    rintro e w2 ⟨rfl, B2⟩
    have k2 := K1.out.call B2
    have K2 := Lib.hid k2
    clear k2 B2 
    clear x0_0 x0_1 x1_0 x1_1 x2_0 x2_1
    have x0_0 := K2.out.cell0 at2
    have x0_1 := K2.out.cell1 at2
    have x1_0 := K2.out.cell0 at1
    have x1_1 := K2.out.cell1 at1
    have x2_0 := K2.out.cell0 at0
    have x2_1 := K2.out.cell1 at0
    have k2 := K2.out.box [.int .i64 0] 29
    have hlf := (lt_of_block HBF.out)
    have hlg := (lt_of_block HBG.out)
    have hs2 := K2.out.bel.size
    have k2n : ∀ r ∈ [(w.heap.size + 1 + 1, [.slice none 0 0, .slice none 0 0], 26), (w.heap.size + 1, [.slice C m j, .slice C' m' j'], 26), (w.heap.size, [.slice A n c, .slice A' n' c'], 26)], (r : Nat × List Value × TypeId).1 ≠ w2.heap.size := fun r hr => Nat.ne_of_lt (lt_of_block (K2.out.b r hr))
    have KN := Lib.hid k2n
    have k2F : EBox (w2.alloc (.cells #[.int .i64 0] 29)) w2.heap.size 0 := k2.b _ at0
    have cp := PC.out (w2.alloc (.cells #[.int .i64 0] 29)) w2.heap.size k2.bel k2F (by omega) (by omega)
    have CP := Lib.hid cp
    have K3 := Lib.hid k2
    clear k2 k2n k2F cp hlf hlg
    clear x0_0 x0_1 x1_0 x1_1 x2_0 x2_1
    go_wp2_with fail
    refine CP.out.mono ?_
    rintro e w4 ⟨A4, n4, c4, A4r, n4r, c4r, rfl, G4, E4, D4, D4r⟩
    have k4 := (K3.out.after hs2 KN.out G4 E4).num D4.d
    have k4 := (((k4.num D4r.d).box [.slice A4 n4 c4] 24).box [.slice A4r n4r c4r] 24)
    simp only [size_alloc] at k4
    have K4 := Lib.hid k4
    have N4 := Lib.hid D4
    have N4r := Lib.hid D4r
    clear k4 G4 E4 D4 D4r
    have x8 := K4.out.cell0 at2
    have x2_0 := K4.out.cell0 at3
    have x2_1 := K4.out.cell1 at3
    have zf := K4.out.free at3
    have kr := K4.out.call (Below.refl _ ((w4.alloc (.cells #[.slice A4 n4 c4] 24)).alloc (.cells #[.slice A4r n4r c4r] 24))).drew
    have hf1 : ∀ (W : World) (v : Value) (i : Nat), (W.setCell ⟨w.heap.size + 1 + 1, i, none⟩ v).cell? ⟨w2.heap.size, 0, none⟩ = W.cell? ⟨w2.heap.size, 0, none⟩ := fun W v i => cell_far W v (KN.out _ at0).symm
    have HR := Lib.hid (FRes.stored (A := none) (n := 0) (c := 0) (A' := none) (n' := 0) (c' := 0) (er := er) kr at3 (by omega) IsN.zero (by omega) (by omega) IsN.zero (by omega) (by omega))
    have y2_0 := kr.cell0 at3
    have y2_1 := kr.cell1 at3
    clear kr
    go_wp2_with fail
    go_region
    go_wp2_with fail
    refine bodyPost_ret (v := .tuple #[.agg #[.slice none 0 0, .slice none 0 0], .int .i64 er]) (by simp [results, Tryz.results30, go_sem, x2_0, x2_1]) rfl ?_
    exact HR.out
set_option maxHeartbeats 1000000 in
theorem calc_Div (w : World) (h : FIs w A n c A' n' c' a b) (h' : FIs w C m j C' m' j' p q) (hbf : w.heap[bf]? = some (.cells #[.slice A n c, .slice A' n' c'] 26 (0, 0))) (hbg : w.heap[bg]? = some (.cells #[.slice C m j, .slice C' m' j'] 26 (0, 0))) :
    Calls Tryz.prog 30 #[.agg #[.slice A n c, .slice A' n' c'], .agg #[.slice C m j, .slice C' m' j'], (.func (.func 36) #[] #[.pointer (some ⟨bf, 0, none⟩), .pointer (some ⟨bg, 0, none⟩)])] w (FRes (Fr.calT (Nt.bv (a * q)) (Nt.bv (b * p)) (Fr.ec (Fr.ec 0 (Nt.be (a * q))) (Nt.be (b * p)))) w) := by
  have hmf : ∀ (fn : Fn) (first cap : Array Value) (w : World), (Instr.makeFunc fn first cap).run Tryz.prog w = .ok (.func fn first cap) w := fun _ _ _ _ => rfl
  have V1 := Lib.hid fun W (hb : Below w.heap.size w W) => frac_Valid_is W (h.on hb)
  have V2 := Lib.hid fun W (hb : Below w.heap.size w W) => frac_Valid_is W (h'.on hb)
  have pc := fun W F (hb : Below w.heap.size w W) (hF : EBox W F 0) (h1 : bf ≠ F) (h2 : bg ≠ F) => parts_Div W (h.on hb).n (h.on hb).d (h'.on hb).n (h'.on hb).d hF ⟨h1, (hb.block bf (lt_of_block hbf)).trans hbf⟩ ⟨h2, (hb.block bg (lt_of_block hbg)).trans hbg⟩
  obtain ⟨x, ex⟩ : ∃ x, x = Nt.bv (a * q) := ⟨_, rfl⟩
  obtain ⟨y, ey⟩ : ∃ y, y = Nt.bv (b * p) := ⟨_, rfl⟩
  obtain ⟨er, ee⟩ : ∃ er, er = Fr.ec (Fr.ec 0 (Nt.be (a * q))) (Nt.be (b * p)) := ⟨_, rfl⟩
  rw [← ex, ← ey, ← ee] at pc
  rw [← ex, ← ey, ← ee, Fr.calT]
  have k0 := (((Ks.start w).box [.slice A n c, .slice A' n' c'] 26).box [.slice C m j, .slice C' m' j'] 26).box [.slice none 0 0, .slice none 0 0] 26
  simp only [size_alloc] at k0
  have K0 := Lib.hid k0
  have PC := Lib.hid pc
  have HBF := Lib.hid hbf
  have HBG := Lib.hid hbg
  clear k0 pc ex ey ee hbf hbg h h'
  by_cases he : er = 0
  · rw [if_pos he]
    have MK := Lib.hid fun W {A : Option Addr} {n c : Nat} {A' : Option Addr} {n' c' : Nat} (h : NumAt W A n c x) (h' : NumAt W A' n' c' y) => frac_Make_nums W h h'
    obtain ⟨t, et⟩ : ∃ t, t = Fr.mkP x y := ⟨_, rfl⟩
    rw [← et] at MK ⊢
    have he2 : (er != 0) = false := by simp [he]
    clear et he
    go_enter Tryz.func30, Tryz.ntmps30
    go_wp2_with fail
    refine (V1.out _ K0.out.bel).mono ?_
    rintro e w1 ⟨rfl, B1⟩
    have k1 := K0.out.call B1
    have K1 := Lib.hid k1
    clear k1 B1 
    have x0_0 := K1.out.cell0 at2
    have x0_1 := K1.out.cell1 at2
    have x1_0 := K1.out.cell0 at1
    have x1_1 := K1.out.cell1 at1
    have x2_0 := K1.out.cell0 at0
    have x2_1 := K1.out.cell1 at0
    go_wp2_with fail
    refine (V2.out _ K1.out.bel).mono ?_
    rintro e w2 ⟨rfl, B2⟩
    have k2 := K1.out.call B2
    have K2 := Lib.hid k2
    clear k2 B2 
    clear x0_0 x0_1 x1_0 x1_1 x2_0 x2_1
    have x0_0 := K2.out.cell0 at2
    have x0_1 := K2.out.cell1 at2
    have x1_0 := K2.out.cell0 at1
    have x1_1 := K2.out.cell1 at1
    have x2_0 := K2.out.cell0 at0
    have x2_1 := K2.out.cell1 at0
    have k2 := K2.out.box [.int .i64 0] 29
    have hlf := (lt_of_block HBF.out)
    have hlg := (lt_of_block HBG.out)
    have hs2 := K2.out.bel.size
    have k2n : ∀ r ∈ [(w.heap.size + 1 + 1, [.slice none 0 0, .slice none 0 0], 26), (w.heap.size + 1, [.slice C m j, .slice C' m' j'], 26), (w.heap.size, [.slice A n c, .slice A' n' c'], 26)], (r : Nat × List Value × TypeId).1 ≠ w2.heap.size := fun r hr => Nat.ne_of_lt (lt_of_block (K2.out.b r hr))
    have KN := Lib.hid k2n
    have k2F : EBox (w2.alloc (.cells #[.int .i64 0] 29)) w2.heap.size 0 := k2.b _ at0
    have cp := PC.out (w2.alloc (.cells #[.int .i64 0] 29)) w2.heap.size k2.bel k2F (by omega) (by omega)
    have CP := Lib.hid cp
    have K3 := Lib.hid k2
    clear k2 k2n k2F cp hlf hlg
    clear x0_0 x0_1 x1_0 x1_1 x2_0 x2_1
    go_wp2_with fail
    refine CP.out.mono ?_
    rintro e w4 ⟨A4, n4, c4, A4r, n4r, c4r, rfl, G4, E4, D4, D4r⟩
    have k4 := (K3.out.after hs2 KN.out G4 E4).num D4.d
    have k4 := (((k4.num D4r.d).box [.slice A4 n4 c4] 24).box [.slice A4r n4r c4r] 24)
    simp only [size_alloc] at k4
    have K4 := Lib.hid k4
    have N4 := Lib.hid D4
    have N4r := Lib.hid D4r
    clear k4 G4 E4 D4 D4r
    have x8 := K4.out.cell0 at2
    go_wp2_with fail
    refine (MK.out _ ⟨K4.out.get at1, N4.out.h, N4.out.l⟩ ⟨K4.out.get at0, N4r.out.h, N4r.out.l⟩).mono ?_
    rintro e w5 ⟨A5, n5, c5, A5r, n5r, c5r, rfl, B5, D5, D5r, h5, h5r, l5, l5r⟩
    have k5 := ((K4.out.call B5).num D5).num D5r
    have K5 := Lib.hid k5
    clear k5 B5 D5 D5r
    clear x8
    have x0_0 := K5.out.cell0 at5
    have x0_1 := K5.out.cell1 at5
    have x1_0 := K5.out.cell0 at4
    have x1_1 := K5.out.cell1 at4
    have x2_0 := K5.out.cell0 at3
    have x2_1 := K5.out.cell1 at3
    have x3_0 := K5.out.cell0 at2
    have x4_0 := K5.out.cell0 at1
    have x5_0 := K5.out.cell0 at0
    have zf := K5.out.free at3
    have HF := Lib.hid (FRes.stored (A := A5) (n := n5) (c := c5) (A' := A5r) (n' := n5r) (c' := c5r) (er := t.2.2) K5.out at3 (by omega) (K5.out.get at1) h5 l5 (K5.out.get at0) h5r l5r)
    go_wp2_with fail
    refine bodyPost_ret (v := .tuple #[.agg #[.slice A5 n5 c5, .slice A5r n5r c5r], .int .i64 t.2.2]) (by simp [results, Tryz.results30, go_sem, x2_0, x2_1]) rfl ?_
    exact HF.out
  · rw [if_neg he]
    have he2 : (er != 0) = true := by simp [he]
    clear he
    go_enter Tryz.func30, Tryz.ntmps30
    go_wp2_with fail
    refine (V1.out _ K0.out.bel).mono ?_
    rintro e w1 ⟨rfl, B1⟩
    have k1 := K0.out.call B1
    have K1 := Lib.hid k1
    clear k1 B1 
    have x0_0 := K1.out.cell0 at2
    have x0_1 := K1.out.cell1 at2
    have x1_0 := K1.out.cell0 at1
    have x1_1 := K1.out.cell1 at1
    have x2_0 := K1.out.cell0 at0
    have x2_1 := K1.out.cell1 at0
    go_wp2_with fail
    refine (V2.out _ K1.out.bel).mono ?_
    rintro e w2 ⟨rfl, B2⟩
    have k2 := K1.out.call B2
    have K2 := Lib.hid k2
    clear k2 B2 
    clear x0_0 x0_1 x1_0 x1_1 x2_0 x2_1
    have x0_0 := K2.out.cell0 at2
    have x0_1 := K2.out.cell1 at2
    have x1_0 := K2.out.cell0 at1
    have x1_1 := K2.out.cell1 at1
    have x2_0 := K2.out.cell0 at0
    have x2_1 := K2.out.cell1 at0
    have k2 := K2.out.box [.int .i64 0] 29
    have hlf := (lt_of_block HBF.out)
    have hlg := (lt_of_block HBG.out)
    have hs2 := K2.out.bel.size
    have k2n : ∀ r ∈ [(w.heap.size + 1 + 1, [.slice none 0 0, .slice none 0 0], 26), (w.heap.size + 1, [.slice C m j, .slice C' m' j'], 26), (w.heap.size, [.slice A n c, .slice A' n' c'], 26)], (r : Nat × List Value × TypeId).1 ≠ w2.heap.size := fun r hr => Nat.ne_of_lt (lt_of_block (K2.out.b r hr))
    have KN := Lib.hid k2n
    have k2F : EBox (w2.alloc (.cells #[.int .i64 0] 29)) w2.heap.size 0 := k2.b _ at0
    have cp := PC.out (w2.alloc (.cells #[.int .i64 0] 29)) w2.heap.size k2.bel k2F (by omega) (by omega)
    have CP := Lib.hid cp
    have K3 := Lib.hid k2
    clear k2 k2n k2F cp hlf hlg
    clear x0_0 x0_1 x1_0 x1_1 x2_0 x2_1
    go_wp2_with fail
    refine CP.out.mono ?_
    rintro e w4 ⟨A4, n4, c4, A4r, n4r, c4r, rfl, G4, E4, D4, D4r⟩
    have k4 := (K3.out.after hs2 KN.out G4 E4).num D4.d
    have k4 := (((k4.num D4r.d).box [.slice A4 n4 c4] 24).box [.slice A4r n4r c4r] 24)
    simp only [size_alloc] at k4
    have K4 := Lib.hid k4
    have N4 := Lib.hid D4
    have N4r := Lib.hid D4r
    clear k4 G4 E4 D4 D4r
    have x8 := K4.out.cell0 at2
    have x2_0 := K4.out.cell0 at3
    have x2_1 := K4.out.cell1 at3
    have zf := K4.out.free at3
    have kr := K4.out.call (Below.refl _ ((w4.alloc (.cells #[.slice A4 n4 c4] 24)).alloc (.cells #[.slice A4r n4r c4r] 24))).drew
    have hf1 : ∀ (W : World) (v : Value) (i : Nat), (W.setCell ⟨w.heap.size + 1 + 1, i, none⟩ v).cell? ⟨w2.heap.size, 0, none⟩ = W.cell? ⟨w2.heap.size, 0, none⟩ := fun W v i => cell_far W v (KN.out _ at0).symm
    have HR := Lib.hid (FRes.stored (A := none) (n := 0) (c := 0) (A' := none) (n' := 0) (c' := 0) (er := er) kr at3 (by omega) IsN.zero (by omega) (by omega) IsN.zero (by omega) (by omega))
    have y2_0 := kr.cell0 at3
    have y2_1 := kr.cell1 at3
    clear kr
    go_wp2_with fail
    go_region
    go_wp2_with fail
    refine bodyPost_ret (v := .tuple #[.agg #[.slice none 0 0, .slice none 0 0], .int .i64 er]) (by simp [results, Tryz.results30, go_sem, x2_0, x2_1]) rfl ?_
    exact HR.out
set_option maxHeartbeats 1000000 in
theorem calc_Add (w : World) (h : FIs w A n c A' n' c' a b) (h' : FIs w C m j C' m' j' p q) (hbf : w.heap[bf]? = some (.cells #[.slice A n c, .slice A' n' c'] 26 (0, 0))) (hbg : w.heap[bg]? = some (.cells #[.slice C m j, .slice C' m' j'] 26 (0, 0))) :
    Calls Tryz.prog 30 #[.agg #[.slice A n c, .slice A' n' c'], .agg #[.slice C m j, .slice C' m' j'], (.func (.func 31) #[] #[.pointer (some ⟨bf, 0, none⟩), .pointer (some ⟨bg, 0, none⟩)])] w (FRes (Fr.calT (Nt.bv (Nt.bv (a * q) + Nt.bv (p * b))) (Nt.bv (b * q)) (Fr.ec (Fr.ec (Fr.ec (Fr.ec 0 (Nt.be (a * q))) (Nt.be (p * b))) (Nt.be (Nt.bv (a * q) + Nt.bv (p * b)))) (Nt.be (b * q)))) w) := by
  have hmf : ∀ (fn : Fn) (first cap : Array Value) (w : World), (Instr.makeFunc fn first cap).run Tryz.prog w = .ok (.func fn first cap) w := fun _ _ _ _ => rfl
  have V1 := Lib.hid fun W (hb : Below w.heap.size w W) => frac_Valid_is W (h.on hb)
  have V2 := Lib.hid fun W (hb : Below w.heap.size w W) => frac_Valid_is W (h'.on hb)
  have pc := fun W F (hb : Below w.heap.size w W) (hF : EBox W F 0) (h1 : bf ≠ F) (h2 : bg ≠ F) => parts_Add W (h.on hb).n (h.on hb).d (h'.on hb).n (h'.on hb).d hF ⟨h1, (hb.block bf (lt_of_block hbf)).trans hbf⟩ ⟨h2, (hb.block bg (lt_of_block hbg)).trans hbg⟩
  obtain ⟨x, ex⟩ : ∃ x, x = Nt.bv (Nt.bv (a * q) + Nt.bv (p * b)) := ⟨_, rfl⟩
  obtain ⟨y, ey⟩ : ∃ y, y = Nt.bv (b * q) := ⟨_, rfl⟩
  obtain ⟨er, ee⟩ : ∃ er, er = Fr.ec (Fr.ec (Fr.ec (Fr.ec 0 (Nt.be (a * q))) (Nt.be (p * b))) (Nt.be (Nt.bv (a * q) + Nt.bv (p * b)))) (Nt.be (b * q)) := ⟨_, rfl⟩
  rw [← ex, ← ey, ← ee] at pc
  rw [← ex, ← ey, ← ee, Fr.calT]
  have k0 := (((Ks.start w).box [.slice A n c, .slice A' n' c'] 26).box [.slice C m j, .slice C' m' j'] 26).box [.slice none 0 0, .slice none 0 0] 26
  simp only [size_alloc] at k0
  have K0 := Lib.hid k0
  have PC := Lib.hid pc
  have HBF := Lib.hid hbf
  have HBG := Lib.hid hbg
  clear k0 pc ex ey ee hbf hbg h h'
  by_cases he : er = 0
  · rw [if_pos he]
    have MK := Lib.hid fun W {A : Option Addr} {n c : Nat} {A' : Option Addr} {n' c' : Nat} (h : NumAt W A n c x) (h' : NumAt W A' n' c' y) => frac_Make_nums W h h'
    obtain ⟨t, et⟩ : ∃ t, t = Fr.mkP x y := ⟨_, rfl⟩
    rw [← et] at MK ⊢
    have he2 : (er != 0) = false := by simp [he]
    clear et he
    go_enter Tryz.func30, Tryz.ntmps30
    go_wp2_with fail
    refine (V1.out _ K0.out.bel).mono ?_
    rintro e w1 ⟨rfl, B1⟩
    have k1 := K0.out.call B1
    have K1 := Lib.hid k1
    clear k1 B1 
    have x0_0 := K1.out.cell0 at2
    have x0_1 := K1.out.cell1 at2
    have x1_0 := K1.out.cell0 at1
    have x1_1 := K1.out.cell1 at1
    have x2_0 := K1.out.cell0 at0
    have x2_1 := K1.out.cell1 at0
    go_wp2_with fail
    refine (V2.out _ K1.out.bel).mono ?_
    rintro e w2 ⟨rfl, B2⟩
    have k2 := K1.out.call B2
    have K2 := Lib.hid k2
    clear k2 B2 
    clear x0_0 x0_1 x1_0 x1_1 x2_0 x2_1
    have x0_0 := K2.out.cell0 at2
    have x0_1 := K2.out.cell1 at2
    have x1_0 := K2.out.cell0 at1
    have x1_1 := K2.out.cell1 at1
    have x2_0 := K2.out.cell0 at0
    have x2_1 := K2.out.cell1 at0
    have k2 := K2.out.box [.int .i64 0] 29
    have hlf := (lt_of_block HBF.out)
    have hlg := (lt_of_block HBG.out)
    have hs2 := K2.out.bel.size
    have k2n : ∀ r ∈ [(w.heap.size + 1 + 1, [.slice none 0 0, .slice none 0 0], 26), (w.heap.size + 1, [.slice C m j, .slice C' m' j'], 26), (w.heap.size, [.slice A n c, .slice A' n' c'], 26)], (r : Nat × List Value × TypeId).1 ≠ w2.heap.size := fun r hr => Nat.ne_of_lt (lt_of_block (K2.out.b r hr))
    have KN := Lib.hid k2n
    have k2F : EBox (w2.alloc (.cells #[.int .i64 0] 29)) w2.heap.size 0 := k2.b _ at0
    have cp := PC.out (w2.alloc (.cells #[.int .i64 0] 29)) w2.heap.size k2.bel k2F (by omega) (by omega)
    have CP := Lib.hid cp
    have K3 := Lib.hid k2
    clear k2 k2n k2F cp hlf hlg
    clear x0_0 x0_1 x1_0 x1_1 x2_0 x2_1
    go_wp2_with fail
    refine CP.out.mono ?_
    rintro e w4 ⟨A4, n4, c4, A4r, n4r, c4r, rfl, G4, E4, D4, D4r⟩
    have k4 := (K3.out.after hs2 KN.out G4 E4).num D4.d
    have k4 := (((k4.num D4r.d).box [.slice A4 n4 c4] 24).box [.slice A4r n4r c4r] 24)
    simp only [size_alloc] at k4
    have K4 := Lib.hid k4
    have N4 := Lib.hid D4
    have N4r := Lib.hid D4r
    clear k4 G4 E4 D4 D4r
    have x8 := K4.out.cell0 at2
    go_wp2_with fail
    refine (MK.out _ ⟨K4.out.get at1, N4.out.h, N4.out.l⟩ ⟨K4.out.get at0, N4r.out.h, N4r.out.l⟩).mono ?_
    rintro e w5 ⟨A5, n5, c5, A5r, n5r, c5r, rfl, B5, D5, D5r, h5, h5r, l5, l5r⟩
    have k5 := ((K4.out.call B5).num D5).num D5r
    have K5 := Lib.hid k5
    clear k5 B5 D5 D5r
    clear x8
    have x0_0 := K5.out.cell0 at5
    have x0_1 := K5.out.cell1 at5
    have x1_0 := K5.out.cell0 at4
    have x1_1 := K5.out.cell1 at4
    have x2_0 := K5.out.cell0 at3
    have x2_1 := K5.out.cell1 at3
    have x3_0 := K5.out.cell0 at2
    have x4_0 := K5.out.cell0 at1
    have x5_0 := K5.out.cell0 at0
    have zf := K5.out.free at3
    have HF := Lib.hid (FRes.stored (A := A5) (n := n5) (c := c5) (A' := A5r) (n' := n5r) (c' := c5r) (er := t.2.2) K5.out at3 (by omega) (K5.out.get at1) h5 l5 (K5.out.get at0) h5r l5r)
    go_wp2_with fail
    refine bodyPost_ret (v := .tuple #[.agg #[.slice A5 n5 c5, .slice A5r n5r c5r], .int .i64 t.2.2]) (by simp [results, Tryz.results30, go_sem, x2_0, x2_1]) rfl ?_
    exact HF.out
  · rw [if_neg he]
    have he2 : (er != 0) = true := by simp [he]
    clear he
    go_enter Tryz.func30, Tryz.ntmps30
    go_wp2_with fail
    refine (V1.out _ K0.out.bel).mono ?_
    rintro e w1 ⟨rfl, B1⟩
    have k1 := K0.out.call B1
    have K1 := Lib.hid k1
    clear k1 B1 
    have x0_0 := K1.out.cell0 at2
    have x0_1 := K1.out.cell1 at2
    have x1_0 := K1.out.cell0 at1
    have x1_1 := K1.out.cell1 at1
    have x2_0 := K1.out.cell0 at0
    have x2_1 := K1.out.cell1 at0
    go_wp2_with fail
    refine (V2.out _ K1.out.bel).mono ?_
    rintro e w2 ⟨rfl, B2⟩
    have k2 := K1.out.call B2
    have K2 := Lib.hid k2
    clear k2 B2 
    clear x0_0 x0_1 x1_0 x1_1 x2_0 x2_1
    have x0_0 := K2.out.cell0 at2
    have x0_1 := K2.out.cell1 at2
    have x1_0 := K2.out.cell0 at1
    have x1_1 := K2.out.cell1 at1
    have x2_0 := K2.out.cell0 at0
    have x2_1 := K2.out.cell1 at0
    have k2 := K2.out.box [.int .i64 0] 29
    have hlf := (lt_of_block HBF.out)
    have hlg := (lt_of_block HBG.out)
    have hs2 := K2.out.bel.size
    have k2n : ∀ r ∈ [(w.heap.size + 1 + 1, [.slice none 0 0, .slice none 0 0], 26), (w.heap.size + 1, [.slice C m j, .slice C' m' j'], 26), (w.heap.size, [.slice A n c, .slice A' n' c'], 26)], (r : Nat × List Value × TypeId).1 ≠ w2.heap.size := fun r hr => Nat.ne_of_lt (lt_of_block (K2.out.b r hr))
    have KN := Lib.hid k2n
    have k2F : EBox (w2.alloc (.cells #[.int .i64 0] 29)) w2.heap.size 0 := k2.b _ at0
    have cp := PC.out (w2.alloc (.cells #[.int .i64 0] 29)) w2.heap.size k2.bel k2F (by omega) (by omega)
    have CP := Lib.hid cp
    have K3 := Lib.hid k2
    clear k2 k2n k2F cp hlf hlg
    clear x0_0 x0_1 x1_0 x1_1 x2_0 x2_1
    go_wp2_with fail
    refine CP.out.mono ?_
    rintro e w4 ⟨A4, n4, c4, A4r, n4r, c4r, rfl, G4, E4, D4, D4r⟩
    have k4 := (K3.out.after hs2 KN.out G4 E4).num D4.d
    have k4 := (((k4.num D4r.d).box [.slice A4 n4 c4] 24).box [.slice A4r n4r c4r] 24)
    simp only [size_alloc] at k4
    have K4 := Lib.hid k4
    have N4 := Lib.hid D4
    have N4r := Lib.hid D4r
    clear k4 G4 E4 D4 D4r
    have x8 := K4.out.cell0 at2
    have x2_0 := K4.out.cell0 at3
    have x2_1 := K4.out.cell1 at3
    have zf := K4.out.free at3
    have kr := K4.out.call (Below.refl _ ((w4.alloc (.cells #[.slice A4 n4 c4] 24)).alloc (.cells #[.slice A4r n4r c4r] 24))).drew
    have hf1 : ∀ (W : World) (v : Value) (i : Nat), (W.setCell ⟨w.heap.size + 1 + 1, i, none⟩ v).cell? ⟨w2.heap.size, 0, none⟩ = W.cell? ⟨w2.heap.size, 0, none⟩ := fun W v i => cell_far W v (KN.out _ at0).symm
    have HR := Lib.hid (FRes.stored (A := none) (n := 0) (c := 0) (A' := none) (n' := 0) (c' := 0) (er := er) kr at3 (by omega) IsN.zero (by omega) (by omega) IsN.zero (by omega) (by omega))
    have y2_0 := kr.cell0 at3
    have y2_1 := kr.cell1 at3
    clear kr
    go_wp2_with fail
    go_region
    go_wp2_with fail
    refine bodyPost_ret (v := .tuple #[.agg #[.slice none 0 0, .slice none 0 0], .int .i64 er]) (by simp [results, Tryz.results30, go_sem, x2_0, x2_1]) rfl ?_
    exact HR.out
set_option maxHeartbeats 1000000 in
theorem calc_Sub (w : World) (h : FIs w A n c A' n' c' a b) (h' : FIs w C m j C' m' j' p q) (hbf : w.heap[bf]? = some (.cells #[.slice A n c, .slice A' n' c'] 26 (0, 0))) (hbg : w.heap[bg]? = some (.cells #[.slice C m j, .slice C' m' j'] 26 (0, 0))) :
    Calls Tryz.prog 30 #[.agg #[.slice A n c, .slice A' n' c'], .agg #[.slice C m j, .slice C' m' j'], (.func (.func 33) #[] #[.pointer (some ⟨bf, 0, none⟩), .pointer (some ⟨bg, 0, none⟩)])] w (FRes (Fr.calT (Nt.bv (a * q) - Nt.bv (p * b)) (Nt.bv (b * q)) (Fr.ec (Fr.ec (Fr.ec (Fr.ec 0 (Nt.be (a * q))) (Nt.be (p * b))) (Nt.se (Nt.bv (a * q)) (Nt.bv (p * b)))) (Nt.be (b * q)))) w) := by
  have hmf : ∀ (fn : Fn) (first cap : Array Value) (w : World), (Instr.makeFunc fn first cap).run Tryz.prog w = .ok (.func fn first cap) w := fun _ _ _ _ => rfl
  have V1 := Lib.hid fun W (hb : Below w.heap.size w W) => frac_Valid_is W (h.on hb)
  have V2 := Lib.hid fun W (hb : Below w.heap.size w W) => frac_Valid_is W (h'.on hb)
  have pc := fun W F (hb : Below w.heap.size w W) (hF : EBox W F 0) (h1 : bf ≠ F) (h2 : bg ≠ F) => parts_Sub W (h.on hb).n (h.on hb).d (h'.on hb).n (h'.on hb).d hF ⟨h1, (hb.block bf (lt_of_block hbf)).trans hbf⟩ ⟨h2, (hb.block bg (lt_of_block hbg)).trans hbg⟩
  obtain ⟨x, ex⟩ : ∃ x, x = Nt.bv (a * q) - Nt.bv (p * b) := ⟨_, rfl⟩
  obtain ⟨y, ey⟩ : ∃ y, y = Nt.bv (b * q) := ⟨_, rfl⟩
  obtain ⟨er, ee⟩ : ∃ er, er = Fr.ec (Fr.ec (Fr.ec (Fr.ec 0 (Nt.be (a * q))) (Nt.be (p * b))) (Nt.se (Nt.bv (a * q)) (Nt.bv (p * b)))) (Nt.be (b * q)) := ⟨_, rfl⟩
  rw [← ex, ← ey, ← ee] at pc
  rw [← ex, ← ey, ← ee, Fr.calT]
  have k0 := (((Ks.start w).box [.slice A n c, .slice A' n' c'] 26).box [.slice C m j, .slice C' m' j'] 26).box [.slice none 0 0, .slice none 0 0] 26
  simp only [size_alloc] at k0
  have K0 := Lib.hid k0
  have PC := Lib.hid pc
  have HBF := Lib.hid hbf
  have HBG := Lib.hid hbg
  clear k0 pc ex ey ee hbf hbg h h'
  by_cases he : er = 0
  · rw [if_pos he]
    have MK := Lib.hid fun W {A : Option Addr} {n c : Nat} {A' : Option Addr} {n' c' : Nat} (h : NumAt W A n c x) (h' : NumAt W A' n' c' y) => frac_Make_nums W h h'
    obtain ⟨t, et⟩ : ∃ t, t = Fr.mkP x y := ⟨_, rfl⟩
    rw [← et] at MK ⊢
    have he2 : (er != 0) = false := by simp [he]
    clear et he
    go_enter Tryz.func30, Tryz.ntmps30
    go_wp2_with fail
    refine (V1.out _ K0.out.bel).mono ?_
    rintro e w1 ⟨rfl, B1⟩
    have k1 := K0.out.call B1
    have K1 := Lib.hid k1
    clear k1 B1 
    have x0_0 := K1.out.cell0 at2
    have x0_1 := K1.out.cell1 at2
    have x1_0 := K1.out.cell0 at1
    have x1_1 := K1.out.cell1 at1
    have x2_0 := K1.out.cell0 at0
    have x2_1 := K1.out.cell1 at0
    go_wp2_with fail
    refine (V2.out _ K1.out.bel).mono ?_
    rintro e w2 ⟨rfl, B2⟩
    have k2 := K1.out.call B2
    have K2 := Lib.hid k2
    clear k2 B2 
    clear x0_0 x0_1 x1_0 x1_1 x2_0 x2_1
    have x0_0 := K2.out.cell0 at2
    have x0_1 := K2.out.cell1 at2
    have x1_0 := K2.out.cell0 at1
    have x1_1 := K2.out.cell1 at1
    have x2_0 := K2.out.cell0 at0
    have x2_1 := K2.out.cell1 at0
    have k2 := K2.out.box [.int .i64 0] 29
    have hlf := (lt_of_block HBF.out)
    have hlg := (lt_of_block HBG.out)
    have hs2 := K2.out.bel.size
    have k2n : ∀ r ∈ [(w.heap.size + 1 + 1, [.slice none 0 0, .slice none 0 0], 26), (w.heap.size + 1, [.slice C m j, .slice C' m' j'], 26), (w.heap.size, [.slice A n c, .slice A' n' c'], 26)], (r : Nat × List Value × TypeId).1 ≠ w2.heap.size := fun r hr => Nat.ne_of_lt (lt_of_block (K2.out.b r hr))
    have KN := Lib.hid k2n
    have k2F : EBox (w2.alloc (.cells #[.int .i64 0] 29)) w2.heap.size 0 := k2.b _ at0
    have cp := PC.out (w2.alloc (.cells #[.int .i64 0] 29)) w2.heap.size k2.bel k2F (by omega) (by omega)
    have CP := Lib.hid cp
    have K3 := Lib.hid k2
    clear k2 k2n k2F cp hlf hlg
    clear x0_0 x0_1 x1_0 x1_1 x2_0 x2_1
    go_wp2_with fail
    refine CP.out.mono ?_
    rintro e w4 ⟨A4, n4, c4, A4r, n4r, c4r, rfl, G4, E4, D4, D4r⟩
    have k4 := (K3.out.after hs2 KN.out G4 E4).num D4.d
    have k4 := (((k4.num D4r.d).box [.slice A4 n4 c4] 24).box [.slice A4r n4r c4r] 24)
    simp only [size_alloc] at k4
    have K4 := Lib.hid k4
    have N4 := Lib.hid D4
    have N4r := Lib.hid D4r
    clear k4 G4 E4 D4 D4r
    have x8 := K4.out.cell0 at2
    go_wp2_with fail
    refine (MK.out _ ⟨K4.out.get at1, N4.out.h, N4.out.l⟩ ⟨K4.out.get at0, N4r.out.h, N4r.out.l⟩).mono ?_
    rintro e w5 ⟨A5, n5, c5, A5r, n5r, c5r, rfl, B5, D5, D5r, h5, h5r, l5, l5r⟩
    have k5 := ((K4.out.call B5).num D5).num D5r
    have K5 := Lib.hid k5
    clear k5 B5 D5 D5r
    clear x8
    have x0_0 := K5.out.cell0 at5
    have x0_1 := K5.out.cell1 at5
    have x1_0 := K5.out.cell0 at4
    have x1_1 := K5.out.cell1 at4
    have x2_0 := K5.out.cell0 at3
    have x2_1 := K5.out.cell1 at3
    have x3_0 := K5.out.cell0 at2
    have x4_0 := K5.out.cell0 at1
    have x5_0 := K5.out.cell0 at0
    have zf := K5.out.free at3
    have HF := Lib.hid (FRes.stored (A := A5) (n := n5) (c := c5) (A' := A5r) (n' := n5r) (c' := c5r) (er := t.2.2) K5.out at3 (by omega) (K5.out.get at1) h5 l5 (K5.out.get at0) h5r l5r)
    go_wp2_with fail
    refine bodyPost_ret (v := .tuple #[.agg #[.slice A5 n5 c5, .slice A5r n5r c5r], .int .i64 t.2.2]) (by simp [results, Tryz.results30, go_sem, x2_0, x2_1]) rfl ?_
    exact HF.out
  · rw [if_neg he]
    have he2 : (er != 0) = true := by simp [he]
    clear he
    go_enter Tryz.func30, Tryz.ntmps30
    go_wp2_with fail
    refine (V1.out _ K0.out.bel).mono ?_
    rintro e w1 ⟨rfl, B1⟩
    have k1 := K0.out.call B1
    have K1 := Lib.hid k1
    clear k1 B1 
    have x0_0 := K1.out.cell0 at2
    have x0_1 := K1.out.cell1 at2
    have x1_0 := K1.out.cell0 at1
    have x1_1 := K1.out.cell1 at1
    have x2_0 := K1.out.cell0 at0
    have x2_1 := K1.out.cell1 at0
    go_wp2_with fail
    refine (V2.out _ K1.out.bel).mono ?_
    rintro e w2 ⟨rfl, B2⟩
    have k2 := K1.out.call B2
    have K2 := Lib.hid k2
    clear k2 B2 
    clear x0_0 x0_1 x1_0 x1_1 x2_0 x2_1
    have x0_0 := K2.out.cell0 at2
    have x0_1 := K2.out.cell1 at2
    have x1_0 := K2.out.cell0 at1
    have x1_1 := K2.out.cell1 at1
    have x2_0 := K2.out.cell0 at0
    have x2_1 := K2.out.cell1 at0
    have k2 := K2.out.box [.int .i64 0] 29
    have hlf := (lt_of_block HBF.out)
    have hlg := (lt_of_block HBG.out)
    have hs2 := K2.out.bel.size
    have k2n : ∀ r ∈ [(w.heap.size + 1 + 1, [.slice none 0 0, .slice none 0 0], 26), (w.heap.size + 1, [.slice C m j, .slice C' m' j'], 26), (w.heap.size, [.slice A n c, .slice A' n' c'], 26)], (r : Nat × List Value × TypeId).1 ≠ w2.heap.size := fun r hr => Nat.ne_of_lt (lt_of_block (K2.out.b r hr))
    have KN := Lib.hid k2n
    have k2F : EBox (w2.alloc (.cells #[.int .i64 0] 29)) w2.heap.size 0 := k2.b _ at0
    have cp := PC.out (w2.alloc (.cells #[.int .i64 0] 29)) w2.heap.size k2.bel k2F (by omega) (by omega)
    have CP := Lib.hid cp
    have K3 := Lib.hid k2
    clear k2 k2n k2F cp hlf hlg
    clear x0_0 x0_1 x1_0 x1_1 x2_0 x2_1
    go_wp2_with fail
    refine CP.out.mono ?_
    rintro e w4 ⟨A4, n4, c4, A4r, n4r, c4r, rfl, G4, E4, D4, D4r⟩
    have k4 := (K3.out.after hs2 KN.out G4 E4).num D4.d
    have k4 := (((k4.num D4r.d).box [.slice A4 n4 c4] 24).box [.slice A4r n4r c4r] 24)
    simp only [size_alloc] at k4
    have K4 := Lib.hid k4
    have N4 := Lib.hid D4
    have N4r := Lib.hid D4r
    clear k4 G4 E4 D4 D4r
    have x8 := K4.out.cell0 at2
    have x2_0 := K4.out.cell0 at3
    have x2_1 := K4.out.cell1 at3
    have zf := K4.out.free at3
    have kr := K4.out.call (Below.refl _ ((w4.alloc (.cells #[.slice A4 n4 c4] 24)).alloc (.cells #[.slice A4r n4r c4r] 24))).drew
    have hf1 : ∀ (W : World) (v : Value) (i : Nat), (W.setCell ⟨w.heap.size + 1 + 1, i, none⟩ v).cell? ⟨w2.heap.size, 0, none⟩ = W.cell? ⟨w2.heap.size, 0, none⟩ := fun W v i => cell_far W v (KN.out _ at0).symm
    have HR := Lib.hid (FRes.stored (A := none) (n := 0) (c := 0) (A' := none) (n' := 0) (c' := 0) (er := er) kr at3 (by omega) IsN.zero (by omega) (by omega) IsN.zero (by omega) (by omega))
    have y2_0 := kr.cell0 at3
    have y2_1 := kr.cell1 at3
    clear kr
    go_wp2_with fail
    go_region
    go_wp2_with fail
    refine bodyPost_ret (v := .tuple #[.agg #[.slice none 0 0, .slice none 0 0], .int .i64 er]) (by simp [results, Tryz.results30, go_sem, x2_0, x2_1]) rfl ?_
    exact HR.out
end
end Go.Proofs.YtcgbgaljjhopiaaGreatDoor
namespace Go.Proofs.YtcgbgaljjhopiaaGreatDoor
set_option maxRecDepth 20000
open Go.RowKit
set_option linter.unusedVariables false
set_option linter.unusedSimpArgs false
namespace Fr
def fit2 (x y : Nat) : Bool := Nt.fits x && Nt.fits y
/-- What the four operations answer of two fractions in lowest terms: numerator, denominator, error. -/
def addT (a b p q : Nat) : Nat × Nat × Int := if Nt.fits (a * q) && Nt.fits (p * b) && Nt.fits (b * q) && Nt.fits (a * q + p * b) then (an a b p q, ad a b p q, 0) else (0, 0, 9)
def subT (a b p q : Nat) : Nat × Nat × Int := if a * q < p * b then (0, 0, 2) else if Nt.fits (a * q) && Nt.fits (p * b) && Nt.fits (b * q) then (sn a b p q, sd a b p q, 0) else (0, 0, 9)
def mulT (a b p q : Nat) : Nat × Nat × Int := if Nt.fits (a * p) && Nt.fits (b * q) then (mn a b p q, md a b p q, 0) else (0, 0, 9)
def divT (a b p q : Nat) : Nat × Nat × Int := if p = 0 then (0, 0, 10) else if Nt.fits (a * q) && Nt.fits (b * p) then (qn a b p q, qd a b p q, 0) else (0, 0, 9)
theorem ec_zero (e : Int) : ec 0 e = e := by simp [ec]
theorem ec_nine (e : Int) : ec 9 e = 9 := by simp [ec]
theorem be_yes {x : Nat} (h : Nt.fits x = true) : Nt.be x = 0 := by simp [Nt.be, h]
theorem be_no {x : Nat} (h : Nt.fits x = false) : Nt.be x = 9 := by simp [Nt.be, h]
theorem bv_yes {x : Nat} (h : Nt.fits x = true) : Nt.bv x = x := by simp [Nt.bv, h]
theorem calT_nine (x y : Nat) : calT x y 9 = (0, 0, 9) := by simp [calT]
theorem calT_zero {x y : Nat} (h : 0 < y) : calT x y 0 = (rn x y, rd x y, 0) := by rw [calT, if_pos rfl, mkP, if_neg (by omega)]
theorem add_cal {a b p q : Nat} (hb : 0 < b) (hq : 0 < q) : calT (Nt.bv (Nt.bv (a * q) + Nt.bv (p * b))) (Nt.bv (b * q)) (ec (ec (ec (ec 0 (Nt.be (a * q))) (Nt.be (p * b))) (Nt.be (Nt.bv (a * q) + Nt.bv (p * b)))) (Nt.be (b * q))) = addT a b p q := by
  unfold addT
  rw [ec_zero]
  cases h1 : Nt.fits (a * q)
  · rw [be_no h1, ec_nine, ec_nine, ec_nine, calT_nine]; rfl
  · rw [be_yes h1, ec_zero, bv_yes h1]
    cases h2 : Nt.fits (p * b)
    · rw [be_no h2, ec_nine, ec_nine, calT_nine]; rfl
    · rw [be_yes h2, ec_zero, bv_yes h2]
      cases h4 : Nt.fits (a * q + p * b)
      · rw [be_no h4, ec_nine, calT_nine]; simp
      · rw [be_yes h4, ec_zero, bv_yes h4]
        cases h3 : Nt.fits (b * q)
        · rw [be_no h3, calT_nine]; rfl
        · rw [be_yes h3, bv_yes h3, calT_zero (Nat.mul_pos hb hq)]; rfl
theorem sub_cal {a b p q : Nat} (hb : 0 < b) (hq : 0 < q) (hl : ¬ a * q < p * b) : calT (Nt.bv (a * q) - Nt.bv (p * b)) (Nt.bv (b * q)) (ec (ec (ec (ec 0 (Nt.be (a * q))) (Nt.be (p * b))) (Nt.se (Nt.bv (a * q)) (Nt.bv (p * b)))) (Nt.be (b * q))) = subT a b p q := by
  unfold subT
  rw [ec_zero, if_neg hl]
  cases h1 : Nt.fits (a * q)
  · rw [be_no h1, ec_nine, ec_nine, ec_nine, calT_nine]; rfl
  · rw [be_yes h1, ec_zero, bv_yes h1]
    cases h2 : Nt.fits (p * b)
    · rw [be_no h2, ec_nine, ec_nine, calT_nine]; rfl
    · rw [be_yes h2, ec_zero, bv_yes h2, Nt.se, if_neg hl, ec_zero]
      cases h3 : Nt.fits (b * q)
      · rw [be_no h3, calT_nine]; rfl
      · rw [be_yes h3, bv_yes h3, calT_zero (Nat.mul_pos hb hq)]; rfl
theorem mul_cal {a b p q : Nat} (hb : 0 < b) (hq : 0 < q) : calT (Nt.bv (a * p)) (Nt.bv (b * q)) (ec (ec 0 (Nt.be (a * p))) (Nt.be (b * q))) = mulT a b p q := by
  unfold mulT
  rw [ec_zero]
  cases h1 : Nt.fits (a * p)
  · rw [be_no h1, ec_nine, calT_nine]; rfl
  · rw [be_yes h1, ec_zero, bv_yes h1]
    cases h3 : Nt.fits (b * q)
    · rw [be_no h3, calT_nine]; rfl
    · rw [be_yes h3, bv_yes h3, calT_zero (Nat.mul_pos hb hq)]; rfl
theorem div_cal {a b p q : Nat} (hb : 0 < b) (hg : Nat.gcd p q = 1) (ha : Nt.fits a = true) : calT (Nt.bv (a * q)) (Nt.bv (b * p)) (ec (ec 0 (Nt.be (a * q))) (Nt.be (b * p))) = divT a b p q := by
  unfold divT
  rw [ec_zero]
  by_cases hp : p = 0
  · subst hp
    rw [Nat.gcd_zero_left] at hg
    subst hg
    have h0 : Nt.fits 0 = true := by rw [Nt.fits_iff, Nt.ln_zero]; omega
    rw [if_pos rfl, Nat.mul_one, Nat.mul_zero, be_yes ha, be_yes h0, ec_zero, bv_yes h0, calT, if_pos rfl, mkP, if_pos rfl]
  · rw [if_neg hp]
    cases h1 : Nt.fits (a * q)
    · rw [be_no h1, ec_nine, calT_nine]; rfl
    · rw [be_yes h1, ec_zero, bv_yes h1]
      cases h3 : Nt.fits (b * p)
      · rw [be_no h3, calT_nine]; rfl
      · rw [be_yes h3, bv_yes h3, calT_zero (Nat.mul_pos hb (by omega))]; rfl
end Fr
theorem NumAt.fits {w : World} {A : Option Addr} {n c x : Nat} (h : NumAt w A n c x) : Nt.fits x = true := h.d.fit h.h
section
variable {n c n' c' m j m' j' a b p q : Nat} {A A' C C' : Option Addr} {f f' g g' : Nat → Nat}
theorem frac_Add_bad1 (w : World) (h : FArg w A n c f A' n' c' f') (h' : FArg w C m j g C' m' j' g') (hv : Fr.vld f n f' n' = false) :
    Calls Tryz.prog 10 #[.agg #[.slice A n c, .slice A' n' c'], .agg #[.slice C m j, .slice C' m' j']] w (FRes (0, 0, 2) w) := by
  have hmf : ∀ (fn : Fn) (first cap : Array Value) (w : World), (Instr.makeFunc fn first cap).run Tryz.prog w = .ok (.func fn first cap) w := fun _ _ _ _ => rfl
  have cb := fun W v (hb : Below w.heap.size w W) => calc_bad1 v W (h.on hb) (h'.on hb) hv
  have CB := Lib.hid cb
  have k0 := (((Ks.start w).box [.slice A n c, .slice A' n' c'] 26).box [.slice C m j, .slice C' m' j'] 26).box [.slice none 0 0, .slice none 0 0] 26
  simp only [size_alloc] at k0
  have K0 := Lib.hid k0
  clear k0
  clear cb h h' hv
  go_enter Tryz.func10, Tryz.ntmps10
  go_wp2_with fail
  refine (CB.out _ _ K0.out.bel).mono ?_
  rintro e w1 ⟨A1, n1, c1, A1r, n1r, c1r, rfl, B1, D1, D1r, h1, h1r, l1, l1r⟩
  have k1 := ((K0.out.call B1).num D1).num D1r
  have K1 := Lib.hid k1
  clear k1 B1 D1 D1r
  have x0_0 := K1.out.cell0 at2
  have x0_1 := K1.out.cell1 at2
  have x1_0 := K1.out.cell0 at1
  have x1_1 := K1.out.cell1 at1
  have x2_0 := K1.out.cell0 at0
  have x2_1 := K1.out.cell1 at0
  have zf := K1.out.free at0
  have HF := Lib.hid (FRes.stored (A := A1) (n := n1) (c := c1) (A' := A1r) (n' := n1r) (c' := c1r) (er := 2) K1.out at0 (by omega) (K1.out.get at1) h1 l1 (K1.out.get at0) h1r l1r)
  go_wp2_with fail
  refine bodyPost_ret (v := .tuple #[.agg #[.slice A1 n1 c1, .slice A1r n1r c1r], .int .i64 2]) (by simp [results, Tryz.results10, go_sem, x2_0, x2_1]) rfl ?_
  exact HF.out
theorem frac_Add_bad2 (w : World) (h : FArg w A n c f A' n' c' f') (h' : FArg w C m j g C' m' j' g') (hv : Fr.vld f n f' n' = true) (hv' : Fr.vld g m g' m' = false) :
    Calls Tryz.prog 10 #[.agg #[.slice A n c, .slice A' n' c'], .agg #[.slice C m j, .slice C' m' j']] w (FRes (0, 0, 2) w) := by
  have hmf : ∀ (fn : Fn) (first cap : Array Value) (w : World), (Instr.makeFunc fn first cap).run Tryz.prog w = .ok (.func fn first cap) w := fun _ _ _ _ => rfl
  have cb := fun W v (hb : Below w.heap.size w W) => calc_bad2 v W (h.on hb) (h'.on hb) hv hv'
  have CB := Lib.hid cb
  have k0 := (((Ks.start w).box [.slice A n c, .slice A' n' c'] 26).box [.slice C m j, .slice C' m' j'] 26).box [.slice none 0 0, .slice none 0 0] 26
  simp only [size_alloc] at k0
  have K0 := Lib.hid k0
  clear k0
  clear cb h h' hv hv'
  go_enter Tryz.func10, Tryz.ntmps10
  go_wp2_with fail
  refine (CB.out _ _ K0.out.bel).mono ?_
  rintro e w1 ⟨A1, n1, c1, A1r, n1r, c1r, rfl, B1, D1, D1r, h1, h1r, l1, l1r⟩
  have k1 := ((K0.out.call B1).num D1).num D1r
  have K1 := Lib.hid k1
  clear k1 B1 D1 D1r
  have x0_0 := K1.out.cell0 at2
  have x0_1 := K1.out.cell1 at2
  have x1_0 := K1.out.cell0 at1
  have x1_1 := K1.out.cell1 at1
  have x2_0 := K1.out.cell0 at0
  have x2_1 := K1.out.cell1 at0
  have zf := K1.out.free at0
  have HF := Lib.hid (FRes.stored (A := A1) (n := n1) (c := c1) (A' := A1r) (n' := n1r) (c' := c1r) (er := 2) K1.out at0 (by omega) (K1.out.get at1) h1 l1 (K1.out.get at0) h1r l1r)
  go_wp2_with fail
  refine bodyPost_ret (v := .tuple #[.agg #[.slice A1 n1 c1, .slice A1r n1r c1r], .int .i64 2]) (by simp [results, Tryz.results10, go_sem, x2_0, x2_1]) rfl ?_
  exact HF.out
theorem frac_Add_is (w : World) (h : FIs w A n c A' n' c' a b) (h' : FIs w C m j C' m' j' p q) :
    Calls Tryz.prog 10 #[.agg #[.slice A n c, .slice A' n' c'], .agg #[.slice C m j, .slice C' m' j']] w (FRes (Fr.addT a b p q) w) := by
  have hmf : ∀ (fn : Fn) (first cap : Array Value) (w : World), (Instr.makeFunc fn first cap).run Tryz.prog w = .ok (.func fn first cap) w := fun _ _ _ _ => rfl
  have cc := fun W (hb : Below w.heap.size w W) => calc_Add (bf := w.heap.size) (bg := w.heap.size + 1) W (h.on hb) (h'.on hb)
  rw [Fr.add_cal h.b0 h'.b0] at cc
  obtain ⟨t, et⟩ : ∃ t, t = Fr.addT a b p q := ⟨_, rfl⟩
  rw [← et] at cc
  rw [← et]
  have CC := Lib.hid cc
  have k0 := (((Ks.start w).box [.slice A n c, .slice A' n' c'] 26).box [.slice C m j, .slice C' m' j'] 26).box [.slice none 0 0, .slice none 0 0] 26
  simp only [size_alloc] at k0
  have K0 := Lib.hid k0
  clear k0
  clear cc h h' et
  go_enter Tryz.func10, Tryz.ntmps10
  go_wp2_with fail
  refine (CC.out _ K0.out.bel (K0.out.b _ at2) (K0.out.b _ at1)).mono ?_
  rintro e w1 ⟨A1, n1, c1, A1r, n1r, c1r, rfl, B1, D1, D1r, h1, h1r, l1, l1r⟩
  have k1 := ((K0.out.call B1).num D1).num D1r
  have K1 := Lib.hid k1
  clear k1 B1 D1 D1r
  have x0_0 := K1.out.cell0 at2
  have x0_1 := K1.out.cell1 at2
  have x1_0 := K1.out.cell0 at1
  have x1_1 := K1.out.cell1 at1
  have x2_0 := K1.out.cell0 at0
  have x2_1 := K1.out.cell1 at0
  have zf := K1.out.free at0
  have HF := Lib.hid (FRes.stored (A := A1) (n := n1) (c := c1) (A' := A1r) (n' := n1r) (c' := c1r) (er := t.2.2) K1.out at0 (by omega) (K1.out.get at1) h1 l1 (K1.out.get at0) h1r l1r)
  go_wp2_with fail
  refine bodyPost_ret (v := .tuple #[.agg #[.slice A1 n1 c1, .slice A1r n1r c1r], .int .i64 t.2.2]) (by simp [results, Tryz.results10, go_sem, x2_0, x2_1]) rfl ?_
  exact HF.out
def Fr.addX (f : Nat → Nat) (n : Nat) (f' : Nat → Nat) (n' : Nat) (g : Nat → Nat) (m : Nat) (g' : Nat → Nat) (m' : Nat) : Nat × Nat × Int :=
  if vld f n f' n' && vld g m g' m' then addT (Nt.vl 4294967296 f n) (Nt.vl 4294967296 f' n') (Nt.vl 4294967296 g m) (Nt.vl 4294967296 g' m') else (0, 0, 2)
theorem frac_Add_any (w : World) (h : FArg w A n c f A' n' c' f') (h' : FArg w C m j g C' m' j' g') :
    Calls Tryz.prog 10 #[.agg #[.slice A n c, .slice A' n' c'], .agg #[.slice C m j, .slice C' m' j']] w (FRes (Fr.addX f n f' n' g m g' m') w) := by
  unfold Fr.addX
  cases hv : Fr.vld f n f' n'
  · exact frac_Add_bad1 w h h' hv
  · cases hv' : Fr.vld g m g' m'
    · exact frac_Add_bad2 w h h' hv hv'
    · exact frac_Add_is w (h.is hv) (h'.is hv')
theorem frac_Mul_bad1 (w : World) (h : FArg w A n c f A' n' c' f') (h' : FArg w C m j g C' m' j' g') (hv : Fr.vld f n f' n' = false) :
    Calls Tryz.prog 13 #[.agg #[.slice A n c, .slice A' n' c'], .agg #[.slice C m j, .slice C' m' j']] w (FRes (0, 0, 2) w) := by
  have hmf : ∀ (fn : Fn) (first cap : Array Value) (w : World), (Instr.makeFunc fn first cap).run Tryz.prog w = .ok (.func fn first cap) w := fun _ _ _ _ => rfl
  have cb := fun W v (hb : Below w.heap.size w W) => calc_bad1 v W (h.on hb) (h'.on hb) hv
  have CB := Lib.hid cb
  have k0 := (((Ks.start w).box [.slice A n c, .slice A' n' c'] 26).box [.slice C m j, .slice C' m' j'] 26).box [.slice none 0 0, .slice none 0 0] 26
  simp only [size_alloc] at k0
  have K0 := Lib.hid k0
  clear k0
  clear cb h h' hv
  go_enter Tryz.func13, Tryz.ntmps13
  go_wp2_with fail
  refine (CB.out _ _ K0.out.bel).mono ?_
  rintro e w1 ⟨A1, n1, c1, A1r, n1r, c1r, rfl, B1, D1, D1r, h1, h1r, l1, l1r⟩
  have k1 := ((K0.out.call B1).num D1).num D1r
  have K1 := Lib.hid k1
  clear k1 B1 D1 D1r
  have x0_0 := K1.out.cell0 at2
  have x0_1 := K1.out.cell1 at2
  have x1_0 := K1.out.cell0 at1
  have x1_1 := K1.out.cell1 at1
  have x2_0 := K1.out.cell0 at0
  have x2_1 := K1.out.cell1 at0
  have zf := K1.out.free at0
  have HF := Lib.hid (FRes.stored (A := A1) (n := n1) (c := c1) (A' := A1r) (n' := n1r) (c' := c1r) (er := 2) K1.out at0 (by omega) (K1.out.get at1) h1 l1 (K1.out.get at0) h1r l1r)
  go_wp2_with fail
  refine bodyPost_ret (v := .tuple #[.agg #[.slice A1 n1 c1, .slice A1r n1r c1r], .int .i64 2]) (by simp [results, Tryz.results13, go_sem, x2_0, x2_1]) rfl ?_
  exact HF.out
theorem frac_Mul_bad2 (w : World) (h : FArg w A n c f A' n' c' f') (h' : FArg w C m j g C' m' j' g') (hv : Fr.vld f n f' n' = true) (hv' : Fr.vld g m g' m' = false) :
    Calls Tryz.prog 13 #[.agg #[.slice A n c, .slice A' n' c'], .agg #[.slice C m j, .slice C' m' j']] w (FRes (0, 0, 2) w) := by
  have hmf : ∀ (fn : Fn) (first cap : Array Value) (w : World), (Instr.makeFunc fn first cap).run Tryz.prog w = .ok (.func fn first cap) w := fun _ _ _ _ => rfl
  have cb := fun W v (hb : Below w.heap.size w W) => calc_bad2 v W (h.on hb) (h'.on hb) hv hv'
  have CB := Lib.hid cb
  have k0 := (((Ks.start w).box [.slice A n c, .slice A' n' c'] 26).box [.slice C m j, .slice C' m' j'] 26).box [.slice none 0 0, .slice none 0 0] 26
  simp only [size_alloc] at k0
  have K0 := Lib.hid k0
  clear k0
  clear cb h h' hv hv'
  go_enter Tryz.func13, Tryz.ntmps13
  go_wp2_with fail
  refine (CB.out _ _ K0.out.bel).mono ?_
  rintro e w1 ⟨A1, n1, c1, A1r, n1r, c1r, rfl, B1, D1, D1r, h1, h1r, l1, l1r⟩
  have k1 := ((K0.out.call B1).num D1).num D1r
  have K1 := Lib.hid k1
  clear k1 B1 D1 D1r
  have x0_0 := K1.out.cell0 at2
  have x0_1 := K1.out.cell1 at2
  have x1_0 := K1.out.cell0 at1
  have x1_1 := K1.out.cell1 at1
  have x2_0 := K1.out.cell0 at0
  have x2_1 := K1.out.cell1 at0
  have zf := K1.out.free at0
  have HF := Lib.hid (FRes.stored (A := A1) (n := n1) (c := c1) (A' := A1r) (n' := n1r) (c' := c1r) (er := 2) K1.out at0 (by omega) (K1.out.get at1) h1 l1 (K1.out.get at0) h1r l1r)
  go_wp2_with fail
  refine bodyPost_ret (v := .tuple #[.agg #[.slice A1 n1 c1, .slice A1r n1r c1r], .int .i64 2]) (by simp [results, Tryz.results13, go_sem, x2_0, x2_1]) rfl ?_
  exact HF.out
theorem frac_Mul_is (w : World) (h : FIs w A n c A' n' c' a b) (h' : FIs w C m j C' m' j' p q) :
    Calls Tryz.prog 13 #[.agg #[.slice A n c, .slice A' n' c'], .agg #[.slice C m j, .slice C' m' j']] w (FRes (Fr.mulT a b p q) w) := by
  have hmf : ∀ (fn : Fn) (first cap : Array Value) (w : World), (Instr.makeFunc fn first cap).run Tryz.prog w = .ok (.func fn first cap) w := fun _ _ _ _ => rfl
  have cc := fun W (hb : Below w.heap.size w W) => calc_Mul (bf := w.heap.size) (bg := w.heap.size + 1) W (h.on hb) (h'.on hb)
  rw [Fr.mul_cal h.b0 h'.b0] at cc
  obtain ⟨t, et⟩ : ∃ t, t = Fr.mulT a b p q := ⟨_, rfl⟩
  rw [← et] at cc
  rw [← et]
  have CC := Lib.hid cc
  have k0 := (((Ks.start w).box [.slice A n c, .slice A' n' c'] 26).box [.slice C m j, .slice C' m' j'] 26).box [.slice none 0 0, .slice none 0 0] 26
  simp only [size_alloc] at k0
  have K0 := Lib.hid k0
  clear k0
  clear cc h h' et
  go_enter Tryz.func13, Tryz.ntmps13
  go_wp2_with fail
  refine (CC.out _ K0.out.bel (K0.out.b _ at2) (K0.out.b _ at1)).mono ?_
  rintro e w1 ⟨A1, n1, c1, A1r, n1r, c1r, rfl, B1, D1, D1r, h1, h1r, l1, l1r⟩
  have k1 := ((K0.out.call B1).num D1).num D1r
  have K1 := Lib.hid k1
  clear k1 B1 D1 D1r
  have x0_0 := K1.out.cell0 at2
  have x0_1 := K1.out.cell1 at2
  have x1_0 := K1.out.cell0 at1
  have x1_1 := K1.out.cell1 at1
  have x2_0 := K1.out.cell0 at0
  have x2_1 := K1.out.cell1 at0
  have zf := K1.out.free at0
  have HF := Lib.hid (FRes.stored (A := A1) (n := n1) (c := c1) (A' := A1r) (n' := n1r) (c' := c1r) (er := t.2.2) K1.out at0 (by omega) (K1.out.get at1) h1 l1 (K1.out.get at0) h1r l1r)
  go_wp2_with fail
  refine bodyPost_ret (v := .tuple #[.agg #[.slice A1 n1 c1, .slice A1r n1r c1r], .int .i64 t.2.2]) (by simp [results, Tryz.results13, go_sem, x2_0, x2_1]) rfl ?_
  exact HF.out
def Fr.mulX (f : Nat → Nat) (n : Nat) (f' : Nat → Nat) (n' : Nat) (g : Nat → Nat) (m : Nat) (g' : Nat → Nat) (m' : Nat) : Nat × Nat × Int :=
  if vld f n f' n' && vld g m g' m' then mulT (Nt.vl 4294967296 f n) (Nt.vl 4294967296 f' n') (Nt.vl 4294967296 g m) (Nt.vl 4294967296 g' m') else (0, 0, 2)
theorem frac_Mul_any (w : World) (h : FArg w A n c f A' n' c' f') (h' : FArg w C m j g C' m' j' g') :
    Calls Tryz.prog 13 #[.agg #[.slice A n c, .slice A' n' c'], .agg #[.slice C m j, .slice C' m' j']] w (FRes (Fr.mulX f n f' n' g m g' m') w) := by
  unfold Fr.mulX
  cases hv : Fr.vld f n f' n'
  · exact frac_Mul_bad1 w h h' hv
  · cases hv' : Fr.vld g m g' m'
    · exact frac_Mul_bad2 w h h' hv hv'
    · exact frac_Mul_is w (h.is hv) (h'.is hv')
theorem frac_Div_bad1 (w : World) (h : FArg w A n c f A' n' c' f') (h' : FArg w C m j g C' m' j' g') (hv : Fr.vld f n f' n' = false) :
    Calls Tryz.prog 14 #[.agg #[.slice A n c, .slice A' n' c'], .agg #[.slice C m j, .slice C' m' j']] w (FRes (0, 0, 2) w) := by
  have hmf : ∀ (fn : Fn) (first cap : Array Value) (w : World), (Instr.makeFunc fn first cap).run Tryz.prog w = .ok (.func fn first cap) w := fun _ _ _ _ => rfl
  have cb := fun W v (hb : Below w.heap.size w W) => calc_bad1 v W (h.on hb) (h'.on hb) hv
  have CB := Lib.hid cb
  have k0 := (((Ks.start w).box [.slice A n c, .slice A' n' c'] 26).box [.slice C m j, .slice C' m' j'] 26).box [.slice none 0 0, .slice none 0 0] 26
  simp only [size_alloc] at k0
  have K0 := Lib.hid k0
  clear k0
  clear cb h h' hv
  go_enter Tryz.func14, Tryz.ntmps14
  go_wp2_with fail
  refine (CB.out _ _ K0.out.bel).mono ?_
  rintro e w1 ⟨A1, n1, c1, A1r, n1r, c1r, rfl, B1, D1, D1r, h1, h1r, l1, l1r⟩
  have k1 := ((K0.out.call B1).num D1).num D1r
  have K1 := Lib.hid k1
  clear k1 B1 D1 D1r
  have x0_0 := K1.out.cell0 at2
  have x0_1 := K1.out.cell1 at2
  have x1_0 := K1.out.cell0 at1
  have x1_1 := K1.out.cell1 at1
  have x2_0 := K1.out.cell0 at0
  have x2_1 := K1.out.cell1 at0
  have zf := K1.out.free at0
  have HF := Lib.hid (FRes.stored (A := A1) (n := n1) (c := c1) (A' := A1r) (n' := n1r) (c' := c1r) (er := 2) K1.out at0 (by omega) (K1.out.get at1) h1 l1 (K1.out.get at0) h1r l1r)
  go_wp2_with fail
  refine bodyPost_ret (v := .tuple #[.agg #[.slice A1 n1 c1, .slice A1r n1r c1r], .int .i64 2]) (by simp [results, Tryz.results14, go_sem, x2_0, x2_1]) rfl ?_
  exact HF.out
theorem frac_Div_bad2 (w : World) (h : FArg w A n c f A' n' c' f') (h' : FArg w C m j g C' m' j' g') (hv : Fr.vld f n f' n' = true) (hv' : Fr.vld g m g' m' = false) :
    Calls Tryz.prog 14 #[.agg #[.slice A n c, .slice A' n' c'], .agg #[.slice C m j, .slice C' m' j']] w (FRes (0, 0, 2) w) := by
  have hmf : ∀ (fn : Fn) (first cap : Array Value) (w : World), (Instr.makeFunc fn first cap).run Tryz.prog w = .ok (.func fn first cap) w := fun _ _ _ _ => rfl
  have cb := fun W v (hb : Below w.heap.size w W) => calc_bad2 v W (h.on hb) (h'.on hb) hv hv'
  have CB := Lib.hid cb
  have k0 := (((Ks.start w).box [.slice A n c, .slice A' n' c'] 26).box [.slice C m j, .slice C' m' j'] 26).box [.slice none 0 0, .slice none 0 0] 26
  simp only [size_alloc] at k0
  have K0 := Lib.hid k0
  clear k0
  clear cb h h' hv hv'
  go_enter Tryz.func14, Tryz.ntmps14
  go_wp2_with fail
  refine (CB.out _ _ K0.out.bel).mono ?_
  rintro e w1 ⟨A1, n1, c1, A1r, n1r, c1r, rfl, B1, D1, D1r, h1, h1r, l1, l1r⟩
  have k1 := ((K0.out.call B1).num D1).num D1r
  have K1 := Lib.hid k1
  clear k1 B1 D1 D1r
  have x0_0 := K1.out.cell0 at2
  have x0_1 := K1.out.cell1 at2
  have x1_0 := K1.out.cell0 at1
  have x1_1 := K1.out.cell1 at1
  have x2_0 := K1.out.cell0 at0
  have x2_1 := K1.out.cell1 at0
  have zf := K1.out.free at0
  have HF := Lib.hid (FRes.stored (A := A1) (n := n1) (c := c1) (A' := A1r) (n' := n1r) (c' := c1r) (er := 2) K1.out at0 (by omega) (K1.out.get at1) h1 l1 (K1.out.get at0) h1r l1r)
  go_wp2_with fail
  refine bodyPost_ret (v := .tuple #[.agg #[.slice A1 n1 c1, .slice A1r n1r c1r], .int .i64 2]) (by simp [results, Tryz.results14, go_sem, x2_0, x2_1]) rfl ?_
  exact HF.out
theorem frac_Div_is (w : World) (h : FIs w A n c A' n' c' a b) (h' : FIs w C m j C' m' j' p q) :
    Calls Tryz.prog 14 #[.agg #[.slice A n c, .slice A' n' c'], .agg #[.slice C m j, .slice C' m' j']] w (FRes (Fr.divT a b p q) w) := by
  have hmf : ∀ (fn : Fn) (first cap : Array Value) (w : World), (Instr.makeFunc fn first cap).run Tryz.prog w = .ok (.func fn first cap) w := fun _ _ _ _ => rfl
  have cc := fun W (hb : Below w.heap.size w W) => calc_Div (bf := w.heap.size) (bg := w.heap.size + 1) W (h.on hb) (h'.on hb)
  rw [Fr.div_cal h.b0 h'.cp h.n.fits] at cc
  obtain ⟨t, et⟩ : ∃ t, t = Fr.divT a b p q := ⟨_, rfl⟩
  rw [← et] at cc
  rw [← et]
  have CC := Lib.hid cc
  have k0 := (((Ks.start w).box [.slice A n c, .slice A' n' c'] 26).box [.slice C m j, .slice C' m' j'] 26).box [.slice none 0 0, .slice none 0 0] 26
  simp only [size_alloc] at k0
  have K0 := Lib.hid k0
  clear k0
  clear cc h h' et
  go_enter Tryz.func14, Tryz.ntmps14
  go_wp2_with fail
  refine (CC.out _ K0.out.bel (K0.out.b _ at2) (K0.out.b _ at1)).mono ?_
  rintro e w1 ⟨A1, n1, c1, A1r, n1r, c1r, rfl, B1, D1, D1r, h1, h1r, l1, l1r⟩
  have k1 := ((K0.out.call B1).num D1).num D1r
  have K1 := Lib.hid k1
  clear k1 B1 D1 D1r
  have x0_0 := K1.out.cell0 at2
  have x0_1 := K1.out.cell1 at2
  have x1_0 := K1.out.cell0 at1
  have x1_1 := K1.out.cell1 at1
  have x2_0 := K1.out.cell0 at0
  have x2_1 := K1.out.cell1 at0
  have zf := K1.out.free at0
  have HF := Lib.hid (FRes.stored (A := A1) (n := n1) (c := c1) (A' := A1r) (n' := n1r) (c' := c1r) (er := t.2.2) K1.out at0 (by omega) (K1.out.get at1) h1 l1 (K1.out.get at0) h1r l1r)
  go_wp2_with fail
  refine bodyPost_ret (v := .tuple #[.agg #[.slice A1 n1 c1, .slice A1r n1r c1r], .int .i64 t.2.2]) (by simp [results, Tryz.results14, go_sem, x2_0, x2_1]) rfl ?_
  exact HF.out
def Fr.divX (f : Nat → Nat) (n : Nat) (f' : Nat → Nat) (n' : Nat) (g : Nat → Nat) (m : Nat) (g' : Nat → Nat) (m' : Nat) : Nat × Nat × Int :=
  if vld f n f' n' && vld g m g' m' then divT (Nt.vl 4294967296 f n) (Nt.vl 4294967296 f' n') (Nt.vl 4294967296 g m) (Nt.vl 4294967296 g' m') else (0, 0, 2)
theorem frac_Div_any (w : World) (h : FArg w A n c f A' n' c' f') (h' : FArg w C m j g C' m' j' g') :
    Calls Tryz.prog 14 #[.agg #[.slice A n c, .slice A' n' c'], .agg #[.slice C m j, .slice C' m' j']] w (FRes (Fr.divX f n f' n' g m g' m') w) := by
  unfold Fr.divX
  cases hv : Fr.vld f n f' n'
  · exact frac_Div_bad1 w h h' hv
  · cases hv' : Fr.vld g m g' m'
    · exact frac_Div_bad2 w h h' hv hv'
    · exact frac_Div_is w (h.is hv) (h'.is hv')
theorem frac_Sub_bad1 (w : World) (h : FArg w A n c f A' n' c' f') (h' : FArg w C m j g C' m' j' g') (hv : Fr.vld f n f' n' = false) :
    Calls Tryz.prog 12 #[.agg #[.slice A n c, .slice A' n' c'], .agg #[.slice C m j, .slice C' m' j']] w (FRes (0, 0, 2) w) := by
  have hmf : ∀ (fn : Fn) (first cap : Array Value) (w : World), (Instr.makeFunc fn first cap).run Tryz.prog w = .ok (.func fn first cap) w := fun _ _ _ _ => rfl
  have cb := fun W v (hb : Below w.heap.size w W) => calc_bad1 v W (h.on hb) (h'.on hb) hv
  have CB := Lib.hid cb
  have cm := fun W (hb : Below w.heap.size w W) => frac_Cmp_bad1 W (h.on hb) (h'.on hb) hv
  have CM := Lib.hid cm
  clear cm
  have k0 := (((Ks.start w).box [.slice A n c, .slice A' n' c'] 26).box [.slice C m j, .slice C' m' j'] 26).box [.slice none 0 0, .slice none 0 0] 26
  simp only [size_alloc] at k0
  have K0 := Lib.hid k0
  clear k0
  clear cb h h' hv
  go_enter Tryz.func12, Tryz.ntmps12
  go_wp2_with fail
  refine (CM.out _ K0.out.bel).mono ?_
  rintro e w1 ⟨rfl, B1⟩
  have k1 := K0.out.call B1
  have K1 := Lib.hid k1
  clear k1 B1 
  have x0_0 := K1.out.cell0 at2
  have x0_1 := K1.out.cell1 at2
  have x1_0 := K1.out.cell0 at1
  have x1_1 := K1.out.cell1 at1
  have x2_0 := K1.out.cell0 at0
  have x2_1 := K1.out.cell1 at0
  go_wp2_with fail
  refine (CB.out _ _ K1.out.bel).mono ?_
  rintro e w2 ⟨A2, n2, c2, A2r, n2r, c2r, rfl, B2, D2, D2r, h2, h2r, l2, l2r⟩
  have k2 := ((K1.out.call B2).num D2).num D2r
  have K2 := Lib.hid k2
  clear k2 B2 D2 D2r
  clear x0_0 x0_1 x1_0 x1_1 x2_0 x2_1
  have x0_0 := K2.out.cell0 at2
  have x0_1 := K2.out.cell1 at2
  have x1_0 := K2.out.cell0 at1
  have x1_1 := K2.out.cell1 at1
  have x2_0 := K2.out.cell0 at0
  have x2_1 := K2.out.cell1 at0
  have zf := K2.out.free at0
  have HF := Lib.hid (FRes.stored (A := A2) (n := n2) (c := c2) (A' := A2r) (n' := n2r) (c' := c2r) (er := 2) K2.out at0 (by omega) (K2.out.get at1) h2 l2 (K2.out.get at0) h2r l2r)
  go_wp2_with fail
  refine bodyPost_ret (v := .tuple #[.agg #[.slice A2 n2 c2, .slice A2r n2r c2r], .int .i64 2]) (by simp [results, Tryz.results12, go_sem, x2_0, x2_1]) rfl ?_
  exact HF.out
theorem frac_Sub_bad2 (w : World) (h : FArg w A n c f A' n' c' f') (h' : FArg w C m j g C' m' j' g') (hv : Fr.vld f n f' n' = true) (hv' : Fr.vld g m g' m' = false) :
    Calls Tryz.prog 12 #[.agg #[.slice A n c, .slice A' n' c'], .agg #[.slice C m j, .slice C' m' j']] w (FRes (0, 0, 2) w) := by
  have hmf : ∀ (fn : Fn) (first cap : Array Value) (w : World), (Instr.makeFunc fn first cap).run Tryz.prog w = .ok (.func fn first cap) w := fun _ _ _ _ => rfl
  have cb := fun W v (hb : Below w.heap.size w W) => calc_bad2 v W (h.on hb) (h'.on hb) hv hv'
  have CB := Lib.hid cb
  have cm := fun W (hb : Below w.heap.size w W) => frac_Cmp_bad2 W (h.on hb) (h'.on hb) hv hv'
  have CM := Lib.hid cm
  clear cm
  have k0 := (((Ks.start w).box [.slice A n c, .slice A' n' c'] 26).box [.slice C m j, .slice C' m' j'] 26).box [.slice none 0 0, .slice none 0 0] 26
  simp only [size_alloc] at k0
  have K0 := Lib.hid k0
  clear k0
  clear cb h h' hv hv'
  go_enter Tryz.func12, Tryz.ntmps12
  go_wp2_with fail
  refine (CM.out _ K0.out.bel).mono ?_
  rintro e w1 ⟨rfl, B1⟩
  have k1 := K0.out.call B1
  have K1 := Lib.hid k1
  clear k1 B1 
  have x0_0 := K1.out.cell0 at2
  have x0_1 := K1.out.cell1 at2
  have x1_0 := K1.out.cell0 at1
  have x1_1 := K1.out.cell1 at1
  have x2_0 := K1.out.cell0 at0
  have x2_1 := K1.out.cell1 at0
  go_wp2_with fail
  refine (CB.out _ _ K1.out.bel).mono ?_
  rintro e w2 ⟨A2, n2, c2, A2r, n2r, c2r, rfl, B2, D2, D2r, h2, h2r, l2, l2r⟩
  have k2 := ((K1.out.call B2).num D2).num D2r
  have K2 := Lib.hid k2
  clear k2 B2 D2 D2r
  clear x0_0 x0_1 x1_0 x1_1 x2_0 x2_1
  have x0_0 := K2.out.cell0 at2
  have x0_1 := K2.out.cell1 at2
  have x1_0 := K2.out.cell0 at1
  have x1_1 := K2.out.cell1 at1
  have x2_0 := K2.out.cell0 at0
  have x2_1 := K2.out.cell1 at0
  have zf := K2.out.free at0
  have HF := Lib.hid (FRes.stored (A := A2) (n := n2) (c := c2) (A' := A2r) (n' := n2r) (c' := c2r) (er := 2) K2.out at0 (by omega) (K2.out.get at1) h2 l2 (K2.out.get at0) h2r l2r)
  go_wp2_with fail
  refine bodyPost_ret (v := .tuple #[.agg #[.slice A2 n2 c2, .slice A2r n2r c2r], .int .i64 2]) (by simp [results, Tryz.results12, go_sem, x2_0, x2_1]) rfl ?_
  exact HF.out
theorem frac_Sub_less (w : World) (h : FIs w A n c A' n' c' a b) (h' : FIs w C m j C' m' j' p q) (hl : a * q < p * b) :
    Calls Tryz.prog 12 #[.agg #[.slice A n c, .slice A' n' c'], .agg #[.slice C m j, .slice C' m' j']] w (FRes (0, 0, 2) w) := by
  have cm := fun W (hb : Below w.heap.size w W) => frac_Cmp_is W (h.on hb) (h'.on hb)
  obtain ⟨z, ez⟩ : ∃ z, z = Fr.ci (a * q) (p * b) := ⟨_, rfl⟩
  rw [← ez] at cm
  have CM := Lib.hid cm
  have z0 : z < 0 := by rw [ez, Fr.ci_lt hl]; omega
  have k0 := (((Ks.start w).box [.slice A n c, .slice A' n' c'] 26).box [.slice C m j, .slice C' m' j'] 26).box [.slice none 0 0, .slice none 0 0] 26
  simp only [size_alloc] at k0
  have K0 := Lib.hid k0
  clear k0
  clear cm ez h h' hl
  go_enter Tryz.func12, Tryz.ntmps12
  go_wp2_with fail
  refine (CM.out _ K0.out.bel).mono ?_
  rintro e w1 ⟨rfl, B1⟩
  have k1 := K0.out.call B1
  have K1 := Lib.hid k1
  clear k1 B1 
  have x0_0 := K1.out.cell0 at2
  have x0_1 := K1.out.cell1 at2
  have x1_0 := K1.out.cell0 at1
  have x1_1 := K1.out.cell1 at1
  have x2_0 := K1.out.cell0 at0
  have x2_1 := K1.out.cell1 at0
  have zf := K1.out.free at0
  have HF := Lib.hid (FRes.stored (A := none) (n := 0) (c := 0) (A' := none) (n' := 0) (c' := 0) (er := 2) K1.out at0 (by omega) IsN.zero (by omega) (by omega) IsN.zero (by omega) (by omega))
  go_wp2_with fail
  refine bodyPost_ret (v := .tuple #[.agg #[.slice none 0 0, .slice none 0 0], .int .i64 2]) (by simp [results, Tryz.results12, go_sem, x2_0, x2_1]) rfl ?_
  exact HF.out
theorem frac_Sub_ge (w : World) (h : FIs w A n c A' n' c' a b) (h' : FIs w C m j C' m' j' p q) (hl : ¬ a * q < p * b) :
    Calls Tryz.prog 12 #[.agg #[.slice A n c, .slice A' n' c'], .agg #[.slice C m j, .slice C' m' j']] w (FRes (Fr.subT a b p q) w) := by
  have hmf : ∀ (fn : Fn) (first cap : Array Value) (w : World), (Instr.makeFunc fn first cap).run Tryz.prog w = .ok (.func fn first cap) w := fun _ _ _ _ => rfl
  have cc := fun W (hb : Below w.heap.size w W) => calc_Sub (bf := w.heap.size) (bg := w.heap.size + 1) W (h.on hb) (h'.on hb)
  rw [Fr.sub_cal h.b0 h'.b0 hl] at cc
  obtain ⟨t, et⟩ : ∃ t, t = Fr.subT a b p q := ⟨_, rfl⟩
  rw [← et] at cc
  rw [← et]
  have CC := Lib.hid cc
  have cm := fun W (hb : Below w.heap.size w W) => frac_Cmp_is W (h.on hb) (h'.on hb)
  obtain ⟨z, ez⟩ : ∃ z, z = Fr.ci (a * q) (p * b) := ⟨_, rfl⟩
  rw [← ez] at cm
  have CM := Lib.hid cm
  have z0 : ¬ z < 0 := by
    rw [ez]
    rcases Nat.lt_trichotomy (a * q) (p * b) with h | h | h
    · exact absurd h hl
    · rw [h, Fr.ci_eq]; omega
    · rw [Fr.ci_gt h]; omega
  have k0 := (((Ks.start w).box [.slice A n c, .slice A' n' c'] 26).box [.slice C m j, .slice C' m' j'] 26).box [.slice none 0 0, .slice none 0 0] 26
  simp only [size_alloc] at k0
  have K0 := Lib.hid k0
  clear k0
  clear cc cm ez h h' hl et
  go_enter Tryz.func12, Tryz.ntmps12
  go_wp2_with fail
  refine (CM.out _ K0.out.bel).mono ?_
  rintro e w1 ⟨rfl, B1⟩
  have k1 := K0.out.call B1
  have K1 := Lib.hid k1
  clear k1 B1 
  have x0_0 := K1.out.cell0 at2
  have x0_1 := K1.out.cell1 at2
  have x1_0 := K1.out.cell0 at1
  have x1_1 := K1.out.cell1 at1
  have x2_0 := K1.out.cell0 at0
  have x2_1 := K1.out.cell1 at0
  go_wp2_with fail
  refine (CC.out _ K1.out.bel (K1.out.b _ at2) (K1.out.b _ at1)).mono ?_
  rintro e w2 ⟨A2, n2, c2, A2r, n2r, c2r, rfl, B2, D2, D2r, h2, h2r, l2, l2r⟩
  have k2 := ((K1.out.call B2).num D2).num D2r
  have K2 := Lib.hid k2
  clear k2 B2 D2 D2r
  clear x0_0 x0_1 x1_0 x1_1 x2_0 x2_1
  have x0_0 := K2.out.cell0 at2
  have x0_1 := K2.out.cell1 at2
  have x1_0 := K2.out.cell0 at1
  have x1_1 := K2.out.cell1 at1
  have x2_0 := K2.out.cell0 at0
  have x2_1 := K2.out.cell1 at0
  have zf := K2.out.free at0
  have HF := Lib.hid (FRes.stored (A := A2) (n := n2) (c := c2) (A' := A2r) (n' := n2r) (c' := c2r) (er := t.2.2) K2.out at0 (by omega) (K2.out.get at1) h2 l2 (K2.out.get at0) h2r l2r)
  go_wp2_with fail
  refine bodyPost_ret (v := .tuple #[.agg #[.slice A2 n2 c2, .slice A2r n2r c2r], .int .i64 t.2.2]) (by simp [results, Tryz.results12, go_sem, x2_0, x2_1]) rfl ?_
  exact HF.out
theorem frac_Sub_is (w : World) (h : FIs w A n c A' n' c' a b) (h' : FIs w C m j C' m' j' p q) :
    Calls Tryz.prog 12 #[.agg #[.slice A n c, .slice A' n' c'], .agg #[.slice C m j, .slice C' m' j']] w (FRes (Fr.subT a b p q) w) := by
  by_cases hl : a * q < p * b
  · have := frac_Sub_less w h h' hl
    rwa [show ((0, 0, 2) : Nat × Nat × Int) = Fr.subT a b p q by rw [Fr.subT, if_pos hl]] at this
  · exact frac_Sub_ge w h h' hl
def Fr.subX (f : Nat → Nat) (n : Nat) (f' : Nat → Nat) (n' : Nat) (g : Nat → Nat) (m : Nat) (g' : Nat → Nat) (m' : Nat) : Nat × Nat × Int :=
  if vld f n f' n' && vld g m g' m' then subT (Nt.vl 4294967296 f n) (Nt.vl 4294967296 f' n') (Nt.vl 4294967296 g m) (Nt.vl 4294967296 g' m') else (0, 0, 2)
theorem frac_Sub_any (w : World) (h : FArg w A n c f A' n' c' f') (h' : FArg w C m j g C' m' j' g') :
    Calls Tryz.prog 12 #[.agg #[.slice A n c, .slice A' n' c'], .agg #[.slice C m j, .slice C' m' j']] w (FRes (Fr.subX f n f' n' g m g' m') w) := by
  unfold Fr.subX
  cases hv : Fr.vld f n f' n'
  · exact frac_Sub_bad1 w h h' hv
  · cases hv' : Fr.vld g m g' m'
    · exact frac_Sub_bad2 w h h' hv hv'
    · exact frac_Sub_is w (h.is hv) (h'.is hv')
end
end Go.Proofs.YtcgbgaljjhopiaaGreatDoor
