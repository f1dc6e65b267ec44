/- Arguments of any plain type, opened: a shape (Ty), what it reads as (Dat), and the reading in memory (Rd); whatever the frame gives of an argument gives its reading. -/
import Derived.Test.YtdleleanaihcoaaSeqA
import Derived.ChangeSlices
import Derived.WideShapes
import Derived.ChangeAt
import Derived.OpenShut
import Derived.Deep.Slices
import Derived.Deep.Fields
import Derived.ChangeSame
namespace Go.Proofs.Ytdleleanaihcoaa
set_option maxRecDepth 20000
open Go.RowKit Go.ChangeShapes Go.WideShapes Go.ChangeAt Go.WideElems
set_option linter.unusedVariables false
set_option linter.unusedSimpArgs false
inductive Ty where
  | int (k : IntKind) | bool | str
  | sl (e : Ty)
  | nil | cons (a b : Ty)
def Ty.n : Ty → Nat
  | .int _ => 1 | .bool => 1 | .str => 1 | .sl _ => 1
  | .nil => 0 | .cons a b => a.n + b.n
inductive Dat where
  | int (n : Int) | bool (b : Bool) | str (s : ByteArray)
  | ls (len : Nat) (f : Nat → Dat)
  | unit | pair (a b : Dat)
/-- The cells cs read as d; what they point to lies below block B. -/
def Rd (w : World) (B : Nat) : Ty → List Value → Dat → Prop
  | .int k, cs, d => ∃ n, cs = [.int k n] ∧ d = .int n ∧ (Lit.int k n).wf = true
  | .bool, cs, d => ∃ b, cs = [.bool b] ∧ d = .bool b
  | .str, cs, d => ∃ s : ByteArray, cs = [.string s] ∧ d = .str s ∧ s.size ≤ 9223372036854775807
  | .sl e, cs, d => ∃ A len cap f, cs = [.slice A len cap] ∧ d = .ls len f ∧ len ≤ cap ∧ cap ≤ 9223372036854775807 ∧
      (0 < len → ∃ ad, A = some ad ∧ ad.block < B ∧ ∀ i, i < len → ∃ vs, vs.length = e.n ∧ (∀ j v, vs[j]? = some v → w.cell? (ad.add (i * e.n + j)) = some v) ∧ Rd w B e vs (f i))
  | .nil, cs, d => cs = [] ∧ d = .unit
  | .cons a b, cs, d => ∃ c1 c2 d1 d2, cs = c1 ++ c2 ∧ c1.length = a.n ∧ d = .pair d1 d2 ∧ Rd w B a c1 d1 ∧ Rd w B b c2 d2
theorem Rd.keep {w w' : World} {B : Nat} (hk : ∀ p : Addr, p.block < B → w'.cell? p = w.cell? p) : ∀ {t : Ty} {cs : List Value} {d : Dat}, Rd w B t cs d → Rd w' B t cs d
  | .int _, _, _, h => h
  | .bool, _, _, h => h
  | .str, _, _, h => h
  | .sl e, _, _, h => by
    obtain ⟨A, len, cap, f, h1, h2, h3, h4, h5⟩ := h
    refine ⟨A, len, cap, f, h1, h2, h3, h4, fun h0 => ?_⟩
    obtain ⟨ad, e1, hb, hi⟩ := h5 h0
    refine ⟨ad, e1, hb, fun i hl => ?_⟩
    obtain ⟨vs, g1, g2, g3⟩ := hi i hl
    exact ⟨vs, g1, fun j v hj => by rw [hk _ (by rw [block_of_add]; exact hb)]; exact g2 j v hj, Rd.keep hk g3⟩
  | .nil, _, _, h => h
  | .cons a b, _, _, h => by
    obtain ⟨c1, c2, d1, d2, h1, h2, h3, h4, h5⟩ := h
    exact ⟨c1, c2, d1, d2, h1, h2, h3, Rd.keep hk h4, Rd.keep hk h5⟩
theorem Rd.below {w w' : World} {B : Nat} {t : Ty} {cs : List Value} {d : Dat} (h : Rd w B t cs d) (hb : Below B w w') : Rd w' B t cs d := h.keep fun _ hp => hb.cell hp
theorem Rd.more {w : World} {B B' : Nat} (hB : B ≤ B') : ∀ {t : Ty} {cs : List Value} {d : Dat}, Rd w B t cs d → Rd w B' t cs d
  | .int _, _, _, h => h
  | .bool, _, _, h => h
  | .str, _, _, h => h
  | .sl e, _, _, h => by
    obtain ⟨A, len, cap, f, h1, h2, h3, h4, h5⟩ := h
    refine ⟨A, len, cap, f, h1, h2, h3, h4, fun h0 => ?_⟩
    obtain ⟨ad, e1, hb, hi⟩ := h5 h0
    refine ⟨ad, e1, Nat.lt_of_lt_of_le hb hB, fun i hl => ?_⟩
    obtain ⟨vs, g1, g2, g3⟩ := hi i hl
    exact ⟨vs, g1, g2, Rd.more hB g3⟩
  | .nil, _, _, h => h
  | .cons a b, _, _, h => by
    obtain ⟨c1, c2, d1, d2, h1, h2, h3, h4, h5⟩ := h
    exact ⟨c1, c2, d1, d2, h1, h2, h3, Rd.more hB h4, Rd.more hB h5⟩
/-- Is this the shape of a program's type; of a struct's fields from an offset on? -/
def Ty.fits (P : Program) : Ty → (TypeId → Bool) × (Nat → List Field → Bool)
  | .int k => (fun t => match P.underlying t with | some (.int k') => decide (k' = k) && (P.cellsOf t == 1) | _ => false, fun _ _ => false)
  | .bool => (fun t => match P.underlying t with | some .bool => P.cellsOf t == 1 | _ => false, fun _ _ => false)
  | .str => (fun t => match P.underlying t with | some .string => P.cellsOf t == 1 | _ => false, fun _ _ => false)
  | .sl e => (fun t => match P.underlying t with | some (.slice e') => (e.fits P).1 e' && (P.cellsOf e' == e.n) && (0 < e.n : Bool) && (P.cellsOf t == 1) | _ => false, fun _ _ => false)
  | .nil => (fun _ => false, fun _ fs => fs.isEmpty)
  | .cons a b => (fun t => match P.underlying t with
      | some (.struct fs) => (match fs.toList with
        | f :: r => (f.offset == 0) && (a.fits P).1 f.type && (P.cellsOf f.type == a.n) && (b.fits P).2 a.n r && (P.cellsOf t == a.n + b.n)
        | [] => false)
      | _ => false,
     fun o fs => match fs with
      | f :: r => (f.offset == o) && (a.fits P).1 f.type && (P.cellsOf f.type == a.n) && (b.fits P).2 (o + a.n) r
      | [] => false)
section
variable {H : Type} {enc : TypeId × Value → H} {P : Program} {W : World}
theorem rd_fields {n : Nat} {cs : List Value} (a b : Ty) (o : Nat) (f : Field) (r : List Field)
    (ha : ∀ (t : TypeId) (fuel : Nat) (cs : List Value) (x : DataW H × List MemPlace), (a.fits P).1 t = true → DataW.trod enc P W 0 (fun _ => true) true fuel t cs = some x → ∃ d, Rd W W.heap.size a cs d ∧ cs.length = a.n)
    (hb : ∀ (o : Nat) (fs : List Field), (b.fits P).2 o fs = true → (∀ (i : Nat) (f : Field), fs[i]? = some f → ∃ y, DataW.trod enc P W 0 (fun _ => true) true n f.type ((cs.drop f.offset).take (P.cellsOf f.type)) = some y) → ∃ d, Rd W W.heap.size b ((cs.drop o).take b.n) d)
    (h1 : f.offset = o) (h2 : (a.fits P).1 f.type = true) (h3 : P.cellsOf f.type = a.n) (h4 : (b.fits P).2 (o + a.n) r = true)
    (hf : ∀ (i : Nat) (g : Field), (f :: r)[i]? = some g → ∃ y, DataW.trod enc P W 0 (fun _ => true) true n g.type ((cs.drop g.offset).take (P.cellsOf g.type)) = some y) :
    ∃ d, Rd W W.heap.size (.cons a b) ((cs.drop o).take (a.n + b.n)) d := by
  obtain ⟨y, hy⟩ := hf 0 f rfl
  rw [h1, h3] at hy
  obtain ⟨d1, r1, l1⟩ := ha _ _ _ _ h2 hy
  obtain ⟨d2, r2⟩ := hb (o + a.n) r h4 (fun i g hg => hf (i + 1) g hg)
  refine ⟨.pair d1 d2, _, _, d1, d2, ?_, l1, rfl, r1, r2⟩
  rw [List.take_add, List.drop_drop]
theorem rd_of (ty : Ty) :
    (∀ (t : TypeId) (fuel : Nat) (cs : List Value) (x : DataW H × List MemPlace), (ty.fits P).1 t = true → DataW.trod enc P W 0 (fun _ => true) true fuel t cs = some x → ∃ d, Rd W W.heap.size ty cs d ∧ cs.length = ty.n) ∧
    (∀ (n : Nat) (cs : List Value) (o : Nat) (fs : List Field), (ty.fits P).2 o fs = true → (∀ (i : Nat) (f : Field), fs[i]? = some f → ∃ y, DataW.trod enc P W 0 (fun _ => true) true n f.type ((cs.drop f.offset).take (P.cellsOf f.type)) = some y) → ∃ d, Rd W W.heap.size ty ((cs.drop o).take ty.n) d) := by
  induction ty with
  | int k =>
    refine ⟨fun t fuel cs x hf h => ?_, fun _ _ _ _ hf => by cases hf⟩
    simp only [Ty.fits] at hf
    split at hf
    · rename_i k' hu
      rw [Bool.and_eq_true, decide_eq_true_iff] at hf
      obtain ⟨rfl, -⟩ := hf
      obtain ⟨n, rfl, -, hw⟩ := DataW.trod_int hu h
      exact ⟨.int n, ⟨n, rfl, rfl, hw⟩, rfl⟩
    · cases hf
  | bool =>
    refine ⟨fun t fuel cs x hf h => ?_, fun _ _ _ _ hf => by cases hf⟩
    simp only [Ty.fits] at hf
    split at hf
    · rename_i hu
      obtain ⟨b, rfl, -⟩ := DataW.trod_bool hu h
      exact ⟨.bool b, ⟨b, rfl, rfl⟩, rfl⟩
    · cases hf
  | str =>
    refine ⟨fun t fuel cs x hf h => ?_, fun _ _ _ _ hf => by cases hf⟩
    simp only [Ty.fits] at hf
    split at hf
    · rename_i hu
      obtain ⟨s, rfl, -, hw⟩ := DataW.trod_string hu h
      unfold maxLen at hw
      exact ⟨.str s, ⟨s, rfl, rfl, by omega⟩, rfl⟩
    · cases hf
  | sl e ih =>
    refine ⟨fun t fuel cs x hf h => ?_, fun _ _ _ _ hf => by cases hf⟩
    simp only [Ty.fits] at hf
    split at hf
    · rename_i e' hu
      rw [Bool.and_eq_true, Bool.and_eq_true, Bool.and_eq_true, beq_iff_eq, decide_eq_true_iff] at hf
      obtain ⟨⟨⟨hfe, hc⟩, h0⟩, -⟩ := hf
      rcases Go.Deep.open_slice hu h with ⟨rfl, -⟩ | ⟨a, len, cap, m, n, D, Pl, rfl, -, hl, hm, hmm, -, hi⟩
      · exact ⟨.ls 0 fun _ => .unit, ⟨none, 0, 0, _, rfl, rfl, by omega, by omega, fun h => absurd h (by omega)⟩, rfl⟩
      · have hel : ∀ i, i < len → ∃ vs d, vs.length = e.n ∧ (∀ j v, vs[j]? = some v → W.cell? (a.add (i * e.n + j)) = some v) ∧ Rd W W.heap.size e vs d := fun i hil => by
          obtain ⟨cs', hcs, ht⟩ := hi i (by rw [hmm]; exact Nat.lt_of_lt_of_le hil (by simpa using hl))
          rw [hc] at hcs
          obtain ⟨_, hcl, hat⟩ := World.cells?_some hcs
          obtain ⟨d, hd, -⟩ := ih.1 _ _ _ _ hfe ht
          refine ⟨cs', d, by omega, fun j v hj => ?_, hd⟩
          have hjl : j < cs'.length := (List.getElem?_eq_some_iff.1 hj).1
          rw [← Go.Deep.add_add, hat j (by omega)]
          exact hj
        unfold maxLen at hm
        refine ⟨.ls len fun i => if h : i < len then Classical.choose (Classical.choose_spec (hel i h)) else .unit, ⟨some a, len, cap, _, rfl, rfl, hl, by omega, fun hpos => ⟨a, rfl, ?_, fun i hil => ?_⟩⟩, rfl⟩
        · obtain ⟨vs, d, h1, h2, -⟩ := hel 0 hpos
          have h3 : 0 < vs.length := by omega
          have := World.block_lt_of_cell? W _ (h2 0 _ (List.getElem?_eq_getElem h3))
          rwa [block_of_add] at this
        · have h1 := Classical.choose_spec (Classical.choose_spec (hel i hil))
          refine ⟨Classical.choose (hel i hil), h1.1, h1.2.1, ?_⟩
          rw [dif_pos hil]
          exact h1.2.2
    · cases hf
  | nil =>
    refine ⟨fun t fuel cs x hf h => (by cases hf), fun n cs o fs hf hfs => ⟨.unit, ?_, rfl⟩⟩
    simp [Ty.n]
  | cons a b iha ihb =>
    refine ⟨fun t fuel cs x hf h => ?_, fun n cs o fs hf hfs => ?_⟩
    · simp only [Ty.fits] at hf
      split at hf
      · rename_i fs hu
        split at hf
        · rename_i f r hfl
          simp only [Bool.and_eq_true, beq_iff_eq] at hf
          obtain ⟨⟨⟨⟨h1, h2⟩, h3⟩, h4⟩, h5⟩ := hf
          obtain ⟨xs, n, -, -, hcl, hxl, hx⟩ := DataW.trod_struct hu h
          obtain ⟨d, hd⟩ := rd_fields (W := W) (enc := enc) (n := n) (cs := cs) a b 0 f r iha.1 (ihb.2 n cs) h1 h2 h3 (by rw [Nat.zero_add]; exact h4) (fun i g hg => by
            rw [← hfl] at hg
            have hg' : fs[i]? = some g := by simpa using hg
            have hi : i < xs.length := by rw [hxl]; exact (Array.getElem?_eq_some_iff.1 hg').1
            exact ⟨xs[i], (hx i g hg').trans (List.getElem?_eq_getElem hi)⟩)
          rw [List.drop_zero, List.take_of_length_le (by omega)] at hd
          exact ⟨d, hd, by rw [hcl, h5]; rfl⟩
        · cases hf
      · cases hf
    · simp only [Ty.fits] at hf
      split at hf
      · rename_i f r
        simp only [Bool.and_eq_true, beq_iff_eq] at hf
        obtain ⟨⟨⟨h1, h2⟩, h3⟩, h4⟩ := hf
        exact rd_fields (W := W) (enc := enc) (n := n) (cs := cs) a b o f r iha.1 (ihb.2 n cs) h1 h2 h3 h4 hfs
      · cases hf
/-- A slice argument. -/
theorem sl_opened {e : Ty} {t : TypeId} {A : Option Addr} {len cap : Nat} {d : DataW H} {p : List MemPlace} (hf : ((Ty.sl e).fits P).1 t = true)
    (h : DataW.Trod enc P W 0 (fun _ => true) true t (.slice A len cap) d p) : ∃ D, Rd W W.heap.size (.sl e) [.slice A len cap] D := by
  obtain ⟨fuel, hh⟩ := h
  obtain ⟨D, hD, -⟩ := (rd_of (.sl e)).1 t fuel _ _ hf hh
  exact ⟨D, by simpa [Value.cells] using hD⟩
/-- A struct argument. -/
theorem st_opened {a b : Ty} {t : TypeId} {r : Reach} {base : Nat} {fs : Array Field} {v : Value} {d : DataW H} {p : List MemPlace} (hu : P.underlying t = some (.struct fs)) (hf : ((Ty.cons a b).fits P).1 t = true)
    (hv : Value.okWide P W r base t v) (h : DataW.Trod enc P W 0 (fun _ => true) true t v d p) : ∃ cs D, v = .agg cs ∧ Rd W W.heap.size (.cons a b) cs.toList D := by
  obtain ⟨cs, rfl, -⟩ := okWide_struct hu hv
  obtain ⟨fuel, hh⟩ := h
  obtain ⟨D, hD, -⟩ := (rd_of (.cons a b)).1 t fuel _ _ hf hh
  exact ⟨cs, D, rfl, by simpa [Value.cells] using hD⟩
end
end Go.Proofs.Ytdleleanaihcoaa
