/- Layer 5: the program's Choose (scaleNat, binomial over natural numbers). (Written by tools/comb01.py.) -/
import Derived.Test.YtfjnpmkklanopaaCombG
import Derived.Test.YtfjnpmkklanopaaCombE
import Derived.Test.YtfjnpmkklanopaaOuts
import Derived.Test.YtfjnpmkklanopaaNatM
import Derived.Deep.Cut
import Derived.Deep.CutRange
import Derived.Deep.RegionHeld3
namespace Go.Proofs.Ytfjnpmkklanopaa
set_option maxRecDepth 20000
open Go.RowKit
set_option linter.unusedVariables false
set_option linter.unusedSimpArgs false
theorem nat_of_wrap (x : Nat) (h : x ≤ 81) (W : World) : Calls Try.prog 27 #[.int .u64 (IntKind.u64.wrap (x : Int))] W (ORes x W) :=
  nat_Of _ _ W (by simp only [IntKind.wrap_u64]; omega) (by omega)
set_option maxHeartbeats 4000000 in
theorem comb_scaleNat {n c b u d : Nat} {A : Option Addr} (w : World) (h : IsN w w.heap.size A n b) (hn : n ≤ 64) (hc : n ≤ c) (hf : Nt.fits (b * u) = true) (hu : u ≤ 81) (hd : d ≤ 81) (d0 : 0 < d) :
    Calls Try.prog 28 #[.agg #[.slice A n c], .int .i64 (u : Int), .int .i64 (d : Int)] w (NRes (b * u / d) 0 w) := by
  have OU := Lib.hid fun W => nat_of_wrap u hu W
  have OD := Lib.hid fun W => nat_of_wrap d hd W
  have ML := Lib.hid fun W {C : Option Addr} {m j : Nat} (hb : Below w.heap.size w W) (h' : NumAt W C m j u) => nat_Mul_fit (c := c) (c' := j) W ((h.below hb).more hb.size) hn h'.d h'.h hf
  obtain ⟨v, ev⟩ : ∃ v, v = b * u := ⟨_, rfl⟩
  rw [← ev] at ML ⊢
  have DN := Lib.hid fun W {C E : Option Addr} {m j k l : Nat} (h : NumAt W C m j v) (h' : NumAt W E k l d) => nat_DivMod_ok (c := j) (c' := l) W h.d h'.d h.h h'.h h.l d0
  have k1 := ((Ks.start w).box [.slice A n c] 24).box [.slice none 0 0] 24
  simp only [size_alloc] at k1
  obtain ⟨W1, eW⟩ : ∃ W1, W1 = (w.alloc (.cells #[.slice A n c] 24)).alloc (.cells #[.slice none 0 0] 24) := ⟨_, rfl⟩
  have K1 : Hid (Ks w W1 [(w.heap.size + 1, [.slice none 0 0], 24), (w.heap.size, [.slice A n c], 24)] []) := by rw [eW]; exact k1
  have EW := Lib.hid eW
  clear k1 h ev eW hf
  go_enter Try.func28, Try.ntmps28
  go_wp2_with fail
  rw [← EW.out]
  clear EW
  have x0 := K1.out.cell0 at1
  go_cut [8, 9] from 12 to 20 (fun sx tx wx => OutN w W1 v 0 sx tx wx)
  case first =>
    have K1d := Lib.hid (K1.out.call (Below.refl _ W1).drew)
    go_region_held3 (fun W => W.cell? ⟨w.heap.size, 0, none⟩ = some (.slice A n c))
      (first | (with_reducible exact K1d.out.cell0 at1) | (with_reducible exact K2.out.cell0 at1) | (with_reducible exact K3.out.cell0 at2) | (with_reducible exact K4.out.cell0 at1) | (with_reducible exact K5.out.cell0 at2) | (with_reducible exact K6.out.cell0 at2) | (with_reducible exact kAl1 (by assumption)) | (with_reducible exact kAd1 (by assumption)) | (with_reducible exact kSt1 NR (by assumption)) | (with_reducible exact kAl1 (K4.out.cell0 at1)) | fail)
      (first
        | (go_at_call 27; (with_reducible refine (OU.out _).mono ?_); rintro e w2 ⟨A2, n2, c2, rfl, B2, D2, h2, l2⟩; have K2 := Lib.hid ((K1d.out.call B2).num D2); have HB2 := Lib.hid B2; clear B2 D2)
        | (go_at_call 36; have K2a := Lib.hid (K2.out.box [.slice none 0 0] 24); (with_reducible refine (ML.out _ K2a.out.bel ⟨K2a.out.get at0, h2, l2⟩).mono ?_); rintro e w3 ⟨A3, n3, c3, rfl, B3, D3, h3, l3⟩; have K3 := Lib.hid ((K2a.out.call B3).num D3); have HB3 := Lib.hid B3; have HD3 := Lib.hid D3; have q0 := K3.out.cell0 at0; have qf := K3.out.free at0; have NR : Hid (w.heap.size ≠ w2.heap.size) := Nat.ne_of_lt (lt_of_block (K2.out.b _ at1)); clear B3 D3)
        | (go_at_call 36; (with_reducible refine (ML.out _ K2.out.bel ⟨K2.out.get at0, h2, l2⟩).mono ?_); rintro e w4 ⟨A4, n4, c4, rfl, B4, D4, h4, l4⟩; have K4 := Lib.hid ((K2.out.call B4).num D4); have HB4 := Lib.hid B4; have HD4 := Lib.hid D4; clear B4 D4)
        | (go_at_call 27; (with_reducible refine (OU.out _).mono ?_); rintro e w5 ⟨A5, n5, c5, rfl, B5, D5, h5, l5⟩; have k5 := (((K1.out.box [.slice none 0 0] 24).call (Below.refl _ _).drew).call B5).num D5; have K5 := Lib.hid k5; have HB5 := Lib.hid B5; have NR : Hid (w.heap.size ≠ W1.heap.size) := (by have h := lt_of_block (K1.out.b _ at1); exact Nat.ne_of_lt h); clear k5 B5 D5)
        | (go_at_call 36; (with_reducible refine (ML.out _ K5.out.bel ⟨K5.out.get at0, h5, l5⟩).mono ?_); rintro e w6 ⟨A6, n6, c6, rfl, B6, D6, h6, l6⟩; have K6 := Lib.hid ((K5.out.call B6).num D6); have HB6 := Lib.hid B6; have HD6 := Lib.hid D6; have q0 := K6.out.cell0 at0; have qf := K6.out.free at0; clear B6 D6)
        | fail)
    all_goals (
      go_wp2_with fail
      go_meet
      first
        | exact ⟨w2.heap.size, A3, n3, c3, rfl, rfl, fun bs ns K => (((((K.call (Below.refl _ _).drew).call HB2.out).box [.slice none 0 0] 24).call HB3.out).num HD3.out).put1 at0 ((K.call (Below.refl _ _).drew).call HB2.out).bel.size (fun p hp => ⟨List.mem_cons_of_mem _ hp, Nat.ne_of_lt (lt_of_block (((K.call (Below.refl _ _).drew).call HB2.out).b p hp))⟩) _, h3, l3⟩
        | exact ⟨_, A4, n4, c4, rfl, rfl, fun bs ns K => ((((K.call (Below.refl _ _).drew).call HB2.out).call HB4.out).num HD4.out).box [.slice A4 n4 c4] 24, h4, l4⟩
        | exact ⟨W1.heap.size, A6, n6, c6, rfl, rfl, fun bs ns K => (((((K.box [.slice none 0 0] 24).call (Below.refl _ _).drew).call HB5.out).call HB6.out).num HD6.out).put1 at0 K.bel.size (fun p hp => ⟨List.mem_cons_of_mem _ hp, Nat.ne_of_lt (lt_of_block (K.b p hp))⟩) _, h6, l6⟩)
  case rest =>
    obtain ⟨R7, A7, n7, c7, rfl, rfl, hk7, h7, l7⟩ := hcut
    have K7 := Lib.hid (hk7 _ _ K1.out)
    clear hk7
    clear x0
    obtain ⟨W0, eW⟩ : ∃ W0, W0 = wc := ⟨_, rfl⟩
    rw [← eW] at K7 ⊢
    clear eW
    have x1 := K7.out.cell0 at0
    go_wp2_with fail
    have s7 : R7 < W0.heap.size := K7.out.lt at0
    have HN8 := Lib.hid fun W (hb : Below W0.heap.size W0 W) => (⟨(K7.out.call hb).get at0, h7, l7⟩ : NumAt W A7 n7 c7 v)
    have C8 := Lib.hid fun W (hb : Below W0.heap.size W0 W) => (K7.out.call hb).cell0 at0
    clear x1
    have r0 := Lib.hid ((Ks.start W0).call (Below.refl W0.heap.size W0).drew)
    have r1 := Lib.hid (((Ks.start W0).box [.slice none 0 0] 24).call (Below.refl _ _).drew)
    have k2 := (((Ks.start W0).box [.slice none 0 0] 24).box [.slice none 0 0] 24).call (Below.refl _ _).drew
    simp only [size_alloc] at k2
    have r2 := Lib.hid k2
    clear k2
    go_cut [10, 11, 9] from 24 to 33 (fun sx tx ex wx => OutN2 W0 (v / d) (v % d) sx tx ex wx)
    case first =>
      go_region_held3 (fun W => W.cell? ⟨R7, 0, none⟩ = some (.slice A7 n7 c7))
        (first | (with_reducible exact C8.out _ r0.out.bel) | (with_reducible exact C8.out _ KO.out.bel) | (with_reducible exact C8.out _ KD.out.bel) | (with_reducible exact kAl1 (by assumption)) | (with_reducible exact kAd1 (by assumption)) | (with_reducible exact kStL (by omega) (by assumption)) | ((repeat (first | (with_reducible refine kAl1 ?_) | (with_reducible refine kStL (by omega) ?_))); (first | (with_reducible exact C8.out _ KD.out.bel) | (with_reducible exact C8.out _ KO.out.bel) | (with_reducible exact C8.out _ r0.out.bel))) | fail)
        (first
          | (go_at_call 27; (with_reducible refine (OD.out _).mono ?_); rintro e wo ⟨Ao, no, co, rfl, Bo, Do, ho, lo⟩; (first | (have KO := Lib.hid ((r0.out.call Bo).num Do)) | (have KO := Lib.hid ((r1.out.call Bo).num Do)) | (have KO := Lib.hid ((r2.out.call Bo).num Do))); have HBo := Lib.hid Bo; have sy := Bo.size; (try simp only [World.size_drew, size_alloc] at sy); have so : W0.heap.size ≤ wo.heap.size := KO.out.bel.size; clear Bo Do)
          | (go_at_call 47; (first | ((with_reducible refine (DN.out _ (HN8.out _ KO.out.bel) ⟨KO.out.get at0, ho, lo⟩).mono ?_); rintro e wd ⟨Ad, nd, cd, Ar, nr, cr, rfl, Bd, Dd, Dr, hd, hr, ld, lr⟩; have KD := Lib.hid (((KO.out.call Bd).num Dd).num Dr); have HBd := Lib.hid Bd; have HDd := Lib.hid Dd; have HDr := Lib.hid Dr; have sd : W0.heap.size ≤ wd.heap.size := KD.out.bel.size; (try (have q0 := KD.out.cell0 at0; have qf := KD.out.free at0; have q0a := fun o => (KD.out.call ((Below.refl _ _).alloc (Nat.le_refl _) o)).cell0 at0; have qfa := fun o => (KD.out.call ((Below.refl _ _).alloc (Nat.le_refl _) o)).free at0)); (try (have q1 := KD.out.cell0 at1; have qg := KD.out.free at1)); have sx := Bd.size; (try simp only [size_alloc] at sx); (try (have g01 : ∀ (W : World) (v : Value), (W.setCell ⟨W0.heap.size, 0, none⟩ v).cell? ⟨W0.heap.size + 1, 0, none⟩ = W.cell? ⟨W0.heap.size + 1, 0, none⟩ := fun W v => cell_far W v (by show W0.heap.size + 1 ≠ W0.heap.size; omega))); (try (have g02 : ∀ (W : World) (v : Value), (W.setCell ⟨W0.heap.size, 0, none⟩ v).cell? ⟨wo.heap.size, 0, none⟩ = W.cell? ⟨wo.heap.size, 0, none⟩ := fun W v => cell_far W v (by show wo.heap.size ≠ W0.heap.size; omega))); (try (have g03 : ∀ (W : World) (v : Value), (W.setCell ⟨W0.heap.size, 0, none⟩ v).cell? ⟨wo.heap.size + 1, 0, none⟩ = W.cell? ⟨wo.heap.size + 1, 0, none⟩ := fun W v => cell_far W v (by show wo.heap.size + 1 ≠ W0.heap.size; omega))); (try (have g04 : ∀ (W : World) (v : Value), (W.setCell ⟨W0.heap.size, 0, none⟩ v).cell? ⟨wd.heap.size, 0, none⟩ = W.cell? ⟨wd.heap.size, 0, none⟩ := fun W v => cell_far W v (by show wd.heap.size ≠ W0.heap.size; omega))); (try (have g05 : ∀ (W : World) (v : Value), (W.setCell ⟨W0.heap.size, 0, none⟩ v).cell? ⟨wd.heap.size + 1, 0, none⟩ = W.cell? ⟨wd.heap.size + 1, 0, none⟩ := fun W v => cell_far W v (by show wd.heap.size + 1 ≠ W0.heap.size; omega))); (try (have g10 : ∀ (W : World) (v : Value), (W.setCell ⟨W0.heap.size + 1, 0, none⟩ v).cell? ⟨W0.heap.size, 0, none⟩ = W.cell? ⟨W0.heap.size, 0, none⟩ := fun W v => cell_far W v (by show W0.heap.size ≠ W0.heap.size + 1; omega))); (try (have g12 : ∀ (W : World) (v : Value), (W.setCell ⟨W0.heap.size + 1, 0, none⟩ v).cell? ⟨wo.heap.size, 0, none⟩ = W.cell? ⟨wo.heap.size, 0, none⟩ := fun W v => cell_far W v (by show wo.heap.size ≠ W0.heap.size + 1; omega))); (try (have g13 : ∀ (W : World) (v : Value), (W.setCell ⟨W0.heap.size + 1, 0, none⟩ v).cell? ⟨wo.heap.size + 1, 0, none⟩ = W.cell? ⟨wo.heap.size + 1, 0, none⟩ := fun W v => cell_far W v (by show wo.heap.size + 1 ≠ W0.heap.size + 1; omega))); (try (have g14 : ∀ (W : World) (v : Value), (W.setCell ⟨W0.heap.size + 1, 0, none⟩ v).cell? ⟨wd.heap.size, 0, none⟩ = W.cell? ⟨wd.heap.size, 0, none⟩ := fun W v => cell_far W v (by show wd.heap.size ≠ W0.heap.size + 1; omega))); (try (have g15 : ∀ (W : World) (v : Value), (W.setCell ⟨W0.heap.size + 1, 0, none⟩ v).cell? ⟨wd.heap.size + 1, 0, none⟩ = W.cell? ⟨wd.heap.size + 1, 0, none⟩ := fun W v => cell_far W v (by show wd.heap.size + 1 ≠ W0.heap.size + 1; omega))); (try (have g20 : ∀ (W : World) (v : Value), (W.setCell ⟨wo.heap.size, 0, none⟩ v).cell? ⟨W0.heap.size, 0, none⟩ = W.cell? ⟨W0.heap.size, 0, none⟩ := fun W v => cell_far W v (by show W0.heap.size ≠ wo.heap.size; omega))); (try (have g21 : ∀ (W : World) (v : Value), (W.setCell ⟨wo.heap.size, 0, none⟩ v).cell? ⟨W0.heap.size + 1, 0, none⟩ = W.cell? ⟨W0.heap.size + 1, 0, none⟩ := fun W v => cell_far W v (by show W0.heap.size + 1 ≠ wo.heap.size; omega))); (try (have g23 : ∀ (W : World) (v : Value), (W.setCell ⟨wo.heap.size, 0, none⟩ v).cell? ⟨wo.heap.size + 1, 0, none⟩ = W.cell? ⟨wo.heap.size + 1, 0, none⟩ := fun W v => cell_far W v (by show wo.heap.size + 1 ≠ wo.heap.size; omega))); (try (have g24 : ∀ (W : World) (v : Value), (W.setCell ⟨wo.heap.size, 0, none⟩ v).cell? ⟨wd.heap.size, 0, none⟩ = W.cell? ⟨wd.heap.size, 0, none⟩ := fun W v => cell_far W v (by show wd.heap.size ≠ wo.heap.size; omega))); (try (have g25 : ∀ (W : World) (v : Value), (W.setCell ⟨wo.heap.size, 0, none⟩ v).cell? ⟨wd.heap.size + 1, 0, none⟩ = W.cell? ⟨wd.heap.size + 1, 0, none⟩ := fun W v => cell_far W v (by show wd.heap.size + 1 ≠ wo.heap.size; omega))); (try (have g30 : ∀ (W : World) (v : Value), (W.setCell ⟨wo.heap.size + 1, 0, none⟩ v).cell? ⟨W0.heap.size, 0, none⟩ = W.cell? ⟨W0.heap.size, 0, none⟩ := fun W v => cell_far W v (by show W0.heap.size ≠ wo.heap.size + 1; omega))); (try (have g31 : ∀ (W : World) (v : Value), (W.setCell ⟨wo.heap.size + 1, 0, none⟩ v).cell? ⟨W0.heap.size + 1, 0, none⟩ = W.cell? ⟨W0.heap.size + 1, 0, none⟩ := fun W v => cell_far W v (by show W0.heap.size + 1 ≠ wo.heap.size + 1; omega))); (try (have g32 : ∀ (W : World) (v : Value), (W.setCell ⟨wo.heap.size + 1, 0, none⟩ v).cell? ⟨wo.heap.size, 0, none⟩ = W.cell? ⟨wo.heap.size, 0, none⟩ := fun W v => cell_far W v (by show wo.heap.size ≠ wo.heap.size + 1; omega))); (try (have g34 : ∀ (W : World) (v : Value), (W.setCell ⟨wo.heap.size + 1, 0, none⟩ v).cell? ⟨wd.heap.size, 0, none⟩ = W.cell? ⟨wd.heap.size, 0, none⟩ := fun W v => cell_far W v (by show wd.heap.size ≠ wo.heap.size + 1; omega))); (try (have g35 : ∀ (W : World) (v : Value), (W.setCell ⟨wo.heap.size + 1, 0, none⟩ v).cell? ⟨wd.heap.size + 1, 0, none⟩ = W.cell? ⟨wd.heap.size + 1, 0, none⟩ := fun W v => cell_far W v (by show wd.heap.size + 1 ≠ wo.heap.size + 1; omega))); (try (have g40 : ∀ (W : World) (v : Value), (W.setCell ⟨wd.heap.size, 0, none⟩ v).cell? ⟨W0.heap.size, 0, none⟩ = W.cell? ⟨W0.heap.size, 0, none⟩ := fun W v => cell_far W v (by show W0.heap.size ≠ wd.heap.size; omega))); (try (have g41 : ∀ (W : World) (v : Value), (W.setCell ⟨wd.heap.size, 0, none⟩ v).cell? ⟨W0.heap.size + 1, 0, none⟩ = W.cell? ⟨W0.heap.size + 1, 0, none⟩ := fun W v => cell_far W v (by show W0.heap.size + 1 ≠ wd.heap.size; omega))); (try (have g42 : ∀ (W : World) (v : Value), (W.setCell ⟨wd.heap.size, 0, none⟩ v).cell? ⟨wo.heap.size, 0, none⟩ = W.cell? ⟨wo.heap.size, 0, none⟩ := fun W v => cell_far W v (by show wo.heap.size ≠ wd.heap.size; omega))); (try (have g43 : ∀ (W : World) (v : Value), (W.setCell ⟨wd.heap.size, 0, none⟩ v).cell? ⟨wo.heap.size + 1, 0, none⟩ = W.cell? ⟨wo.heap.size + 1, 0, none⟩ := fun W v => cell_far W v (by show wo.heap.size + 1 ≠ wd.heap.size; omega))); (try (have g45 : ∀ (W : World) (v : Value), (W.setCell ⟨wd.heap.size, 0, none⟩ v).cell? ⟨wd.heap.size + 1, 0, none⟩ = W.cell? ⟨wd.heap.size + 1, 0, none⟩ := fun W v => cell_far W v (by show wd.heap.size + 1 ≠ wd.heap.size; omega))); (try (have g50 : ∀ (W : World) (v : Value), (W.setCell ⟨wd.heap.size + 1, 0, none⟩ v).cell? ⟨W0.heap.size, 0, none⟩ = W.cell? ⟨W0.heap.size, 0, none⟩ := fun W v => cell_far W v (by show W0.heap.size ≠ wd.heap.size + 1; omega))); (try (have g51 : ∀ (W : World) (v : Value), (W.setCell ⟨wd.heap.size + 1, 0, none⟩ v).cell? ⟨W0.heap.size + 1, 0, none⟩ = W.cell? ⟨W0.heap.size + 1, 0, none⟩ := fun W v => cell_far W v (by show W0.heap.size + 1 ≠ wd.heap.size + 1; omega))); (try (have g52 : ∀ (W : World) (v : Value), (W.setCell ⟨wd.heap.size + 1, 0, none⟩ v).cell? ⟨wo.heap.size, 0, none⟩ = W.cell? ⟨wo.heap.size, 0, none⟩ := fun W v => cell_far W v (by show wo.heap.size ≠ wd.heap.size + 1; omega))); (try (have g53 : ∀ (W : World) (v : Value), (W.setCell ⟨wd.heap.size + 1, 0, none⟩ v).cell? ⟨wo.heap.size + 1, 0, none⟩ = W.cell? ⟨wo.heap.size + 1, 0, none⟩ := fun W v => cell_far W v (by show wo.heap.size + 1 ≠ wd.heap.size + 1; omega))); (try (have g54 : ∀ (W : World) (v : Value), (W.setCell ⟨wd.heap.size + 1, 0, none⟩ v).cell? ⟨wd.heap.size, 0, none⟩ = W.cell? ⟨wd.heap.size, 0, none⟩ := fun W v => cell_far W v (by show wd.heap.size ≠ wd.heap.size + 1; omega))); clear Bd Dd Dr) | (have KOa := Lib.hid (KO.out.box [.slice none 0 0] 24); (with_reducible refine (DN.out _ (HN8.out _ KOa.out.bel) ⟨KOa.out.get at0, ho, lo⟩).mono ?_); rintro e wd ⟨Ad, nd, cd, Ar, nr, cr, rfl, Bd, Dd, Dr, hd, hr, ld, lr⟩; have KD := Lib.hid (((KOa.out.call Bd).num Dd).num Dr); have HBd := Lib.hid Bd; have HDd := Lib.hid Dd; have HDr := Lib.hid Dr; have sd : W0.heap.size ≤ wd.heap.size := KD.out.bel.size; (try (have q0 := KD.out.cell0 at0; have qf := KD.out.free at0; have q0a := fun o => (KD.out.call ((Below.refl _ _).alloc (Nat.le_refl _) o)).cell0 at0; have qfa := fun o => (KD.out.call ((Below.refl _ _).alloc (Nat.le_refl _) o)).free at0)); (try (have q1 := KD.out.cell0 at1; have qg := KD.out.free at1)); have sx := Bd.size; (try simp only [size_alloc] at sx); (try (have g01 : ∀ (W : World) (v : Value), (W.setCell ⟨W0.heap.size, 0, none⟩ v).cell? ⟨W0.heap.size + 1, 0, none⟩ = W.cell? ⟨W0.heap.size + 1, 0, none⟩ := fun W v => cell_far W v (by show W0.heap.size + 1 ≠ W0.heap.size; omega))); (try (have g02 : ∀ (W : World) (v : Value), (W.setCell ⟨W0.heap.size, 0, none⟩ v).cell? ⟨wo.heap.size, 0, none⟩ = W.cell? ⟨wo.heap.size, 0, none⟩ := fun W v => cell_far W v (by show wo.heap.size ≠ W0.heap.size; omega))); (try (have g03 : ∀ (W : World) (v : Value), (W.setCell ⟨W0.heap.size, 0, none⟩ v).cell? ⟨wo.heap.size + 1, 0, none⟩ = W.cell? ⟨wo.heap.size + 1, 0, none⟩ := fun W v => cell_far W v (by show wo.heap.size + 1 ≠ W0.heap.size; omega))); (try (have g04 : ∀ (W : World) (v : Value), (W.setCell ⟨W0.heap.size, 0, none⟩ v).cell? ⟨wd.heap.size, 0, none⟩ = W.cell? ⟨wd.heap.size, 0, none⟩ := fun W v => cell_far W v (by show wd.heap.size ≠ W0.heap.size; omega))); (try (have g05 : ∀ (W : World) (v : Value), (W.setCell ⟨W0.heap.size, 0, none⟩ v).cell? ⟨wd.heap.size + 1, 0, none⟩ = W.cell? ⟨wd.heap.size + 1, 0, none⟩ := fun W v => cell_far W v (by show wd.heap.size + 1 ≠ W0.heap.size; omega))); (try (have g10 : ∀ (W : World) (v : Value), (W.setCell ⟨W0.heap.size + 1, 0, none⟩ v).cell? ⟨W0.heap.size, 0, none⟩ = W.cell? ⟨W0.heap.size, 0, none⟩ := fun W v => cell_far W v (by show W0.heap.size ≠ W0.heap.size + 1; omega))); (try (have g12 : ∀ (W : World) (v : Value), (W.setCell ⟨W0.heap.size + 1, 0, none⟩ v).cell? ⟨wo.heap.size, 0, none⟩ = W.cell? ⟨wo.heap.size, 0, none⟩ := fun W v => cell_far W v (by show wo.heap.size ≠ W0.heap.size + 1; omega))); (try (have g13 : ∀ (W : World) (v : Value), (W.setCell ⟨W0.heap.size + 1, 0, none⟩ v).cell? ⟨wo.heap.size + 1, 0, none⟩ = W.cell? ⟨wo.heap.size + 1, 0, none⟩ := fun W v => cell_far W v (by show wo.heap.size + 1 ≠ W0.heap.size + 1; omega))); (try (have g14 : ∀ (W : World) (v : Value), (W.setCell ⟨W0.heap.size + 1, 0, none⟩ v).cell? ⟨wd.heap.size, 0, none⟩ = W.cell? ⟨wd.heap.size, 0, none⟩ := fun W v => cell_far W v (by show wd.heap.size ≠ W0.heap.size + 1; omega))); (try (have g15 : ∀ (W : World) (v : Value), (W.setCell ⟨W0.heap.size + 1, 0, none⟩ v).cell? ⟨wd.heap.size + 1, 0, none⟩ = W.cell? ⟨wd.heap.size + 1, 0, none⟩ := fun W v => cell_far W v (by show wd.heap.size + 1 ≠ W0.heap.size + 1; omega))); (try (have g20 : ∀ (W : World) (v : Value), (W.setCell ⟨wo.heap.size, 0, none⟩ v).cell? ⟨W0.heap.size, 0, none⟩ = W.cell? ⟨W0.heap.size, 0, none⟩ := fun W v => cell_far W v (by show W0.heap.size ≠ wo.heap.size; omega))); (try (have g21 : ∀ (W : World) (v : Value), (W.setCell ⟨wo.heap.size, 0, none⟩ v).cell? ⟨W0.heap.size + 1, 0, none⟩ = W.cell? ⟨W0.heap.size + 1, 0, none⟩ := fun W v => cell_far W v (by show W0.heap.size + 1 ≠ wo.heap.size; omega))); (try (have g23 : ∀ (W : World) (v : Value), (W.setCell ⟨wo.heap.size, 0, none⟩ v).cell? ⟨wo.heap.size + 1, 0, none⟩ = W.cell? ⟨wo.heap.size + 1, 0, none⟩ := fun W v => cell_far W v (by show wo.heap.size + 1 ≠ wo.heap.size; omega))); (try (have g24 : ∀ (W : World) (v : Value), (W.setCell ⟨wo.heap.size, 0, none⟩ v).cell? ⟨wd.heap.size, 0, none⟩ = W.cell? ⟨wd.heap.size, 0, none⟩ := fun W v => cell_far W v (by show wd.heap.size ≠ wo.heap.size; omega))); (try (have g25 : ∀ (W : World) (v : Value), (W.setCell ⟨wo.heap.size, 0, none⟩ v).cell? ⟨wd.heap.size + 1, 0, none⟩ = W.cell? ⟨wd.heap.size + 1, 0, none⟩ := fun W v => cell_far W v (by show wd.heap.size + 1 ≠ wo.heap.size; omega))); (try (have g30 : ∀ (W : World) (v : Value), (W.setCell ⟨wo.heap.size + 1, 0, none⟩ v).cell? ⟨W0.heap.size, 0, none⟩ = W.cell? ⟨W0.heap.size, 0, none⟩ := fun W v => cell_far W v (by show W0.heap.size ≠ wo.heap.size + 1; omega))); (try (have g31 : ∀ (W : World) (v : Value), (W.setCell ⟨wo.heap.size + 1, 0, none⟩ v).cell? ⟨W0.heap.size + 1, 0, none⟩ = W.cell? ⟨W0.heap.size + 1, 0, none⟩ := fun W v => cell_far W v (by show W0.heap.size + 1 ≠ wo.heap.size + 1; omega))); (try (have g32 : ∀ (W : World) (v : Value), (W.setCell ⟨wo.heap.size + 1, 0, none⟩ v).cell? ⟨wo.heap.size, 0, none⟩ = W.cell? ⟨wo.heap.size, 0, none⟩ := fun W v => cell_far W v (by show wo.heap.size ≠ wo.heap.size + 1; omega))); (try (have g34 : ∀ (W : World) (v : Value), (W.setCell ⟨wo.heap.size + 1, 0, none⟩ v).cell? ⟨wd.heap.size, 0, none⟩ = W.cell? ⟨wd.heap.size, 0, none⟩ := fun W v => cell_far W v (by show wd.heap.size ≠ wo.heap.size + 1; omega))); (try (have g35 : ∀ (W : World) (v : Value), (W.setCell ⟨wo.heap.size + 1, 0, none⟩ v).cell? ⟨wd.heap.size + 1, 0, none⟩ = W.cell? ⟨wd.heap.size + 1, 0, none⟩ := fun W v => cell_far W v (by show wd.heap.size + 1 ≠ wo.heap.size + 1; omega))); (try (have g40 : ∀ (W : World) (v : Value), (W.setCell ⟨wd.heap.size, 0, none⟩ v).cell? ⟨W0.heap.size, 0, none⟩ = W.cell? ⟨W0.heap.size, 0, none⟩ := fun W v => cell_far W v (by show W0.heap.size ≠ wd.heap.size; omega))); (try (have g41 : ∀ (W : World) (v : Value), (W.setCell ⟨wd.heap.size, 0, none⟩ v).cell? ⟨W0.heap.size + 1, 0, none⟩ = W.cell? ⟨W0.heap.size + 1, 0, none⟩ := fun W v => cell_far W v (by show W0.heap.size + 1 ≠ wd.heap.size; omega))); (try (have g42 : ∀ (W : World) (v : Value), (W.setCell ⟨wd.heap.size, 0, none⟩ v).cell? ⟨wo.heap.size, 0, none⟩ = W.cell? ⟨wo.heap.size, 0, none⟩ := fun W v => cell_far W v (by show wo.heap.size ≠ wd.heap.size; omega))); (try (have g43 : ∀ (W : World) (v : Value), (W.setCell ⟨wd.heap.size, 0, none⟩ v).cell? ⟨wo.heap.size + 1, 0, none⟩ = W.cell? ⟨wo.heap.size + 1, 0, none⟩ := fun W v => cell_far W v (by show wo.heap.size + 1 ≠ wd.heap.size; omega))); (try (have g45 : ∀ (W : World) (v : Value), (W.setCell ⟨wd.heap.size, 0, none⟩ v).cell? ⟨wd.heap.size + 1, 0, none⟩ = W.cell? ⟨wd.heap.size + 1, 0, none⟩ := fun W v => cell_far W v (by show wd.heap.size + 1 ≠ wd.heap.size; omega))); (try (have g50 : ∀ (W : World) (v : Value), (W.setCell ⟨wd.heap.size + 1, 0, none⟩ v).cell? ⟨W0.heap.size, 0, none⟩ = W.cell? ⟨W0.heap.size, 0, none⟩ := fun W v => cell_far W v (by show W0.heap.size ≠ wd.heap.size + 1; omega))); (try (have g51 : ∀ (W : World) (v : Value), (W.setCell ⟨wd.heap.size + 1, 0, none⟩ v).cell? ⟨W0.heap.size + 1, 0, none⟩ = W.cell? ⟨W0.heap.size + 1, 0, none⟩ := fun W v => cell_far W v (by show W0.heap.size + 1 ≠ wd.heap.size + 1; omega))); (try (have g52 : ∀ (W : World) (v : Value), (W.setCell ⟨wd.heap.size + 1, 0, none⟩ v).cell? ⟨wo.heap.size, 0, none⟩ = W.cell? ⟨wo.heap.size, 0, none⟩ := fun W v => cell_far W v (by show wo.heap.size ≠ wd.heap.size + 1; omega))); (try (have g53 : ∀ (W : World) (v : Value), (W.setCell ⟨wd.heap.size + 1, 0, none⟩ v).cell? ⟨wo.heap.size + 1, 0, none⟩ = W.cell? ⟨wo.heap.size + 1, 0, none⟩ := fun W v => cell_far W v (by show wo.heap.size + 1 ≠ wd.heap.size + 1; omega))); (try (have g54 : ∀ (W : World) (v : Value), (W.setCell ⟨wd.heap.size + 1, 0, none⟩ v).cell? ⟨wd.heap.size, 0, none⟩ = W.cell? ⟨wd.heap.size, 0, none⟩ := fun W v => cell_far W v (by show wd.heap.size ≠ wd.heap.size + 1; omega))); clear Bd Dd Dr) | (have kOb := (KO.out.box [.slice none 0 0] 24).box [.slice none 0 0] 24; simp only [size_alloc] at kOb; have KOb := Lib.hid kOb; clear kOb; (with_reducible refine (DN.out _ (HN8.out _ KOb.out.bel) ⟨KOb.out.get at0, ho, lo⟩).mono ?_); rintro e wd ⟨Ad, nd, cd, Ar, nr, cr, rfl, Bd, Dd, Dr, hd, hr, ld, lr⟩; have KD := Lib.hid (((KOb.out.call Bd).num Dd).num Dr); have HBd := Lib.hid Bd; have HDd := Lib.hid Dd; have HDr := Lib.hid Dr; have sd : W0.heap.size ≤ wd.heap.size := KD.out.bel.size; (try (have q0 := KD.out.cell0 at0; have qf := KD.out.free at0; have q0a := fun o => (KD.out.call ((Below.refl _ _).alloc (Nat.le_refl _) o)).cell0 at0; have qfa := fun o => (KD.out.call ((Below.refl _ _).alloc (Nat.le_refl _) o)).free at0)); (try (have q1 := KD.out.cell0 at1; have qg := KD.out.free at1)); have sx := Bd.size; (try simp only [size_alloc] at sx); (try (have g01 : ∀ (W : World) (v : Value), (W.setCell ⟨W0.heap.size, 0, none⟩ v).cell? ⟨W0.heap.size + 1, 0, none⟩ = W.cell? ⟨W0.heap.size + 1, 0, none⟩ := fun W v => cell_far W v (by show W0.heap.size + 1 ≠ W0.heap.size; omega))); (try (have g02 : ∀ (W : World) (v : Value), (W.setCell ⟨W0.heap.size, 0, none⟩ v).cell? ⟨wo.heap.size, 0, none⟩ = W.cell? ⟨wo.heap.size, 0, none⟩ := fun W v => cell_far W v (by show wo.heap.size ≠ W0.heap.size; omega))); (try (have g03 : ∀ (W : World) (v : Value), (W.setCell ⟨W0.heap.size, 0, none⟩ v).cell? ⟨wo.heap.size + 1, 0, none⟩ = W.cell? ⟨wo.heap.size + 1, 0, none⟩ := fun W v => cell_far W v (by show wo.heap.size + 1 ≠ W0.heap.size; omega))); (try (have g04 : ∀ (W : World) (v : Value), (W.setCell ⟨W0.heap.size, 0, none⟩ v).cell? ⟨wd.heap.size, 0, none⟩ = W.cell? ⟨wd.heap.size, 0, none⟩ := fun W v => cell_far W v (by show wd.heap.size ≠ W0.heap.size; omega))); (try (have g05 : ∀ (W : World) (v : Value), (W.setCell ⟨W0.heap.size, 0, none⟩ v).cell? ⟨wd.heap.size + 1, 0, none⟩ = W.cell? ⟨wd.heap.size + 1, 0, none⟩ := fun W v => cell_far W v (by show wd.heap.size + 1 ≠ W0.heap.size; omega))); (try (have g10 : ∀ (W : World) (v : Value), (W.setCell ⟨W0.heap.size + 1, 0, none⟩ v).cell? ⟨W0.heap.size, 0, none⟩ = W.cell? ⟨W0.heap.size, 0, none⟩ := fun W v => cell_far W v (by show W0.heap.size ≠ W0.heap.size + 1; omega))); (try (have g12 : ∀ (W : World) (v : Value), (W.setCell ⟨W0.heap.size + 1, 0, none⟩ v).cell? ⟨wo.heap.size, 0, none⟩ = W.cell? ⟨wo.heap.size, 0, none⟩ := fun W v => cell_far W v (by show wo.heap.size ≠ W0.heap.size + 1; omega))); (try (have g13 : ∀ (W : World) (v : Value), (W.setCell ⟨W0.heap.size + 1, 0, none⟩ v).cell? ⟨wo.heap.size + 1, 0, none⟩ = W.cell? ⟨wo.heap.size + 1, 0, none⟩ := fun W v => cell_far W v (by show wo.heap.size + 1 ≠ W0.heap.size + 1; omega))); (try (have g14 : ∀ (W : World) (v : Value), (W.setCell ⟨W0.heap.size + 1, 0, none⟩ v).cell? ⟨wd.heap.size, 0, none⟩ = W.cell? ⟨wd.heap.size, 0, none⟩ := fun W v => cell_far W v (by show wd.heap.size ≠ W0.heap.size + 1; omega))); (try (have g15 : ∀ (W : World) (v : Value), (W.setCell ⟨W0.heap.size + 1, 0, none⟩ v).cell? ⟨wd.heap.size + 1, 0, none⟩ = W.cell? ⟨wd.heap.size + 1, 0, none⟩ := fun W v => cell_far W v (by show wd.heap.size + 1 ≠ W0.heap.size + 1; omega))); (try (have g20 : ∀ (W : World) (v : Value), (W.setCell ⟨wo.heap.size, 0, none⟩ v).cell? ⟨W0.heap.size, 0, none⟩ = W.cell? ⟨W0.heap.size, 0, none⟩ := fun W v => cell_far W v (by show W0.heap.size ≠ wo.heap.size; omega))); (try (have g21 : ∀ (W : World) (v : Value), (W.setCell ⟨wo.heap.size, 0, none⟩ v).cell? ⟨W0.heap.size + 1, 0, none⟩ = W.cell? ⟨W0.heap.size + 1, 0, none⟩ := fun W v => cell_far W v (by show W0.heap.size + 1 ≠ wo.heap.size; omega))); (try (have g23 : ∀ (W : World) (v : Value), (W.setCell ⟨wo.heap.size, 0, none⟩ v).cell? ⟨wo.heap.size + 1, 0, none⟩ = W.cell? ⟨wo.heap.size + 1, 0, none⟩ := fun W v => cell_far W v (by show wo.heap.size + 1 ≠ wo.heap.size; omega))); (try (have g24 : ∀ (W : World) (v : Value), (W.setCell ⟨wo.heap.size, 0, none⟩ v).cell? ⟨wd.heap.size, 0, none⟩ = W.cell? ⟨wd.heap.size, 0, none⟩ := fun W v => cell_far W v (by show wd.heap.size ≠ wo.heap.size; omega))); (try (have g25 : ∀ (W : World) (v : Value), (W.setCell ⟨wo.heap.size, 0, none⟩ v).cell? ⟨wd.heap.size + 1, 0, none⟩ = W.cell? ⟨wd.heap.size + 1, 0, none⟩ := fun W v => cell_far W v (by show wd.heap.size + 1 ≠ wo.heap.size; omega))); (try (have g30 : ∀ (W : World) (v : Value), (W.setCell ⟨wo.heap.size + 1, 0, none⟩ v).cell? ⟨W0.heap.size, 0, none⟩ = W.cell? ⟨W0.heap.size, 0, none⟩ := fun W v => cell_far W v (by show W0.heap.size ≠ wo.heap.size + 1; omega))); (try (have g31 : ∀ (W : World) (v : Value), (W.setCell ⟨wo.heap.size + 1, 0, none⟩ v).cell? ⟨W0.heap.size + 1, 0, none⟩ = W.cell? ⟨W0.heap.size + 1, 0, none⟩ := fun W v => cell_far W v (by show W0.heap.size + 1 ≠ wo.heap.size + 1; omega))); (try (have g32 : ∀ (W : World) (v : Value), (W.setCell ⟨wo.heap.size + 1, 0, none⟩ v).cell? ⟨wo.heap.size, 0, none⟩ = W.cell? ⟨wo.heap.size, 0, none⟩ := fun W v => cell_far W v (by show wo.heap.size ≠ wo.heap.size + 1; omega))); (try (have g34 : ∀ (W : World) (v : Value), (W.setCell ⟨wo.heap.size + 1, 0, none⟩ v).cell? ⟨wd.heap.size, 0, none⟩ = W.cell? ⟨wd.heap.size, 0, none⟩ := fun W v => cell_far W v (by show wd.heap.size ≠ wo.heap.size + 1; omega))); (try (have g35 : ∀ (W : World) (v : Value), (W.setCell ⟨wo.heap.size + 1, 0, none⟩ v).cell? ⟨wd.heap.size + 1, 0, none⟩ = W.cell? ⟨wd.heap.size + 1, 0, none⟩ := fun W v => cell_far W v (by show wd.heap.size + 1 ≠ wo.heap.size + 1; omega))); (try (have g40 : ∀ (W : World) (v : Value), (W.setCell ⟨wd.heap.size, 0, none⟩ v).cell? ⟨W0.heap.size, 0, none⟩ = W.cell? ⟨W0.heap.size, 0, none⟩ := fun W v => cell_far W v (by show W0.heap.size ≠ wd.heap.size; omega))); (try (have g41 : ∀ (W : World) (v : Value), (W.setCell ⟨wd.heap.size, 0, none⟩ v).cell? ⟨W0.heap.size + 1, 0, none⟩ = W.cell? ⟨W0.heap.size + 1, 0, none⟩ := fun W v => cell_far W v (by show W0.heap.size + 1 ≠ wd.heap.size; omega))); (try (have g42 : ∀ (W : World) (v : Value), (W.setCell ⟨wd.heap.size, 0, none⟩ v).cell? ⟨wo.heap.size, 0, none⟩ = W.cell? ⟨wo.heap.size, 0, none⟩ := fun W v => cell_far W v (by show wo.heap.size ≠ wd.heap.size; omega))); (try (have g43 : ∀ (W : World) (v : Value), (W.setCell ⟨wd.heap.size, 0, none⟩ v).cell? ⟨wo.heap.size + 1, 0, none⟩ = W.cell? ⟨wo.heap.size + 1, 0, none⟩ := fun W v => cell_far W v (by show wo.heap.size + 1 ≠ wd.heap.size; omega))); (try (have g45 : ∀ (W : World) (v : Value), (W.setCell ⟨wd.heap.size, 0, none⟩ v).cell? ⟨wd.heap.size + 1, 0, none⟩ = W.cell? ⟨wd.heap.size + 1, 0, none⟩ := fun W v => cell_far W v (by show wd.heap.size + 1 ≠ wd.heap.size; omega))); (try (have g50 : ∀ (W : World) (v : Value), (W.setCell ⟨wd.heap.size + 1, 0, none⟩ v).cell? ⟨W0.heap.size, 0, none⟩ = W.cell? ⟨W0.heap.size, 0, none⟩ := fun W v => cell_far W v (by show W0.heap.size ≠ wd.heap.size + 1; omega))); (try (have g51 : ∀ (W : World) (v : Value), (W.setCell ⟨wd.heap.size + 1, 0, none⟩ v).cell? ⟨W0.heap.size + 1, 0, none⟩ = W.cell? ⟨W0.heap.size + 1, 0, none⟩ := fun W v => cell_far W v (by show W0.heap.size + 1 ≠ wd.heap.size + 1; omega))); (try (have g52 : ∀ (W : World) (v : Value), (W.setCell ⟨wd.heap.size + 1, 0, none⟩ v).cell? ⟨wo.heap.size, 0, none⟩ = W.cell? ⟨wo.heap.size, 0, none⟩ := fun W v => cell_far W v (by show wo.heap.size ≠ wd.heap.size + 1; omega))); (try (have g53 : ∀ (W : World) (v : Value), (W.setCell ⟨wd.heap.size + 1, 0, none⟩ v).cell? ⟨wo.heap.size + 1, 0, none⟩ = W.cell? ⟨wo.heap.size + 1, 0, none⟩ := fun W v => cell_far W v (by show wo.heap.size + 1 ≠ wd.heap.size + 1; omega))); (try (have g54 : ∀ (W : World) (v : Value), (W.setCell ⟨wd.heap.size + 1, 0, none⟩ v).cell? ⟨wd.heap.size, 0, none⟩ = W.cell? ⟨wd.heap.size, 0, none⟩ := fun W v => cell_far W v (by show wd.heap.size ≠ wd.heap.size + 1; omega))); clear Bd Dd Dr)))
          | fail)
      all_goals (
        go_wp2_with fail
        go_meet
        first
          | exact out_new KD.out at1 at0 hd ld hr lr
          | exact out_wen KD.out at1 at0 hd ld hr lr
          | exact out_old KD.out at0 (by omega) at1 at0 hd ld hr lr
          | exact out_dlo KD.out at0 (by omega) at1 at0 hd ld hr lr
          | exact out_two KD.out at0 at1 (by omega) (by omega) (by omega) at1 at0 hd ld hr lr
          | exact out_two KD.out at1 at0 (by omega) (by omega) (by omega) at1 at0 hd ld hr lr)
    case rest =>
      clear r0 r1 r2 HN8 C8 DN
      obtain ⟨R9, R9r, A9, n9, c9, A9r, n9r, c9r, rfl, rfl, rfl, k9, h9, l9, h9r, l9r⟩ := hcut
      have K9 := Lib.hid (K7.out.thenK k9)
      clear k9 K7
      have x9 := K9.out.cell0 (b := R9) at0
      have x0 := K9.out.cell0 (b := w.heap.size + 1) at3
      have z0 := K9.out.free (b := w.heap.size + 1) at3
      have xc := cell_put (v := .slice A9 n9 c9) x0
      have BB := Lib.hid (K9.out.bel.setCell (p := ⟨w.heap.size + 1, 0, none⟩) (by show w.heap.size ≤ w.heap.size + 1; omega) (.slice A9 n9 c9))
      have DD := Lib.hid (((K9.out.get at0).setBox x0 (.slice A9 n9 c9)).more (B' := (wc.setCell ⟨w.heap.size + 1, 0, none⟩ (.slice A9 n9 c9)).heap.size) (by rw [size_setCell]; exact Nat.le_refl _))
      go_wp2_with fail
      refine bodyPost_ret (v := .tuple #[.agg #[.slice A9 n9 c9], .int .i64 0]) (by simp [results, Try.results28, go_sem, xc]) rfl ?_
      exact ⟨A9, n9, c9, rfl, BB.out, DD.out, h9, l9⟩
set_option maxHeartbeats 4000000 in
theorem comb_binomial_nat {n1 c1 : Nat} {A1 : Option Addr} (n k : Int) (hn0 : -9223372036854775808 ≤ n) (hn1 : n ≤ 9223372036854775807) (hk0 : -9223372036854775808 ≤ k) (hk1 : k ≤ 9223372036854775807) (w : World) (h : IsN w w.heap.size A1 n1 1) (h1 : n1 ≤ 64) (l1 : n1 ≤ c1) :
    Calls Try.prog 26 #[.int .i64 n, .int .i64 k, .agg #[.slice A1 n1 c1], .func (.func 28) #[] #[]] w (NRes (Cb.chV n k) (Cb.chE n k) w) := by
  have k3 := (((Ks.start w).num h).box [.slice A1 n1 c1] 24).box [.slice none 0 0] 24
  have k5 := k3.box [.slice none 0 0] 24
  have k4 := k5.box [.slice A1 n1 c1] 24
  simp only [size_alloc] at k5 k4
  have K3 := Lib.hid k5
  have K4 := Lib.hid k4
  clear k4 h k3 k5
  have y0 := K3.out.cell0 at0
  have y1 := K3.out.cell0 at1
  have z1 := K3.out.free at1
  cases hn : Cb.inn n 80
  · obtain ⟨e1, e2⟩ := Cb.ch_n (k := k) hn
    rw [e1, e2]
    have ho := Cb.inn_no hn
    clear e1 e2 hn K4
    by_cases h0 : n < 0
    · clear ho
      go_enter Try.func26, Try.ntmps26
      go_wp2_with fail
      refine bodyPost_ret (v := .tuple #[.agg #[.slice none 0 0], .int .i64 2]) (by simp [results, Try.results26, go_sem, y0, y1]) rfl ?_
      exact ⟨none, 0, 0, rfl, K3.out.bel, IsN.zero, by omega, by omega⟩
    · have h2 : 80 < n := by omega
      clear ho
      go_enter Try.func26, Try.ntmps26
      go_wp2_with fail
      refine bodyPost_ret (v := .tuple #[.agg #[.slice none 0 0], .int .i64 2]) (by simp [results, Try.results26, go_sem, y0, y1]) rfl ?_
      exact ⟨none, 0, 0, rfl, K3.out.bel, IsN.zero, by omega, by omega⟩
  · obtain ⟨n0, n2⟩ := Cb.inn_iff.1 hn
    cases hk : Cb.inn k n
    · obtain ⟨e1, e2⟩ := Cb.ch_k hn hk
      rw [e1, e2]
      have ho := Cb.inn_no hk
      clear e1 e2 hn hk K4
      by_cases h0 : k < 0
      · clear ho
        go_enter Try.func26, Try.ntmps26
        go_wp2_with fail
        refine bodyPost_ret (v := .tuple #[.agg #[.slice none 0 0], .int .i64 0]) (by simp [results, Try.results26, go_sem, y0, y1]) rfl ?_
        exact ⟨none, 0, 0, rfl, K3.out.bel, IsN.zero, by omega, by omega⟩
      · have h2 : n < k := by omega
        clear ho
        go_enter Try.func26, Try.ntmps26
        go_wp2_with fail
        refine bodyPost_ret (v := .tuple #[.agg #[.slice none 0 0], .int .i64 0]) (by simp [results, Try.results26, go_sem, y0, y1]) rfl ?_
        exact ⟨none, 0, 0, rfl, K3.out.bel, IsN.zero, by omega, by omega⟩
    · obtain ⟨k0, k2⟩ := Cb.inn_iff.1 hk
      obtain ⟨e1, e2⟩ := Cb.ch_ok hn hk
      rw [e1, e2]
      obtain ⟨K, eK⟩ : ∃ K : Nat, k = (K : Int) := ⟨k.toNat, by omega⟩
      obtain ⟨N, eN⟩ : ∃ N : Nat, n = (N : Int) := ⟨n.toNat, by omega⟩
      subst eK eN
      have hv : Cb.val N K = Cb.bin N K := by
        unfold Cb.val
        rw [Int.toNat_natCast, Int.toNat_natCast]
      rw [hv]
      obtain ⟨D, eD⟩ : ∃ D : Nat, D = N - K := ⟨_, rfl⟩
      have hnk : (N : Int) - (K : Int) = (D : Int) := by omega
      obtain ⟨M, hM⟩ : ∃ M : Nat, M = K ∧ K ≤ N - K ∨ M = N - K ∧ N - K < K := by
        rcases Nat.lt_or_ge (N - K) K with h | h
        · exact ⟨_, .inr ⟨rfl, h⟩⟩
        · exact ⟨_, .inl ⟨rfl, h⟩⟩
      obtain ⟨m1, m2⟩ := Cb.bin_min (n := N) (by omega) hM
      have hmin : (if (D : Int) < (K : Int) then (D : Int) else (K : Int)) = (M : Int) := by
        rcases hM with ⟨h1, h2⟩ | ⟨h1, h2⟩
        · rw [if_neg (by omega)]; omega
        · rw [if_pos (by omega)]; omega
      have hmin2 : min (K : Int) (D : Int) = (M : Int) := by
        rw [Int.min_def]
        rcases hM with ⟨h1, h2⟩ | ⟨h1, h2⟩
        · rw [if_pos (by omega)]; omega
        · rw [if_neg (by omega)]; omega
      rw [m1]
      have M80 : M ≤ 40 := by omega
      have MN : 2 * M ≤ N := m2
      have N80 : N ≤ 80 := by omega
      clear e1 e2 hn hk hv hM m1 m2 eD K3 y0 y1 z1
      have y6 := K4.out.cell0 at3
      have g1 : decide ((N : Int) < 0) = false := by simp
      have g2 : decide ((80 : Int) < (N : Int)) = false := by simp; omega
      have g3 : decide ((K : Int) < 0) = false := by simp
      have g4 : decide (N < K) = false := by simp; omega
      go_enter Try.func26, Try.ntmps26
      go_wp2_with fail
      go_loopw [36] (fun i W => ∃ (j p c : Nat) (A : Option Addr), j ≤ M ∧ i = .int .i64 (j : Int) ∧ p ≤ 64 ∧ p ≤ c ∧ Hid (Ks w W [(w.heap.size + 1 + 1 + 1, [.slice A p c], 24), (w.heap.size + 1 + 1, [.slice none 0 0], 24), (w.heap.size + 1, [.slice none 0 0], 24)] [(A, p, Cb.bin N j)])) (fun i _ => M - (intOf i).toNat)
      case atStart => exact ⟨0, n1, c1, A1, by omega, rfl, h1, l1, by
        show Ks _ _ _ _
        rw [Cb.bin_zero]
        exact K4.out.less (fun p hp => by
          rcases List.mem_cons.1 hp with rfl | hp
          · exact at0
          · rcases List.mem_cons.1 hp with rfl | hp
            · exact at1
            · rcases List.mem_cons.1 hp with rfl | hp
              · exact at2
              · exact nomatch hp) (fun p hp => hp)⟩
      case round =>
        clear K4 h1 l1 hmin hmin2 y6
        obtain ⟨j, p, c, A, hj, rfl, hp, hpc, KW⟩ := hrel
        by_cases hlt : j < M
        · obtain ⟨b, eb⟩ : ∃ b, b = Cb.bin N j := ⟨_, rfl⟩
          rw [← eb] at KW
          obtain ⟨J, eJ⟩ : ∃ J : Nat, J = N - j := ⟨_, rfl⟩
          have hnj : (N : Int) - (j : Int) = (J : Int) := by omega
          have hfit : Nt.fits (b * J) = true := by rw [eb]; exact Cb.small_fits (Cb.bin_prod (by omega) (by omega))
          have hdiv : b * J / (j + 1) = Cb.bin N (j + 1) := by rw [eb, eJ]; exact Cb.bin_step' N j
          have sc := fun W (h : IsN W W.heap.size A p b) => comb_scaleNat (c := c) (d := j + 1) W h hp hpc hfit (by omega) (by omega) (by omega)
          rw [hdiv, show ((j + 1 : Nat) : Int) = (j : Int) + 1 by omega] at sc
          have SC := Lib.hid sc
          clear eb hfit hdiv sc eJ
          have x1 := KW.out.cell0 at0
          go_wp2_with fail
          refine (SC.out _ (KW.out.get at0)).mono ?_
          rintro e w2 ⟨A2, n2, c2, rfl, B2, D2, h2, l2⟩
          have k2 := ((KW.out.call B2).num D2).box [.slice A2 n2 c2] 24
          have K2 := Lib.hid k2
          have hz : w.heap.size + 1 + 1 + 1 ≠ w2.heap.size := Nat.ne_of_lt (lt_of_block ((KW.out.call B2).b _ at0))
          clear k2 B2 D2 x1
          have x2 := K2.out.cell0 at0
          have x3 := K2.out.cell0 at1
          have z3 := K2.out.free at1
          have K5 := Lib.hid ((K2.out.cset (bs' := [(w.heap.size + 1 + 1, [.slice none 0 0], 24), (w.heap.size + 1, [.slice none 0 0], 24)]) at1 (by omega) (fun p hp => by
            rcases List.mem_cons.1 hp with rfl | hp
            · exact ⟨at2, by show w.heap.size + 1 + 1 ≠ w.heap.size + 1 + 1 + 1; omega⟩
            · rcases List.mem_cons.1 hp with rfl | hp
              · exact ⟨at3, by show w.heap.size + 1 ≠ w.heap.size + 1 + 1 + 1; omega⟩
              · exact nomatch hp) (.slice A2 n2 c2)).less (ns' := [(A2, n2, Cb.bin N (j + 1))]) (fun p hp => hp) (fun p hp => by
            rcases List.mem_cons.1 hp with rfl | hp
            · exact at0
            · exact nomatch hp))
          clear K2 KW
          go_wp2_with fail
          go_roundw
          case rel => exact ⟨j + 1, n2, c2, A2, by omega, by go_num, h2, l2, K5⟩
          case measure => simp [intOf]; omega
        · obtain rfl : j = M := by omega
          have x1 := KW.out.cell0 at0
          have x0 := KW.out.cell0 at2
          have zf0 := KW.out.free at2
          have xc := cell_put (v := .slice A p c) x0
          have BB := Lib.hid (KW.out.bel.setCell (p := ⟨w.heap.size + 1, 0, none⟩) (by show w.heap.size ≤ w.heap.size + 1; omega) (.slice A p c))
          have DD := Lib.hid (((KW.out.get at0).setBox x0 (.slice A p c)).more (B' := (wr.setCell ⟨w.heap.size + 1, 0, none⟩ (.slice A p c)).heap.size) (by rw [size_setCell]; exact Nat.le_refl _))
          go_wp2_with fail
          refine bodyPost_ret (v := .tuple #[.agg #[.slice A p c], .int .i64 0]) (by simp [results, Try.results26, go_sem, xc]) rfl ?_
          exact ⟨A, p, c, rfl, BB.out, DD.out, hp, hpc⟩
set_option maxHeartbeats 1000000 in
theorem comb_Choose (n k : Int) (hn0 : -9223372036854775808 ≤ n) (hn1 : n ≤ 9223372036854775807) (hk0 : -9223372036854775808 ≤ k) (hk1 : k ≤ 9223372036854775807) (w : World) :
    Calls Try.prog 10 #[.int .i64 n, .int .i64 k] w (NRes (Cb.chV n k) (Cb.chE n k) w) := by
  have O1 := Lib.hid fun W => nat_Of 1 1 W rfl (by omega)
  have BN := Lib.hid fun W {A1 : Option Addr} {n1 c1 : Nat} (h : IsN W W.heap.size A1 n1 1) (h1 : n1 ≤ 64) (l1 : n1 ≤ c1) => comb_binomial_nat n k hn0 hn1 hk0 hk1 W h h1 l1
  obtain ⟨v, ev⟩ : ∃ v, v = Cb.chV n k := ⟨_, rfl⟩
  obtain ⟨er, ee⟩ : ∃ er, er = Cb.chE n k := ⟨_, rfl⟩
  rw [← ev, ← ee] at BN ⊢
  have K0 := Lib.hid ((Ks.start w).box [.slice none 0 0] 24)
  clear ev ee
  go_enter Try.func10, Try.ntmps10
  go_wp2_with fail
  refine (O1.out _).mono ?_
  rintro e w1 ⟨A1, n1, c1, rfl, B1, D1, h1, l1⟩
  have K1 := Lib.hid ((K0.out.call B1).num D1)
  clear B1 D1
  go_wp2_with fail
  refine (BN.out _ (K1.out.get at0) h1 l1).mono ?_
  rintro e w2 ⟨A2, n2, c2, rfl, B2, D2, h2, l2⟩
  have K2 := Lib.hid ((K1.out.call B2).num D2)
  clear B2 D2
  have x0 := K2.out.cell0 at0
  have z0 := K2.out.free at0
  have xc := cell_put (v := .slice A2 n2 c2) x0
  have BB := Lib.hid (K2.out.bel.setCell (p := ⟨w.heap.size, 0, none⟩) (Nat.le_refl _) (.slice A2 n2 c2))
  have DD := Lib.hid (((K2.out.get at0).setBox x0 (.slice A2 n2 c2)).more (B' := (w2.setCell ⟨w.heap.size, 0, none⟩ (.slice A2 n2 c2)).heap.size) (by rw [size_setCell]; exact Nat.le_refl _))
  go_wp2_with fail
  refine bodyPost_ret (v := .tuple #[.agg #[.slice A2 n2 c2], .int .i64 er]) (by simp [results, Try.results10, go_sem, xc]) rfl ?_
  exact ⟨A2, n2, c2, rfl, BB.out, DD.out, h2, l2⟩
end Go.Proofs.Ytfjnpmkklanopaa
