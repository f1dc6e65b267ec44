/- frac.Decimal for every argument. (Written by tools/frac7.py.) The reference's same and Same, the statements' of, short, brief. (Written by tools/frac8.py.) The examples of layer 4's chapter: the statements' own check of them returns true. (Written by tools/frac9.py.) The statements' short and brief; a fraction that came in, opened. -/
import Derived.Test.YtcgbgaljjhopiaaGreatDoorFB
import Derived.Test.YtcgbgaljjhopiaaGreatDoorNatP
import Derived.Test.YtcgbgaljjhopiaaGreatDoorNatQ
namespace Go.Proofs.YtcgbgaljjhopiaaGreatDoor
set_option maxRecDepth 20000
open Go.RowKit
set_option linter.unusedVariables false
set_option linter.unusedSimpArgs false
namespace Fr
/-- k zeros before a text, so that it has p digits. -/
def padL (x p : Nat) : List UInt8 := List.replicate (p - (Lib.decDigits x).length) 48 ++ Lib.decDigits x
/-- A number of 10^p-th parts, as a decimal number with p places. -/
def decL (q p : Nat) : List UInt8 := if p = 0 then Lib.decDigits q else Lib.decDigits (q / 10 ^ p) ++ ([46] ++ padL (q % 10 ^ p) p)
def decS (q p : Nat) : ByteArray := ⟨(decL q p).toArray⟩
/-- What Decimal answers of a fraction in lowest terms. -/
def decV (a b p : Nat) : ByteArray := if Nt.fits (a * 10 ^ p) then decS (a * 10 ^ p / b) p else ByteArray.empty
def decE (a p : Nat) : Int := if Nt.fits (a * 10 ^ p) then 0 else 9
theorem ten_val (p : Nat) : Nm.val 0 ([49] ++ List.replicate p 48) = 10 ^ p := by
  rw [Nm.val_cat, Nm.val_zeros, List.length_replicate]
  show Nm.val 0 [49] * 10 ^ p + 0 = 10 ^ p
  rw [show Nm.val 0 [49] = 1 from rfl]; omega
theorem ten_dec (p : Nat) : Nm.decU ([49] ++ List.replicate p 48) = true := by
  have h : ((49 : UInt8) :: List.replicate p 48).all Nm.isDig = true := by
    rw [List.all_cons, List.all_replicate]; simp [Nm.isDig]
  show Nm.decU ((49 : UInt8) :: List.replicate p 48) = true
  rw [Nm.decU, h]; simp
theorem pad_len {x p : Nat} (hp : 1 ≤ p) (h : x < 10 ^ p) : (padL x p).length = p := by
  have := Nm.digits_len hp h
  rw [padL, List.length_append, List.length_replicate]; omega
/-- The text with at most p digits. -/
theorem short_txt {q p : Nat} (hp : 1 ≤ p) (h : (Lib.decDigits q).length ≤ p) :
    List.replicate (p - (Lib.decDigits q).length + 1) 48 ++ Lib.decDigits q = [48] ++ padL (q % 10 ^ p) p ∧ Lib.decDigits (q / 10 ^ p) = [48] := by
  have h1 := Nm.val_lt (Lib.decDigits q) 0 (Nm.digits_all q)
  rw [Nm.val_digits] at h1
  have h2 : 10 ^ (Lib.decDigits q).length ≤ 10 ^ p := Nat.pow_le_pow_right (by omega) h
  have hq : q < 10 ^ p := by omega
  rw [Nat.mod_eq_of_lt hq, Nat.div_eq_of_lt hq, Nm.digits_zero, padL, List.replicate_succ]
  exact ⟨rfl, rfl⟩
theorem long_txt {q p : Nat} (hp : 1 ≤ p) (h : p < (Lib.decDigits q).length) :
    Lib.decDigits q = Lib.decDigits (q / 10 ^ p) ++ padL (q % 10 ^ p) p := by
  have h1 := Nm.val_long (Nm.decU_digits q) hp h
  rw [Nm.val_digits] at h1
  have h0 : 0 < q / 10 ^ p := Nat.div_pos h1 (Nat.pow_pos (by omega))
  have h2 := Nm.digits_two (q := q / 10 ^ p) (r := q % 10 ^ p) (k := p) h0 hp (Nat.mod_lt _ (Nat.pow_pos (by omega)))
  rw [Nat.div_add_mod'] at h2
  exact h2
end Fr
theorem decS_short {q p L : Nat} {D Z : ByteArray} (hp : 1 ≤ p) (hD : D = Nm.txt q) (hZ : Z = ⟨(Lib.repeatL [48] p).toArray⟩) (hL : D.size = L) (h : L ≤ p) (h1 : 1 ≤ L) :
    (Z.extract (L - 1) Z.size ++ D).extract 0 1 ++ ⟨#[46]⟩ ++ (Z.extract (L - 1) Z.size ++ D).extract 1 (Z.extract (L - 1) Z.size ++ D).size = Fr.decS q p := by
  have hl : (Lib.decDigits q).length = L := by rw [← hL, hD, Nm.txt_size]
  obtain ⟨e1, e2⟩ := Fr.short_txt (q := q) hp (by omega)
  have hx : (Z.extract (L - 1) Z.size ++ D).data.toList = [48] ++ Fr.padL (q % 10 ^ p) p := by
    rw [ByteArray.data_append, Array.toList_append, Lib.extract_data, List.take_of_length_le (by rw [List.length_drop, ← Lib.size_eq]; exact Nat.le_refl _), hZ, hD, Nm.rep_one]
    show (List.replicate p 48).drop (L - 1) ++ Lib.decDigits q = _
    rw [List.drop_replicate, ← e1, hl, show p - (L - 1) = p - L + 1 by omega]
  obtain ⟨X, eX⟩ : ∃ X, X = Z.extract (L - 1) Z.size ++ D := ⟨_, rfl⟩
  rw [← eX] at hx ⊢
  refine ByteArray.ext (Array.toList_inj.1 ?_)
  rw [ByteArray.data_append, ByteArray.data_append, Array.toList_append, Array.toList_append, Lib.extract_data, Lib.extract_data, Lib.size_eq, hx, Fr.decS, Fr.decL, if_neg (by omega), e2]
  rw [List.take_of_length_le (l := List.drop 1 _) (by simp)]
  simp
theorem decS_long {q p L : Nat} {D : ByteArray} (hp : 1 ≤ p) (hD : D = Nm.txt q) (hL : D.size = L) (h : p < L) :
    D.extract 0 (L - p) ++ ⟨#[46]⟩ ++ D.extract (L - p) D.size = Fr.decS q p := by
  have hl : (Lib.decDigits q).length = L := by rw [← hL, hD, Nm.txt_size]
  have e := Fr.long_txt (q := q) hp (by omega)
  have hn := Fr.pad_len (x := q % 10 ^ p) hp (Nat.mod_lt _ (Nat.pow_pos (by omega)))
  have hw : (Lib.decDigits (q / 10 ^ p)).length = L - p := by
    have := congrArg List.length e
    rw [List.length_append, hn, hl] at this; omega
  have hx : D.data.toList = Lib.decDigits (q / 10 ^ p) ++ Fr.padL (q % 10 ^ p) p := by rw [hD, Nm.txt_list, e]
  refine ByteArray.ext (Array.toList_inj.1 ?_)
  rw [ByteArray.data_append, ByteArray.data_append, Array.toList_append, Array.toList_append, Lib.extract_data, Lib.extract_data, Lib.size_eq, hx, Fr.decS, Fr.decL, if_neg (by omega), List.drop_zero, Nat.sub_zero, ← hw, List.take_left, List.drop_left]
  rw [List.take_of_length_le (l := Fr.padL _ _) (by simp)]
  simp
/-- What a call that answers a text and an error leaves. -/
def TRes (s : ByteArray) (er : Int) (w : World) (e : Ending) (w' : World) : Prop := e = .returned (.tuple #[.string s, .int .i64 er]) ∧ Below w.heap.size w w'
theorem TRes.eq {s t : ByteArray} {er : Int} {w w' : World} (hs : s = t) (h : Below w.heap.size w w') : TRes t er w (.returned (.tuple #[.string s, .int .i64 er])) w' := by subst hs; exact ⟨rfl, h⟩
theorem zeros_at {v : Int} (p : Nat) (hv : v = (p : Nat)) (hp : p ≤ 18) (w : World) : Calls Tryz.prog 18 #[.string ⟨#[48]⟩, .int .i64 v] w fun e w' => e = .returned (.string ⟨(Lib.repeatL [48] p).toArray⟩) ∧ Below w.heap.size w w' :=
  repeat_at ⟨#[48]⟩ p hv w (by omega) rfl
section
variable {n c n' c' a b p : Nat} {A A' : Option Addr} {f f' : Nat → Nat}
theorem nat_Format_at {x : Nat} {D : ByteArray} (w : World) (hD : D = Nm.txt x) (h : IsN w w.heap.size A n x) (hn : n ≤ 64) (hc : n ≤ c) (hE : Env w) :
    Calls Tryz.prog 21 #[.agg #[.slice A n c]] w fun e w' => e = .returned (.string D) ∧ Below w.heap.size w w' := by
  subst hD; exact nat_Format w h hn hc hE
theorem nat_Parse_ten (w : World) (Z : ByteArray) (hp : p ≤ 18) (hZ : Z = ⟨(Lib.repeatL [48] p).toArray⟩) : Calls Tryz.prog 19 #[.string (⟨#[49]⟩ ++ Z)] w (NRes (10 ^ p) 0 w) := by
  have hl : ((⟨#[49]⟩ : ByteArray) ++ Z).data.toList = [49] ++ List.replicate p 48 := by
    rw [ByteArray.data_append, Array.toList_append, hZ, Nm.rep_one]
  have h := nat_Parse_ok (⟨#[49]⟩ ++ Z) w (by rw [Lib.size_eq, hl]; simp; omega) (by rw [hl]; exact Fr.ten_dec p)
  rw [hl, Fr.ten_val] at h
  have hf : Nt.fits (10 ^ p) = true := by
    rw [Nt.fits_iff, Nt.ln_le_iff (by omega)]
    calc 10 ^ p ≤ 10 ^ 18 := Nat.pow_le_pow_right (by omega) hp
      _ < 4294967296 ^ 64 := by
        calc 10 ^ 18 < 4294967296 ^ 2 := by decide
          _ ≤ 4294967296 ^ 64 := Nat.pow_le_pow_right (by omega) (by omega)
  rwa [Fr.bv_yes hf, Fr.be_yes hf] at h
set_option maxHeartbeats 400000 in
theorem frac_Decimal_bad (v : Int) (w : World) (h : FArg w A n c f A' n' c' f') (hv : Fr.vld f n f' n' = false) :
    Calls Tryz.prog 6 #[.agg #[.slice A n c, .slice A' n' c'], .int .i64 v] w (TRes ByteArray.empty 2 w) := by
  have v1 := fun W (hb : Below w.heap.size w W) => frac_Valid_arg W (h.on hb)
  rw [hv] at v1
  have V1 := Lib.hid v1
  clear v1 hv h
  have k0 := (Ks.start w).box [.slice A n c, .slice A' n' c'] 26
  have K0 := Lib.hid k0
  clear k0
  go_enter Tryz.func6, Tryz.ntmps6
  go_wp2_with fail
  refine (V1.out _ K0.out.bel).mono ?_
  rintro e w1 ⟨rfl, B1⟩
  have k1 := K0.out.call B1
  have K1 := Lib.hid k1
  clear k1 B1 
  have x0_0 := K1.out.cell0 at0
  have x0_1 := K1.out.cell1 at0
  go_wp2_with fail
  go_ret2
  exact ⟨rfl, K1.out.bel⟩
set_option maxHeartbeats 400000 in
theorem frac_Decimal_neg (v : Int) (w : World) (h : FIs w A n c A' n' c' a b) (hv : v < 0) :
    Calls Tryz.prog 6 #[.agg #[.slice A n c, .slice A' n' c'], .int .i64 v] w (TRes ByteArray.empty 2 w) := by
  have V1 := Lib.hid fun W (hb : Below w.heap.size w W) => frac_Valid_is W (h.on hb)
  clear h
  have k0 := (Ks.start w).box [.slice A n c, .slice A' n' c'] 26
  have K0 := Lib.hid k0
  clear k0
  go_enter Tryz.func6, Tryz.ntmps6
  go_wp2_with fail
  refine (V1.out _ K0.out.bel).mono ?_
  rintro e w1 ⟨rfl, B1⟩
  have k1 := K0.out.call B1
  have K1 := Lib.hid k1
  clear k1 B1 
  have x0_0 := K1.out.cell0 at0
  have x0_1 := K1.out.cell1 at0
  go_wp2_with fail
  go_ret2
  exact ⟨rfl, K1.out.bel⟩
set_option maxHeartbeats 400000 in
theorem frac_Decimal_big (v : Int) (w : World) (h : FIs w A n c A' n' c' a b) (hv : 18 < v) :
    Calls Tryz.prog 6 #[.agg #[.slice A n c, .slice A' n' c'], .int .i64 v] w (TRes ByteArray.empty 2 w) := by
  have V1 := Lib.hid fun W (hb : Below w.heap.size w W) => frac_Valid_is W (h.on hb)
  clear h
  have hv0 : ¬ v < 0 := by omega
  have k0 := (Ks.start w).box [.slice A n c, .slice A' n' c'] 26
  have K0 := Lib.hid k0
  clear k0
  go_enter Tryz.func6, Tryz.ntmps6
  go_wp2_with fail
  refine (V1.out _ K0.out.bel).mono ?_
  rintro e w1 ⟨rfl, B1⟩
  have k1 := K0.out.call B1
  have K1 := Lib.hid k1
  clear k1 B1 
  have x0_0 := K1.out.cell0 at0
  have x0_1 := K1.out.cell1 at0
  go_wp2_with fail
  go_ret2
  exact ⟨rfl, K1.out.bel⟩
set_option maxHeartbeats 400000 in
theorem frac_Decimal_over (v : Int) (w : World) (h : FIs w A n c A' n' c' a b) (hp : p ≤ 18) (hv : v = (p : Nat)) (hE : Env w) (hf : Nt.fits (a * 10 ^ p) = false) :
    Calls Tryz.prog 6 #[.agg #[.slice A n c, .slice A' n' c'], .int .i64 v] w (TRes ByteArray.empty 9 w) := by
  subst hv
  have V1 := Lib.hid fun W (hb : Below w.heap.size w W) => frac_Valid_is W (h.on hb)
  have v0 : (0 : Int) ≤ (p : Int) := by omega
  have v18 : (p : Int) ≤ 18 := by omega
  obtain ⟨Z, eZ⟩ : ∃ Z : ByteArray, Z = ⟨(Lib.repeatL [48] p).toArray⟩ := ⟨_, rfl⟩
  have hZ : Z.size = p := by rw [eZ, Lib.size_eq]; simp [Lib.repeatL_length]
  have RP := Lib.hid fun W => zeros_at p rfl hp W
  have PT := Lib.hid fun W => nat_Parse_ten W Z hp eZ
  rw [← eZ] at RP
  have HN := Lib.hid h.n
  have HD := Lib.hid h.d
  have HB := Lib.hid h.b0
  have HE := Lib.hid hE
  obtain ⟨T, eT⟩ : ∃ T, T = 10 ^ p := ⟨_, rfl⟩
  rw [← eT] at PT
  have hbv : Nt.be (a * T) = 9 := by rw [eT]; exact Fr.be_no hf
  have HBV := Lib.hid hbv
  clear hbv eZ eT hf
  have k0 := (Ks.start w).box [.slice A n c, .slice A' n' c'] 26
  have K0 := Lib.hid k0
  clear k0
  clear h hE
  go_enter Tryz.func6, Tryz.ntmps6
  go_wp2_with fail
  refine (V1.out _ K0.out.bel).mono ?_
  rintro e w1 ⟨rfl, B1⟩
  have k1 := K0.out.call B1
  have K1 := Lib.hid k1
  clear k1 B1 
  have x0_0 := K1.out.cell0 at0
  have x0_1 := K1.out.cell1 at0
  go_wp2_with fail
  refine (RP.out _).mono ?_
  rintro e w2 ⟨rfl, B2⟩
  have k2 := K1.out.call B2
  have K2 := Lib.hid k2
  clear k2 B2 
  clear x0_0 x0_1
  have x0_0 := K2.out.cell0 at0
  have x0_1 := K2.out.cell1 at0
  go_wp2_with fail
  refine (PT.out _).mono ?_
  rintro e w3 ⟨A3, n3, c3, rfl, B3, D3, h3, l3⟩
  have k3 := ((K2.out.call B3).num D3).box [.slice A3 n3 c3] 24
  have K3 := Lib.hid k3
  clear k3 B3 D3
  clear x0_0 x0_1
  have x0_0 := K3.out.cell0 at1
  have x0_1 := K3.out.cell1 at1
  go_wp2_with fail
  refine (nat_Mul_nums _ (HN.out.on K3.out.bel) ⟨K3.out.get at0, h3, l3⟩).mono ?_
  rintro e w4 ⟨A4, n4, c4, rfl, B4, D4, h4, l4⟩
  rw [HBV.out]
  have k4 := ((K3.out.call B4).num D4).box [.slice A4 n4 c4] 24
  have K4 := Lib.hid k4
  clear k4 B4 D4
  clear x0_0 x0_1
  have x0_0 := K4.out.cell0 at2
  have x0_1 := K4.out.cell1 at2
  have x1_0 := K4.out.cell0 at1
  go_wp2_with fail
  go_ret2
  exact ⟨rfl, K4.out.bel⟩
set_option maxHeartbeats 400000 in
theorem frac_Decimal_whole (v : Int) (w : World) (h : FIs w A n c A' n' c' a b) (hp : p ≤ 18) (hv : v = (p : Nat)) (hE : Env w) (hf : Nt.fits (a * 10 ^ p) = true) (h0 : p = 0) :
    Calls Tryz.prog 6 #[.agg #[.slice A n c, .slice A' n' c'], .int .i64 v] w (TRes (Fr.decS (a * 10 ^ p / b) p) 0 w) := by
  subst hv
  have V1 := Lib.hid fun W (hb : Below w.heap.size w W) => frac_Valid_is W (h.on hb)
  have v0 : (0 : Int) ≤ (p : Int) := by omega
  have v18 : (p : Int) ≤ 18 := by omega
  obtain ⟨Z, eZ⟩ : ∃ Z : ByteArray, Z = ⟨(Lib.repeatL [48] p).toArray⟩ := ⟨_, rfl⟩
  have hZ : Z.size = p := by rw [eZ, Lib.size_eq]; simp [Lib.repeatL_length]
  have RP := Lib.hid fun W => zeros_at p rfl hp W
  have PT := Lib.hid fun W => nat_Parse_ten W Z hp eZ
  rw [← eZ] at RP
  have HN := Lib.hid h.n
  have HD := Lib.hid h.d
  have HB := Lib.hid h.b0
  have HE := Lib.hid hE
  obtain ⟨T, eT⟩ : ∃ T, T = 10 ^ p := ⟨_, rfl⟩
  rw [← eT] at PT
  have hbv : Nt.be (a * T) = 0 := by rw [eT]; exact Fr.be_yes hf
  have hbw : Nt.bv (a * T) = a * T := by rw [eT]; exact Fr.bv_yes hf
  have HBV := Lib.hid hbv
  have HBW := Lib.hid hbw
  obtain ⟨q, eq⟩ : ∃ q, q = a * T / b := ⟨_, rfl⟩
  obtain ⟨D, eD⟩ : ∃ D : ByteArray, D = Nm.txt q := ⟨_, rfl⟩
  have fm := fun W {A : Option Addr} {n c : Nat} (h : IsN W W.heap.size A n q) (hn : n ≤ 64) (hc : n ≤ c) (hE : Env W) => nat_Format_at (c := c) W eD h hn hc hE
  have FM := Lib.hid fm
  have hq : a * 10 ^ p / b = q := by rw [eq, eT]
  have QM := Lib.hid fun W {A A' : Option Addr} {n c n' c' : Nat} (h : IsN W W.heap.size A n (a * T)) (h' : IsN W W.heap.size A' n' b) (hn : n ≤ 64) (hn' : n' ≤ 64) (hc : n ≤ c) => frac_quotient (c := c) (c' := c') W h h' hn hn' hc HB.out
  rw [← eq] at QM
  rw [hq]
  have hDs : 1 ≤ D.size ∧ D.size ≤ 10000 := by
    rw [eD, Nm.txt_size]
    refine ⟨?_, ?_⟩
    · have := Nm.digits_ne q
      rcases h0 : Lib.decDigits q with _ | _
      · exact absurd h0 this
      · simp
    · have h1 := Nt.fits_iff.1 hf
      have h2 : Nt.ln 4294967296 q ≤ 64 := Nat.le_trans (Nt.ln_mono (by omega) (by rw [← hq]; exact Nat.div_le_self _ _)) h1
      have := Nm.txt_le h2
      rw [Nm.txt_size] at this; omega
  obtain ⟨D1, D2⟩ := hDs
  have F : Hid (D = Fr.decS q p) := by
    show _ = _
    rw [eD, Fr.decS, Fr.decL, if_pos h0]; rfl
  have hv0 : ((p : Int) == 0) = true := by rw [h0]; rfl
  clear fm hbv hbw eZ eT hf eq eD hq h0
  have k0 := (Ks.start w).box [.slice A n c, .slice A' n' c'] 26
  have K0 := Lib.hid k0
  clear k0
  clear h hE
  go_enter Tryz.func6, Tryz.ntmps6
  go_wp2_with fail
  refine (V1.out _ K0.out.bel).mono ?_
  rintro e w1 ⟨rfl, B1⟩
  have k1 := K0.out.call B1
  have K1 := Lib.hid k1
  clear k1 B1 
  have x0_0 := K1.out.cell0 at0
  have x0_1 := K1.out.cell1 at0
  go_wp2_with fail
  refine (RP.out _).mono ?_
  rintro e w2 ⟨rfl, B2⟩
  have k2 := K1.out.call B2
  have K2 := Lib.hid k2
  clear k2 B2 
  clear x0_0 x0_1
  have x0_0 := K2.out.cell0 at0
  have x0_1 := K2.out.cell1 at0
  go_wp2_with fail
  refine (PT.out _).mono ?_
  rintro e w3 ⟨A3, n3, c3, rfl, B3, D3, h3, l3⟩
  have k3 := ((K2.out.call B3).num D3).box [.slice A3 n3 c3] 24
  have K3 := Lib.hid k3
  clear k3 B3 D3
  clear x0_0 x0_1
  have x0_0 := K3.out.cell0 at1
  have x0_1 := K3.out.cell1 at1
  go_wp2_with fail
  refine (nat_Mul_nums _ (HN.out.on K3.out.bel) ⟨K3.out.get at0, h3, l3⟩).mono ?_
  rintro e w4 ⟨A4, n4, c4, rfl, B4, D4, h4, l4⟩
  rw [HBV.out]
  rw [HBW.out] at D4
  have k4 := ((K3.out.call B4).num D4).box [.slice A4 n4 c4] 24
  have K4 := Lib.hid k4
  clear k4 B4 D4
  clear x0_0 x0_1
  have x0_0 := K4.out.cell0 at2
  have x0_1 := K4.out.cell1 at2
  have x1_0 := K4.out.cell0 at1
  go_wp2_with fail
  refine (QM.out _ (K4.out.get at0) (HD.out.on K4.out.bel).d h4 HD.out.h l4).mono ?_
  rintro e w5 ⟨A5, n5, c5, rfl, B5, D5, h5, l5⟩
  have k5 := (K4.out.call B5).num D5
  have K5 := Lib.hid k5
  clear k5 B5 D5
  clear x0_0 x0_1 x1_0
  have x0_0 := K5.out.cell0 at2
  have x0_1 := K5.out.cell1 at2
  have x1_0 := K5.out.cell0 at1
  have x2_0 := K5.out.cell0 at0
  go_wp2_with fail
  refine (FM.out _ (K5.out.get at0) h5 l5 (HE.out.on K5.out.bel)).mono ?_
  rintro e w6 ⟨rfl, B6⟩
  have k6 := K5.out.call B6
  have K6 := Lib.hid k6
  clear k6 B6 
  clear x0_0 x0_1 x1_0 x2_0
  have x0_0 := K6.out.cell0 at2
  have x0_1 := K6.out.cell1 at2
  have x1_0 := K6.out.cell0 at1
  have x2_0 := K6.out.cell0 at0
  go_wp2_with fail
  go_ret2
  exact TRes.eq F.out K6.out.bel
set_option maxHeartbeats 400000 in
theorem frac_Decimal_parts (v : Int) (w : World) (h : FIs w A n c A' n' c' a b) (hp : p ≤ 18) (hv : v = (p : Nat)) (hE : Env w) (hf : Nt.fits (a * 10 ^ p) = true) (h0 : 1 ≤ p) :
    Calls Tryz.prog 6 #[.agg #[.slice A n c, .slice A' n' c'], .int .i64 v] w (TRes (Fr.decS (a * 10 ^ p / b) p) 0 w) := by
  subst hv
  have V1 := Lib.hid fun W (hb : Below w.heap.size w W) => frac_Valid_is W (h.on hb)
  have v0 : (0 : Int) ≤ (p : Int) := by omega
  have v18 : (p : Int) ≤ 18 := by omega
  obtain ⟨Z, eZ⟩ : ∃ Z : ByteArray, Z = ⟨(Lib.repeatL [48] p).toArray⟩ := ⟨_, rfl⟩
  have hZ : Z.size = p := by rw [eZ, Lib.size_eq]; simp [Lib.repeatL_length]
  have RP := Lib.hid fun W => zeros_at p rfl hp W
  have PT := Lib.hid fun W => nat_Parse_ten W Z hp eZ
  rw [← eZ] at RP
  have HN := Lib.hid h.n
  have HD := Lib.hid h.d
  have HB := Lib.hid h.b0
  have HE := Lib.hid hE
  obtain ⟨T, eT⟩ : ∃ T, T = 10 ^ p := ⟨_, rfl⟩
  rw [← eT] at PT
  have hbv : Nt.be (a * T) = 0 := by rw [eT]; exact Fr.be_yes hf
  have hbw : Nt.bv (a * T) = a * T := by rw [eT]; exact Fr.bv_yes hf
  have HBV := Lib.hid hbv
  have HBW := Lib.hid hbw
  obtain ⟨q, eq⟩ : ∃ q, q = a * T / b := ⟨_, rfl⟩
  obtain ⟨D, eD⟩ : ∃ D : ByteArray, D = Nm.txt q := ⟨_, rfl⟩
  have fm := fun W {A : Option Addr} {n c : Nat} (h : IsN W W.heap.size A n q) (hn : n ≤ 64) (hc : n ≤ c) (hE : Env W) => nat_Format_at (c := c) W eD h hn hc hE
  have FM := Lib.hid fm
  have hq : a * 10 ^ p / b = q := by rw [eq, eT]
  have QM := Lib.hid fun W {A A' : Option Addr} {n c n' c' : Nat} (h : IsN W W.heap.size A n (a * T)) (h' : IsN W W.heap.size A' n' b) (hn : n ≤ 64) (hn' : n' ≤ 64) (hc : n ≤ c) => frac_quotient (c := c) (c' := c') W h h' hn hn' hc HB.out
  rw [← eq] at QM
  rw [hq]
  have hDs : 1 ≤ D.size ∧ D.size ≤ 10000 := by
    rw [eD, Nm.txt_size]
    refine ⟨?_, ?_⟩
    · have := Nm.digits_ne q
      rcases h0 : Lib.decDigits q with _ | _
      · exact absurd h0 this
      · simp
    · have h1 := Nt.fits_iff.1 hf
      have h2 : Nt.ln 4294967296 q ≤ 64 := Nat.le_trans (Nt.ln_mono (by omega) (by rw [← hq]; exact Nat.div_le_self _ _)) h1
      have := Nm.txt_le h2
      rw [Nm.txt_size] at this; omega
  obtain ⟨D1, D2⟩ := hDs
  have hv0 : ((p : Int) == 0) = false := by simp; omega
  by_cases hL : D.size ≤ p
  · have F := Lib.hid (decS_short h0 eD eZ rfl hL D1)
    have hLd : ((D.size : Int) ≤ (p : Int)) := by omega
    have hI : (((p - (D.size - 1) : Nat) : Int) + (D.size : Int) - (p : Int)) = 1 := by omega
    obtain ⟨X, eX⟩ : ∃ X, X = Z.extract (D.size - 1) p ++ D := ⟨_, rfl⟩
    have hX : X.size = p + 1 := by rw [eX, ByteArray.size_append, ByteArray.size_extract, hZ]; omega
    rw [hZ, ← eX] at F
    have X1 : 1 ≤ X.size := by omega
    have X2 : X.size ≤ 10000 := by omega
    have EX := Lib.hid eX
    have HI := Lib.hid hI
    clear fm hbv hbw eZ eT hf eq eD hq eX hI hX
    have k0 := (Ks.start w).box [.slice A n c, .slice A' n' c'] 26
    have K0 := Lib.hid k0
    clear k0
    clear h hE
    go_enter Tryz.func6, Tryz.ntmps6
    go_wp2_with fail
    refine (V1.out _ K0.out.bel).mono ?_
    rintro e w1 ⟨rfl, B1⟩
    have k1 := K0.out.call B1
    have K1 := Lib.hid k1
    clear k1 B1 
    have x0_0 := K1.out.cell0 at0
    have x0_1 := K1.out.cell1 at0
    go_wp2_with fail
    refine (RP.out _).mono ?_
    rintro e w2 ⟨rfl, B2⟩
    have k2 := K1.out.call B2
    have K2 := Lib.hid k2
    clear k2 B2 
    clear x0_0 x0_1
    have x0_0 := K2.out.cell0 at0
    have x0_1 := K2.out.cell1 at0
    go_wp2_with fail
    refine (PT.out _).mono ?_
    rintro e w3 ⟨A3, n3, c3, rfl, B3, D3, h3, l3⟩
    have k3 := ((K2.out.call B3).num D3).box [.slice A3 n3 c3] 24
    have K3 := Lib.hid k3
    clear k3 B3 D3
    clear x0_0 x0_1
    have x0_0 := K3.out.cell0 at1
    have x0_1 := K3.out.cell1 at1
    go_wp2_with fail
    refine (nat_Mul_nums _ (HN.out.on K3.out.bel) ⟨K3.out.get at0, h3, l3⟩).mono ?_
    rintro e w4 ⟨A4, n4, c4, rfl, B4, D4, h4, l4⟩
    rw [HBV.out]
    rw [HBW.out] at D4
    have k4 := ((K3.out.call B4).num D4).box [.slice A4 n4 c4] 24
    have K4 := Lib.hid k4
    clear k4 B4 D4
    clear x0_0 x0_1
    have x0_0 := K4.out.cell0 at2
    have x0_1 := K4.out.cell1 at2
    have x1_0 := K4.out.cell0 at1
    go_wp2_with fail
    refine (QM.out _ (K4.out.get at0) (HD.out.on K4.out.bel).d h4 HD.out.h l4).mono ?_
    rintro e w5 ⟨A5, n5, c5, rfl, B5, D5, h5, l5⟩
    have k5 := (K4.out.call B5).num D5
    have K5 := Lib.hid k5
    clear k5 B5 D5
    clear x0_0 x0_1 x1_0
    have x0_0 := K5.out.cell0 at2
    have x0_1 := K5.out.cell1 at2
    have x1_0 := K5.out.cell0 at1
    have x2_0 := K5.out.cell0 at0
    go_wp2_with fail
    refine (FM.out _ (K5.out.get at0) h5 l5 (HE.out.on K5.out.bel)).mono ?_
    rintro e w6 ⟨rfl, B6⟩
    have k6 := K5.out.call B6
    have K6 := Lib.hid k6
    clear k6 B6 
    clear x0_0 x0_1 x1_0 x2_0
    have x0_0 := K6.out.cell0 at2
    have x0_1 := K6.out.cell1 at2
    have x1_0 := K6.out.cell0 at1
    have x2_0 := K6.out.cell0 at0
    go_wp2_with fail
    rw [← EX.out, HI.out]
    go_quiet (fail)
    go_wp2_with fail
    go_ret2
    exact TRes.eq F.out (K6.out.bel.trans (below_dr _ _ _))
  · have F := Lib.hid (decS_long (D := D) h0 eD rfl (by omega))
    have hLd : ¬ ((D.size : Int) ≤ (p : Int)) := by omega
    clear fm hbv hbw eZ eT hf eq eD hq
    have k0 := (Ks.start w).box [.slice A n c, .slice A' n' c'] 26
    have K0 := Lib.hid k0
    clear k0
    clear h hE
    go_enter Tryz.func6, Tryz.ntmps6
    go_wp2_with fail
    refine (V1.out _ K0.out.bel).mono ?_
    rintro e w1 ⟨rfl, B1⟩
    have k1 := K0.out.call B1
    have K1 := Lib.hid k1
    clear k1 B1 
    have x0_0 := K1.out.cell0 at0
    have x0_1 := K1.out.cell1 at0
    go_wp2_with fail
    refine (RP.out _).mono ?_
    rintro e w2 ⟨rfl, B2⟩
    have k2 := K1.out.call B2
    have K2 := Lib.hid k2
    clear k2 B2 
    clear x0_0 x0_1
    have x0_0 := K2.out.cell0 at0
    have x0_1 := K2.out.cell1 at0
    go_wp2_with fail
    refine (PT.out _).mono ?_
    rintro e w3 ⟨A3, n3, c3, rfl, B3, D3, h3, l3⟩
    have k3 := ((K2.out.call B3).num D3).box [.slice A3 n3 c3] 24
    have K3 := Lib.hid k3
    clear k3 B3 D3
    clear x0_0 x0_1
    have x0_0 := K3.out.cell0 at1
    have x0_1 := K3.out.cell1 at1
    go_wp2_with fail
    refine (nat_Mul_nums _ (HN.out.on K3.out.bel) ⟨K3.out.get at0, h3, l3⟩).mono ?_
    rintro e w4 ⟨A4, n4, c4, rfl, B4, D4, h4, l4⟩
    rw [HBV.out]
    rw [HBW.out] at D4
    have k4 := ((K3.out.call B4).num D4).box [.slice A4 n4 c4] 24
    have K4 := Lib.hid k4
    clear k4 B4 D4
    clear x0_0 x0_1
    have x0_0 := K4.out.cell0 at2
    have x0_1 := K4.out.cell1 at2
    have x1_0 := K4.out.cell0 at1
    go_wp2_with fail
    refine (QM.out _ (K4.out.get at0) (HD.out.on K4.out.bel).d h4 HD.out.h l4).mono ?_
    rintro e w5 ⟨A5, n5, c5, rfl, B5, D5, h5, l5⟩
    have k5 := (K4.out.call B5).num D5
    have K5 := Lib.hid k5
    clear k5 B5 D5
    clear x0_0 x0_1 x1_0
    have x0_0 := K5.out.cell0 at2
    have x0_1 := K5.out.cell1 at2
    have x1_0 := K5.out.cell0 at1
    have x2_0 := K5.out.cell0 at0
    go_wp2_with fail
    refine (FM.out _ (K5.out.get at0) h5 l5 (HE.out.on K5.out.bel)).mono ?_
    rintro e w6 ⟨rfl, B6⟩
    have k6 := K5.out.call B6
    have K6 := Lib.hid k6
    clear k6 B6 
    clear x0_0 x0_1 x1_0 x2_0
    have x0_0 := K6.out.cell0 at2
    have x0_1 := K6.out.cell1 at2
    have x1_0 := K6.out.cell0 at1
    have x2_0 := K6.out.cell0 at0
    go_wp2_with fail
    go_quiet (fail)
    go_wp2_with fail
    go_ret2
    exact TRes.eq F.out (K6.out.bel.trans (below_dr _ _ _))
end
end Go.Proofs.YtcgbgaljjhopiaaGreatDoor
namespace Go.Proofs.YtcgbgaljjhopiaaGreatDoor
set_option maxRecDepth 20000
open Go.RowKit
set_option linter.unusedVariables false
set_option linter.unusedSimpArgs false
/-- Are two numbers the same? -/
def Fr.eqb (x y : Nat) : Bool := decide (x = y)
theorem Fr.eqb_refl (x : Nat) : Fr.eqb x x = true := by simp [Fr.eqb]
theorem Fr.eqb_ne {x y : Nat} (h : x ≠ y) : Fr.eqb x y = false := by simp [Fr.eqb, h]
theorem IsN.eq_of {w w' : World} {B B' n x y : Nat} {A A' : Option Addr} (h : IsN w B A n x) (h' : IsN w' B' A' n y) (hd : ∀ i, i < n → Nt.dg 4294967296 x i = Nt.dg 4294967296 y i) : x = y := by
  rw [← h.val, ← h'.val]; exact Nt.vl_congr hd
section
variable {n c n' c' m j m' j' x y u v : Nat} {A A' C C' : Option Addr}
set_option maxHeartbeats 400000 in
theorem ref4_same (w : World) (h : IsN w w.heap.size A n x) (h' : IsN w w.heap.size A' n' y) (hn : n ≤ 64) (hn' : n' ≤ 64) :
    Calls Tryz.prog 37 #[.slice A n c, .slice A' n' c'] w fun e w' => e = .returned (.bool (Fr.eqb x y)) ∧ Below w.heap.size w w' := by
  by_cases hnn : n = n'
  · subst hnn
    have D1 := Lib.hid h
    have D2 := Lib.hid h'
    have hnb : ((n : Int) != (n : Int)) = false := by simp
    clear h h'
    go_enter Tryz.func37, Tryz.ntmps37
    go_wp2_with fail
    go_loopw [5] (fun i W => ∃ (k d : Nat), k ≤ n ∧ i = .int .i64 k ∧ W = w.drewN d ∧ Hid (∀ i, i < k → Nt.dg 4294967296 x i = Nt.dg 4294967296 y i)) (fun i _ => n - (intOf i).toNat)
    case atStart => exact ⟨0, 0, by omega, rfl, rfl, fun _ hi => by omega⟩
    case round =>
      obtain ⟨k, d, hk, rfl, rfl, HQ⟩ := hrel
      by_cases hlt : k < n
      · obtain ⟨ad, s, rfl, hb, hcell, HX, u0, u1⟩ := D1.out.d.at_ hlt (Nt.dg_lt (B := 4294967296) (by omega) x k)
        obtain ⟨ad', s', rfl, hb', hcell', HX', -, -⟩ := D2.out.d.at_ hlt (Nt.dg_lt (B := 4294967296) (by omega) y k)
        have j0 : (0 : Int) ≤ (k : Int) := by omega
        have j1 : (k : Int) < (n : Int) := by omega
        by_cases hss : s = s'
        · subst hss
          have hu : (s != s) = false := by simp
          have HQ2 : Hid (∀ i, i < k + 1 → Nt.dg 4294967296 x i = Nt.dg 4294967296 y i) := fun i hi => by
            by_cases e : i = k
            · subst e; have := HX.out; have := HX'.out; omega
            · exact HQ.out i (by omega)
          clear u1
          go_wp2_with fail
          go_quiet (fail)
          go_wp2_with fail
          go_roundw
          case rel => exact ⟨k + 1, _, by omega, by go_num, rfl, HQ2⟩
          case measure => simp [intOf]; omega
        · have hu : (s != s') = true := by simpa using hss
          have F : Hid (false = Fr.eqb x y) := by
            show _ = _
            rw [Fr.eqb_ne]
            intro e
            subst e
            exact hss (HX.out.trans HX'.out.symm)
          clear u1 hss
          go_wp2_with fail
          go_quiet (fail)
          go_wp2_with fail
          go_ret
          exact ⟨ret_bool F.out, (below_dr _ _ _).trans (below_dr _ _ _)⟩
      · have F : Hid (true = Fr.eqb x y) := by
          show _ = _
          rw [D1.out.eq_of D2.out fun i hi => HQ.out i (by omega), Fr.eqb_refl]
        go_wp2
        go_ret
        exact ⟨ret_bool F.out, below_dr _ _ _⟩
  · have F : Hid (false = Fr.eqb x y) := by
      show _ = _
      rw [Fr.eqb_ne]
      rintro rfl
      exact hnn (h.l.symm.trans h'.l)
    have hnb : ((n : Int) != (n' : Int)) = true := by simp; omega
    clear h h'
    go_enter Tryz.func37, Tryz.ntmps37
    go_wp2_with fail
    go_ret
    exact ⟨ret_bool F.out, Below.refl _ _⟩
def Fr.same (x y u v : Nat) : Bool := Fr.eqb x u && Fr.eqb y v
theorem Fr.same_refl (x y : Nat) : Fr.same x y x y = true := by simp [Fr.same, Fr.eqb_refl]
theorem Fr.same_iff {x y u v : Nat} : Fr.same x y u v = true ↔ x = u ∧ y = v := by simp [Fr.same, Fr.eqb]
theorem ref4_Same (w : World) (h : NumAt w A n c x) (h' : NumAt w A' n' c' y) (k : NumAt w C m j u) (k' : NumAt w C' m' j' v) :
    Calls Tryz.prog 15 #[.agg #[.slice A n c, .slice A' n' c'], .agg #[.slice C m j, .slice C' m' j']] w fun e w' => e = .returned (.bool (Fr.same x y u v)) ∧ Below w.heap.size w w' := by
  unfold Fr.same
  cases e1 : Fr.eqb x u
  · rw [Bool.false_and]
    have c1 := fun W (hb : Below w.heap.size w W) => ref4_same (c := c) (c' := j) W (h.on hb).d (k.on hb).d h.h k.h
    have c2 := fun W (hb : Below w.heap.size w W) => ref4_same (c := c') (c' := j') W (h'.on hb).d (k'.on hb).d h'.h k'.h
    rw [e1] at c1
    have C1 := Lib.hid c1
    have C2 := Lib.hid c2
    clear c1 c2 e1 h h' k k'
    have k0 := ((Ks.start w).box [.slice A n c, .slice A' n' c'] 26).box [.slice C m j, .slice C' m' j'] 26
    simp only [size_alloc] at k0
    have K0 := Lib.hid k0
    clear k0
    go_enter Tryz.func15, Tryz.ntmps15
    go_wp2_with fail
    refine (C1.out _ K0.out.bel).mono ?_
    rintro e w1 ⟨rfl, B1⟩
    have k1 := K0.out.call B1
    have K1 := Lib.hid k1
    clear k1 B1 
    have x0_0 := K1.out.cell0 at1
    have x0_1 := K1.out.cell1 at1
    have x1_0 := K1.out.cell0 at0
    have x1_1 := K1.out.cell1 at0
    go_wp2_with fail
    go_ret
    exact ⟨rfl, K1.out.bel⟩
  · rw [Bool.true_and]
    obtain ⟨z, ez⟩ : ∃ z, z = Fr.eqb y v := ⟨_, rfl⟩
    have c1 := fun W (hb : Below w.heap.size w W) => ref4_same (c := c) (c' := j) W (h.on hb).d (k.on hb).d h.h k.h
    have c2 := fun W (hb : Below w.heap.size w W) => ref4_same (c := c') (c' := j') W (h'.on hb).d (k'.on hb).d h'.h k'.h
    rw [e1] at c1
    rw [← ez] at c2 ⊢
    have C1 := Lib.hid c1
    have C2 := Lib.hid c2
    clear c1 c2 e1 ez h h' k k'
    have k0 := ((Ks.start w).box [.slice A n c, .slice A' n' c'] 26).box [.slice C m j, .slice C' m' j'] 26
    simp only [size_alloc] at k0
    have K0 := Lib.hid k0
    clear k0
    go_enter Tryz.func15, Tryz.ntmps15
    go_wp2_with fail
    refine (C1.out _ K0.out.bel).mono ?_
    rintro e w1 ⟨rfl, B1⟩
    have k1 := K0.out.call B1
    have K1 := Lib.hid k1
    clear k1 B1 
    have x0_0 := K1.out.cell0 at1
    have x0_1 := K1.out.cell1 at1
    have x1_0 := K1.out.cell0 at0
    have x1_1 := K1.out.cell1 at0
    go_wp2_with fail
    refine (C2.out _ K1.out.bel).mono ?_
    rintro e w2 ⟨rfl, B2⟩
    have k2 := K1.out.call B2
    have K2 := Lib.hid k2
    clear k2 B2 
    clear x0_0 x0_1 x1_0 x1_1
    have x0_0 := K2.out.cell0 at1
    have x0_1 := K2.out.cell1 at1
    have x1_0 := K2.out.cell0 at0
    have x1_1 := K2.out.cell1 at0
    go_wp2_with fail
    go_ret
    exact ⟨rfl, K2.out.bel⟩
/-- What of leaves: a fraction of one-limb numbers. -/
def GRes (a b : Nat) (w : World) (e : Ending) (w' : World) : Prop :=
  ∃ A n c A' n' c', e = .returned (.agg #[.slice A n c, .slice A' n' c']) ∧ Below w.heap.size w w' ∧ IsN w' w'.heap.size A n a ∧ IsN w' w'.heap.size A' n' b ∧ n ≤ 64 ∧ n' ≤ 64 ∧ n ≤ c ∧ n' ≤ c'
theorem size_three (w : World) (a b c : Obj) : (((w.alloc a).alloc b).alloc c).heap.size = w.heap.size + 1 + 1 + 1 := by simp only [size_alloc]
theorem law4_of0 (s t : Int) (b : Nat) (w : World) (hs : s = 0) (ht : t = (b : Nat)) (b0 : 0 < b) (b1 : b < 4294967296) :
    Calls Tryz.prog 11 #[.int .u32 s, .int .u32 t] w (GRes 0 b w) := by
  subst hs
  subst ht
  have n0 := fun o o' => (isN_lit (w.alloc o) (b : Nat) b rfl b0 b1).on ((Below.refl _ _).alloc (Nat.le_refl _) o')
  simp only [size_alloc w] at n0
  have HN := Lib.hid n0
  clear n0
  go_enter Tryz.func11, Tryz.ntmps11
  go_wp2_with fail
  refine bodyPost_ret (v := .agg #[.slice none 0 0, .slice (some ⟨w.heap.size + 1, 0, none⟩) 1 1]) (by simp [results, Tryz.results11, go_sem]) rfl ?_
  exact ⟨_, _, _, _, _, _, rfl, (((Below.refl _ _).alloc (Nat.le_refl _) _).alloc (by simp) _).alloc (by simp; omega) _, IsN.zero, HN.out _ _, by omega, by omega, by omega, by omega⟩
theorem law4_of1 (s t : Int) (a b : Nat) (w : World) (hs : s = (a : Nat)) (a0 : 0 < a) (a1 : a < 4294967296) (ht : t = (b : Nat)) (b0 : 0 < b) (b1 : b < 4294967296) :
    Calls Tryz.prog 11 #[.int .u32 s, .int .u32 t] w (GRes a b w) := by
  subst hs
  subst ht
  have hs0 : ((a : Int) != 0) = true := by simp; omega
  have n0 := fun o o' o'' => (isN_lit (w.alloc o) (b : Nat) b rfl b0 b1).on (((Below.refl _ _).alloc (Nat.le_refl _) o').alloc (by simp) o'')
  have n1 : ∀ o o' o'', IsN ((((w.alloc o).alloc o').alloc o'').alloc (.cells #[.int .u32 (a : Nat)] 37)) ((((w.alloc o).alloc o').alloc o'').alloc (.cells #[.int .u32 (a : Nat)] 37)).heap.size (some ⟨w.heap.size + 1 + 1 + 1, 0, none⟩) 1 a := fun o o' o'' => by
    have := isN_lit (((w.alloc o).alloc o').alloc o'') (a : Nat) a rfl a0 a1
    rwa [size_three w o o' o''] at this
  simp only [size_alloc w] at n0
  have HN := Lib.hid n0
  have HM := Lib.hid n1
  clear n0 n1
  go_enter Tryz.func11, Tryz.ntmps11
  go_wp2_with fail
  refine bodyPost_ret (v := .agg #[.slice (some ⟨w.heap.size + 1 + 1 + 1, 0, none⟩) 1 1, .slice (some ⟨w.heap.size + 1, 0, none⟩) 1 1]) (by simp [results, Tryz.results11, go_sem]) rfl ?_
  exact ⟨_, _, _, _, _, _, rfl, ((((Below.refl _ _).alloc (Nat.le_refl _) _).alloc (by simp) _).alloc (by simp; omega) _).alloc (by simp; omega) _, HM.out _ _ _, HN.out _ _ _, by omega, by omega, by omega, by omega⟩
end
end Go.Proofs.YtcgbgaljjhopiaaGreatDoor
namespace Go.Proofs.YtcgbgaljjhopiaaGreatDoor
set_option maxRecDepth 20000
open Go.RowKit
set_option linter.unusedVariables false
set_option linter.unusedSimpArgs false
theorem fits_small {x : Nat} (h : x < 4294967296) : Nt.fits x = true := by
  rw [Nt.fits_iff, Nt.ln_le_iff (by omega)]
  calc x < 4294967296 ^ 1 := by omega
    _ ≤ 4294967296 ^ 64 := Nat.pow_le_pow_right (by omega) (by omega)
theorem aw4_of : Fr.mkP 6 4 = (3, 2, 0) := by decide
theorem aw4_none : Fr.mkP 1 0 = (0, 0, 10) := by decide
theorem aw4_add : Fr.addT 1 6 1 10 = (4, 15, 0) := by
  rw [Fr.addT, fits_small (x := 1 * 10) (by omega), fits_small (x := 1 * 6) (by omega), fits_small (x := 6 * 10) (by omega), fits_small (x := 1 * 10 + 1 * 6) (by omega)]; decide
theorem aw4_sub : Fr.subT 1 10 1 6 = (0, 0, 2) := by rw [Fr.subT, if_pos (by omega)]
theorem aw4_mul : Fr.mulT 2 3 3 4 = (1, 2, 0) := by
  rw [Fr.mulT, fits_small (x := 2 * 3) (by omega), fits_small (x := 3 * 4) (by omega)]; decide
theorem aw4_div : Fr.divT 1 2 0 1 = (0, 0, 10) := by rw [Fr.divT, if_pos rfl]
theorem aw4_cmp : Fr.ci (1 * 3) (2 * 2) = -1 := by decide
theorem aw4_dec : Fr.decS (2 * 10 ^ 4 / 3) 4 = ⟨#[48, 46, 54, 54, 54, 54]⟩ := by
  have h : Lib.decDigits 6666 = [54, 54, 54, 54] := Nm.digits_val 4 [54, 54, 54, 54] rfl (by decide)
  rw [show 2 * 10 ^ 4 / 3 = 6666 by decide, Fr.decS, Fr.decL, if_neg (by omega), show 6666 / 10 ^ 4 = 0 by decide, show 6666 % 10 ^ 4 = 6666 by decide, Nm.digits_zero, Fr.padL, h]
  rfl
section
variable {n c n' c' m j m' j' a b : Nat} {A A' C C' : Option Addr}
theorem aw4_decimal (w : World) (h : FIs w A n c A' n' c' 2 3) (hE : Env w) : Calls Tryz.prog 6 #[.agg #[.slice A n c, .slice A' n' c'], .int .i64 4] w (TRes ⟨#[48, 46, 54, 54, 54, 54]⟩ 0 w) := by
  have := frac_Decimal_parts (p := 4) 4 w h (by omega) rfl hE (fits_small (by omega)) (by omega)
  rwa [aw4_dec] at this
theorem aw4_no (w : World) (h : NumAt w A n c 2) (h' : NumAt w A' n' c' 4) : Calls Tryz.prog 16 #[.agg #[.slice A n c, .slice A' n' c']] w fun e w' => e = .returned (.bool false) ∧ Below w.heap.size w w' := by
  have := frac_Valid_ok w h.d h.h h.l h'.d h'.h h'.l (by omega)
  rwa [show Fr.one (Nat.gcd 2 4) = false by decide] at this
end
theorem kW {w W : World} {b0 b1 b2 b3 b4 b5 : Nat} {u0 v0 u1 v1 u2 v2 u3 v3 u4 v4 u5 v5 : Value} {T0 T1 T2 T3 T4 T5 : TypeId} {ns : List (Option Addr × Nat × Nat)} (h : Hid (Ks w W [(b5, [u5, v5], T5), (b4, [u4, v4], T4), (b3, [u3, v3], T3), (b2, [u2, v2], T2), (b1, [u1, v1], T1), (b0, [u0, v0], T0)] ns)) :
    W.cell? ⟨b0, 0, none⟩ = some u0 ∧ W.cell? ⟨b0, 1, none⟩ = some v0 ∧ W.cell? ⟨b1, 0, none⟩ = some u1 ∧ W.cell? ⟨b1, 1, none⟩ = some v1 ∧ W.cell? ⟨b3, 0, none⟩ = some u3 ∧ W.cell? ⟨b3, 1, none⟩ = some v3 :=
  ⟨h.out.cell0 at5, h.out.cell1 at5, h.out.cell0 at4, h.out.cell1 at4, h.out.cell0 at2, h.out.cell1 at2⟩
set_option maxHeartbeats 4000000 in
theorem law4_awake (w : World) (hE : Env w) :
    Calls Tryz.prog 5 #[] w fun e w' => e = .returned (.bool true) ∧ Below w.heap.size w w' := by
  have O1_2 := Lib.hid fun W => law4_of1 1 2 1 2 W rfl (by omega) (by omega) rfl (by omega) (by omega)
  have O1_6 := Lib.hid fun W => law4_of1 1 6 1 6 W rfl (by omega) (by omega) rfl (by omega) (by omega)
  have O1_10 := Lib.hid fun W => law4_of1 1 10 1 10 W rfl (by omega) (by omega) rfl (by omega) (by omega)
  have O2_3 := Lib.hid fun W => law4_of1 2 3 2 3 W rfl (by omega) (by omega) rfl (by omega) (by omega)
  have O2_4 := Lib.hid fun W => law4_of1 2 4 2 4 W rfl (by omega) (by omega) rfl (by omega) (by omega)
  have O3_2 := Lib.hid fun W => law4_of1 3 2 3 2 W rfl (by omega) (by omega) rfl (by omega) (by omega)
  have O3_4 := Lib.hid fun W => law4_of1 3 4 3 4 W rfl (by omega) (by omega) rfl (by omega) (by omega)
  have O4_15 := Lib.hid fun W => law4_of1 4 15 4 15 W rfl (by omega) (by omega) rfl (by omega) (by omega)
  have O0_1 := Lib.hid fun W => law4_of0 0 1 1 W rfl rfl (by omega) (by omega)
  have F6 := Lib.hid fun W => aw4_of ▸ frac_Of_ok (a := 6) (b := 4) 6 4 W (by omega) (by omega) (by omega) (by omega) rfl rfl
  have F0 := Lib.hid fun W => aw4_none ▸ frac_Of_ok (a := 1) (b := 0) 1 0 W (by omega) (by omega) (by omega) (by omega) rfl rfl
  have HE := Lib.hid hE
  clear hE
  have k0 := Ks.start w
  have K0 := Lib.hid k0
  clear k0
  go_enter Tryz.func5, Tryz.ntmps5
  go_wp2_with fail
  refine (F6.out _).mono ?_
  rintro e w1 ⟨A1, n1, c1, A1r, n1r, c1r, rfl, B1, D1, D1r, h1, h1r, l1, l1r⟩
  have k1 := (((K0.out.call B1).num D1).num D1r).box [.slice A1 n1 c1, .slice A1r n1r c1r] 26
  have K1 := Lib.hid k1
  clear k1 B1 D1 D1r
  go_wp2_with fail
  refine (O1_6.out _).mono ?_
  rintro e w2 ⟨A2, n2, c2, A2r, n2r, c2r, rfl, B2, D2, D2r, h2, h2r, l2, l2r⟩
  have k2 := ((K1.out.call B2).num D2).num D2r
  have K2 := Lib.hid k2
  clear k2 B2 D2 D2r
  have x0_0 := K2.out.cell0 at0
  have x0_1 := K2.out.cell1 at0
  go_wp2_with fail
  refine (O1_10.out _).mono ?_
  rintro e w3 ⟨A3, n3, c3, A3r, n3r, c3r, rfl, B3, D3, D3r, h3, h3r, l3, l3r⟩
  have k3 := ((K2.out.call B3).num D3).num D3r
  have K3 := Lib.hid k3
  clear k3 B3 D3 D3r
  clear x0_0 x0_1
  have x0_0 := K3.out.cell0 at0
  have x0_1 := K3.out.cell1 at0
  go_wp2_with fail
  refine (aw4_add ▸ frac_Add_is _ ⟨⟨(K3.out.get at3), h2, l2⟩, ⟨(K3.out.get at2), h2r, l2r⟩, by omega, by decide⟩ ⟨⟨(K3.out.get at1), h3, l3⟩, ⟨(K3.out.get at0), h3r, l3r⟩, by omega, by decide⟩).mono ?_
  rintro e w4 ⟨A4, n4, c4, A4r, n4r, c4r, rfl, B4, D4, D4r, h4, h4r, l4, l4r⟩
  have k4 := (((K3.out.call B4).num D4).num D4r).box [.slice A4 n4 c4, .slice A4r n4r c4r] 26
  have K4 := Lib.hid k4
  clear k4 B4 D4 D4r
  clear x0_0 x0_1
  have x0_0 := K4.out.cell0 at1
  have x0_1 := K4.out.cell1 at1
  go_wp2_with fail
  refine (O1_10.out _).mono ?_
  rintro e w5 ⟨A5, n5, c5, A5r, n5r, c5r, rfl, B5, D5, D5r, h5, h5r, l5, l5r⟩
  have k5 := ((K4.out.call B5).num D5).num D5r
  have K5 := Lib.hid k5
  clear k5 B5 D5 D5r
  clear x0_0 x0_1
  have x0_0 := K5.out.cell0 at1
  have x0_1 := K5.out.cell1 at1
  have x1_0 := K5.out.cell0 at0
  have x1_1 := K5.out.cell1 at0
  go_wp2_with fail
  refine (O1_6.out _).mono ?_
  rintro e w6 ⟨A6, n6, c6, A6r, n6r, c6r, rfl, B6, D6, D6r, h6, h6r, l6, l6r⟩
  have k6 := ((K5.out.call B6).num D6).num D6r
  have K6 := Lib.hid k6
  clear k6 B6 D6 D6r
  clear x0_0 x0_1 x1_0 x1_1
  have x0_0 := K6.out.cell0 at1
  have x0_1 := K6.out.cell1 at1
  have x1_0 := K6.out.cell0 at0
  have x1_1 := K6.out.cell1 at0
  go_wp2_with fail
  refine (aw4_sub ▸ frac_Sub_is _ ⟨⟨(K6.out.get at3), h5, l5⟩, ⟨(K6.out.get at2), h5r, l5r⟩, by omega, by decide⟩ ⟨⟨(K6.out.get at1), h6, l6⟩, ⟨(K6.out.get at0), h6r, l6r⟩, by omega, by decide⟩).mono ?_
  rintro e w7 ⟨A7, n7, c7, A7r, n7r, c7r, rfl, B7, D7, D7r, h7, h7r, l7, l7r⟩
  have k7 := (((K6.out.call B7).num D7).num D7r).box [.slice A7 n7 c7, .slice A7r n7r c7r] 26
  have K7 := Lib.hid k7
  clear k7 B7 D7 D7r
  clear x0_0 x0_1 x1_0 x1_1
  have x0_0 := K7.out.cell0 at2
  have x0_1 := K7.out.cell1 at2
  have x1_0 := K7.out.cell0 at1
  have x1_1 := K7.out.cell1 at1
  go_wp2_with fail
  refine (O2_3.out _).mono ?_
  rintro e w8 ⟨A8, n8, c8, A8r, n8r, c8r, rfl, B8, D8, D8r, h8, h8r, l8, l8r⟩
  have k8 := ((K7.out.call B8).num D8).num D8r
  have K8 := Lib.hid k8
  clear k8 B8 D8 D8r
  clear x0_0 x0_1 x1_0 x1_1
  have x0_0 := K8.out.cell0 at2
  have x0_1 := K8.out.cell1 at2
  have x1_0 := K8.out.cell0 at1
  have x1_1 := K8.out.cell1 at1
  have x2_0 := K8.out.cell0 at0
  have x2_1 := K8.out.cell1 at0
  go_wp2_with fail
  refine (O3_4.out _).mono ?_
  rintro e w9 ⟨A9, n9, c9, A9r, n9r, c9r, rfl, B9, D9, D9r, h9, h9r, l9, l9r⟩
  have k9 := ((K8.out.call B9).num D9).num D9r
  have K9 := Lib.hid k9
  clear k9 B9 D9 D9r
  clear x0_0 x0_1 x1_0 x1_1 x2_0 x2_1
  have x0_0 := K9.out.cell0 at2
  have x0_1 := K9.out.cell1 at2
  have x1_0 := K9.out.cell0 at1
  have x1_1 := K9.out.cell1 at1
  have x2_0 := K9.out.cell0 at0
  have x2_1 := K9.out.cell1 at0
  go_wp2_with fail
  refine (aw4_mul ▸ frac_Mul_is _ ⟨⟨(K9.out.get at3), h8, l8⟩, ⟨(K9.out.get at2), h8r, l8r⟩, by omega, by decide⟩ ⟨⟨(K9.out.get at1), h9, l9⟩, ⟨(K9.out.get at0), h9r, l9r⟩, by omega, by decide⟩).mono ?_
  rintro e w10 ⟨A10, n10, c10, A10r, n10r, c10r, rfl, B10, D10, D10r, h10, h10r, l10, l10r⟩
  have k10 := (((K9.out.call B10).num D10).num D10r).box [.slice A10 n10 c10, .slice A10r n10r c10r] 26
  have K10 := Lib.hid k10
  clear k10 B10 D10 D10r
  clear x0_0 x0_1 x1_0 x1_1 x2_0 x2_1
  have x0_0 := K10.out.cell0 at3
  have x0_1 := K10.out.cell1 at3
  have x1_0 := K10.out.cell0 at2
  have x1_1 := K10.out.cell1 at2
  have x2_0 := K10.out.cell0 at1
  have x2_1 := K10.out.cell1 at1
  go_wp2_with fail
  refine (O1_2.out _).mono ?_
  rintro e w11 ⟨A11, n11, c11, A11r, n11r, c11r, rfl, B11, D11, D11r, h11, h11r, l11, l11r⟩
  have k11 := ((K10.out.call B11).num D11).num D11r
  have K11 := Lib.hid k11
  clear k11 B11 D11 D11r
  clear x0_0 x0_1 x1_0 x1_1 x2_0 x2_1
  have x0_0 := K11.out.cell0 at3
  have x0_1 := K11.out.cell1 at3
  have x1_0 := K11.out.cell0 at2
  have x1_1 := K11.out.cell1 at2
  have x2_0 := K11.out.cell0 at1
  have x2_1 := K11.out.cell1 at1
  have x3_0 := K11.out.cell0 at0
  have x3_1 := K11.out.cell1 at0
  go_wp2_with fail
  refine (O0_1.out _).mono ?_
  rintro e w12 ⟨A12, n12, c12, A12r, n12r, c12r, rfl, B12, D12, D12r, h12, h12r, l12, l12r⟩
  have k12 := ((K11.out.call B12).num D12).num D12r
  have K12 := Lib.hid k12
  clear k12 B12 D12 D12r
  clear x0_0 x0_1 x1_0 x1_1 x2_0 x2_1 x3_0 x3_1
  have x0_0 := K12.out.cell0 at3
  have x0_1 := K12.out.cell1 at3
  have x1_0 := K12.out.cell0 at2
  have x1_1 := K12.out.cell1 at2
  have x2_0 := K12.out.cell0 at1
  have x2_1 := K12.out.cell1 at1
  have x3_0 := K12.out.cell0 at0
  have x3_1 := K12.out.cell1 at0
  go_wp2_with fail
  refine (aw4_div ▸ frac_Div_is _ ⟨⟨(K12.out.get at3), h11, l11⟩, ⟨(K12.out.get at2), h11r, l11r⟩, by omega, by decide⟩ ⟨⟨(K12.out.get at1), h12, l12⟩, ⟨(K12.out.get at0), h12r, l12r⟩, by omega, by decide⟩).mono ?_
  rintro e w13 ⟨A13, n13, c13, A13r, n13r, c13r, rfl, B13, D13, D13r, h13, h13r, l13, l13r⟩
  have k13 := (((K12.out.call B13).num D13).num D13r).box [.slice A13 n13 c13, .slice A13r n13r c13r] 26
  have K13 := Lib.hid k13
  clear k13 B13 D13 D13r
  clear x0_0 x0_1 x1_0 x1_1 x2_0 x2_1 x3_0 x3_1
  have x0_0 := K13.out.cell0 at4
  have x0_1 := K13.out.cell1 at4
  have x1_0 := K13.out.cell0 at3
  have x1_1 := K13.out.cell1 at3
  have x2_0 := K13.out.cell0 at2
  have x2_1 := K13.out.cell1 at2
  have x3_0 := K13.out.cell0 at1
  have x3_1 := K13.out.cell1 at1
  go_wp2_with fail
  refine (O2_3.out _).mono ?_
  rintro e w14 ⟨A14, n14, c14, A14r, n14r, c14r, rfl, B14, D14, D14r, h14, h14r, l14, l14r⟩
  have k14 := ((K13.out.call B14).num D14).num D14r
  have K14 := Lib.hid k14
  clear k14 B14 D14 D14r
  clear x0_0 x0_1 x1_0 x1_1 x2_0 x2_1 x3_0 x3_1
  have x0_0 := K14.out.cell0 at4
  have x0_1 := K14.out.cell1 at4
  have x1_0 := K14.out.cell0 at3
  have x1_1 := K14.out.cell1 at3
  have x2_0 := K14.out.cell0 at2
  have x2_1 := K14.out.cell1 at2
  have x3_0 := K14.out.cell0 at1
  have x3_1 := K14.out.cell1 at1
  have x4_0 := K14.out.cell0 at0
  have x4_1 := K14.out.cell1 at0
  go_wp2_with fail
  refine (aw4_decimal _ ⟨⟨(K14.out.get at1), h14, l14⟩, ⟨(K14.out.get at0), h14r, l14r⟩, by omega, by decide⟩ (HE.out.on K14.out.bel)).mono ?_
  rintro e w15 ⟨rfl, B15⟩
  have k15 := K14.out.call B15
  have K15 := Lib.hid k15
  clear k15 B15 
  clear x0_0 x0_1 x1_0 x1_1 x2_0 x2_1 x3_0 x3_1 x4_0 x4_1
  have x0_0 := K15.out.cell0 at4
  have x0_1 := K15.out.cell1 at4
  have x1_0 := K15.out.cell0 at3
  have x1_1 := K15.out.cell1 at3
  have x2_0 := K15.out.cell0 at2
  have x2_1 := K15.out.cell1 at2
  have x3_0 := K15.out.cell0 at1
  have x3_1 := K15.out.cell1 at1
  have x4_0 := K15.out.cell0 at0
  have x4_1 := K15.out.cell1 at0
  go_wp2_with fail
  refine (F0.out _).mono ?_
  rintro e w16 ⟨A16, n16, c16, A16r, n16r, c16r, rfl, B16, D16, D16r, h16, h16r, l16, l16r⟩
  have k16 := (((K15.out.call B16).num D16).num D16r).box [.slice A16 n16 c16, .slice A16r n16r c16r] 26
  have K16 := Lib.hid k16
  clear k16 B16 D16 D16r
  clear x0_0 x0_1 x1_0 x1_1 x2_0 x2_1 x3_0 x3_1 x4_0 x4_1
  have x0_0 := K16.out.cell0 at5
  have x0_1 := K16.out.cell1 at5
  have x1_0 := K16.out.cell0 at4
  have x1_1 := K16.out.cell1 at4
  have x2_0 := K16.out.cell0 at3
  have x2_1 := K16.out.cell1 at3
  have x3_0 := K16.out.cell0 at2
  have x3_1 := K16.out.cell1 at2
  have x4_0 := K16.out.cell0 at1
  have x4_1 := K16.out.cell1 at1
  clear x0_0 x0_1 x1_0 x1_1 x2_0 x2_1 x3_0 x3_1 x4_0 x4_1
  go_wp2_with fail
  have K16d := Lib.hid (K16.out.call (Below.refl _ (w16.alloc (.cells #[.slice A16 n16 c16, .slice A16r n16r c16r] 26))).drew)
  go_region_held3 (fun W => W.cell? ⟨w1.heap.size, 0, none⟩ = some (.slice A1 n1 c1) ∧ W.cell? ⟨w1.heap.size, 1, none⟩ = some (.slice A1r n1r c1r) ∧ W.cell? ⟨w4.heap.size, 0, none⟩ = some (.slice A4 n4 c4) ∧ W.cell? ⟨w4.heap.size, 1, none⟩ = some (.slice A4r n4r c4r) ∧ W.cell? ⟨w10.heap.size, 0, none⟩ = some (.slice A10 n10 c10) ∧ W.cell? ⟨w10.heap.size, 1, none⟩ = some (.slice A10r n10r c10r))
    (first | (with_reducible exact kW (by assumption)))
    (first
      | (go_at_call 11; (with_reducible refine (O3_2.out _).mono ?_); rintro e w17 ⟨A17, n17, c17, A17r, n17r, c17r, rfl, B17, D17, D17r, h17, h17r, l17, l17r⟩; have K17 := Lib.hid (((K16d.out.call B17).num D17).num D17r); clear B17 D17 D17r)
      | (go_at_call 15; (with_reducible refine (Fr.same_refl 3 2 ▸ ref4_Same _ ⟨(K17.out.get at31), h1, l1⟩ ⟨(K17.out.get at30), h1r, l1r⟩ ⟨(K17.out.get at1), h17, l17⟩ ⟨(K17.out.get at0), h17r, l17r⟩).mono ?_); rintro e w18 ⟨rfl, B18⟩; have K18 := Lib.hid (K17.out.call B18); clear B18 )
      | (go_at_call 11; (with_reducible refine (O4_15.out _).mono ?_); rintro e w19 ⟨A19, n19, c19, A19r, n19r, c19r, rfl, B19, D19, D19r, h19, h19r, l19, l19r⟩; have K19 := Lib.hid (((K18.out.call B19).num D19).num D19r); clear B19 D19 D19r)
      | (go_at_call 15; (with_reducible refine (Fr.same_refl 4 15 ▸ ref4_Same _ ⟨(K19.out.get at27), h4, l4⟩ ⟨(K19.out.get at26), h4r, l4r⟩ ⟨(K19.out.get at1), h19, l19⟩ ⟨(K19.out.get at0), h19r, l19r⟩).mono ?_); rintro e w20 ⟨rfl, B20⟩; have K20 := Lib.hid (K19.out.call B20); clear B20 )
      | (go_at_call 11; (with_reducible refine (O1_2.out _).mono ?_); rintro e w21 ⟨A21, n21, c21, A21r, n21r, c21r, rfl, B21, D21, D21r, h21, h21r, l21, l21r⟩; have K21 := Lib.hid (((K20.out.call B21).num D21).num D21r); clear B21 D21 D21r)
      | (go_at_call 15; (with_reducible refine (Fr.same_refl 1 2 ▸ ref4_Same _ ⟨(K21.out.get at17), h10, l10⟩ ⟨(K21.out.get at16), h10r, l10r⟩ ⟨(K21.out.get at1), h21, l21⟩ ⟨(K21.out.get at0), h21r, l21r⟩).mono ?_); rintro e w22 ⟨rfl, B22⟩; have K22 := Lib.hid (K21.out.call B22); clear B22 )
      | (go_at_call 11; (with_reducible refine (O1_2.out _).mono ?_); rintro e w23 ⟨A23, n23, c23, A23r, n23r, c23r, rfl, B23, D23, D23r, h23, h23r, l23, l23r⟩; have K23 := Lib.hid (((K22.out.call B23).num D23).num D23r); clear B23 D23 D23r)
      | (go_at_call 16; (with_reducible refine (frac_Valid_is _ ⟨⟨(K23.out.get at1), h23, l23⟩, ⟨(K23.out.get at0), h23r, l23r⟩, by omega, by decide⟩).mono ?_); rintro e w24 ⟨rfl, B24⟩; have K24 := Lib.hid (K23.out.call B24); clear B24 )
      | (go_at_call 11; (with_reducible refine (O2_4.out _).mono ?_); rintro e w25 ⟨A25, n25, c25, A25r, n25r, c25r, rfl, B25, D25, D25r, h25, h25r, l25, l25r⟩; have K25 := Lib.hid (((K24.out.call B25).num D25).num D25r); clear B25 D25 D25r)
      | (go_at_call 16; (with_reducible refine (aw4_no _ ⟨(K25.out.get at1), h25, l25⟩ ⟨(K25.out.get at0), h25r, l25r⟩).mono ?_); rintro e w26 ⟨rfl, B26⟩; have K26 := Lib.hid (K25.out.call B26); clear B26 )
      | (go_at_call 11; (with_reducible refine (O1_2.out _).mono ?_); rintro e w27 ⟨A27, n27, c27, A27r, n27r, c27r, rfl, B27, D27, D27r, h27, h27r, l27, l27r⟩; have K27 := Lib.hid (((K26.out.call B27).num D27).num D27r); clear B27 D27 D27r)
      | (go_at_call 11; (with_reducible refine (O2_3.out _).mono ?_); rintro e w28 ⟨A28, n28, c28, A28r, n28r, c28r, rfl, B28, D28, D28r, h28, h28r, l28, l28r⟩; have K28 := Lib.hid (((K27.out.call B28).num D28).num D28r); clear B28 D28 D28r)
      | (go_at_call 17; (with_reducible refine (aw4_cmp ▸ frac_Cmp_is _ ⟨⟨(K28.out.get at3), h27, l27⟩, ⟨(K28.out.get at2), h27r, l27r⟩, by omega, by decide⟩ ⟨⟨(K28.out.get at1), h28, l28⟩, ⟨(K28.out.get at0), h28r, l28r⟩, by omega, by decide⟩).mono ?_); rintro e w29 ⟨rfl, B29⟩; have K29 := Lib.hid (K28.out.call B29); clear B29 )
      | fail)
  go_wp2_with fail
  go_ret
  exact ⟨rfl, K29.out.bel⟩
end Go.Proofs.YtcgbgaljjhopiaaGreatDoor
namespace Go.Proofs.YtcgbgaljjhopiaaGreatDoor
set_option maxRecDepth 20000
open Go.RowKit Go.ChangeShapes Go.WideShapes Go.ChangeAt Go.WideElems
set_option linter.unusedVariables false
set_option linter.unusedSimpArgs false
def Fr.shr (n : Nat) (k : Int) : Bool := decide ((n : Int) ≤ k)
def Fr.brf (n n' : Nat) (k : Int) : Bool := Fr.shr n k && Fr.shr n' k
theorem Fr.shr_iff {n : Nat} {k : Int} : Fr.shr n k = true ↔ (n : Int) ≤ k := by simp [Fr.shr]
theorem Fr.brf_iff {n n' : Nat} {k : Int} : Fr.brf n n' k = true ↔ (n : Int) ≤ k ∧ (n' : Int) ≤ k := by simp [Fr.brf, Fr.shr_iff]
theorem law4_short {n c : Nat} {A : Option Addr} (k : Int) (w : World) : Calls Tryz.prog 8 #[.agg #[.slice A n c], .int .i64 k] w fun e w' => e = .returned (.bool (Fr.shr n k)) ∧ Below w.heap.size w w' := by
  go_enter Tryz.func8, Tryz.ntmps8
  go_wp2
  go_ret
  exact ⟨rfl, (Below.refl _ _).alloc (Nat.le_refl _) _⟩
theorem law4_brief {n c n' c' : Nat} {A A' : Option Addr} (k : Int) (w : World) : Calls Tryz.prog 4 #[.agg #[.slice A n c, .slice A' n' c'], .int .i64 k] w fun e w' => e = .returned (.bool (Fr.brf n n' k)) ∧ Below w.heap.size w w' := by
  have K0 := Lib.hid ((Ks.start w).box [.slice A n c, .slice A' n' c'] 26)
  have c1 := fun W => law4_short (A := A) (n := n) (c := c) k W
  unfold Fr.brf
  cases e1 : Fr.shr n k
  · rw [e1] at c1
    have C1 := Lib.hid c1
    rw [Bool.false_and]
    clear c1 e1
    go_enter Tryz.func4, Tryz.ntmps4
    go_wp2_with fail
    refine (C1.out _).mono ?_
    rintro e w1 ⟨rfl, B1⟩
    have K1 := Lib.hid (K0.out.call B1)
    go_wp2_with fail
    go_ret
    exact ⟨rfl, K1.out.bel⟩
  · rw [e1] at c1
    have C1 := Lib.hid c1
    rw [Bool.true_and]
    clear c1 e1
    go_enter Tryz.func4, Tryz.ntmps4
    go_wp2_with fail
    refine (C1.out _).mono ?_
    rintro e w1 ⟨rfl, B1⟩
    have K1 := Lib.hid (K0.out.call B1)
    have x1 := K1.out.cell1 at0
    clear B1
    go_wp2_with fail
    refine (law4_short k _).mono ?_
    rintro e w2 ⟨rfl, B2⟩
    have K2 := Lib.hid (K1.out.call B2)
    clear B2
    go_wp2_with fail
    go_ret
    exact ⟨rfl, K2.out.bel⟩
theorem nat_open1 {H : Type} {enc : TypeId × Value → H} {W : World} {m : Nat} {c0 : Value} {y : DataW H × List MemPlace} (h : DataW.trod enc Tryz.prog W 0 (fun _ => true) true m 24 [c0] = some y) :
    ∃ A n c f, c0 = .slice A n c ∧ Arg W A n c f := by
  obtain ⟨y0, m, -, -, hy⟩ := trod_struct1 Tryz.underlying24 h
  rw [show Tryz.prog.cellsOf 22 = 1 by kernel_rfl] at hy
  have hy2 : DataW.trod enc Tryz.prog W 0 (fun _ => true) true m 22 [c0] = some y0 := by simpa [Value.cells] using hy
  rcases open_ints Tryz.underlying22 Tryz.underlying37 (by kernel_rfl) hy2 with ⟨hcs, _⟩ | ⟨x, l, c, zs, hcs, _, hl, hm, hz, _, hcell, hwz⟩
  · obtain rfl : c0 = .slice none 0 0 := by simpa using hcs
    exact ⟨none, 0, 0, fun _ => 0, rfl, ⟨Digs.zero, by omega, by omega, fun _ _ => by omega⟩⟩
  · obtain rfl : c0 = .slice (some x) l c := by simpa using hcs
    have hz2 : zs.length = c := by simpa using hz
    have hb : ∀ i, i < c → 0 ≤ zs.getD i 0 ∧ zs.getD i 0 ≤ 4294967295 := fun i hi => by
      have h3 : i < zs.length := by omega
      have h2 : zs.getD i 0 ∈ zs := by
        simp only [List.getD, List.getElem?_eq_getElem h3, Option.getD_some]
        exact List.getElem_mem h3
      exact bounds_u32 (hwz _ h2)
    unfold maxLen at hm
    refine ⟨some x, l, c, fun i => (zs.getD i 0).toNat, rfl, ⟨fun h0 => ⟨x, rfl, ?_, fun j hj => ?_⟩, by omega, hl, fun i hi => ?_⟩⟩
    · have := World.block_lt_of_cell? W _ (hcell 0 (by omega))
      rwa [block_of_add] at this
    · rw [hcell j (by omega)]
      have := hb j (by omega)
      rw [Int.toNat_of_nonneg this.1]
    · have := hb i (by omega)
      show (zs.getD i 0).toNat < 4294967296
      omega
theorem frac_opened {H : Type} {enc : TypeId × Value → H} {W : World} {r : Reach} {base : Nat} {v : Value} {d : DataW H} {p : List MemPlace}
    (hv : Value.okWide Tryz.prog W r base 26 v) (h : DataW.Trod enc Tryz.prog W 0 (fun _ => true) true 26 v d p) :
    ∃ A n c f A' n' c' f', v = .agg #[.slice A n c, .slice A' n' c'] ∧ FArg W A n c f A' n' c' f' := by
  obtain ⟨cs, rfl, hcs⟩ := okWide_struct Tryz.underlying26 hv
  rw [show Tryz.prog.cellsOf 26 = 2 by kernel_rfl] at hcs
  obtain ⟨c0, c1, rfl⟩ : ∃ c0 c1, cs = #[c0, c1] := by
    obtain ⟨l⟩ := cs
    match l, hcs with
    | [c0, c1], _ => exact ⟨c0, c1, rfl⟩
  obtain ⟨fuel, hf⟩ := h
  obtain ⟨y0, y1, m, -, -, h0, h1⟩ := trod_struct2 Tryz.underlying26 hf
  rw [show Tryz.prog.cellsOf 24 = 1 by kernel_rfl] at h0 h1
  have h0 : DataW.trod enc Tryz.prog W 0 (fun _ => true) true m 24 [c0] = some y0 := by simpa [Value.cells] using h0
  have h1 : DataW.trod enc Tryz.prog W 0 (fun _ => true) true m 24 [c1] = some y1 := by simpa [Value.cells] using h1
  obtain ⟨A, n, c, f, rfl, ha⟩ := nat_open1 h0
  obtain ⟨A', n', c', f', rfl, ha'⟩ := nat_open1 h1
  exact ⟨A, n, c, f, A', n', c', f', rfl, ha, ha'⟩
end Go.Proofs.YtcgbgaljjhopiaaGreatDoor
