/- Digests, plain mathematics: the mixing function and its inverse, FNV-1a, hexadecimal digits. -/
import Derived.Test.YtdleleanaihcoaaNumMath
import Derived.Laws.Bits64
namespace Go.Proofs.Ytdleleanaihcoaa
set_option maxRecDepth 20000
namespace Dg
abbrev V := BitVec 64
/-- A number xor itself shifted right, and its inverse. -/
def xs (n : Nat) (x : V) : V := x ^^^ (x >>> n)
def us (n : Nat) (y : V) : V := y ^^^ (y >>> n) ^^^ (y >>> (n + n))
theorem sh_xor (n : Nat) (a b : V) : (a ^^^ b) >>> n = (a >>> n) ^^^ (b >>> n) := by
  apply BitVec.eq_of_getLsbD_eq
  intro i hi
  simp [BitVec.getLsbD_ushiftRight, BitVec.getLsbD_xor]
theorem sh_sh (n m : Nat) (a : V) : (a >>> n) >>> m = a >>> (n + m) := by
  apply BitVec.eq_of_getLsbD_eq
  intro i hi
  simp [BitVec.getLsbD_ushiftRight, Nat.add_assoc]
theorem sh_big {n : Nat} (h : 64 ≤ n) (a : V) : a >>> n = 0#64 := by
  apply BitVec.eq_of_getLsbD_eq
  intro i hi
  rw [BitVec.getLsbD_ushiftRight, BitVec.getLsbD_of_ge _ _ (by omega)]
  simp
theorem us_xs {n : Nat} (h : 22 ≤ n) (x : V) : us n (xs n x) = x := by
  unfold us xs
  rw [sh_xor, sh_xor, sh_sh, sh_sh, sh_big (n := n + (n + n)) (by omega), BitVec.xor_zero]
  have e : x ^^^ x >>> n ^^^ (x >>> n ^^^ x >>> (n + n)) ^^^ x >>> (n + n) = x ^^^ (x >>> n ^^^ x >>> n) ^^^ (x >>> (n + n) ^^^ x >>> (n + n)) := by
    ac_rfl
  rw [e, BitVec.xor_self, BitVec.xor_self, BitVec.xor_zero, BitVec.xor_zero]
theorem xs_us {n : Nat} (h : 22 ≤ n) (y : V) : xs n (us n y) = y := by
  unfold us xs
  rw [sh_xor, sh_xor, sh_sh, sh_sh, show n + n + n = n + (n + n) by omega, sh_big (n := n + (n + n)) (by omega), BitVec.xor_zero]
  have e : y ^^^ y >>> n ^^^ y >>> (n + n) ^^^ (y >>> n ^^^ y >>> (n + n)) = y ^^^ (y >>> n ^^^ y >>> n) ^^^ (y >>> (n + n) ^^^ y >>> (n + n)) := by
    ac_rfl
  rw [e, BitVec.xor_self, BitVec.xor_self, BitVec.xor_zero, BitVec.xor_zero]
/-- What a few rounds of x = y ^ x >> n come to. -/
theorem us_round {n : Nat} (h : 22 ≤ n) (y : V) : y ^^^ (us n y) >>> n = us n y := by
  unfold us
  rw [sh_xor, sh_xor, sh_sh, sh_sh, show n + n + n = n + (n + n) by omega, sh_big (n := n + (n + n)) (by omega), BitVec.xor_zero]
  ac_rfl
def C1 : V := 0xbf58476d1ce4e5b9#64
def C2 : V := 0x94d049bb133111eb#64
def D1 : V := 0x96de1b173f119089#64
def D2 : V := 0x319642b2d24d8ec3#64
theorem CD1 : C1 * D1 = 1#64 := by decide
theorem CD2 : C2 * D2 = 1#64 := by decide
def mixV (x : V) : V := xs 31 (xs 27 (xs 30 x * C1) * C2)
def unmixV (y : V) : V := us 30 (us 27 (us 31 y * D2) * D1)
theorem unmix_mix (x : V) : unmixV (mixV x) = x := by
  unfold unmixV mixV
  rw [us_xs (by omega), BitVec.mul_assoc, CD2, BitVec.mul_one, us_xs (by omega), BitVec.mul_assoc, CD1, BitVec.mul_one, us_xs (by omega)]
theorem mix_unmix (x : V) : mixV (unmixV x) = x := by
  unfold unmixV mixV
  rw [xs_us (by omega), BitVec.mul_assoc, BitVec.mul_comm D1, CD1, BitVec.mul_one, xs_us (by omega), BitVec.mul_assoc, BitVec.mul_comm D2, CD2, BitVec.mul_one, xs_us (by omega)]
theorem mix_inj {x y : V} (h : mixV x = mixV y) : x = y := by rw [← unmix_mix x, h, unmix_mix]
theorem mix_zero : mixV 0#64 = 0#64 := by decide
/-! ### Sums -/
def PR : V := 1099511628211#64
def OFF : V := 14695981039346656037#64
def stepV (x : V) (c : UInt8) : V := (x ^^^ BitVec.ofNat 64 c.toNat) * PR
def sumV (L : List UInt8) : V := L.foldl stepV OFF
theorem sum_app (L M : List UInt8) : sumV (L ++ M) = M.foldl stepV (sumV L) := List.foldl_append
theorem sum_snoc (L : List UInt8) (c : UInt8) : sumV (L ++ [c]) = stepV (sumV L) c := by rw [sum_app]; rfl
/-! ### As ints -/
def I (v : V) : Int := (v.toNat : Nat)
def B (x : Int) : V := BitVec.ofNat 64 x.toNat
theorem I_bd (v : V) : 0 ≤ I v ∧ I v ≤ 18446744073709551615 := by
  have := v.isLt
  unfold I; omega
theorem B_I (v : V) : B (I v) = v := by
  unfold B I
  rw [Int.toNat_natCast, BitVec.ofNat_toNat, BitVec.setWidth_eq]
theorem I_B {x : Int} (h0 : 0 ≤ x) (h1 : x ≤ 18446744073709551615) : I (B x) = x := by
  unfold B I
  rw [BitVec.toNat_ofNat, Nat.mod_eq_of_lt (by omega)]
  omega
theorem I_inj {v u : V} (h : I v = I u) : v = u := by rw [← B_I v, h, B_I]
theorem I_xor (a b : V) : bits .xor .u64 (I a) (I b) = I (a ^^^ b) := by
  unfold I
  rw [bits_xor_u64_nat _ _ a.isLt b.isLt, BitVec.toNat_xor]
theorem I_mul (a b : V) : IntKind.u64.wrap (I a * I b) = I (a * b) := by
  unfold I
  rw [BitVec.toNat_mul, IntKind.wrap_u64]
  omega
theorem I_add (a b : V) : IntKind.u64.wrap (I a + I b) = I (a + b) := by
  unfold I
  rw [BitVec.toNat_add, IntKind.wrap_u64]
  omega
theorem I_sub (a b : V) : IntKind.u64.wrap (I a - I b) = I (a - b) := by
  have h1 := a.isLt
  have h2 := b.isLt
  unfold I
  rw [BitVec.toNat_sub, IntKind.wrap_u64]
  omega
theorem I_shr (a : V) (n : Nat) : I a / ((2 ^ n : Nat) : Int) = I (a >>> n) := by
  unfold I
  rw [BitVec.toNat_ushiftRight, Nat.shiftRight_eq_div_pow]
  rfl
theorem I_eq (a b : V) : (I a == I b) = (a == b) := by
  rw [Bool.eq_iff_iff, beq_iff_eq, beq_iff_eq]
  exact ⟨I_inj, fun h => by rw [h]⟩
/-! ### What the functions answer, over ints -/
def mix (x : Int) : Int := I (mixV (B x))
def unmix (x : Int) : Int := I (unmixV (B x))
def sum (L : List UInt8) : Int := I (sumV L)
def keyed (k : Int) (L : List UInt8) : Int := I (mixV (mixV (B k) ^^^ sumV L))
def chain (k : Int) (L : List UInt8) : Int := I (mixV (B k + sumV L))
theorem mix_bd (x : Int) : 0 ≤ mix x ∧ mix x ≤ 18446744073709551615 := I_bd _
theorem unmix_bd (x : Int) : 0 ≤ unmix x ∧ unmix x ≤ 18446744073709551615 := I_bd _
theorem sum_bd (L : List UInt8) : 0 ≤ sum L ∧ sum L ≤ 18446744073709551615 := I_bd _
theorem unmix_mix_i {x : Int} (h0 : 0 ≤ x) (h1 : x ≤ 18446744073709551615) : unmix (mix x) = x := by
  unfold unmix mix; rw [B_I, unmix_mix, I_B h0 h1]
theorem mix_unmix_i {x : Int} (h0 : 0 ≤ x) (h1 : x ≤ 18446744073709551615) : mix (unmix x) = x := by
  unfold unmix mix; rw [B_I, mix_unmix, I_B h0 h1]
theorem B_inj {x y : Int} (h0 : 0 ≤ x) (h1 : x ≤ 18446744073709551615) (k0 : 0 ≤ y) (k1 : y ≤ 18446744073709551615) (h : B x = B y) : x = y := by
  rw [← I_B h0 h1, h, I_B k0 k1]
theorem mix_eq {x y : Int} (h0 : 0 ≤ x) (h1 : x ≤ 18446744073709551615) (k0 : 0 ≤ y) (k1 : y ≤ 18446744073709551615) : (mix x == mix y) = (x == y) := by
  rw [Bool.eq_iff_iff, beq_iff_eq, beq_iff_eq]
  exact ⟨fun h => B_inj h0 h1 k0 k1 (mix_inj (I_inj h)), fun h => by rw [h]⟩
theorem keyed_eq {x y : Int} (h0 : 0 ≤ x) (h1 : x ≤ 18446744073709551615) (k0 : 0 ≤ y) (k1 : y ≤ 18446744073709551615) (L : List UInt8) : (keyed x L == keyed y L) = (x == y) := by
  rw [Bool.eq_iff_iff, beq_iff_eq, beq_iff_eq]
  refine ⟨fun h => B_inj h0 h1 k0 k1 (mix_inj ?_), fun h => by rw [h]⟩
  have h2 := mix_inj (I_inj h)
  have h3 := congrArg (fun v => v ^^^ sumV L) h2
  simp only [BitVec.xor_assoc, BitVec.xor_self, BitVec.xor_zero] at h3
  exact h3
theorem chain_eq {x y : Int} (h0 : 0 ≤ x) (h1 : x ≤ 18446744073709551615) (k0 : 0 ≤ y) (k1 : y ≤ 18446744073709551615) (L : List UInt8) : (chain x L == chain y L) = (x == y) := by
  rw [Bool.eq_iff_iff, beq_iff_eq, beq_iff_eq]
  refine ⟨fun h => B_inj h0 h1 k0 k1 ?_, fun h => by rw [h]⟩
  have h2 := mix_inj (I_inj h)
  have h3 := congrArg (fun v => v - sumV L) h2
  simp only [BitVec.add_sub_cancel] at h3
  exact h3
theorem keyed_sum (k : Int) (L M : List UInt8) : (keyed k L == keyed k M) = (sum L == sum M) := by
  rw [Bool.eq_iff_iff, beq_iff_eq, beq_iff_eq]
  refine ⟨fun h => ?_, fun h => by unfold keyed; rw [I_inj h]⟩
  have h2 := mix_inj (I_inj h)
  have h3 := congrArg (fun v => mixV (B k) ^^^ v) h2
  simp only [← BitVec.xor_assoc, BitVec.xor_self, BitVec.zero_xor] at h3
  unfold sum; rw [h3]
theorem chain_sum (k : Int) (L M : List UInt8) : (chain k L == chain k M) = (sum L == sum M) := by
  rw [Bool.eq_iff_iff, beq_iff_eq, beq_iff_eq]
  refine ⟨fun h => ?_, fun h => by unfold chain; rw [I_inj h]⟩
  have h2 := mix_inj (I_inj h)
  have h3 := congrArg (fun v => v - B k) h2
  simp only [BitVec.add_comm (B k), BitVec.add_sub_cancel] at h3
  unfold sum; rw [h3]
theorem I_byte (c : UInt8) : (c.toNat : Int) = I (BitVec.ofNat 64 c.toNat) := by
  have := c.toNat_lt
  unfold I
  rw [BitVec.toNat_ofNat, Nat.mod_eq_of_lt (by omega)]
/-- A step of a sum. -/
theorem sum_step (v : V) (c : UInt8) : IntKind.u64.wrap (bits .xor .u64 (I v) (c.toNat : Int) * 1099511628211) = I (stepV v c) := by
  rw [I_byte, I_xor]
  exact I_mul _ PR
theorem mix_steps {x : Int} (h0 : 0 ≤ x) (h1 : x ≤ 18446744073709551615) :
    bits .xor .u64 (IntKind.u64.wrap (bits .xor .u64 (IntKind.u64.wrap (bits .xor .u64 x (x / 1073741824) * 13787848793156543929)) (IntKind.u64.wrap (bits .xor .u64 x (x / 1073741824) * 13787848793156543929) / 134217728) * 10723151780598845931))
      (IntKind.u64.wrap (bits .xor .u64 (IntKind.u64.wrap (bits .xor .u64 x (x / 1073741824) * 13787848793156543929)) (IntKind.u64.wrap (bits .xor .u64 x (x / 1073741824) * 13787848793156543929) / 134217728) * 10723151780598845931) / 2147483648) = mix x := by
  obtain ⟨v, rfl⟩ : ∃ v, x = I v := ⟨B x, (I_B h0 h1).symm⟩
  have e30 : ∀ a : V, I a / (1073741824 : Int) = I (a >>> 30) := fun a => I_shr a 30
  have e27 : ∀ a : V, I a / (134217728 : Int) = I (a >>> 27) := fun a => I_shr a 27
  have e31 : ∀ a : V, I a / (2147483648 : Int) = I (a >>> 31) := fun a => I_shr a 31
  have m1 : ∀ a : V, IntKind.u64.wrap (I a * 13787848793156543929) = I (a * C1) := fun a => I_mul a C1
  have m2 : ∀ a : V, IntKind.u64.wrap (I a * 10723151780598845931) = I (a * C2) := fun a => I_mul a C2
  rw [e30, I_xor, m1, e27, I_xor, m2, e31, I_xor]
  unfold mix mixV xs
  rw [B_I]
/-- Rounds of x = y ^ x >> n. -/
def itV (n : Nat) (y : V) : Nat → V
  | 0 => y
  | j + 1 => y ^^^ (itV n y j) >>> n
theorem it_four {n : Nat} (h : 22 ≤ n) (y : V) : itV n y 4 = us n y := by
  have h2 : itV n y 2 = us n y := by
    show y ^^^ (y ^^^ y >>> n) >>> n = us n y
    unfold us
    rw [sh_xor, sh_sh, BitVec.xor_assoc]
  show y ^^^ (y ^^^ (itV n y 2) >>> n) >>> n = us n y
  rw [h2, us_round h, us_round h]
def invV (m : V) : Nat → V
  | 0 => m
  | j + 1 => invV m j * (2#64 - m * invV m j)
theorem inv_C1 : invV C1 6 = D1 := by decide
theorem inv_C2 : invV C2 6 = D2 := by decide
theorem inv_step (m x : V) : IntKind.u64.wrap (I x * IntKind.u64.wrap (2 - IntKind.u64.wrap (I m * I x))) = I (x * (2#64 - m * x)) := by
  rw [I_mul]
  have : IntKind.u64.wrap (2 - I (m * x)) = I (2#64 - m * x) := I_sub 2#64 _
  rw [this, I_mul]
/-! ### Hexadecimal digits -/
def hexd (d : Nat) : UInt8 := UInt8.ofNat (if d < 10 then 48 + d else 87 + d)
def hexL : Nat → Nat → List UInt8
  | 0, _ => []
  | k + 1, x => hexL k (x / 16) ++ [hexd (x % 16)]
theorem hexL_len : ∀ k x, (hexL k x).length = k
  | 0, _ => rfl
  | k + 1, x => by rw [hexL, List.length_append, hexL_len k, List.length_singleton]
theorem hexL_high : ∀ k x, hexL (k + 1) x = hexd (x / 16 ^ k % 16) :: hexL k x
  | 0, x => by show [] ++ [hexd (x % 16)] = _; rw [Nat.pow_zero, Nat.div_one]; rfl
  | k + 1, x => by
    rw [hexL, hexL_high k, hexL, Nat.div_div_eq_div_mul, Nat.mul_comm 16, ← Nat.pow_succ]; rfl
def hexS (x : Int) : ByteArray := ⟨(hexL 16 x.toNat).toArray⟩
theorem hexS_list (x : Int) : (hexS x).data.toList = hexL 16 x.toNat := by simp [hexS]
theorem hexS_size (x : Int) : (hexS x).size = 16 := by
  show (hexL 16 x.toNat).toArray.size = 16
  rw [List.size_toArray, hexL_len]
def okh (c : UInt8) : Bool := decide (48 ≤ c.toNat ∧ c.toNat ≤ 57) || decide (97 ≤ c.toNat ∧ c.toNat ≤ 102)
def hv (c : UInt8) : Nat := if c.toNat ≤ 57 then c.toNat - 48 else c.toNat - 87
def pv (L : List UInt8) : Nat := L.foldl (fun x c => 16 * x + hv c) 0
theorem pv_snoc (L : List UInt8) (c : UInt8) : pv (L ++ [c]) = 16 * pv L + hv c := by unfold pv; rw [List.foldl_append]; rfl
theorem okh_iff {c : UInt8} : okh c = true ↔ (48 ≤ c.toNat ∧ c.toNat ≤ 57) ∨ (97 ≤ c.toNat ∧ c.toNat ≤ 102) := by unfold okh; rw [Bool.or_eq_true, decide_eq_true_iff, decide_eq_true_iff]
theorem hv_lt {c : UInt8} (h : okh c = true) : hv c < 16 := by
  have := okh_iff.1 h
  unfold hv; split <;> omega
theorem hexd_nat {d : Nat} (h : d < 16) : (hexd d).toNat = if d < 10 then 48 + d else 87 + d := by
  unfold hexd
  rw [UInt8.toNat_ofNat']
  split <;> omega
theorem hexd_ok {d : Nat} (h : d < 16) : okh (hexd d) = true ∧ hv (hexd d) = d := by
  have e := hexd_nat h
  refine ⟨okh_iff.2 ?_, ?_⟩
  · rw [e]; split <;> omega
  · unfold hv; rw [e]; split <;> split <;> omega
theorem hexd_hv {c : UInt8} (h : okh c = true) : hexd (hv c) = c := by
  have h1 := okh_iff.1 h
  apply UInt8.toNat_inj.1
  rw [hexd_nat (hv_lt h)]
  unfold hv
  split <;> split <;> omega
theorem pv_hex : ∀ k x, pv (hexL k x) = x % 16 ^ k
  | 0, x => by show 0 = _; rw [Nat.pow_zero]; omega
  | k + 1, x => by
    rw [hexL, pv_snoc, pv_hex k, (hexd_ok (Nat.mod_lt _ (by omega))).2, Nat.pow_succ, Nat.mul_comm (16 ^ k), Nat.mod_mul]
    omega
theorem all_hex : ∀ k x, (hexL k x).all okh = true
  | 0, _ => rfl
  | k + 1, x => by
    rw [hexL, List.all_append, all_hex k, List.all_cons, (hexd_ok (Nat.mod_lt _ (by omega))).1]; rfl
theorem hex_pv : ∀ (k : Nat) (L : List UInt8), L.length = k → L.all okh = true → hexL k (pv L) = L
  | 0, L, h, _ => by rw [List.length_eq_zero_iff.1 h]; rfl
  | k + 1, L, h, ha => by
    have hne : L ≠ [] := by intro e; rw [e] at h; exact absurd h (by simp)
    obtain ⟨M, c, rfl⟩ : ∃ M c, L = M ++ [c] := ⟨L.dropLast, L.getLast hne, (List.dropLast_concat_getLast hne).symm⟩
    rw [List.all_append, Bool.and_eq_true, List.all_cons, List.all_nil, Bool.and_true] at ha
    rw [List.length_append, List.length_singleton] at h
    have hc := hv_lt ha.2
    rw [pv_snoc, hexL, show (16 * pv M + hv c) / 16 = pv M by omega, show (16 * pv M + hv c) % 16 = hv c by omega, hex_pv k M (by omega) ha.1, hexd_hv ha.2]
theorem pv_lt : ∀ (k : Nat) (L : List UInt8), L.length = k → L.all okh = true → pv L < 16 ^ k
  | 0, L, h, _ => by rw [List.length_eq_zero_iff.1 h]; exact Nat.one_pos
  | k + 1, L, h, ha => by
    have hne : L ≠ [] := by intro e; rw [e] at h; exact absurd h (by simp)
    obtain ⟨M, c, rfl⟩ : ∃ M c, L = M ++ [c] := ⟨L.dropLast, L.getLast hne, (List.dropLast_concat_getLast hne).symm⟩
    rw [List.all_append, Bool.and_eq_true, List.all_cons, List.all_nil, Bool.and_true] at ha
    rw [List.length_append, List.length_singleton] at h
    have hc := hv_lt ha.2
    have := pv_lt k M (by omega) ha.1
    rw [pv_snoc, Nat.pow_succ]; omega
/-- What ParseHex answers. -/
def phO (L : List UInt8) : Bool := decide (L.length = 16) && L.all okh
def phV (L : List UInt8) : Int := if phO L then (pv L : Nat) else 0
def phE (L : List UInt8) : Int := if phO L then 0 else 1
theorem ph_no {L : List UInt8} (h : phO L = false) : phV L = 0 ∧ phE L = 1 := by simp [phV, phE, h]
theorem ph_ok {L : List UInt8} (h : phO L = true) : phV L = (pv L : Nat) ∧ phE L = 0 := by simp [phV, phE, h]
theorem phV_bd (L : List UInt8) : 0 ≤ phV L ∧ phV L ≤ 18446744073709551615 := by
  unfold phV
  split
  · rename_i h
    unfold phO at h
    rw [Bool.and_eq_true, decide_eq_true_iff] at h
    have := pv_lt 16 L h.1 h.2
    omega
  · omega
theorem ph_hex {x : Int} (h0 : 0 ≤ x) (h1 : x ≤ 18446744073709551615) : phV (hexS x).data.toList = x ∧ phE (hexS x).data.toList = 0 := by
  have ho : phO (hexS x).data.toList = true := by
    unfold phO
    rw [hexS_list, hexL_len, all_hex, Bool.and_true, decide_eq_true_iff]
  obtain ⟨e1, e2⟩ := ph_ok ho
  refine ⟨?_, e2⟩
  rw [e1, hexS_list, pv_hex, Nat.mod_eq_of_lt (by omega)]
  omega
theorem hex_ph {s : ByteArray} (h : phO s.data.toList = true) : hexS (phV s.data.toList) = s := by
  rw [(ph_ok h).1]
  unfold phO at h
  rw [Bool.and_eq_true, decide_eq_true_iff] at h
  unfold hexS
  rw [Int.toNat_natCast, hex_pv 16 _ h.1 h.2]
theorem take_all {p : UInt8 → Bool} {L : List UInt8} {k : Nat} (h : k < L.length) (h1 : p L[k] = false) : L.all p = false := by
  rw [Bool.eq_false_iff]
  intro e
  rw [List.all_eq_true] at e
  rw [e _ (List.getElem_mem h)] at h1
  cases h1
end Dg
end Go.Proofs.Ytdleleanaihcoaa
