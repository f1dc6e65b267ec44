/- The chapter's examples, as the statements check them. -/
import Derived.Test.YtpgdjkklhcjajaaNatO
namespace Go.Proofs.Ytpgdjkklhcjajaa
open Go.RowKit
set_option linter.unusedVariables false
set_option linter.unusedSimpArgs false
theorem fits_word {x : Nat} (h : x < 4294967296) : Nt.bv x = x ∧ Nt.be x = 0 := by
  have : Nt.fits x = true := Nt.fits_iff.2 ((Nt.ln_le_iff (by omega)).2 (Nat.lt_of_lt_of_le h (by omega)))
  simp [Nt.bv, Nt.be, this]
theorem law3_summed_op {n n' c c' : Nat} {A A' : Option Addr} (W : World) (h : IsN W W.heap.size A n 1) (h1 : n ≤ 64) (h2 : n ≤ c) (h' : IsN W W.heap.size A' n' 1) (h1' : n' ≤ 64) (h2' : n' ≤ c') :
    Calls Try.prog 20 #[.agg #[.slice A n c], .agg #[.slice A' n' c']] W (NRes 2 0 W) := by
  have := nat_Add_ok (c := c) (c' := c') W h h' h1 h1'
  rwa [(fits_word (x := 1 + 1) (by omega)).1, (fits_word (x := 1 + 1) (by omega)).2] at this
theorem law3_summed (w : World) : Calls Try.prog 24 #[] w fun e w' => e = .returned (.bool true) ∧ Below w.heap.size w w' := by
  have o1 := fun W => law3_one 1 1 W rfl (by omega) (by omega)
  have o2 := fun W => law3_one 1 1 W rfl (by omega) (by omega)
  have O1 := Lib.hid o1
  have O2 := Lib.hid o2
  clear o1 o2
  have K0 := Lib.hid (Kp.start w)
  go_enter Try.func24, Try.ntmps24
  go_wp2_with fail
  refine (O1.out _).mono ?_
  rintro e w1 ⟨A1, n1, c1, rfl, B1, D1, h1, l1⟩
  have K1 := Lib.hid ((K0.out.call B1).num D1)
  clear B1 D1
  go_wp2_with fail
  refine (O2.out _).mono ?_
  rintro e w2 ⟨A2, n2, c2, rfl, B2, D2, h2, l2⟩
  have K2 := Lib.hid ((K1.out.call B2).num D2)
  clear B2 D2
  go_wp2_with fail
  refine (law3_summed_op _ (K2.out.n (A1, n1, 1) (by simp)) h1 l1 (K2.out.n (A2, n2, 1) (by simp)) h2 l2).mono ?_
  rintro e w3 ⟨A3, n3, c3, rfl, B3, D3, h3, l3⟩
  have K3 := Lib.hid (((K2.out.call B3).num D3).box (.slice A3 n3 c3))
  clear B3 D3
  go_wp2_with fail
  refine (law3_is 2 2 _ rfl (by omega) (by omega) (K3.out.n (A3, n3, 2) (by simp))).mono ?_
  rintro e w4 ⟨rfl, B4⟩
  have K4 := Lib.hid (K3.out.call B4)
  clear B4
  go_wp2
  go_ret
  exact ⟨rfl, K4.out.bel⟩
theorem law3_multiplied_op {n n' c c' : Nat} {A A' : Option Addr} (W : World) (h : IsN W W.heap.size A n 3) (h1 : n ≤ 64) (h2 : n ≤ c) (h' : IsN W W.heap.size A' n' 5) (h1' : n' ≤ 64) (h2' : n' ≤ c') :
    Calls Try.prog 25 #[.agg #[.slice A n c], .agg #[.slice A' n' c']] W (NRes 15 0 W) := by
  have := nat_Mul_ok (c := c) (c' := c') W h h' h1 h1'
  rwa [(fits_word (x := 3 * 5) (by omega)).1, (fits_word (x := 3 * 5) (by omega)).2] at this
theorem law3_multiplied (w : World) : Calls Try.prog 27 #[] w fun e w' => e = .returned (.bool true) ∧ Below w.heap.size w w' := by
  have o1 := fun W => law3_one 3 3 W rfl (by omega) (by omega)
  have o2 := fun W => law3_one 5 5 W rfl (by omega) (by omega)
  have O1 := Lib.hid o1
  have O2 := Lib.hid o2
  clear o1 o2
  have K0 := Lib.hid (Kp.start w)
  go_enter Try.func27, Try.ntmps27
  go_wp2_with fail
  refine (O1.out _).mono ?_
  rintro e w1 ⟨A1, n1, c1, rfl, B1, D1, h1, l1⟩
  have K1 := Lib.hid ((K0.out.call B1).num D1)
  clear B1 D1
  go_wp2_with fail
  refine (O2.out _).mono ?_
  rintro e w2 ⟨A2, n2, c2, rfl, B2, D2, h2, l2⟩
  have K2 := Lib.hid ((K1.out.call B2).num D2)
  clear B2 D2
  go_wp2_with fail
  refine (law3_multiplied_op _ (K2.out.n (A1, n1, 3) (by simp)) h1 l1 (K2.out.n (A2, n2, 5) (by simp)) h2 l2).mono ?_
  rintro e w3 ⟨A3, n3, c3, rfl, B3, D3, h3, l3⟩
  have K3 := Lib.hid (((K2.out.call B3).num D3).box (.slice A3 n3 c3))
  clear B3 D3
  go_wp2_with fail
  refine (law3_is 15 15 _ rfl (by omega) (by omega) (K3.out.n (A3, n3, 15) (by simp))).mono ?_
  rintro e w4 ⟨rfl, B4⟩
  have K4 := Lib.hid (K3.out.call B4)
  clear B4
  go_wp2
  go_ret
  exact ⟨rfl, K4.out.bel⟩
theorem law3_common_op {n n' c c' : Nat} {A A' : Option Addr} (W : World) (h : IsN W W.heap.size A n 4) (h1 : n ≤ 64) (h2 : n ≤ c) (h' : IsN W W.heap.size A' n' 6) (h1' : n' ≤ 64) (h2' : n' ≤ c') :
    Calls Try.prog 33 #[.agg #[.slice A n c], .agg #[.slice A' n' c']] W (NRes 2 0 W) := by
  exact nat_GCD_ok W h h' h1 h1' h2 h2'
theorem law3_common (w : World) : Calls Try.prog 32 #[] w fun e w' => e = .returned (.bool true) ∧ Below w.heap.size w w' := by
  have o1 := fun W => law3_one 4 4 W rfl (by omega) (by omega)
  have o2 := fun W => law3_one 6 6 W rfl (by omega) (by omega)
  have O1 := Lib.hid o1
  have O2 := Lib.hid o2
  clear o1 o2
  have K0 := Lib.hid (Kp.start w)
  go_enter Try.func32, Try.ntmps32
  go_wp2_with fail
  refine (O1.out _).mono ?_
  rintro e w1 ⟨A1, n1, c1, rfl, B1, D1, h1, l1⟩
  have K1 := Lib.hid ((K0.out.call B1).num D1)
  clear B1 D1
  go_wp2_with fail
  refine (O2.out _).mono ?_
  rintro e w2 ⟨A2, n2, c2, rfl, B2, D2, h2, l2⟩
  have K2 := Lib.hid ((K1.out.call B2).num D2)
  clear B2 D2
  go_wp2_with fail
  refine (law3_common_op _ (K2.out.n (A1, n1, 4) (by simp)) h1 l1 (K2.out.n (A2, n2, 6) (by simp)) h2 l2).mono ?_
  rintro e w3 ⟨A3, n3, c3, rfl, B3, D3, h3, l3⟩
  have K3 := Lib.hid (((K2.out.call B3).num D3).box (.slice A3 n3 c3))
  clear B3 D3
  go_wp2_with fail
  refine (law3_is 2 2 _ rfl (by omega) (by omega) (K3.out.n (A3, n3, 2) (by simp))).mono ?_
  rintro e w4 ⟨rfl, B4⟩
  have K4 := Lib.hid (K3.out.call B4)
  clear B4
  go_wp2
  go_ret
  exact ⟨rfl, K4.out.bel⟩
theorem law3_divided_op {n n' c c' : Nat} {A A' : Option Addr} (W : World) (h : IsN W W.heap.size A n 7) (h1 : n ≤ 64) (h2 : n ≤ c) (h' : IsN W W.heap.size A' n' 2) (h1' : n' ≤ 64) (h2' : n' ≤ c') :
    Calls Try.prog 30 #[.agg #[.slice A n c], .agg #[.slice A' n' c']] W (NRes2 3 1 0 W) := nat_DivMod_ok W h h' h1 h1' h2 (by omega)
theorem law3_divided (w : World) : Calls Try.prog 29 #[] w fun e w' => e = .returned (.bool true) ∧ Below w.heap.size w w' := by
  have o1 := fun W => law3_one 7 7 W rfl (by omega) (by omega)
  have o2 := fun W => law3_one 2 2 W rfl (by omega) (by omega)
  have O1 := Lib.hid o1
  have O2 := Lib.hid o2
  clear o1 o2
  have K0 := Lib.hid (Kp.start w)
  go_enter Try.func29, Try.ntmps29
  go_wp2_with fail
  refine (O1.out _).mono ?_
  rintro e w1 ⟨A1, n1, c1, rfl, B1, D1, h1, l1⟩
  have K1 := Lib.hid ((K0.out.call B1).num D1)
  clear B1 D1
  go_wp2_with fail
  refine (O2.out _).mono ?_
  rintro e w2 ⟨A2, n2, c2, rfl, B2, D2, h2, l2⟩
  have K2 := Lib.hid ((K1.out.call B2).num D2)
  clear B2 D2
  go_wp2_with fail
  refine (law3_divided_op _ (K2.out.n (A1, n1, 7) (by simp)) h1 l1 (K2.out.n (A2, n2, 2) (by simp)) h2 l2).mono ?_
  rintro e w3 ⟨A3, n3, c3, A4, n4, c4, rfl, B3, D3, D4, h3, h4, l3, l4⟩
  have K3 := Lib.hid (((((K2.out.call B3).num D3).num D4).box (.slice A3 n3 c3)).box (.slice A4 n4 c4))
  have hz : (w3.alloc (.cells #[.slice A3 n3 c3] 25)).heap.size = w3.heap.size + 1 := by simp
  rw [hz] at K3
  clear B3 D3 D4 hz
  go_wp2_with fail
  refine (law3_is 3 3 _ rfl (by omega) (by omega) (K3.out.n (A3, n3, 3) (by simp))).mono ?_
  rintro e w4 ⟨rfl, B4⟩
  have K4 := Lib.hid (K3.out.call B4)
  have x1 := (K4.out.b (w3.heap.size, .slice A3 n3 c3) (by simp)).cell
  have x2 := (K4.out.b (w3.heap.size + 1, .slice A4 n4 c4) (by simp)).cell
  clear B4
  go_wp2_with fail
  refine (law3_is 1 1 _ rfl (by omega) (by omega) (K4.out.n (A4, n4, 1) (by simp))).mono ?_
  rintro e w5 ⟨rfl, B5⟩
  have K5 := Lib.hid (K4.out.call B5)
  clear B5
  go_wp2
  go_ret
  exact ⟨rfl, K5.out.bel⟩
end Go.Proofs.Ytpgdjkklhcjajaa
