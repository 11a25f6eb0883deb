/-
  The laws of layer 1 that name no answer of the document: package field's calls hold them.
-/
import Derived.Test.YtelibbgldblnbaaFieldOps
namespace Go.Proofs.Ytelibbgldblnbaa
open Go.RowKit Go.Shelf Go.Hold

def Pm1 : Nat := 57896044618658097711785492504343953926634992332820282019728792003956564819948
def Inv2 : Nat := 28948022309329048855892746252171976963317496166410141009864396001978282409975
theorem al1 : (0 % Fp.P + (Fp.P - 1 % Fp.P)) % Fp.P = Pm1 := by decide +kernel
theorem al2 : (Pm1 % Fp.P + 2 % Fp.P) % Fp.P = 1 := by decide +kernel
theorem al3 : 3 % Fp.P * (5 % Fp.P) % Fp.P = 15 := by decide +kernel
theorem al4 : (2 % Fp.P) ^ Fp.E % Fp.P = Inv2 := by
  rw [← Fp.pm_eq Fp.P 256 (2 % Fp.P) Fp.E (by decide +kernel)]; decide +kernel
theorem al5 : 2 % Fp.P * (Inv2 % Fp.P) % Fp.P = 1 := by decide +kernel
theorem al6 : decide (0 % Fp.P = 0) = true := by decide +kernel
theorem al7 : decide (1 % Fp.P = 0) = false := by decide +kernel
theorem al8 : 7 % Fp.P = 7 := by decide +kernel

set_option maxHeartbeats 4000000 in
set_option maxRecDepth 100000 in
theorem alive_any (w : World) : Calls Try.prog 11 #[] w fun e w' => e = .returned (.bool true) ∧ Below w.heap.size w w' := by
  go_enter Try.func11, Try.ntmps11
  go_wp2_with fail
  refine (num_i 0 0 rfl (by decide) _).mono ?_
  rintro e w' ⟨rfl, hb⟩
  obtain ⟨o1, n1, rfl⟩ := below_plus hb
  clear hb
  go_wp2_with fail
  refine (num_i 1 1 rfl (by decide) _).mono ?_
  rintro e w' ⟨rfl, hb⟩
  obtain ⟨o2, n2, rfl⟩ := below_plus hb
  clear hb
  go_wp2_with fail
  refine (sub_N 0 1 (by decide +kernel) (by decide +kernel) _).mono ?_
  rintro e w' ⟨rfl, hb⟩
  obtain ⟨o3, n3, rfl⟩ := below_plus hb
  clear hb
  rw [al1]
  go_wp2_with fail
  refine (num_i 2 2 rfl (by decide) _).mono ?_
  rintro e w' ⟨rfl, hb⟩
  obtain ⟨o4, n4, rfl⟩ := below_plus hb
  clear hb
  go_wp2_with fail
  refine (add_N Pm1 2 (by decide +kernel) (by decide +kernel) _).mono ?_
  rintro e w' ⟨rfl, hb⟩
  obtain ⟨o5, n5, rfl⟩ := below_plus hb
  clear hb
  rw [al2]
  go_wp2_with fail
  refine (num_i 1 1 rfl (by decide) _).mono ?_
  rintro e w' ⟨rfl, hb⟩
  obtain ⟨o6, n6, rfl⟩ := below_plus hb
  clear hb
  go_wp2_with fail
  refine (num_i 3 3 rfl (by decide) _).mono ?_
  rintro e w' ⟨rfl, hb⟩
  obtain ⟨o7, n7, rfl⟩ := below_plus hb
  clear hb
  go_wp2_with fail
  refine (num_i 5 5 rfl (by decide) _).mono ?_
  rintro e w' ⟨rfl, hb⟩
  obtain ⟨o8, n8, rfl⟩ := below_plus hb
  clear hb
  go_wp2_with fail
  refine (mul_N 3 5 (by decide +kernel) (by decide +kernel) _).mono ?_
  rintro e w' ⟨rfl, hb⟩
  obtain ⟨o9, n9, rfl⟩ := below_plus hb
  clear hb
  rw [al3]
  go_wp2_with fail
  refine (num_i 15 15 rfl (by decide) _).mono ?_
  rintro e w' ⟨rfl, hb⟩
  obtain ⟨o10, n10, rfl⟩ := below_plus hb
  clear hb
  go_wp2_with fail
  refine (num_i 2 2 rfl (by decide) _).mono ?_
  rintro e w' ⟨rfl, hb⟩
  obtain ⟨o11, n11, rfl⟩ := below_plus hb
  clear hb
  go_wp2_with fail
  refine (num_i 2 2 rfl (by decide) _).mono ?_
  rintro e w' ⟨rfl, hb⟩
  obtain ⟨o12, n12, rfl⟩ := below_plus hb
  clear hb
  go_wp2_with fail
  refine (inv_N 2 (by decide +kernel) _).mono ?_
  rintro e w' ⟨rfl, hb⟩
  obtain ⟨o13, n13, rfl⟩ := below_plus hb
  clear hb
  rw [al4]
  go_wp2_with fail
  refine (mul_N 2 Inv2 (by decide +kernel) (by decide +kernel) _).mono ?_
  rintro e w' ⟨rfl, hb⟩
  obtain ⟨o14, n14, rfl⟩ := below_plus hb
  clear hb
  rw [al5]
  go_wp2_with fail
  refine (num_i 1 1 rfl (by decide) _).mono ?_
  rintro e w' ⟨rfl, hb⟩
  obtain ⟨o15, n15, rfl⟩ := below_plus hb
  clear hb
  go_wp2_with fail
  refine (num_i 0 0 rfl (by decide) _).mono ?_
  rintro e w' ⟨rfl, hb⟩
  obtain ⟨o16, n16, rfl⟩ := below_plus hb
  clear hb
  go_wp2_with fail
  refine (zero_N 0 (by decide +kernel) _).mono ?_
  rintro e w' ⟨rfl, hb⟩
  obtain ⟨o17, n17, rfl⟩ := below_plus hb
  clear hb
  rw [al6]
  go_wp2_with fail
  refine (num_i 1 1 rfl (by decide) _).mono ?_
  rintro e w' ⟨rfl, hb⟩
  obtain ⟨o18, n18, rfl⟩ := below_plus hb
  clear hb
  go_wp2_with fail
  refine (zero_N 1 (by decide +kernel) _).mono ?_
  rintro e w' ⟨rfl, hb⟩
  obtain ⟨o19, n19, rfl⟩ := below_plus hb
  clear hb
  rw [al7]
  go_wp2_with fail
  refine (num_i 7 7 rfl (by decide) _).mono ?_
  rintro e w' ⟨rfl, hb⟩
  obtain ⟨o20, n20, rfl⟩ := below_plus hb
  clear hb
  go_wp2_with fail
  refine (canon_N 7 (by decide +kernel) _).mono ?_
  rintro e w' ⟨rfl, hb⟩
  obtain ⟨o21, n21, rfl⟩ := below_plus hb
  clear hb
  rw [al8]
  go_wp2_with fail
  refine (num_i 7 7 rfl (by decide) _).mono ?_
  rintro e w' ⟨rfl, hb⟩
  obtain ⟨o22, n22, rfl⟩ := below_plus hb
  clear hb
  go_wp2_with fail
  go_ret
  refine ⟨rfl, ?_⟩
  repeat (first | apply below_more | apply below_alloc | exact Below.refl _ _)

theorem add_P (m n : Nat) (hm : m < 115792089237316195423570985008687907853269984665640564039457584007913129639936) (hn : n < 115792089237316195423570985008687907853269984665640564039457584007913129639936) (w : World) : Calls Try.prog 16 #[kv m, kv n] w fun e w' => e = .returned (kv ((m + n) % Fp.P)) ∧ Below w.heap.size w w' := by
  rw [Nat.add_mod]; exact add_N m n hm hn w
theorem mul_P (m n : Nat) (hm : m < 115792089237316195423570985008687907853269984665640564039457584007913129639936) (hn : n < 115792089237316195423570985008687907853269984665640564039457584007913129639936) (w : World) : Calls Try.prog 20 #[kv m, kv n] w fun e w' => e = .returned (kv (m * n % Fp.P)) ∧ Below w.heap.size w w' := by
  rw [Nat.mul_mod]; exact mul_N m n hm hn w
theorem inv_P (n : Nat) (hn : n < 115792089237316195423570985008687907853269984665640564039457584007913129639936) (w : World) : Calls Try.prog 22 #[kv n] w fun e w' => e = .returned (kv (n ^ Fp.E % Fp.P)) ∧ Below w.heap.size w w' := by
  rw [← Fp.pow_mod]; exact inv_N n hn w
theorem sub_add (a b : Nat) : ((a % Fp.P + (Fp.P - b % Fp.P)) % Fp.P + b) % Fp.P = a % Fp.P := by
  have h := Nat.mod_lt b Fp.P_pos
  rw [Nat.mod_add_mod, Nat.add_mod _ b, Nat.mod_add_mod, show a % Fp.P + (Fp.P - b % Fp.P) + b % Fp.P = a % Fp.P + Fp.P by omega, Nat.add_mod_right, Nat.mod_mod]
theorem sub_self' (a : Nat) : (a % Fp.P + (Fp.P - a % Fp.P)) % Fp.P = 0 := by
  have h := Nat.mod_lt a Fp.P_pos
  rw [show a % Fp.P + (Fp.P - a % Fp.P) = Fp.P by omega, Nat.mod_self]

theorem add_K (m n k : Nat) (hm : m < 115792089237316195423570985008687907853269984665640564039457584007913129639936) (hn : n < 115792089237316195423570985008687907853269984665640564039457584007913129639936) (hk : (m + n) % Fp.P = k) (w : World) : Calls Try.prog 16 #[kv m, kv n] w fun e w' => e = .returned (kv k) ∧ Below w.heap.size w w' := by
  subst hk; exact add_P m n hm hn w
theorem mul_K (m n k : Nat) (hm : m < 115792089237316195423570985008687907853269984665640564039457584007913129639936) (hn : n < 115792089237316195423570985008687907853269984665640564039457584007913129639936) (hk : m * n % Fp.P = k) (w : World) : Calls Try.prog 20 #[kv m, kv n] w fun e w' => e = .returned (kv k) ∧ Below w.heap.size w w' := by
  subst hk; exact mul_P m n hm hn w
theorem sub_K (m n k : Nat) (hm : m < 115792089237316195423570985008687907853269984665640564039457584007913129639936) (hn : n < 115792089237316195423570985008687907853269984665640564039457584007913129639936) (hk : (m % Fp.P + (Fp.P - n % Fp.P)) % Fp.P = k) (w : World) : Calls Try.prog 18 #[kv m, kv n] w fun e w' => e = .returned (kv k) ∧ Below w.heap.size w w' := by
  subst hk; exact sub_N m n hm hn w
theorem inv_K (n k : Nat) (hn : n < 115792089237316195423570985008687907853269984665640564039457584007913129639936) (hk : n ^ Fp.E % Fp.P = k) (w : World) : Calls Try.prog 22 #[kv n] w fun e w' => e = .returned (kv k) ∧ Below w.heap.size w w' := by
  subst hk; exact inv_P n hn w
theorem canon_K (n k : Nat) (hn : n < 115792089237316195423570985008687907853269984665640564039457584007913129639936) (hk : n % Fp.P = k) (w : World) : Calls Try.prog 12 #[kv n] w fun e w' => e = .returned (kv k) ∧ Below w.heap.size w w' := by
  subst hk; exact canon_N n hn w

end Go.Proofs.Ytelibbgldblnbaa
