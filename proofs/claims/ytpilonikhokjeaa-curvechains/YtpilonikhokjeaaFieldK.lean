/-
  Package field: its six calls, with every answer under a name of its own.
-/
import Derived.Test.YtpilonikhokjeaaFieldOps
namespace Go.Proofs.Ytpilonikhokjeaa
open Go.RowKit Go.Shelf Go.Hold

theorem add_P (m n : Nat) (hm : m < 115792089237316195423570985008687907853269984665640564039457584007913129639936) (hn : n < 115792089237316195423570985008687907853269984665640564039457584007913129639936) (w : World) : Calls Try.prog 42 #[kv m, kv n] w fun e w' => e = .returned (kv ((m + n) % Fp.P)) ∧ Below w.heap.size w w' := by
  rw [Nat.add_mod]; exact add_N m n hm hn w
theorem mul_P (m n : Nat) (hm : m < 115792089237316195423570985008687907853269984665640564039457584007913129639936) (hn : n < 115792089237316195423570985008687907853269984665640564039457584007913129639936) (w : World) : Calls Try.prog 31 #[kv m, kv n] w fun e w' => e = .returned (kv (m * n % Fp.P)) ∧ Below w.heap.size w w' := by
  rw [Nat.mul_mod]; exact mul_N m n hm hn w
theorem inv_P (n : Nat) (hn : n < 115792089237316195423570985008687907853269984665640564039457584007913129639936) (w : World) : Calls Try.prog 32 #[kv n] w fun e w' => e = .returned (kv (n ^ Fp.E % Fp.P)) ∧ Below w.heap.size w w' := by
  rw [← Fp.pow_mod]; exact inv_N n hn w
theorem sub_add (a b : Nat) : ((a % Fp.P + (Fp.P - b % Fp.P)) % Fp.P + b) % Fp.P = a % Fp.P := by
  have h := Nat.mod_lt b Fp.P_pos
  rw [Nat.mod_add_mod, Nat.add_mod _ b, Nat.mod_add_mod, show a % Fp.P + (Fp.P - b % Fp.P) + b % Fp.P = a % Fp.P + Fp.P by omega, Nat.add_mod_right, Nat.mod_mod]
theorem sub_self' (a : Nat) : (a % Fp.P + (Fp.P - a % Fp.P)) % Fp.P = 0 := by
  have h := Nat.mod_lt a Fp.P_pos
  rw [show a % Fp.P + (Fp.P - a % Fp.P) = Fp.P by omega, Nat.mod_self]

theorem add_K (m n k : Nat) (hm : m < 115792089237316195423570985008687907853269984665640564039457584007913129639936) (hn : n < 115792089237316195423570985008687907853269984665640564039457584007913129639936) (hk : (m + n) % Fp.P = k) (w : World) : Calls Try.prog 42 #[kv m, kv n] w fun e w' => e = .returned (kv k) ∧ Below w.heap.size w w' := by
  subst hk; exact add_P m n hm hn w
theorem mul_K (m n k : Nat) (hm : m < 115792089237316195423570985008687907853269984665640564039457584007913129639936) (hn : n < 115792089237316195423570985008687907853269984665640564039457584007913129639936) (hk : m * n % Fp.P = k) (w : World) : Calls Try.prog 31 #[kv m, kv n] w fun e w' => e = .returned (kv k) ∧ Below w.heap.size w w' := by
  subst hk; exact mul_P m n hm hn w
theorem sub_K (m n k : Nat) (hm : m < 115792089237316195423570985008687907853269984665640564039457584007913129639936) (hn : n < 115792089237316195423570985008687907853269984665640564039457584007913129639936) (hk : (m % Fp.P + (Fp.P - n % Fp.P)) % Fp.P = k) (w : World) : Calls Try.prog 43 #[kv m, kv n] w fun e w' => e = .returned (kv k) ∧ Below w.heap.size w w' := by
  subst hk; exact sub_N m n hm hn w
theorem inv_K (n k : Nat) (hn : n < 115792089237316195423570985008687907853269984665640564039457584007913129639936) (hk : n ^ Fp.E % Fp.P = k) (w : World) : Calls Try.prog 32 #[kv n] w fun e w' => e = .returned (kv k) ∧ Below w.heap.size w w' := by
  subst hk; exact inv_P n hn w
theorem canon_K (n k : Nat) (hn : n < 115792089237316195423570985008687907853269984665640564039457584007913129639936) (hk : n % Fp.P = k) (w : World) : Calls Try.prog 18 #[kv n] w fun e w' => e = .returned (kv k) ∧ Below w.heap.size w w' := by
  subst hk; exact canon_N n hn w

theorem zero_K (n : Nat) (b : Bool) (hn : n < 115792089237316195423570985008687907853269984665640564039457584007913129639936) (hb : decide (n % Fp.P = 0) = b) (w : World) : Calls Try.prog 19 #[kv n] w fun e w' => e = .returned (.bool b) ∧ Below w.heap.size w w' := by
  subst hb; exact zero_N n hn w
end Go.Proofs.Ytpilonikhokjeaa
