/-
  The reference's answer for layer 1: is what is left of a number nought?
-/
import Derived.Test.YtpilonikhokjeaaRefCanon
namespace Go.Proofs.Ytpilonikhokjeaa
open Go.RowKit Go.Shelf Go.Hold

theorem rcanon_K (n k : Nat) (hn : n < 115792089237316195423570985008687907853269984665640564039457584007913129639936) (hk : n % Fp.P = k) (w : World) : Calls Try.prog 37 #[kv n] w fun e w' => e = .returned (kv k) ∧ Below w.heap.size w w' := by
  subst hk; exact rcanon_N n hn w
theorem keq_zero (k : Nat) (b : Bool) (hk : k < 115792089237316195423570985008687907853269984665640564039457584007913129639936) (hb : decide (k = 0) = b) : keq k 0 = b := by
  by_cases h : k = 0
  · subst h; subst hb; rw [keq_self]; rfl
  · rw [keq_false hk (by decide) h, ← hb, decide_eq_false h]

set_option maxHeartbeats 2000000 in
set_option maxRecDepth 100000 in
theorem rzero_K (n : Nat) (b : Bool) (hn : n < 115792089237316195423570985008687907853269984665640564039457584007913129639936) (hb : decide (n % Fp.P = 0) = b) (w : World) :
    Calls Try.prog 25 #[kv n] w fun e w' => e = .returned (.bool b) ∧ Below w.heap.size w w' := by
  obtain ⟨k, ek⟩ : ∃ x, x = n % Fp.P := ⟨_, rfl⟩
  have lk : k < 115792089237316195423570985008687907853269984665640564039457584007913129639936 := by rw [ek]; exact mod_lt _
  have Hk := Lib.hid ek.symm
  have hq : keq k 0 = b := keq_zero k b lk (by rw [ek]; exact hb)
  have Hq := Lib.hid hq
  have hz : #[.int .u8 0, .int .u8 0, .int .u8 0, .int .u8 0, .int .u8 0, .int .u8 0, .int .u8 0, .int .u8 0, .int .u8 0, .int .u8 0, .int .u8 0, .int .u8 0, .int .u8 0, .int .u8 0, .int .u8 0, .int .u8 0, .int .u8 0, .int .u8 0, .int .u8 0, .int .u8 0, .int .u8 0, .int .u8 0, .int .u8 0, .int .u8 0, .int .u8 0, .int .u8 0, .int .u8 0, .int .u8 0, .int .u8 0, .int .u8 0, .int .u8 0, .int .u8 0] = keyA 0 := keyA_small 0 (by decide)
  clear ek hb hq
  go_enter Try.func25, Try.ntmps25
  go_wp2_with fail
  refine (rcanon_K n k hn Hk.out _).mono ?_
  rintro e w' ⟨rfl, hbw⟩
  obtain ⟨o1, n1, rfl⟩ := below_plus hbw
  clear hbw
  go_wp2_with fail
  rw [Hq.out]
  go_ret
  refine ⟨rfl, ?_⟩
  repeat (first | apply below_more | apply below_alloc | exact Below.refl _ _)

end Go.Proofs.Ytpilonikhokjeaa
