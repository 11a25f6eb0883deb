/-
  What is left of a number, and if that is nought: field and reference agree, whatever key they are given: FieldRests answers true.
-/
import Derived.Test.YtelibbgldblnbaaFieldUndone
import Derived.Test.YtelibbgldblnbaaRefCanon
namespace Go.Proofs.Ytelibbgldblnbaa
open Go.RowKit Go.Shelf Go.Hold

theorem rcanon_K (n k : Nat) (hn : n < 115792089237316195423570985008687907853269984665640564039457584007913129639936) (hk : n % Fp.P = k) (w : World) : Calls Try.prog 13 #[kv n] w fun e w' => e = .returned (kv k) ∧ Below w.heap.size w w' := by
  subst hk; exact rcanon_N n hn w
theorem keq_zero (k : Nat) (b : Bool) (hk : k < 115792089237316195423570985008687907853269984665640564039457584007913129639936) (hb : decide (k = 0) = b) : keq k 0 = b := by
  by_cases h : k = 0
  · subst h; subst hb; rw [keq_self]; rfl
  · rw [keq_false hk (by decide) h, ← hb, decide_eq_false h]

set_option maxHeartbeats 2000000 in
set_option maxRecDepth 100000 in
theorem rzero_K (n : Nat) (b : Bool) (hn : n < 115792089237316195423570985008687907853269984665640564039457584007913129639936) (hb : decide (n % Fp.P = 0) = b) (w : World) :
    Calls Try.prog 15 #[kv n] w fun e w' => e = .returned (.bool b) ∧ Below w.heap.size w w' := by
  obtain ⟨k, ek⟩ : ∃ x, x = n % Fp.P := ⟨_, rfl⟩
  have lk : k < 115792089237316195423570985008687907853269984665640564039457584007913129639936 := by rw [ek]; exact mod_lt _
  have Hk := Lib.hid ek.symm
  have hq : keq k 0 = b := keq_zero k b lk (by rw [ek]; exact hb)
  have Hq := Lib.hid hq
  have hz : #[.int .u8 0, .int .u8 0, .int .u8 0, .int .u8 0, .int .u8 0, .int .u8 0, .int .u8 0, .int .u8 0, .int .u8 0, .int .u8 0, .int .u8 0, .int .u8 0, .int .u8 0, .int .u8 0, .int .u8 0, .int .u8 0, .int .u8 0, .int .u8 0, .int .u8 0, .int .u8 0, .int .u8 0, .int .u8 0, .int .u8 0, .int .u8 0, .int .u8 0, .int .u8 0, .int .u8 0, .int .u8 0, .int .u8 0, .int .u8 0, .int .u8 0, .int .u8 0] = keyA 0 := keyA_small 0 (by decide)
  clear ek hb hq
  go_enter Try.func15, Try.ntmps15
  go_wp2_with fail
  refine (rcanon_K n k hn Hk.out _).mono ?_
  rintro e w' ⟨rfl, hbw⟩
  obtain ⟨o1, n1, rfl⟩ := below_plus hbw
  clear hbw
  go_wp2_with fail
  rw [Hq.out]
  go_ret
  refine ⟨rfl, ?_⟩
  repeat (first | apply below_more | apply below_alloc | exact Below.refl _ _)

set_option maxHeartbeats 8000000 in
set_option maxRecDepth 100000 in
theorem rests_any (a : Nat) (ha : a < 115792089237316195423570985008687907853269984665640564039457584007913129639936) (w : World) :
    Calls Try.prog 3 #[kv a] w fun e w' => e = .returned (.bool true) ∧ Below w.heap.size w w' := by
  obtain ⟨k, ek⟩ : ∃ x, x = a % Fp.P := ⟨_, rfl⟩
  have lk : k < 115792089237316195423570985008687907853269984665640564039457584007913129639936 := by rw [ek]; exact mod_lt _
  have Hk := Lib.hid ek.symm
  obtain ⟨b, eb⟩ : ∃ x, x = decide (a % Fp.P = 0) := ⟨_, rfl⟩
  have Hb := Lib.hid eb.symm
  clear ek eb
  go_enter Try.func3, Try.ntmps3
  go_wp2_with fail
  refine (alive_any _).mono ?_
  rintro e w' ⟨rfl, hbw⟩
  obtain ⟨o1, n1, rfl⟩ := below_plus hbw
  clear hbw
  go_wp2_with fail
  generalize hW : World.alloc _ _ = W1
  refine wp_region_fast (fun w' => ∃ o d, w' = W1.plus o d) (by kernel_rfl) (by kernel_rfl) ⟨_, _, rfl⟩ ?_
  subst hW
  refine wpHold_val ⟨_, #[], 0, rfl⟩ (wanted_none rfl) (by rintro K _ ⟨o, d, rfl⟩ hK; go_simp; exact hK _ ⟨o, d, rfl⟩) ?_
  refine wpHold_call (v := kv k) (wanted_none rfl) (by rintro K _ ⟨o, d, rfl⟩ hK; go_simp; refine (canon_K a k ha Hk.out _).mono ?_; rintro e w' ⟨rfl, hbw⟩; obtain ⟨o', n', rfl⟩ := below_plus hbw; exact ⟨_, rfl, hK _ ⟨_, _, World.plus_plus _ _ _ _ _⟩⟩) ?_
  refine wpHold_val ⟨_, #[], 0, rfl⟩ (wanted_none rfl) (by rintro K _ ⟨o, d, rfl⟩ hK; go_simp; exact hK _ ⟨o, d, rfl⟩) ?_
  refine wpHold_call (v := kv k) (wanted_none rfl) (by rintro K _ ⟨o, d, rfl⟩ hK; go_simp; refine (rcanon_K a k ha Hk.out _).mono ?_; rintro e w' ⟨rfl, hbw⟩; obtain ⟨o', n', rfl⟩ := below_plus hbw; exact ⟨_, rfl, hK _ ⟨_, _, World.plus_plus _ _ _ _ _⟩⟩) ?_
  iterate 2 (refine wpHold_val ⟨_, #[], 0, rfl⟩ (wanted_none rfl) (by rintro K _ ⟨o, d, rfl⟩ hK; go_simp; exact hK _ ⟨o, d, rfl⟩) ?_)
  refine wpHold_val ⟨_, #[], 0, rfl⟩ (wanted_some rfl rfl rfl) (by rintro K _ ⟨o, d, rfl⟩ hK; go_simp; exact hK _ ⟨o, d, rfl⟩) ?_
  refine wpHold_call (v := .bool b) (wanted_some rfl rfl rfl) (by rintro K _ ⟨o, d, rfl⟩ hK; go_simp; refine (zero_K a b ha Hb.out _).mono ?_; rintro e w' ⟨rfl, hbw⟩; obtain ⟨o', n', rfl⟩ := below_plus hbw; exact ⟨_, rfl, hK _ ⟨_, _, World.plus_plus _ _ _ _ _⟩⟩) ?_
  refine wpHold_val ⟨_, #[], 0, rfl⟩ (wanted_some rfl rfl rfl) (by rintro K _ ⟨o, d, rfl⟩ hK; go_simp; exact hK _ ⟨o, d, rfl⟩) ?_
  refine wpHold_call (v := .bool b) (wanted_some rfl rfl rfl) (by rintro K _ ⟨o, d, rfl⟩ hK; go_simp; refine (rzero_K a b ha Hb.out _).mono ?_; rintro e w' ⟨rfl, hbw⟩; obtain ⟨o', n', rfl⟩ := below_plus hbw; exact ⟨_, rfl, hK _ ⟨_, _, World.plus_plus _ _ _ _ _⟩⟩) ?_
  refine wpHold_val ⟨_, #[], 0, rfl⟩ (wanted_some rfl rfl rfl) (by rintro K _ ⟨o, d, rfl⟩ hK; go_simp; exact hK _ ⟨o, d, rfl⟩) ?_
  iterate 2 (refine wpHold_val ⟨_, #[], 0, rfl⟩ (wanted_none rfl) (by rintro K _ ⟨o, d, rfl⟩ hK; go_simp; exact hK _ ⟨o, d, rfl⟩) ?_)
  refine wpHold_nil ?_
  rintro _ ⟨o4, n4, rfl⟩
  go_wp2_with fail
  go_ret
  refine ⟨rfl, ?_⟩
  repeat (first | apply below_more | apply below_alloc | exact Below.refl _ _)
end Go.Proofs.Ytelibbgldblnbaa
