/-
  A number times its inverse is one, if it leaves not nought; the inverse's inverse is what is left of it: FieldUndone answers true, whatever key it is given.
-/
import Derived.Test.YtelibbgldblnbaaFieldAlive
import Derived.Test.YtelibbgldblnbaaFast
namespace Go.Proofs.Ytelibbgldblnbaa
open Go.RowKit Go.Shelf Go.Hold

theorem zero_K (n : Nat) (b : Bool) (hn : n < 115792089237316195423570985008687907853269984665640564039457584007913129639936) (hb : decide (n % Fp.P = 0) = b) (w : World) : Calls Try.prog 14 #[kv n] w fun e w' => e = .returned (.bool b) ∧ Below w.heap.size w w' := by
  subst hb; exact zero_N n hn w
set_option maxHeartbeats 8000000 in
set_option maxRecDepth 100000 in
theorem undone_zero (a : Nat) (ha : a < 115792089237316195423570985008687907853269984665640564039457584007913129639936) (h : a % Fp.P = 0) (w : World) :
    Calls Try.prog 8 #[kv a] w fun e w' => e = .returned (.bool true) ∧ Below w.heap.size w w' := by
  have e1 : a ^ Fp.E % Fp.P = 0 := by rw [← Fp.pow_mod, h, Fp.inv_zero]
  have E1 := Lib.hid e1
  have E2 := Lib.hid (decide_eq_true h)
  clear e1 h
  go_enter Try.func8, Try.ntmps8
  go_wp2_with fail
  refine (alive_any _).mono ?_
  rintro e w' ⟨rfl, hbw⟩
  obtain ⟨o1, n1, rfl⟩ := below_plus hbw
  clear hbw
  go_wp2_with fail
  refine (inv_K a 0 ha E1.out _).mono ?_
  rintro e w' ⟨rfl, hbw⟩
  obtain ⟨o2, n2, rfl⟩ := below_plus hbw
  clear hbw
  go_wp2_with fail
  refine (zero_K a true ha E2.out _).mono ?_
  rintro e w' ⟨rfl, hbw⟩
  obtain ⟨o3, n3, rfl⟩ := below_plus hbw
  clear hbw
  go_wp2_with fail
  generalize hW : World.alloc (World.plus _ _ _) _ = W1
  refine wp_region_fast (fun w' => ∃ o d, w' = W1.plus o d) (by kernel_rfl) (by kernel_rfl) ⟨_, _, rfl⟩ ?_
  subst hW
  refine wpHold_val ⟨_, #[], 0, rfl⟩ (wanted_none rfl) (by rintro K _ ⟨o, d, rfl⟩ hK; go_simp; exact hK _ ⟨o, d, rfl⟩) ?_
  refine wpHold_call (v := kv 0) (wanted_none rfl) (by rintro K _ ⟨o, d, rfl⟩ hK; go_simp; refine (num_i 0 0 rfl (by decide) _).mono ?_; rintro e w' ⟨rfl, hbw⟩; obtain ⟨o', n', rfl⟩ := below_plus hbw; exact ⟨_, rfl, hK _ ⟨_, _, World.plus_plus _ _ _ _ _⟩⟩) ?_
  iterate 2 (refine wpHold_val ⟨_, #[], 0, rfl⟩ (wanted_none rfl) (by rintro K _ ⟨o, d, rfl⟩ hK; go_simp; exact hK _ ⟨o, d, rfl⟩) ?_)
  refine wpHold_nil ?_
  rintro _ ⟨o4, n4, rfl⟩
  go_wp2_with fail
  go_ret
  refine ⟨rfl, ?_⟩
  repeat (first | apply below_more | apply below_alloc | exact Below.refl _ _)

set_option maxHeartbeats 8000000 in
set_option maxRecDepth 100000 in
theorem undone_not (a : Nat) (ha : a < 115792089237316195423570985008687907853269984665640564039457584007913129639936) (h : ¬ a % Fp.P = 0) (w : World) :
    Calls Try.prog 8 #[kv a] w fun e w' => e = .returned (.bool true) ∧ Below w.heap.size w w' := by
  obtain ⟨k, ek⟩ : ∃ x, x = a ^ Fp.E % Fp.P := ⟨_, rfl⟩
  have lk : k < 115792089237316195423570985008687907853269984665640564039457584007913129639936 := by rw [ek]; exact mod_lt _
  obtain ⟨ap, ea⟩ : ∃ x, x = a % Fp.P := ⟨_, rfl⟩
  have E1 := Lib.hid (show a * k % Fp.P = 1 by rw [ek]; exact Fp.inv_mul a h)
  have E2 := Lib.hid (show k ^ Fp.E % Fp.P = ap by rw [ek, ea]; exact Fp.inv_inv a)
  have E3 := Lib.hid (decide_eq_false h)
  have E4 := Lib.hid ek.symm
  have E5 := Lib.hid ea.symm
  clear ek ea h
  go_enter Try.func8, Try.ntmps8
  go_wp2_with fail
  refine (alive_any _).mono ?_
  rintro e w' ⟨rfl, hbw⟩
  obtain ⟨o1, n1, rfl⟩ := below_plus hbw
  clear hbw
  go_wp2_with fail
  refine (inv_K a k ha E4.out _).mono ?_
  rintro e w' ⟨rfl, hbw⟩
  obtain ⟨o2, n2, rfl⟩ := below_plus hbw
  clear hbw
  go_wp2_with fail
  refine (zero_K a false ha E3.out _).mono ?_
  rintro e w' ⟨rfl, hbw⟩
  obtain ⟨o3, n3, rfl⟩ := below_plus hbw
  clear hbw
  go_wp2_with fail
  generalize hW : World.alloc (World.plus _ _ _) _ = W1
  refine wp_region_fast (fun w' => ∃ o d, w' = W1.plus o d) (by kernel_rfl) (by kernel_rfl) ⟨_, _, rfl⟩ ?_
  subst hW
  iterate 2 (refine wpHold_val ⟨_, #[], 0, rfl⟩ (wanted_none rfl) (by rintro K _ ⟨o, d, rfl⟩ hK; go_simp; exact hK _ ⟨o, d, rfl⟩) ?_)
  refine wpHold_call (v := kv 1) (wanted_none rfl) (by rintro K _ ⟨o, d, rfl⟩ hK; go_simp; refine (mul_K a k 1 ha lk E1.out _).mono ?_; rintro e w' ⟨rfl, hbw⟩; obtain ⟨o', n', rfl⟩ := below_plus hbw; exact ⟨_, rfl, hK _ ⟨_, _, World.plus_plus _ _ _ _ _⟩⟩) ?_
  refine wpHold_call (v := kv 1) (wanted_none rfl) (by rintro K _ ⟨o, d, rfl⟩ hK; go_simp; refine (num_i 1 1 rfl (by decide) _).mono ?_; rintro e w' ⟨rfl, hbw⟩; obtain ⟨o', n', rfl⟩ := below_plus hbw; exact ⟨_, rfl, hK _ ⟨_, _, World.plus_plus _ _ _ _ _⟩⟩) ?_
  iterate 2 (refine wpHold_val ⟨_, #[], 0, rfl⟩ (wanted_none rfl) (by rintro K _ ⟨o, d, rfl⟩ hK; go_simp; exact hK _ ⟨o, d, rfl⟩) ?_)
  refine wpHold_val ⟨_, #[], 0, rfl⟩ (wanted_some rfl rfl rfl) (by rintro K _ ⟨o, d, rfl⟩ hK; go_simp; exact hK _ ⟨o, d, rfl⟩) ?_
  refine wpHold_call (v := kv ap) (wanted_some rfl rfl rfl) (by rintro K _ ⟨o, d, rfl⟩ hK; go_simp; refine (inv_K k ap lk E2.out _).mono ?_; rintro e w' ⟨rfl, hbw⟩; obtain ⟨o', n', rfl⟩ := below_plus hbw; exact ⟨_, rfl, hK _ ⟨_, _, World.plus_plus _ _ _ _ _⟩⟩) ?_
  refine wpHold_val ⟨_, #[], 0, rfl⟩ (wanted_some rfl rfl rfl) (by rintro K _ ⟨o, d, rfl⟩ hK; go_simp; exact hK _ ⟨o, d, rfl⟩) ?_
  refine wpHold_call (v := kv ap) (wanted_some rfl rfl rfl) (by rintro K _ ⟨o, d, rfl⟩ hK; go_simp; refine (canon_K a ap ha E5.out _).mono ?_; rintro e w' ⟨rfl, hbw⟩; obtain ⟨o', n', rfl⟩ := below_plus hbw; exact ⟨_, rfl, hK _ ⟨_, _, World.plus_plus _ _ _ _ _⟩⟩) ?_
  refine wpHold_val ⟨_, #[], 0, rfl⟩ (wanted_some rfl rfl rfl) (by rintro K _ ⟨o, d, rfl⟩ hK; go_simp; exact hK _ ⟨o, d, rfl⟩) ?_
  iterate 2 (refine wpHold_val ⟨_, #[], 0, rfl⟩ (wanted_none rfl) (by rintro K _ ⟨o, d, rfl⟩ hK; go_simp; exact hK _ ⟨o, d, rfl⟩) ?_)
  refine wpHold_nil ?_
  rintro _ ⟨o4, n4, rfl⟩
  go_wp2_with fail
  go_ret
  refine ⟨rfl, ?_⟩
  repeat (first | apply below_more | apply below_alloc | exact Below.refl _ _)

theorem undone_any (a : Nat) (ha : a < 115792089237316195423570985008687907853269984665640564039457584007913129639936) (w : World) : Calls Try.prog 8 #[kv a] w fun e w' => e = .returned (.bool true) ∧ Below w.heap.size w w' := by
  by_cases h : a % Fp.P = 0
  · exact undone_zero a ha h w
  · exact undone_not a ha h w
end Go.Proofs.Ytelibbgldblnbaa
