/-
  A sum and a difference: field and reference say alike, whatever two keys they are given: FieldSums answers true.
-/
import Derived.Test.YtelibbgldblnbaaRefAdd
namespace Go.Proofs.Ytelibbgldblnbaa
open Go.RowKit Go.Shelf Go.Hold

set_option maxHeartbeats 2000000 in
set_option maxRecDepth 100000 in
theorem sums_any (a b : Nat) (ha : a < 115792089237316195423570985008687907853269984665640564039457584007913129639936) (hb : b < 115792089237316195423570985008687907853269984665640564039457584007913129639936) (w : World) :
    Calls Try.prog 4 #[kv a, kv b] w fun e w' => e = .returned (.bool true) ∧ Below w.heap.size w w' := by
  obtain ⟨sm, esm⟩ : ∃ x, x = (a + b) % Fp.P := ⟨_, rfl⟩
  have lsm : sm < 115792089237316195423570985008687907853269984665640564039457584007913129639936 := by rw [esm]; exact mod_lt _
  have Hsm := Lib.hid esm.symm
  obtain ⟨df, edf⟩ : ∃ x, x = (a % Fp.P + (Fp.P - b % Fp.P)) % Fp.P := ⟨_, rfl⟩
  have ldf : df < 115792089237316195423570985008687907853269984665640564039457584007913129639936 := by rw [edf]; exact mod_lt _
  have Hdf := Lib.hid edf.symm
  clear esm edf
  go_enter Try.func4, Try.ntmps4
  go_wp2_with fail
  refine (alive_any _).mono ?_
  rintro e w' ⟨rfl, hbw⟩
  obtain ⟨o1, n1, rfl⟩ := below_plus hbw
  clear hbw
  go_wp2_with fail
  generalize hW : World.alloc _ _ = W1
  refine wp_region_fast (fun w' => ∃ o d, w' = W1.plus o d) (by kernel_rfl) (by kernel_rfl) ⟨_, _, rfl⟩ ?_
  subst hW
  iterate 2 (refine wpHold_val ⟨_, #[], 0, rfl⟩ (wanted_none rfl) (by rintro K _ ⟨o, d, rfl⟩ hK; go_simp; exact hK _ ⟨o, d, rfl⟩) ?_)
  refine wpHold_call (v := kv sm) (wanted_none rfl) (by rintro K _ ⟨o, d, rfl⟩ hK; go_simp; refine (add_K a b sm ha hb Hsm.out _).mono ?_; rintro e w' ⟨rfl, hbw⟩; obtain ⟨o', n', rfl⟩ := below_plus hbw; exact ⟨_, rfl, hK _ ⟨_, _, World.plus_plus _ _ _ _ _⟩⟩) ?_
  iterate 2 (refine wpHold_val ⟨_, #[], 0, rfl⟩ (wanted_none rfl) (by rintro K _ ⟨o, d, rfl⟩ hK; go_simp; exact hK _ ⟨o, d, rfl⟩) ?_)
  refine wpHold_call (v := kv sm) (wanted_none rfl) (by rintro K _ ⟨o, d, rfl⟩ hK; go_simp; refine (radd_K a b sm ha hb Hsm.out _).mono ?_; rintro e w' ⟨rfl, hbw⟩; obtain ⟨o', n', rfl⟩ := below_plus hbw; exact ⟨_, rfl, hK _ ⟨_, _, World.plus_plus _ _ _ _ _⟩⟩) ?_
  iterate 2 (refine wpHold_val ⟨_, #[], 0, rfl⟩ (wanted_none rfl) (by rintro K _ ⟨o, d, rfl⟩ hK; go_simp; exact hK _ ⟨o, d, rfl⟩) ?_)
  iterate 2 (refine wpHold_val ⟨_, #[], 0, rfl⟩ (wanted_some rfl rfl rfl) (by rintro K _ ⟨o, d, rfl⟩ hK; go_simp; exact hK _ ⟨o, d, rfl⟩) ?_)
  refine wpHold_call (v := kv df) (wanted_some rfl rfl rfl) (by rintro K _ ⟨o, d, rfl⟩ hK; go_simp; refine (sub_K a b df ha hb Hdf.out _).mono ?_; rintro e w' ⟨rfl, hbw⟩; obtain ⟨o', n', rfl⟩ := below_plus hbw; exact ⟨_, rfl, hK _ ⟨_, _, World.plus_plus _ _ _ _ _⟩⟩) ?_
  iterate 2 (refine wpHold_val ⟨_, #[], 0, rfl⟩ (wanted_some rfl rfl rfl) (by rintro K _ ⟨o, d, rfl⟩ hK; go_simp; exact hK _ ⟨o, d, rfl⟩) ?_)
  refine wpHold_call (v := kv df) (wanted_some rfl rfl rfl) (by rintro K _ ⟨o, d, rfl⟩ hK; go_simp; refine (rsub_K a b df ha hb Hdf.out _).mono ?_; rintro e w' ⟨rfl, hbw⟩; obtain ⟨o', n', rfl⟩ := below_plus hbw; exact ⟨_, rfl, hK _ ⟨_, _, World.plus_plus _ _ _ _ _⟩⟩) ?_
  refine wpHold_val ⟨_, #[], 0, rfl⟩ (wanted_some rfl rfl rfl) (by rintro K _ ⟨o, d, rfl⟩ hK; go_simp; exact hK _ ⟨o, d, rfl⟩) ?_
  iterate 2 (refine wpHold_val ⟨_, #[], 0, rfl⟩ (wanted_none rfl) (by rintro K _ ⟨o, d, rfl⟩ hK; go_simp; exact hK _ ⟨o, d, rfl⟩) ?_)
  refine wpHold_nil ?_
  rintro _ ⟨o4, n4, rfl⟩
  go_wp2_with fail
  go_ret
  refine ⟨rfl, ?_⟩
  repeat (first | apply below_more | apply below_alloc | exact Below.refl _ _)
end Go.Proofs.Ytelibbgldblnbaa
