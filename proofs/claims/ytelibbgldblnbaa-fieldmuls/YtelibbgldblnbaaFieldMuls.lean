/-
  A product: field and reference say alike, whatever two keys they are given: FieldMuls answers true.
-/
import Derived.Test.YtelibbgldblnbaaRefMul
namespace Go.Proofs.Ytelibbgldblnbaa
open Go.RowKit Go.Shelf Go.Hold

set_option maxHeartbeats 2000000 in
set_option maxRecDepth 100000 in
theorem muls_any (a b : Nat) (ha : a < 115792089237316195423570985008687907853269984665640564039457584007913129639936) (hb : b < 115792089237316195423570985008687907853269984665640564039457584007913129639936) (w : World) :
    Calls Try.prog 5 #[kv a, kv b] w fun e w' => e = .returned (.bool true) ∧ Below w.heap.size w w' := by
  obtain ⟨mm, emm⟩ : ∃ x, x = a * b % Fp.P := ⟨_, rfl⟩
  have lmm : mm < 115792089237316195423570985008687907853269984665640564039457584007913129639936 := by rw [emm]; exact mod_lt _
  have Hmm := Lib.hid emm.symm
  clear emm
  go_enter Try.func5, Try.ntmps5
  go_wp2_with fail
  generalize hW : World.alloc _ _ = W1
  refine wp_region_fast (fun w' => ∃ o d, w' = W1.plus o d) (by kernel_rfl) (by kernel_rfl) ⟨#[], _, rfl⟩ ?_
  subst hW
  iterate 2 (refine wpHold_val ⟨_, #[], 0, rfl⟩ (wanted_none rfl) (by rintro K _ ⟨o, d, rfl⟩ hK; go_simp; exact hK _ ⟨o, d, rfl⟩) ?_)
  refine wpHold_call (v := kv mm) (wanted_none rfl) (by rintro K _ ⟨o, d, rfl⟩ hK; go_simp; refine (mul_K a b mm ha hb Hmm.out _).mono ?_; rintro e w' ⟨rfl, hbw⟩; obtain ⟨o', n', rfl⟩ := below_plus hbw; exact ⟨_, rfl, hK _ ⟨_, _, World.plus_plus _ _ _ _ _⟩⟩) ?_
  iterate 2 (refine wpHold_val ⟨_, #[], 0, rfl⟩ (wanted_none rfl) (by rintro K _ ⟨o, d, rfl⟩ hK; go_simp; exact hK _ ⟨o, d, rfl⟩) ?_)
  refine wpHold_call (v := kv mm) (wanted_none rfl) (by rintro K _ ⟨o, d, rfl⟩ hK; go_simp; refine (rmul_K a b mm ha hb Hmm.out _).mono ?_; rintro e w' ⟨rfl, hbw⟩; obtain ⟨o', n', rfl⟩ := below_plus hbw; exact ⟨_, rfl, hK _ ⟨_, _, World.plus_plus _ _ _ _ _⟩⟩) ?_
  iterate 2 (refine wpHold_val ⟨_, #[], 0, rfl⟩ (wanted_none rfl) (by rintro K _ ⟨o, d, rfl⟩ hK; go_simp; exact hK _ ⟨o, d, rfl⟩) ?_)
  refine wpHold_call (v := .bool true) (wanted_some rfl rfl rfl) (by rintro K _ ⟨o, d, rfl⟩ hK; go_simp; refine (alive_any _).mono ?_; rintro e w' ⟨rfl, hbw⟩; obtain ⟨o', n', rfl⟩ := below_plus hbw; exact ⟨_, rfl, hK _ ⟨_, _, World.plus_plus _ _ _ _ _⟩⟩) ?_
  iterate 2 (refine wpHold_val ⟨_, #[], 0, rfl⟩ (wanted_none rfl) (by rintro K _ ⟨o, d, rfl⟩ hK; go_simp; exact hK _ ⟨o, d, rfl⟩) ?_)
  refine wpHold_nil ?_
  rintro _ ⟨o4, n4, rfl⟩
  go_wp2_with fail
  go_ret
  refine ⟨rfl, ?_⟩
  repeat (first | apply below_more | apply below_alloc | exact Below.refl _ _)
end Go.Proofs.Ytelibbgldblnbaa
