/-
  The scalar of any secret, any point times it, and the point that belongs to it, is the document's, or refused: CurveShares answers true, whatever two keys it is given.
-/
import Derived.Test.YtpilonikhokjeaaRef2Shared
namespace Go.Proofs.Ytpilonikhokjeaa
open Go.RowKit Go.Shelf Go.Hold

set_option maxHeartbeats 2000000 in
set_option maxRecDepth 100000 in
theorem shares_any (k u : Nat) (_hk : k < 115792089237316195423570985008687907853269984665640564039457584007913129639936) (_hu : u < 115792089237316195423570985008687907853269984665640564039457584007913129639936) (w : World) :
    Calls Try.prog 3 #[kv k, kv u] w fun e w' => e = .returned (.bool true) ∧ Below w.heap.size w w' := by
  obtain ⟨c, ec⟩ : ∃ nn, nn = Cv.clampN k := ⟨_, rfl⟩
  obtain ⟨x, ex⟩ : ∃ nn, nn = shN k u := ⟨_, rfl⟩
  obtain ⟨ev, eev⟩ : ∃ nn, nn = errOf x := ⟨_, rfl⟩
  obtain ⟨p, ep⟩ : ∃ nn, nn = puN k := ⟨_, rfl⟩
  have Hc := Lib.hid ec.symm
  have Hx := Lib.hid ex.symm
  have He := Lib.hid eev.symm
  have Hp := Lib.hid (show Cv.nT (Cv.clampN k) 9 = p from ep.symm)
  clear ec ex eev ep
  go_enter Try.func3, Try.ntmps3
  go_wp2_with fail
  refine (alive_any _).mono ?_
  rintro e w' ⟨rfl, hbw⟩
  obtain ⟨oc1, nc1, rfl⟩ := below_plus hbw
  clear hbw
  go_wp2_with fail
  generalize hW : World.plus _ _ _ = W1
  have R1x0 := Lib.hid (show RowAt W1 (w.heap.size) (keyA k) by rw [← hW]; clear hW; exact ⟨by go_simp, by go_simp, by go_simp⟩)
  have R1x1 := Lib.hid (show RowAt W1 (w.heap.size + 1) (keyA u) by rw [← hW]; clear hW; exact ⟨by go_simp, by go_simp, by go_simp⟩)
  have HB1 := Lib.hid (show Below w.heap.size w W1 by rw [← hW]; repeat (first | apply below_more | apply below_alloc | apply Below.drew | refine below_setRow ?_ (by omega) _ | exact Below.refl _ _))
  clear hW
  obtain ⟨R1x0a, R1x0b, R1x0c⟩ := R1x0.out
  obtain ⟨R1x1a, R1x1b, R1x1c⟩ := R1x1.out
  refine (shared_K k u x ev Hx.out He.out _).mono ?_
  rintro e w' ⟨rfl, hbw⟩
  obtain ⟨oc2, nc2, rfl⟩ := below_plus hbw
  clear hbw
  have lt2x0 : w.heap.size < W1.heap.size + oc2.size := by omega
  have lt2x1 : w.heap.size + 1 < W1.heap.size + oc2.size := by omega
  go_wp2_with fail
  generalize hW : World.alloc _ _ = W2
  have R2x0 := Lib.hid (show RowAt W2 (w.heap.size) (keyA k) by rw [← hW]; clear hW; exact ⟨by go_simp, by go_simp, by go_simp⟩)
  have R2x1 := Lib.hid (show RowAt W2 (w.heap.size + 1) (keyA u) by rw [← hW]; clear hW; exact ⟨by go_simp, by go_simp, by go_simp⟩)
  have R2x2 := Lib.hid (show RowAt W2 (W1.heap.size + oc2.size) (keyA x) by rw [← hW]; clear hW; exact ⟨by go_simp, by go_simp, by go_simp⟩)
  have HB2 := Lib.hid (show Below w.heap.size w W2 by rw [← hW]; repeat (first | apply below_more | apply below_alloc | apply Below.drew | refine below_setRow ?_ (by omega) _ | exact HB1.out))
  clear hW
  have lz2x0 : w.heap.size ≤ W1.heap.size + oc2.size := by have := HB1.out.size; omega
  have nz2x0x0 : ¬ w.heap.size = W1.heap.size + oc2.size := by omega
  have ny2x0x0 : ¬ W1.heap.size + oc2.size = w.heap.size := by omega
  have nz2x0x1 : ¬ w.heap.size + 1 = W1.heap.size + oc2.size := by omega
  have ny2x0x1 : ¬ W1.heap.size + oc2.size = w.heap.size + 1 := by omega
  clear R1x0a R1x0b R1x0c R1x1a R1x1b R1x1c R1x0 R1x1 HB1
  generalize W1.heap.size + oc2.size = g5 at *
  obtain ⟨R2x0a, R2x0b, R2x0c⟩ := R2x0.out
  obtain ⟨R2x1a, R2x1b, R2x1c⟩ := R2x1.out
  obtain ⟨R2x2a, R2x2b, R2x2c⟩ := R2x2.out
  refine (rshared_K k u x ev Hx.out He.out _).mono ?_
  rintro e w' ⟨rfl, hbw⟩
  obtain ⟨oc3, nc3, rfl⟩ := below_plus hbw
  clear hbw
  have lt3x0 : w.heap.size < W2.heap.size + oc3.size := by omega
  have lt3x1 : w.heap.size + 1 < W2.heap.size + oc3.size := by omega
  have lt3x2 : g5 < W2.heap.size + oc3.size := by omega
  go_wp2_with fail
  generalize hW : World.alloc _ _ = W3
  have R3x0 := Lib.hid (show RowAt W3 (w.heap.size) (keyA k) by rw [← hW]; clear hW; exact ⟨by go_simp, by go_simp, by go_simp⟩)
  have R3x1 := Lib.hid (show RowAt W3 (w.heap.size + 1) (keyA u) by rw [← hW]; clear hW; exact ⟨by go_simp, by go_simp, by go_simp⟩)
  have R3x2 := Lib.hid (show RowAt W3 (g5) (keyA x) by rw [← hW]; clear hW; exact ⟨by go_simp, by go_simp, by go_simp⟩)
  have R3x3 := Lib.hid (show RowAt W3 (W2.heap.size + oc3.size) (keyA x) by rw [← hW]; clear hW; exact ⟨by go_simp, by go_simp, by go_simp⟩)
  have HB3 := Lib.hid (show Below w.heap.size w W3 by rw [← hW]; repeat (first | apply below_more | apply below_alloc | apply Below.drew | refine below_setRow ?_ (by omega) _ | exact HB2.out))
  clear hW
  have lz3x0 : w.heap.size ≤ W2.heap.size + oc3.size := by have := HB2.out.size; omega
  have nz3x0x0 : ¬ w.heap.size = W2.heap.size + oc3.size := by omega
  have ny3x0x0 : ¬ W2.heap.size + oc3.size = w.heap.size := by omega
  have nz3x0x1 : ¬ w.heap.size + 1 = W2.heap.size + oc3.size := by omega
  have ny3x0x1 : ¬ W2.heap.size + oc3.size = w.heap.size + 1 := by omega
  have nz3x0x2 : ¬ g5 = W2.heap.size + oc3.size := by omega
  have ny3x0x2 : ¬ W2.heap.size + oc3.size = g5 := by omega
  clear R2x0a R2x0b R2x0c R2x1a R2x1b R2x1c R2x2a R2x2b R2x2c R2x0 R2x1 R2x2 HB2
  generalize W2.heap.size + oc3.size = g7 at *
  obtain ⟨R3x0a, R3x0b, R3x0c⟩ := R3x0.out
  obtain ⟨R3x1a, R3x1b, R3x1c⟩ := R3x1.out
  obtain ⟨R3x2a, R3x2b, R3x2c⟩ := R3x2.out
  obtain ⟨R3x3a, R3x3b, R3x3c⟩ := R3x3.out
  refine wp_region_fast (fun w' => ∃ o d, w' = W3.plus o d) (by kernel_rfl) (by kernel_rfl) ⟨#[], _, rfl⟩ ?_
  refine wpHold_val ⟨_, #[], 0, rfl⟩ (wanted_none rfl) (by rintro K _ ⟨o, d, rfl⟩ hK; go_simp; exact hK _ ⟨o, d, rfl⟩) ?_
  refine wpHold_call (v := kv c) (wanted_none rfl) (by rintro K _ ⟨o, d, rfl⟩ hK; go_simp; refine (clamp_K k c Hc.out _).mono ?_; rintro e w' ⟨rfl, hbw⟩; obtain ⟨o', n', rfl⟩ := below_plus hbw; exact ⟨_, rfl, hK _ ⟨_, _, World.plus_plus _ _ _ _ _⟩⟩) ?_
  refine wpHold_val ⟨_, #[], 0, rfl⟩ (wanted_none rfl) (by rintro K _ ⟨o, d, rfl⟩ hK; go_simp; exact hK _ ⟨o, d, rfl⟩) ?_
  refine wpHold_call (v := kv c) (wanted_none rfl) (by rintro K _ ⟨o, d, rfl⟩ hK; go_simp; refine (rclamp_K k c Hc.out _).mono ?_; rintro e w' ⟨rfl, hbw⟩; obtain ⟨o', n', rfl⟩ := below_plus hbw; exact ⟨_, rfl, hK _ ⟨_, _, World.plus_plus _ _ _ _ _⟩⟩) ?_
  iterate 2 (refine wpHold_val ⟨_, #[], 0, rfl⟩ (wanted_none rfl) (by rintro K _ ⟨o, d, rfl⟩ hK; go_simp; exact hK _ ⟨o, d, rfl⟩) ?_)
  iterate 3 (refine wpHold_val ⟨_, #[], 0, rfl⟩ (wanted_some rfl rfl rfl) (by rintro K _ ⟨o, d, rfl⟩ hK; go_simp; exact hK _ ⟨o, d, rfl⟩) ?_)
  iterate 2 (refine wpHold_val ⟨_, #[], 0, rfl⟩ (wanted_none rfl) (by rintro K _ ⟨o, d, rfl⟩ hK; go_simp; exact hK _ ⟨o, d, rfl⟩) ?_)
  iterate 3 (refine wpHold_val ⟨_, #[], 0, rfl⟩ (wanted_some rfl rfl rfl) (by rintro K _ ⟨o, d, rfl⟩ hK; go_simp; exact hK _ ⟨o, d, rfl⟩) ?_)
  iterate 2 (refine wpHold_val ⟨_, #[], 0, rfl⟩ (wanted_none rfl) (by rintro K _ ⟨o, d, rfl⟩ hK; go_simp; exact hK _ ⟨o, d, rfl⟩) ?_)
  refine wpHold_val ⟨_, #[], 0, rfl⟩ (wanted_some rfl rfl rfl) (by rintro K _ ⟨o, d, rfl⟩ hK; go_simp; exact hK _ ⟨o, d, rfl⟩) ?_
  refine wpHold_call (v := kv p) (wanted_some rfl rfl rfl) (by rintro K _ ⟨o, d, rfl⟩ hK; go_simp; refine (public_K k p Hp.out _).mono ?_; rintro e w' ⟨rfl, hbw⟩; obtain ⟨o', n', rfl⟩ := below_plus hbw; exact ⟨_, rfl, hK _ ⟨_, _, World.plus_plus _ _ _ _ _⟩⟩) ?_
  refine wpHold_val ⟨_, #[], 0, rfl⟩ (wanted_some rfl rfl rfl) (by rintro K _ ⟨o, d, rfl⟩ hK; go_simp; exact hK _ ⟨o, d, rfl⟩) ?_
  refine wpHold_call (v := kv p) (wanted_some rfl rfl rfl) (by rintro K _ ⟨o, d, rfl⟩ hK; go_simp; refine (rpublic_K k p Hp.out _).mono ?_; rintro e w' ⟨rfl, hbw⟩; obtain ⟨o', n', rfl⟩ := below_plus hbw; exact ⟨_, rfl, hK _ ⟨_, _, World.plus_plus _ _ _ _ _⟩⟩) ?_
  refine wpHold_val ⟨_, #[], 0, rfl⟩ (wanted_some rfl rfl rfl) (by rintro K _ ⟨o, d, rfl⟩ hK; go_simp; exact hK _ ⟨o, d, rfl⟩) ?_
  iterate 2 (refine wpHold_val ⟨_, #[], 0, rfl⟩ (wanted_none rfl) (by rintro K _ ⟨o, d, rfl⟩ hK; go_simp; exact hK _ ⟨o, d, rfl⟩) ?_)
  refine wpHold_nil ?_
  rintro _ ⟨of4, nf4, rfl⟩
  go_wp2_with fail
  go_ret
  exact ⟨rfl, below_more HB3.out _ _⟩
end Go.Proofs.Ytpilonikhokjeaa
