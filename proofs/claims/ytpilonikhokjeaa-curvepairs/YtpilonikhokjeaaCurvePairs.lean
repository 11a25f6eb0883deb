/-
  Two secrets with the points that belong to them share one point, which is not nought: CurvePairs answers true, whatever two keys it is given.
-/
import Derived.Test.YtpilonikhokjeaaCurveAlive
namespace Go.Proofs.Ytpilonikhokjeaa
open Go.RowKit Go.Shelf Go.Hold

set_option maxHeartbeats 2000000 in
set_option maxRecDepth 100000 in
theorem pairs_any (a b : Nat) (_ha : a < 115792089237316195423570985008687907853269984665640564039457584007913129639936) (_hb : b < 115792089237316195423570985008687907853269984665640564039457584007913129639936) (w : World) :
    Calls Try.prog 7 #[kv a, kv b] w fun e w' => e = .returned (.bool true) ∧ Below w.heap.size w w' := by
  obtain ⟨pa, epa⟩ : ∃ nn, nn = puN a := ⟨_, rfl⟩
  obtain ⟨pb, epb⟩ : ∃ nn, nn = puN b := ⟨_, rfl⟩
  obtain ⟨x, ex⟩ : ∃ nn, nn = shN a pb := ⟨_, rfl⟩
  have hne : x ≠ 0 := by rw [ex, epb]; exact sh_pu_ne _ _
  have lP : x < Fp.P := by rw [ex]; exact shN_lt _ _
  have lx := Nat.lt_trans lP P_lt
  have Hpa := Lib.hid (show Cv.nT (Cv.clampN a) 9 = pa from epa.symm)
  have Hpb := Lib.hid (show Cv.nT (Cv.clampN b) 9 = pb from epb.symm)
  have Hx := Lib.hid ex.symm
  have Hy := Lib.hid (show shN b pa = x by rw [ex, epa, epb]; exact sh_pu_comm _ _)
  have He := Lib.hid (errOf_ne hne)
  have Hz := Lib.hid (show decide (x % Fp.P = 0) = false by rw [Nat.mod_eq_of_lt lP]; exact decide_eq_false hne)
  have Hm := Lib.hid (Nat.mod_eq_of_lt lP)
  clear epa epb ex hne lP
  go_enter Try.func7, Try.ntmps7
  go_wp2_with fail
  refine (alive_any _).mono ?_
  rintro e w' ⟨rfl, hbw⟩
  obtain ⟨oc1, nc1, rfl⟩ := below_plus hbw
  clear hbw
  go_wp2_with fail
  generalize hW : World.plus _ _ _ = W1
  have R1x0 := Lib.hid (show RowAt W1 (w.heap.size) (keyA a) by rw [← hW]; clear hW; exact ⟨by go_simp, by go_simp, by go_simp⟩)
  have R1x1 := Lib.hid (show RowAt W1 (w.heap.size + 1) (keyA b) by rw [← hW]; clear hW; exact ⟨by go_simp, by go_simp, by go_simp⟩)
  have HB1 := Lib.hid (show Below w.heap.size w W1 by rw [← hW]; repeat (first | apply below_more | apply below_alloc | apply Below.drew | refine below_setRow ?_ (by omega) _ | exact Below.refl _ _))
  clear hW
  obtain ⟨R1x0a, R1x0b, R1x0c⟩ := R1x0.out
  obtain ⟨R1x1a, R1x1b, R1x1c⟩ := R1x1.out
  refine wp_region_pick W1 [0, 1, 2, 3, 4, 5, 6] [false, false, false, false, false, false, true] [7] [(23, #[.int .u8 0, .int .u8 0, .int .u8 0, .int .u8 0, .int .u8 0, .int .u8 0, .int .u8 0, .int .u8 0, .int .u8 0, .int .u8 0, .int .u8 0, .int .u8 0, .int .u8 0, .int .u8 0, .int .u8 0, .int .u8 0, .int .u8 0, .int .u8 0, .int .u8 0, .int .u8 0, .int .u8 0, .int .u8 0, .int .u8 0, .int .u8 0, .int .u8 0, .int .u8 0, .int .u8 0, .int .u8 0, .int .u8 0, .int .u8 0, .int .u8 0, .int .u8 0])] 8 (by kernel_rfl) rfl (by kernel_rfl) (by intro c a d v w h; cases d <;> exact h) ((Below.refl _ _).drew) ?_
  simp only [pick, List.getElem?_cons_succ, List.getElem?_cons_zero, List.drop_succ_cons, List.drop_zero]
  refine wpHoldF_val (wanted_none rfl) (by intro K o d hK; go_simp; exact hK _ (Below.refl _ _)) ?_
  refine wpHoldF_val (wanted_none rfl) (by intro K o d hK; go_simp; exact hK _ (Below.refl _ _)) ?_
  refine wpHoldF_call (v := kv pb) (wanted_none rfl) (by intro K o d hK; go_simp; refine (public_K b pb Hpb.out _).mono ?_; rintro e w' ⟨rfl, hbw⟩; exact ⟨_, rfl, hK _ hbw⟩) ?_
  refine wpHoldF_call (v := (.tuple #[kv x, .int .i64 0])) (wanted_none rfl) (by intro K o d hK; go_simp; refine (shared_K a pb x 0 Hx.out He.out _).mono ?_; rintro e w' ⟨rfl, hbw⟩; exact ⟨_, rfl, hK _ hbw⟩) ?_
  refine wpHoldF_val (wanted_none rfl) (by intro K o d hK; go_simp; exact hK _ (Below.refl _ _)) ?_
  refine wpHoldF_val (wanted_none rfl) (by intro K o d hK; go_simp; exact hK _ (Below.refl _ _)) ?_
  refine wpHoldF_late (wanted_none rfl) (fun w => by go_simp; rfl) ?_
  refine wpHoldF_nil ?_
  refine ⟨lays_key _ rfl rfl, fun g2x0 hg2x0 hn2x0 => ?_⟩
  intro w2 hb2 hblk2
  have A2x0 := R1x0.out.grow hb2
  have c2x0 := R1x0.out.2.2
  have A2x1 := R1x1.out.grow hb2
  have c2x1 := R1x1.out.2.2
  have N2x0 := RowAt.of (hblk2 0 g2x0 _ _ rfl rfl)
  have B2x0 := HB1.out.trans (hb2.mono HB1.out.size)
  have s2 := HB1.out.size
  have le2x0 : w.heap.size ≤ g2x0 := by omega
  have ne2x0x0 : ¬ w.heap.size = g2x0 := by omega
  have nf2x0x0 : ¬ g2x0 = w.heap.size := by omega
  have ne2x1x0 : ¬ w.heap.size + 1 = g2x0 := by omega
  have nf2x1x0 : ¬ g2x0 = w.heap.size + 1 := by omega
  have P2x0x0 := A2x0.other (show w.heap.size ≠ g2x0 by omega) (keyA x)
  have P2x0x1 := A2x1.other (show w.heap.size + 1 ≠ g2x0 by omega) (keyA x)
  have P2x0x2 := N2x0.set (keyA x)
  have B2x1 := below_setRow B2x0 (show w.heap.size ≤ g2x0 by omega) (keyA x)
  have Z2x0 := Lib.hid P2x0x0
  have Z2x1 := Lib.hid P2x0x1
  have Z2x2 := Lib.hid P2x0x2
  have HB2 := Lib.hid B2x1
  clear hb2 hblk2 HB1 s2 R1x0a R1x0b R1x0c R1x1a R1x1b R1x1c R1x0 R1x1 c2x0 c2x1 B2x0 B2x1 P2x0x0 P2x0x1 P2x0x2 hg2x0 hn2x0
  obtain ⟨A2x0a, A2x0b, A2x0c⟩ := A2x0
  obtain ⟨A2x1a, A2x1b, A2x1c⟩ := A2x1
  obtain ⟨N2x0a, N2x0b, N2x0c⟩ := N2x0
  go_wp2_with fail
  clear A2x0a A2x0b A2x0c A2x1a A2x1b A2x1c N2x0a N2x0b N2x0c
  generalize World.setRow _ _ _ = W3 at *
  obtain ⟨Z2x0a, Z2x0b, Z2x0c⟩ := Z2x0.out
  obtain ⟨Z2x1a, Z2x1b, Z2x1c⟩ := Z2x1.out
  obtain ⟨Z2x2a, Z2x2b, Z2x2c⟩ := Z2x2.out
  refine wp_region_pick W3 [0, 1, 2, 3, 4, 5, 6] [false, false, false, false, false, false, true] [7] [(23, #[.int .u8 0, .int .u8 0, .int .u8 0, .int .u8 0, .int .u8 0, .int .u8 0, .int .u8 0, .int .u8 0, .int .u8 0, .int .u8 0, .int .u8 0, .int .u8 0, .int .u8 0, .int .u8 0, .int .u8 0, .int .u8 0, .int .u8 0, .int .u8 0, .int .u8 0, .int .u8 0, .int .u8 0, .int .u8 0, .int .u8 0, .int .u8 0, .int .u8 0, .int .u8 0, .int .u8 0, .int .u8 0, .int .u8 0, .int .u8 0, .int .u8 0, .int .u8 0])] 8 (by kernel_rfl) rfl (by kernel_rfl) (by intro c a d v w h; cases d <;> exact h) ((Below.refl _ _).drew) ?_
  simp only [pick, List.getElem?_cons_succ, List.getElem?_cons_zero, List.drop_succ_cons, List.drop_zero]
  refine wpHoldF_val (wanted_none rfl) (by intro K o d hK; go_simp; exact hK _ (Below.refl _ _)) ?_
  refine wpHoldF_val (wanted_none rfl) (by intro K o d hK; go_simp; exact hK _ (Below.refl _ _)) ?_
  refine wpHoldF_call (v := kv pa) (wanted_none rfl) (by intro K o d hK; go_simp; refine (public_K a pa Hpa.out _).mono ?_; rintro e w' ⟨rfl, hbw⟩; exact ⟨_, rfl, hK _ hbw⟩) ?_
  refine wpHoldF_call (v := (.tuple #[kv x, .int .i64 0])) (wanted_none rfl) (by intro K o d hK; go_simp; refine (shared_K b pa x 0 Hy.out He.out _).mono ?_; rintro e w' ⟨rfl, hbw⟩; exact ⟨_, rfl, hK _ hbw⟩) ?_
  refine wpHoldF_val (wanted_none rfl) (by intro K o d hK; go_simp; exact hK _ (Below.refl _ _)) ?_
  refine wpHoldF_val (wanted_none rfl) (by intro K o d hK; go_simp; exact hK _ (Below.refl _ _)) ?_
  refine wpHoldF_late (wanted_none rfl) (fun w => by go_simp; rfl) ?_
  refine wpHoldF_nil ?_
  refine ⟨lays_key _ rfl rfl, fun g4x0 hg4x0 hn4x0 => ?_⟩
  intro w4 hb4 hblk4
  have A4x0 := Z2x0.out.grow hb4
  have c4x0 := Z2x0.out.2.2
  have A4x1 := Z2x1.out.grow hb4
  have c4x1 := Z2x1.out.2.2
  have A4x2 := Z2x2.out.grow hb4
  have c4x2 := Z2x2.out.2.2
  have N4x0 := RowAt.of (hblk4 0 g4x0 _ _ rfl rfl)
  have B4x0 := HB2.out.trans (hb4.mono HB2.out.size)
  have s4 := HB2.out.size
  have le4x0 : w.heap.size ≤ g4x0 := by omega
  have ne4x0x0 : ¬ w.heap.size = g4x0 := by omega
  have nf4x0x0 : ¬ g4x0 = w.heap.size := by omega
  have ne4x1x0 : ¬ w.heap.size + 1 = g4x0 := by omega
  have nf4x1x0 : ¬ g4x0 = w.heap.size + 1 := by omega
  have ne4x2x0 : ¬ g2x0 = g4x0 := by omega
  have nf4x2x0 : ¬ g4x0 = g2x0 := by omega
  have P4x0x0 := A4x0.other (show w.heap.size ≠ g4x0 by omega) (keyA x)
  have P4x0x1 := A4x1.other (show w.heap.size + 1 ≠ g4x0 by omega) (keyA x)
  have P4x0x2 := A4x2.other (show g2x0 ≠ g4x0 by omega) (keyA x)
  have P4x0x3 := N4x0.set (keyA x)
  have B4x1 := below_setRow B4x0 (show w.heap.size ≤ g4x0 by omega) (keyA x)
  have Z4x0 := Lib.hid P4x0x0
  have Z4x1 := Lib.hid P4x0x1
  have Z4x2 := Lib.hid P4x0x2
  have Z4x3 := Lib.hid P4x0x3
  have HB4 := Lib.hid B4x1
  clear hb4 hblk4 HB2 s4 Z2x0a Z2x0b Z2x0c Z2x1a Z2x1b Z2x1c Z2x2a Z2x2b Z2x2c Z2x0 Z2x1 Z2x2 c4x0 c4x1 c4x2 B4x0 B4x1 P4x0x0 P4x0x1 P4x0x2 P4x0x3 hg4x0 hn4x0
  obtain ⟨A4x0a, A4x0b, A4x0c⟩ := A4x0
  obtain ⟨A4x1a, A4x1b, A4x1c⟩ := A4x1
  obtain ⟨A4x2a, A4x2b, A4x2c⟩ := A4x2
  obtain ⟨N4x0a, N4x0b, N4x0c⟩ := N4x0
  go_wp2_with fail
  clear A4x0a A4x0b A4x0c A4x1a A4x1b A4x1c A4x2a A4x2b A4x2c N4x0a N4x0b N4x0c
  generalize World.setRow _ _ _ = W5 at *
  obtain ⟨Z4x0a, Z4x0b, Z4x0c⟩ := Z4x0.out
  obtain ⟨Z4x1a, Z4x1b, Z4x1c⟩ := Z4x1.out
  obtain ⟨Z4x2a, Z4x2b, Z4x2c⟩ := Z4x2.out
  obtain ⟨Z4x3a, Z4x3b, Z4x3c⟩ := Z4x3.out
  refine wp_region_fast (fun w' => ∃ o d, w' = W5.plus o d) (by kernel_rfl) (by kernel_rfl) ⟨#[], _, rfl⟩ ?_
  iterate 3 (refine wpHold_val ⟨_, #[], 0, rfl⟩ (wanted_none rfl) (by rintro K _ ⟨o, d, rfl⟩ hK; go_simp; exact hK _ ⟨o, d, rfl⟩) ?_)
  iterate 2 (refine wpHold_val ⟨_, #[], 0, rfl⟩ (wanted_some rfl rfl rfl) (by rintro K _ ⟨o, d, rfl⟩ hK; go_simp; exact hK _ ⟨o, d, rfl⟩) ?_)
  iterate 2 (refine wpHold_val ⟨_, #[], 0, rfl⟩ (wanted_none rfl) (by rintro K _ ⟨o, d, rfl⟩ hK; go_simp; exact hK _ ⟨o, d, rfl⟩) ?_)
  iterate 3 (refine wpHold_val ⟨_, #[], 0, rfl⟩ (wanted_some rfl rfl rfl) (by rintro K _ ⟨o, d, rfl⟩ hK; go_simp; exact hK _ ⟨o, d, rfl⟩) ?_)
  iterate 2 (refine wpHold_val ⟨_, #[], 0, rfl⟩ (wanted_none rfl) (by rintro K _ ⟨o, d, rfl⟩ hK; go_simp; exact hK _ ⟨o, d, rfl⟩) ?_)
  refine wpHold_val ⟨_, #[], 0, rfl⟩ (wanted_some rfl rfl rfl) (by rintro K _ ⟨o, d, rfl⟩ hK; go_simp; exact hK _ ⟨o, d, rfl⟩) ?_
  refine wpHold_call (v := .bool false) (wanted_some rfl rfl rfl) (by rintro K _ ⟨o, d, rfl⟩ hK; go_simp; refine (zero_K x false lx Hz.out _).mono ?_; rintro e w' ⟨rfl, hbw⟩; obtain ⟨o', n', rfl⟩ := below_plus hbw; exact ⟨_, rfl, hK _ ⟨_, _, World.plus_plus _ _ _ _ _⟩⟩) ?_
  refine wpHold_val ⟨_, #[], 0, rfl⟩ (wanted_some rfl rfl rfl) (by rintro K _ ⟨o, d, rfl⟩ hK; go_simp; exact hK _ ⟨o, d, rfl⟩) ?_
  iterate 2 (refine wpHold_val ⟨_, #[], 0, rfl⟩ (wanted_none rfl) (by rintro K _ ⟨o, d, rfl⟩ hK; go_simp; exact hK _ ⟨o, d, rfl⟩) ?_)
  refine wpHold_val ⟨_, #[], 0, rfl⟩ (wanted_some rfl rfl rfl) (by rintro K _ ⟨o, d, rfl⟩ hK; go_simp; exact hK _ ⟨o, d, rfl⟩) ?_
  refine wpHold_call (v := kv x) (wanted_some rfl rfl rfl) (by rintro K _ ⟨o, d, rfl⟩ hK; go_simp; refine (canon_K x x lx Hm.out _).mono ?_; rintro e w' ⟨rfl, hbw⟩; obtain ⟨o', n', rfl⟩ := below_plus hbw; exact ⟨_, rfl, hK _ ⟨_, _, World.plus_plus _ _ _ _ _⟩⟩) ?_
  iterate 2 (refine wpHold_val ⟨_, #[], 0, rfl⟩ (wanted_some rfl rfl rfl) (by rintro K _ ⟨o, d, rfl⟩ hK; go_simp; exact hK _ ⟨o, d, rfl⟩) ?_)
  iterate 2 (refine wpHold_val ⟨_, #[], 0, rfl⟩ (wanted_none rfl) (by rintro K _ ⟨o, d, rfl⟩ hK; go_simp; exact hK _ ⟨o, d, rfl⟩) ?_)
  refine wpHold_nil ?_
  rintro _ ⟨of6, nf6, rfl⟩
  go_wp2_with fail
  go_ret
  exact ⟨rfl, below_more HB4.out _ _⟩
end Go.Proofs.Ytpilonikhokjeaa
