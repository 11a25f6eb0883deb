/-
  Layer 2's laws: answers that the document fixes ('alive').
-/
import Derived.Test.YtpilonikhokjeaaCurveChain
namespace Go.Proofs.Ytpilonikhokjeaa
open Go.RowKit Go.Shelf Go.Hold

/-- The point that belongs to a secret. -/
def puN (k : Nat) : Nat := Cv.nT (Cv.clampN k) 9
theorem puN_lt (k : Nat) : puN k < Fp.P := Cv.nT_lt _ _
theorem sh_pu (j k : Nat) : shN j (puN k) = Cv.nT (Cv.clampN j) (Cv.nT (Cv.clampN k) 9) := by
  unfold shN puN; rw [ptN_small (Cv.nT_lt _ _)]
theorem sh_pu_comm (j k : Nat) : shN j (puN k) = shN k (puN j) := by rw [sh_pu, sh_pu]; exact Cv.pair_order 9 k j
theorem sh_pu_ne (j k : Nat) : shN j (puN k) ≠ 0 := by rw [sh_pu]; exact Cv.pair_ne k j
theorem errOf_ne {p : Nat} (h : p ≠ 0) : errOf p = 0 := by unfold errOf; rw [if_neg h]
theorem sh_zero (k : Nat) : shN k 0 = 0 := by
  unfold shN; rw [ptN_small (show 0 < Fp.P by decide +kernel)]; exact Cv.nT_zero _

set_option maxHeartbeats 2000000 in
set_option maxRecDepth 100000 in
theorem alive_any (w : World) : Calls Try.prog 9 #[] w fun e w' => e = .returned (.bool true) ∧ Below w.heap.size w w' := by
  obtain ⟨pa, epa⟩ : ∃ y, y = puN 197121 := ⟨_, rfl⟩
  obtain ⟨pb, epb⟩ : ∃ y, y = puN 394500 := ⟨_, rfl⟩
  obtain ⟨x, ex⟩ : ∃ y, y = shN 197121 pb := ⟨_, rfl⟩
  obtain ⟨c, ec⟩ : ∃ y, y = Cv.clampN 255 := ⟨_, rfl⟩
  have hne : x ≠ 0 := by rw [ex, epb]; exact sh_pu_ne _ _
  have lx : x < 115792089237316195423570985008687907853269984665640564039457584007913129639936 := by rw [ex]; exact Nat.lt_trans (shN_lt _ _) P_lt
  have hk := keq_false lx (show 0 < 115792089237316195423570985008687907853269984665640564039457584007913129639936 by decide) hne
  have Hpa := Lib.hid (show Cv.nT (Cv.clampN 197121) 9 = pa from epa.symm)
  have Hpb := Lib.hid (show Cv.nT (Cv.clampN 394500) 9 = pb from epb.symm)
  have Hx := Lib.hid ex.symm
  have Hy := Lib.hid (show shN 394500 pa = x by rw [ex, epa, epb]; exact sh_pu_comm _ _)
  have He := Lib.hid (errOf_ne hne)
  have H0 := Lib.hid (sh_zero 197121)
  have H7 := Lib.hid (show errOf 0 = 7 from rfl)
  have Hc := Lib.hid ec.symm
  have hc0 : bt c 0 = 248 := by rw [ec]; decide +kernel
  have hc31 : bt c 31 = 64 := by rw [ec]; decide +kernel
  clear epa epb ex ec hne
  go_enter Try.func9, Try.ntmps9
  go_wp2_with fail
  generalize hW : World.alloc _ _ = W1
  have R1x0 := Lib.hid (show RowAt W1 (w.heap.size) (keyA 197121) by rw [← hW]; clear hW; exact ⟨by go_simp, by go_simp, by go_simp⟩)
  have R1x1 := Lib.hid (show RowAt W1 (w.heap.size + 1) (keyA 394500) by rw [← hW]; clear hW; exact ⟨by go_simp, by go_simp, by go_simp⟩)
  have HB1 := Lib.hid (show Below w.heap.size w W1 by rw [← hW]; repeat (first | apply below_more | apply below_alloc | apply Below.drew | refine below_setRow ?_ (by omega) _ | exact Below.refl _ _))
  clear hW
  obtain ⟨R1x0a, R1x0b, R1x0c⟩ := R1x0.out
  obtain ⟨R1x1a, R1x1b, R1x1c⟩ := R1x1.out
  refine wp_region_pick W1 [0, 1, 2, 3, 4, 5, 6] [false, false, false, false, false, false, true] [7] [(23, #[.int .u8 0, .int .u8 0, .int .u8 0, .int .u8 0, .int .u8 0, .int .u8 0, .int .u8 0, .int .u8 0, .int .u8 0, .int .u8 0, .int .u8 0, .int .u8 0, .int .u8 0, .int .u8 0, .int .u8 0, .int .u8 0, .int .u8 0, .int .u8 0, .int .u8 0, .int .u8 0, .int .u8 0, .int .u8 0, .int .u8 0, .int .u8 0, .int .u8 0, .int .u8 0, .int .u8 0, .int .u8 0, .int .u8 0, .int .u8 0, .int .u8 0, .int .u8 0])] 8 (by kernel_rfl) rfl (by kernel_rfl) (by intro c a d v w h; cases d <;> exact h) ((Below.refl _ _).drew) ?_
  simp only [pick, List.getElem?_cons_succ, List.getElem?_cons_zero, List.drop_succ_cons, List.drop_zero]
  refine wpHoldF_val (wanted_none rfl) (by intro K o d hK; go_simp; exact hK _ (Below.refl _ _)) ?_
  refine wpHoldF_val (wanted_none rfl) (by intro K o d hK; go_simp; exact hK _ (Below.refl _ _)) ?_
  refine wpHoldF_call (v := kv pb) (wanted_none rfl) (by intro K o d hK; go_simp; refine (public_K 394500 pb Hpb.out _).mono ?_; rintro e w' ⟨rfl, hbw⟩; exact ⟨_, rfl, hK _ hbw⟩) ?_
  refine wpHoldF_call (v := (.tuple #[kv x, .int .i64 0])) (wanted_none rfl) (by intro K o d hK; go_simp; refine (shared_K 197121 pb x 0 Hx.out He.out _).mono ?_; rintro e w' ⟨rfl, hbw⟩; exact ⟨_, rfl, hK _ hbw⟩) ?_
  refine wpHoldF_val (wanted_none rfl) (by intro K o d hK; go_simp; exact hK _ (Below.refl _ _)) ?_
  refine wpHoldF_val (wanted_none rfl) (by intro K o d hK; go_simp; exact hK _ (Below.refl _ _)) ?_
  refine wpHoldF_late (wanted_none rfl) (fun w => by go_simp; rfl) ?_
  refine wpHoldF_nil ?_
  refine ⟨lays_key _ rfl rfl, fun g2x0 hg2x0 hn2x0 => ?_⟩
  intro w2 hb2 hblk2
  have A2x0 := R1x0.out.grow hb2
  have c2x0 := R1x0.out.2.2
  have A2x1 := R1x1.out.grow hb2
  have c2x1 := R1x1.out.2.2
  have N2x0 := RowAt.of (hblk2 0 g2x0 _ _ rfl rfl)
  have B2x0 := HB1.out.trans (hb2.mono HB1.out.size)
  have s2 := HB1.out.size
  have le2x0 : w.heap.size ≤ g2x0 := by omega
  have ne2x0x0 : ¬ w.heap.size = g2x0 := by omega
  have nf2x0x0 : ¬ g2x0 = w.heap.size := by omega
  have ne2x1x0 : ¬ w.heap.size + 1 = g2x0 := by omega
  have nf2x1x0 : ¬ g2x0 = w.heap.size + 1 := by omega
  have P2x0x0 := A2x0.other (show w.heap.size ≠ g2x0 by omega) (keyA x)
  have P2x0x1 := A2x1.other (show w.heap.size + 1 ≠ g2x0 by omega) (keyA x)
  have P2x0x2 := N2x0.set (keyA x)
  have B2x1 := below_setRow B2x0 (show w.heap.size ≤ g2x0 by omega) (keyA x)
  have Z2x0 := Lib.hid P2x0x0
  have Z2x1 := Lib.hid P2x0x1
  have Z2x2 := Lib.hid P2x0x2
  have HB2 := Lib.hid B2x1
  clear hb2 hblk2 HB1 s2 R1x0a R1x0b R1x0c R1x1a R1x1b R1x1c R1x0 R1x1 c2x0 c2x1 B2x0 B2x1 P2x0x0 P2x0x1 P2x0x2 hg2x0 hn2x0
  obtain ⟨A2x0a, A2x0b, A2x0c⟩ := A2x0
  obtain ⟨A2x1a, A2x1b, A2x1c⟩ := A2x1
  obtain ⟨N2x0a, N2x0b, N2x0c⟩ := N2x0
  go_wp2_with fail
  clear A2x0a A2x0b A2x0c A2x1a A2x1b A2x1c N2x0a N2x0b N2x0c
  generalize World.setRow _ _ _ = W3 at *
  obtain ⟨Z2x0a, Z2x0b, Z2x0c⟩ := Z2x0.out
  obtain ⟨Z2x1a, Z2x1b, Z2x1c⟩ := Z2x1.out
  obtain ⟨Z2x2a, Z2x2b, Z2x2c⟩ := Z2x2.out
  refine wp_region_pick W3 [0, 1, 2, 3, 4, 5, 6] [false, false, false, false, false, false, true] [7] [(23, #[.int .u8 0, .int .u8 0, .int .u8 0, .int .u8 0, .int .u8 0, .int .u8 0, .int .u8 0, .int .u8 0, .int .u8 0, .int .u8 0, .int .u8 0, .int .u8 0, .int .u8 0, .int .u8 0, .int .u8 0, .int .u8 0, .int .u8 0, .int .u8 0, .int .u8 0, .int .u8 0, .int .u8 0, .int .u8 0, .int .u8 0, .int .u8 0, .int .u8 0, .int .u8 0, .int .u8 0, .int .u8 0, .int .u8 0, .int .u8 0, .int .u8 0, .int .u8 0])] 8 (by kernel_rfl) rfl (by kernel_rfl) (by intro c a d v w h; cases d <;> exact h) ((Below.refl _ _).drew) ?_
  simp only [pick, List.getElem?_cons_succ, List.getElem?_cons_zero, List.drop_succ_cons, List.drop_zero]
  refine wpHoldF_val (wanted_none rfl) (by intro K o d hK; go_simp; exact hK _ (Below.refl _ _)) ?_
  refine wpHoldF_val (wanted_none rfl) (by intro K o d hK; go_simp; exact hK _ (Below.refl _ _)) ?_
  refine wpHoldF_call (v := kv pa) (wanted_none rfl) (by intro K o d hK; go_simp; refine (public_K 197121 pa Hpa.out _).mono ?_; rintro e w' ⟨rfl, hbw⟩; exact ⟨_, rfl, hK _ hbw⟩) ?_
  refine wpHoldF_call (v := (.tuple #[kv x, .int .i64 0])) (wanted_none rfl) (by intro K o d hK; go_simp; refine (shared_K 394500 pa x 0 Hy.out He.out _).mono ?_; rintro e w' ⟨rfl, hbw⟩; exact ⟨_, rfl, hK _ hbw⟩) ?_
  refine wpHoldF_val (wanted_none rfl) (by intro K o d hK; go_simp; exact hK _ (Below.refl _ _)) ?_
  refine wpHoldF_val (wanted_none rfl) (by intro K o d hK; go_simp; exact hK _ (Below.refl _ _)) ?_
  refine wpHoldF_late (wanted_none rfl) (fun w => by go_simp; rfl) ?_
  refine wpHoldF_nil ?_
  refine ⟨lays_key _ rfl rfl, fun g4x0 hg4x0 hn4x0 => ?_⟩
  intro w4 hb4 hblk4
  have A4x0 := Z2x0.out.grow hb4
  have c4x0 := Z2x0.out.2.2
  have A4x1 := Z2x1.out.grow hb4
  have c4x1 := Z2x1.out.2.2
  have A4x2 := Z2x2.out.grow hb4
  have c4x2 := Z2x2.out.2.2
  have N4x0 := RowAt.of (hblk4 0 g4x0 _ _ rfl rfl)
  have B4x0 := HB2.out.trans (hb4.mono HB2.out.size)
  have s4 := HB2.out.size
  have le4x0 : w.heap.size ≤ g4x0 := by omega
  have ne4x0x0 : ¬ w.heap.size = g4x0 := by omega
  have nf4x0x0 : ¬ g4x0 = w.heap.size := by omega
  have ne4x1x0 : ¬ w.heap.size + 1 = g4x0 := by omega
  have nf4x1x0 : ¬ g4x0 = w.heap.size + 1 := by omega
  have ne4x2x0 : ¬ g2x0 = g4x0 := by omega
  have nf4x2x0 : ¬ g4x0 = g2x0 := by omega
  have P4x0x0 := A4x0.other (show w.heap.size ≠ g4x0 by omega) (keyA x)
  have P4x0x1 := A4x1.other (show w.heap.size + 1 ≠ g4x0 by omega) (keyA x)
  have P4x0x2 := A4x2.other (show g2x0 ≠ g4x0 by omega) (keyA x)
  have P4x0x3 := N4x0.set (keyA x)
  have B4x1 := below_setRow B4x0 (show w.heap.size ≤ g4x0 by omega) (keyA x)
  have Z4x0 := Lib.hid P4x0x0
  have Z4x1 := Lib.hid P4x0x1
  have Z4x2 := Lib.hid P4x0x2
  have Z4x3 := Lib.hid P4x0x3
  have HB4 := Lib.hid B4x1
  clear hb4 hblk4 HB2 s4 Z2x0a Z2x0b Z2x0c Z2x1a Z2x1b Z2x1c Z2x2a Z2x2b Z2x2c Z2x0 Z2x1 Z2x2 c4x0 c4x1 c4x2 B4x0 B4x1 P4x0x0 P4x0x1 P4x0x2 P4x0x3 hg4x0 hn4x0
  obtain ⟨A4x0a, A4x0b, A4x0c⟩ := A4x0
  obtain ⟨A4x1a, A4x1b, A4x1c⟩ := A4x1
  obtain ⟨A4x2a, A4x2b, A4x2c⟩ := A4x2
  obtain ⟨N4x0a, N4x0b, N4x0c⟩ := N4x0
  go_wp2_with fail
  clear A4x0a A4x0b A4x0c A4x1a A4x1b A4x1c A4x2a A4x2b A4x2c N4x0a N4x0b N4x0c
  generalize World.setRow _ _ _ = W5 at *
  obtain ⟨Z4x0a, Z4x0b, Z4x0c⟩ := Z4x0.out
  obtain ⟨Z4x1a, Z4x1b, Z4x1c⟩ := Z4x1.out
  obtain ⟨Z4x2a, Z4x2b, Z4x2c⟩ := Z4x2.out
  obtain ⟨Z4x3a, Z4x3b, Z4x3c⟩ := Z4x3.out
  refine (shared_K 197121 0 0 7 H0.out H7.out _).mono ?_
  rintro e w' ⟨rfl, hbw⟩
  obtain ⟨oc1, nc1, rfl⟩ := below_plus hbw
  clear hbw
  have lt1x0 : w.heap.size < W5.heap.size + oc1.size := by omega
  have lt1x1 : w.heap.size + 1 < W5.heap.size + oc1.size := by omega
  have lt1x2 : g2x0 < W5.heap.size + oc1.size := by omega
  have lt1x3 : g4x0 < W5.heap.size + oc1.size := by omega
  go_wp2_with fail
  generalize hW : World.alloc _ _ = W6
  have R6x0 := Lib.hid (show RowAt W6 (w.heap.size) (keyA 197121) by rw [← hW]; clear hW; exact ⟨by go_simp, by go_simp, by go_simp⟩)
  have R6x1 := Lib.hid (show RowAt W6 (w.heap.size + 1) (keyA 394500) by rw [← hW]; clear hW; exact ⟨by go_simp, by go_simp, by go_simp⟩)
  have R6x2 := Lib.hid (show RowAt W6 (g2x0) (keyA x) by rw [← hW]; clear hW; exact ⟨by go_simp, by go_simp, by go_simp⟩)
  have R6x3 := Lib.hid (show RowAt W6 (g4x0) (keyA x) by rw [← hW]; clear hW; exact ⟨by go_simp, by go_simp, by go_simp⟩)
  have R6x4 := Lib.hid (show RowAt W6 (W5.heap.size + oc1.size) (keyA 0) by rw [← hW]; clear hW; exact ⟨by go_simp, by go_simp, by go_simp⟩)
  have HB6 := Lib.hid (show Below w.heap.size w W6 by rw [← hW]; repeat (first | apply below_more | apply below_alloc | apply Below.drew | refine below_setRow ?_ (by omega) _ | exact HB4.out))
  clear hW
  have lz6x0 : w.heap.size ≤ W5.heap.size + oc1.size := by have := HB4.out.size; omega
  have nz6x0x0 : ¬ w.heap.size = W5.heap.size + oc1.size := by omega
  have ny6x0x0 : ¬ W5.heap.size + oc1.size = w.heap.size := by omega
  have nz6x0x1 : ¬ w.heap.size + 1 = W5.heap.size + oc1.size := by omega
  have ny6x0x1 : ¬ W5.heap.size + oc1.size = w.heap.size + 1 := by omega
  have nz6x0x2 : ¬ g2x0 = W5.heap.size + oc1.size := by omega
  have ny6x0x2 : ¬ W5.heap.size + oc1.size = g2x0 := by omega
  have nz6x0x3 : ¬ g4x0 = W5.heap.size + oc1.size := by omega
  have ny6x0x3 : ¬ W5.heap.size + oc1.size = g4x0 := by omega
  clear Z4x0a Z4x0b Z4x0c Z4x1a Z4x1b Z4x1c Z4x2a Z4x2b Z4x2c Z4x3a Z4x3b Z4x3c Z4x0 Z4x1 Z4x2 Z4x3 HB4
  generalize W5.heap.size + oc1.size = g7 at *
  obtain ⟨R6x0a, R6x0b, R6x0c⟩ := R6x0.out
  obtain ⟨R6x1a, R6x1b, R6x1c⟩ := R6x1.out
  obtain ⟨R6x2a, R6x2b, R6x2c⟩ := R6x2.out
  obtain ⟨R6x3a, R6x3b, R6x3c⟩ := R6x3.out
  obtain ⟨R6x4a, R6x4b, R6x4c⟩ := R6x4.out
  refine (clamp_K 255 c Hc.out _).mono ?_
  rintro e w' ⟨rfl, hbw⟩
  obtain ⟨oc2, nc2, rfl⟩ := below_plus hbw
  clear hbw
  have lt2x0 : w.heap.size < W6.heap.size + oc2.size := by omega
  have lt2x1 : w.heap.size + 1 < W6.heap.size + oc2.size := by omega
  have lt2x2 : g2x0 < W6.heap.size + oc2.size := by omega
  have lt2x3 : g4x0 < W6.heap.size + oc2.size := by omega
  have lt2x4 : g7 < W6.heap.size + oc2.size := by omega
  go_wp2_with fail
  go_ret
  exact ⟨rfl, below_alloc (below_more HB6.out _ _) _⟩
end Go.Proofs.Ytpilonikhokjeaa
