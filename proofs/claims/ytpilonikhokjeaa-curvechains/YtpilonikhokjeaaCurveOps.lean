/-
  Package curve: a square, a fraction doubled, the sum of two fractions.
-/
import Derived.Test.YtpilonikhokjeaaCurveSwap
import Derived.Test.YtpilonikhokjeaaCurveNum
import Derived.Test.YtpilonikhokjeaaWalk
namespace Go.Proofs.Ytpilonikhokjeaa
open Go.RowKit Go.Shelf Go.Hold

set_option maxHeartbeats 2000000 in
set_option maxRecDepth 100000 in
theorem square_K (a c : Nat) (ha : a < 115792089237316195423570985008687907853269984665640564039457584007913129639936) (hc : Cv.nmul a a = c) (w : World) :
    Calls Try.prog 41 #[kv a] w fun e w' => e = .returned (kv c) ∧ Below w.heap.size w w' := by
  go_enter Try.func41, Try.ntmps41
  go_wp2_with fail
  refine (mul_K a a c ha ha hc _).mono ?_
  rintro e w' ⟨rfl, hbw⟩
  obtain ⟨oc1, nc1, rfl⟩ := below_plus hbw
  clear hbw
  go_wp2_with fail
  refine bodyPost_ret (v := kv c) (results_key Try.results41 _ _ _ rfl (by go_simp) (by go_simp)) rfl ⟨rfl, ?_⟩
  repeat (first | apply below_more | apply below_alloc | exact Below.refl _ _)

set_option maxHeartbeats 2000000 in
set_option maxRecDepth 100000 in
theorem twice_K (x z : Nat) (hx : x < 115792089237316195423570985008687907853269984665640564039457584007913129639936) (hz : z < 115792089237316195423570985008687907853269984665640564039457584007913129639936) (w : World) :
    Calls Try.prog 29 #[fv x z] w fun e w' => e = .returned (fv (Cv.ntw (x, z)).1 (Cv.ntw (x, z)).2) ∧ Below w.heap.size w w' := by
  show Calls Try.prog 29 #[fv x z] w fun e w' => e = .returned (fv (Cv.nmul (Cv.nmul (Cv.nadd x z) (Cv.nadd x z)) (Cv.nmul (Cv.nsub x z) (Cv.nsub x z)))
    (Cv.nmul (Cv.nsub (Cv.nmul (Cv.nadd x z) (Cv.nadd x z)) (Cv.nmul (Cv.nsub x z) (Cv.nsub x z))) (Cv.nadd (Cv.nmul (Cv.nadd x z) (Cv.nadd x z)) (Cv.nmul 121665 (Cv.nsub (Cv.nmul (Cv.nadd x z) (Cv.nadd x z)) (Cv.nmul (Cv.nsub x z) (Cv.nsub x z))))))) ∧ Below w.heap.size w w'
  obtain ⟨s, es⟩ : ∃ y, y = Cv.nadd x z := ⟨_, rfl⟩
  have ls : s < 115792089237316195423570985008687907853269984665640564039457584007913129639936 := by rw [es]; exact (Nat.lt_trans (Cv.nadd_lt _ _) P_lt)
  have Hs := Lib.hid es.symm
  obtain ⟨df, edf⟩ : ∃ y, y = Cv.nsub x z := ⟨_, rfl⟩
  have ldf : df < 115792089237316195423570985008687907853269984665640564039457584007913129639936 := by rw [edf]; exact (Nat.lt_trans (Cv.nsub_lt _ _) P_lt)
  have Hdf := Lib.hid edf.symm
  obtain ⟨aa, eaa⟩ : ∃ y, y = Cv.nmul s s := ⟨_, rfl⟩
  have laa : aa < 115792089237316195423570985008687907853269984665640564039457584007913129639936 := by rw [eaa]; exact (Nat.lt_trans (Cv.nmul_lt _ _) P_lt)
  have Haa := Lib.hid eaa.symm
  obtain ⟨bb, ebb⟩ : ∃ y, y = Cv.nmul df df := ⟨_, rfl⟩
  have lbb : bb < 115792089237316195423570985008687907853269984665640564039457584007913129639936 := by rw [ebb]; exact (Nat.lt_trans (Cv.nmul_lt _ _) P_lt)
  have Hbb := Lib.hid ebb.symm
  obtain ⟨ee, eee⟩ : ∃ y, y = Cv.nsub aa bb := ⟨_, rfl⟩
  have lee : ee < 115792089237316195423570985008687907853269984665640564039457584007913129639936 := by rw [eee]; exact (Nat.lt_trans (Cv.nsub_lt _ _) P_lt)
  have Hee := Lib.hid eee.symm
  obtain ⟨k, ek⟩ : ∃ y, y = Cv.nmul 121665 ee := ⟨_, rfl⟩
  have lk : k < 115792089237316195423570985008687907853269984665640564039457584007913129639936 := by rw [ek]; exact (Nat.lt_trans (Cv.nmul_lt _ _) P_lt)
  have Hk := Lib.hid ek.symm
  obtain ⟨t, et⟩ : ∃ y, y = Cv.nadd aa k := ⟨_, rfl⟩
  have lt : t < 115792089237316195423570985008687907853269984665640564039457584007913129639936 := by rw [et]; exact (Nat.lt_trans (Cv.nadd_lt _ _) P_lt)
  have Ht := Lib.hid et.symm
  obtain ⟨X, eX⟩ : ∃ y, y = Cv.nmul aa bb := ⟨_, rfl⟩
  have lX : X < 115792089237316195423570985008687907853269984665640564039457584007913129639936 := by rw [eX]; exact (Nat.lt_trans (Cv.nmul_lt _ _) P_lt)
  have HX := Lib.hid eX.symm
  obtain ⟨Z, eZ⟩ : ∃ y, y = Cv.nmul ee t := ⟨_, rfl⟩
  have lZ : Z < 115792089237316195423570985008687907853269984665640564039457584007913129639936 := by rw [eZ]; exact (Nat.lt_trans (Cv.nmul_lt _ _) P_lt)
  have HZ := Lib.hid eZ.symm
  rw [← es, ← edf, ← eaa, ← ebb, ← eee, ← ek, ← et, ← eX, ← eZ]
  clear es edf eaa ebb eee ek et eX eZ
  go_enter Try.func29, Try.ntmps29
  go_wp2_with fail
  generalize hW : World.alloc _ _ = W1
  have R1x0 := Lib.hid (show RowAt W1 (w.heap.size) (fracA x z) by rw [← hW]; clear hW; exact ⟨by go_simp, by go_simp, by go_simp⟩)
  have R1x1 := Lib.hid (show RowAt W1 (w.heap.size + 1) (#[.int .u8 0, .int .u8 0, .int .u8 0, .int .u8 0, .int .u8 0, .int .u8 0, .int .u8 0, .int .u8 0, .int .u8 0, .int .u8 0, .int .u8 0, .int .u8 0, .int .u8 0, .int .u8 0, .int .u8 0, .int .u8 0, .int .u8 0, .int .u8 0, .int .u8 0, .int .u8 0, .int .u8 0, .int .u8 0, .int .u8 0, .int .u8 0, .int .u8 0, .int .u8 0, .int .u8 0, .int .u8 0, .int .u8 0, .int .u8 0, .int .u8 0, .int .u8 0, .int .u8 0, .int .u8 0, .int .u8 0, .int .u8 0, .int .u8 0, .int .u8 0, .int .u8 0, .int .u8 0, .int .u8 0, .int .u8 0, .int .u8 0, .int .u8 0, .int .u8 0, .int .u8 0, .int .u8 0, .int .u8 0, .int .u8 0, .int .u8 0, .int .u8 0, .int .u8 0, .int .u8 0, .int .u8 0, .int .u8 0, .int .u8 0, .int .u8 0, .int .u8 0, .int .u8 0, .int .u8 0, .int .u8 0, .int .u8 0, .int .u8 0, .int .u8 0]) by rw [← hW]; clear hW; exact ⟨by go_simp, by go_simp, by go_simp⟩)
  have HB1 := Lib.hid (show Below w.heap.size w W1 by rw [← hW]; repeat (first | apply below_more | apply below_alloc | exact Below.refl _ _))
  clear hW
  obtain ⟨R1x0a, R1x0b, R1x0c⟩ := R1x0.out
  obtain ⟨R1x1a, R1x1b, R1x1c⟩ := R1x1.out
  refine wp_region_lays W1 12 [(23, #[.int .u8 0, .int .u8 0, .int .u8 0, .int .u8 0, .int .u8 0, .int .u8 0, .int .u8 0, .int .u8 0, .int .u8 0, .int .u8 0, .int .u8 0, .int .u8 0, .int .u8 0, .int .u8 0, .int .u8 0, .int .u8 0, .int .u8 0, .int .u8 0, .int .u8 0, .int .u8 0, .int .u8 0, .int .u8 0, .int .u8 0, .int .u8 0, .int .u8 0, .int .u8 0, .int .u8 0, .int .u8 0, .int .u8 0, .int .u8 0, .int .u8 0, .int .u8 0]), (23, #[.int .u8 0, .int .u8 0, .int .u8 0, .int .u8 0, .int .u8 0, .int .u8 0, .int .u8 0, .int .u8 0, .int .u8 0, .int .u8 0, .int .u8 0, .int .u8 0, .int .u8 0, .int .u8 0, .int .u8 0, .int .u8 0, .int .u8 0, .int .u8 0, .int .u8 0, .int .u8 0, .int .u8 0, .int .u8 0, .int .u8 0, .int .u8 0, .int .u8 0, .int .u8 0, .int .u8 0, .int .u8 0, .int .u8 0, .int .u8 0, .int .u8 0, .int .u8 0])] (by kernel_rfl) (by kernel_rfl) ((Below.refl _ _).drew) ?_
  simp only [List.take_succ_cons, List.take_zero, List.drop_succ_cons, List.drop_zero, List.length_cons, List.length_nil, Nat.reduceAdd]
  iterate 4 (refine wpHoldB_val (wanted_none rfl) (by intro K o d hK; go_simp; exact hK _ (Below.refl _ _)) ?_)
  refine wpHoldB_call (v := kv s) (wanted_none rfl) (by intro K o d hK; go_simp; refine (add_K x z s hx hz Hs.out _).mono ?_; rintro e w' ⟨rfl, hbw⟩; exact ⟨_, rfl, hK _ hbw⟩) ?_
  refine wpHoldB_call (v := kv aa) (wanted_none rfl) (by intro K o d hK; go_simp; refine (square_K s aa ls Haa.out _).mono ?_; rintro e w' ⟨rfl, hbw⟩; exact ⟨_, rfl, hK _ hbw⟩) ?_
  iterate 4 (refine wpHoldB_val (wanted_none rfl) (by intro K o d hK; go_simp; exact hK _ (Below.refl _ _)) ?_)
  refine wpHoldB_call (v := kv df) (wanted_none rfl) (by intro K o d hK; go_simp; refine (sub_K x z df hx hz Hdf.out _).mono ?_; rintro e w' ⟨rfl, hbw⟩; exact ⟨_, rfl, hK _ hbw⟩) ?_
  refine wpHoldB_call (v := kv bb) (wanted_none rfl) (by intro K o d hK; go_simp; refine (square_K df bb ldf Hbb.out _).mono ?_; rintro e w' ⟨rfl, hbw⟩; exact ⟨_, rfl, hK _ hbw⟩) ?_
  refine wpHoldB_nil ?_
  refine ⟨lays_key _ rfl rfl, fun g2x0 hg2x0 hn2x0 => ?_⟩
  refine ⟨lays_key _ rfl rfl, fun g2x1 hg2x1 hn2x1 => ?_⟩
  simp at hn2x1
  intro w2 hb2 hblk2
  have A2x0 := R1x0.out.grow hb2
  have c2x0 := R1x0.out.2.2
  have A2x1 := R1x1.out.grow hb2
  have c2x1 := R1x1.out.2.2
  have N2x0 := RowAt.of (hblk2 0 g2x0 _ _ rfl rfl)
  have N2x1 := RowAt.of (hblk2 1 g2x1 _ _ rfl rfl)
  have B2x0 := HB1.out.trans (hb2.mono HB1.out.size)
  have s2 := HB1.out.size
  have O2x0 := N2x0
  have P2x0x0 := A2x0.other (show w.heap.size ≠ g2x0 by omega) (keyA aa)
  have P2x0x1 := A2x1.other (show w.heap.size + 1 ≠ g2x0 by omega) (keyA aa)
  have Q2x0x0 := N2x0.set (keyA aa)
  have Q2x0x1 := N2x1.other (show g2x1 ≠ g2x0 by omega) (keyA aa)
  have B2x1 := below_setRow B2x0 (show w.heap.size ≤ g2x0 by omega) (keyA aa)
  have O2x1 := Q2x0x1
  have P2x1x0 := P2x0x0.other (show w.heap.size ≠ g2x1 by omega) (keyA bb)
  have P2x1x1 := P2x0x1.other (show w.heap.size + 1 ≠ g2x1 by omega) (keyA bb)
  have Q2x1x0 := Q2x0x0.other (show g2x0 ≠ g2x1 by omega) (keyA bb)
  have Q2x1x1 := Q2x0x1.set (keyA bb)
  have B2x2 := below_setRow B2x1 (show w.heap.size ≤ g2x1 by omega) (keyA bb)
  have Z2x0 := Lib.hid P2x1x0
  have Z2x1 := Lib.hid P2x1x1
  have Z2x2 := Lib.hid Q2x1x0
  have Z2x3 := Lib.hid Q2x1x1
  have HB2 := Lib.hid B2x2
  have ne2x0x0 : ¬ w.heap.size = g2x0 := by omega
  have nf2x0x0 : ¬ g2x0 = w.heap.size := by omega
  have ne2x0x1 : ¬ w.heap.size = g2x1 := by omega
  have nf2x0x1 : ¬ g2x1 = w.heap.size := by omega
  have ne2x1x0 : ¬ w.heap.size + 1 = g2x0 := by omega
  have nf2x1x0 : ¬ g2x0 = w.heap.size + 1 := by omega
  have ne2x1x1 : ¬ w.heap.size + 1 = g2x1 := by omega
  have nf2x1x1 : ¬ g2x1 = w.heap.size + 1 := by omega
  have ne2x2x1 : ¬ g2x0 = g2x1 := by omega
  have ne2x3x0 : ¬ g2x1 = g2x0 := by omega
  clear hb2 hblk2 HB1 s2 R1x0a R1x0b R1x0c R1x1a R1x1b R1x1c R1x0 R1x1 c2x0 c2x1 B2x0 B2x1 B2x2 O2x0 O2x1 P2x0x0 P2x0x1 Q2x0x0 Q2x0x1 P2x1x0 P2x1x1 Q2x1x0 Q2x1x1 hg2x0 hg2x1 hn2x0 hn2x1
  obtain ⟨A2x0a, A2x0b, A2x0c⟩ := A2x0
  obtain ⟨A2x1a, A2x1b, A2x1c⟩ := A2x1
  obtain ⟨N2x0a, N2x0b, N2x0c⟩ := N2x0
  obtain ⟨N2x1a, N2x1b, N2x1c⟩ := N2x1
  go_wp2_with fail
  clear A2x0a A2x0b A2x0c A2x1a A2x1b A2x1c N2x0a N2x0b N2x0c N2x1a N2x1b N2x1c ne2x0x0 nf2x0x0 ne2x0x1 nf2x0x1 ne2x1x0 nf2x1x0 ne2x1x1 nf2x1x1 ne2x2x1 ne2x3x0
  generalize World.setRow _ _ _ = W3 at *
  obtain ⟨Z2x0a, Z2x0b, Z2x0c⟩ := Z2x0.out
  obtain ⟨Z2x1a, Z2x1b, Z2x1c⟩ := Z2x1.out
  obtain ⟨Z2x2a, Z2x2b, Z2x2c⟩ := Z2x2.out
  obtain ⟨Z2x3a, Z2x3b, Z2x3c⟩ := Z2x3.out
  refine (sub_K aa bb ee laa lbb Hee.out _).mono ?_
  rintro e w' ⟨rfl, hbw⟩
  obtain ⟨oc2, nc2, rfl⟩ := below_plus hbw
  clear hbw
  go_wp2_with fail
  refine (mul_K 121665 ee k (by decide) lee Hk.out _).mono ?_
  rintro e w' ⟨rfl, hbw⟩
  obtain ⟨oc3, nc3, rfl⟩ := below_plus hbw
  clear hbw
  go_wp2_with fail
  generalize hW : World.alloc _ _ = W4
  have R4x0 := Lib.hid (show RowAt W4 (w.heap.size) (fracA x z) by rw [← hW]; clear hW; exact ⟨by go_simp, by go_simp, by go_simp⟩)
  have R4x1 := Lib.hid (show RowAt W4 (w.heap.size + 1) (#[.int .u8 0, .int .u8 0, .int .u8 0, .int .u8 0, .int .u8 0, .int .u8 0, .int .u8 0, .int .u8 0, .int .u8 0, .int .u8 0, .int .u8 0, .int .u8 0, .int .u8 0, .int .u8 0, .int .u8 0, .int .u8 0, .int .u8 0, .int .u8 0, .int .u8 0, .int .u8 0, .int .u8 0, .int .u8 0, .int .u8 0, .int .u8 0, .int .u8 0, .int .u8 0, .int .u8 0, .int .u8 0, .int .u8 0, .int .u8 0, .int .u8 0, .int .u8 0, .int .u8 0, .int .u8 0, .int .u8 0, .int .u8 0, .int .u8 0, .int .u8 0, .int .u8 0, .int .u8 0, .int .u8 0, .int .u8 0, .int .u8 0, .int .u8 0, .int .u8 0, .int .u8 0, .int .u8 0, .int .u8 0, .int .u8 0, .int .u8 0, .int .u8 0, .int .u8 0, .int .u8 0, .int .u8 0, .int .u8 0, .int .u8 0, .int .u8 0, .int .u8 0, .int .u8 0, .int .u8 0, .int .u8 0, .int .u8 0, .int .u8 0, .int .u8 0]) by rw [← hW]; clear hW; exact ⟨by go_simp, by go_simp, by go_simp⟩)
  have R4x2 := Lib.hid (show RowAt W4 (g2x0) (keyA aa) by rw [← hW]; clear hW; exact ⟨by go_simp, by go_simp, by go_simp⟩)
  have R4x3 := Lib.hid (show RowAt W4 (g2x1) (keyA bb) by rw [← hW]; clear hW; exact ⟨by go_simp, by go_simp, by go_simp⟩)
  have R4x4 := Lib.hid (show RowAt W4 (W3.heap.size + oc2.size) (keyA ee) by rw [← hW]; clear hW; exact ⟨by go_simp, by go_simp, by go_simp⟩)
  have R4x5 := Lib.hid (show RowAt W4 (W3.heap.size + oc2.size + 1 + oc3.size) (keyA k) by rw [← hW]; clear hW; exact ⟨by go_simp, by go_simp, by go_simp⟩)
  have HB4 := Lib.hid (show Below w.heap.size w W4 by rw [← hW]; repeat (first | apply below_more | apply below_alloc | exact HB2.out))
  clear hW
  clear Z2x0a Z2x0b Z2x0c Z2x1a Z2x1b Z2x1c Z2x2a Z2x2b Z2x2c Z2x3a Z2x3b Z2x3c Z2x0 Z2x1 Z2x2 Z2x3 HB2
  obtain ⟨R4x0a, R4x0b, R4x0c⟩ := R4x0.out
  obtain ⟨R4x1a, R4x1b, R4x1c⟩ := R4x1.out
  obtain ⟨R4x2a, R4x2b, R4x2c⟩ := R4x2.out
  obtain ⟨R4x3a, R4x3b, R4x3c⟩ := R4x3.out
  obtain ⟨R4x4a, R4x4b, R4x4c⟩ := R4x4.out
  obtain ⟨R4x5a, R4x5b, R4x5c⟩ := R4x5.out
  refine wp_region_hold (fun w' => ∃ o d, w' = W4.plus o d) 9 (by kernel_rfl) (by kernel_rfl) ⟨#[], _, rfl⟩ ?_
  simp only [List.take_succ_cons, List.take_zero, List.drop_succ_cons, List.drop_zero]
  iterate 2 (refine wpHold_val ⟨_, #[], 0, rfl⟩ (wanted_none rfl) (by rintro K _ ⟨o, d, rfl⟩ hK; go_simp; exact hK _ ⟨o, d, rfl⟩) ?_)
  refine wpHold_call (v := kv X) (wanted_none rfl) (by rintro K _ ⟨o, d, rfl⟩ hK; go_simp; refine (mul_K aa bb X laa lbb HX.out _).mono ?_; rintro e w' ⟨rfl, hbw⟩; obtain ⟨o', n', rfl⟩ := below_plus hbw; exact ⟨_, rfl, hK _ ⟨_, _, World.plus_plus _ _ _ _ _⟩⟩) ?_
  iterate 3 (refine wpHold_val ⟨_, #[], 0, rfl⟩ (wanted_none rfl) (by rintro K _ ⟨o, d, rfl⟩ hK; go_simp; exact hK _ ⟨o, d, rfl⟩) ?_)
  refine wpHold_call (v := kv t) (wanted_none rfl) (by rintro K _ ⟨o, d, rfl⟩ hK; go_simp; refine (add_K aa k t laa lk Ht.out _).mono ?_; rintro e w' ⟨rfl, hbw⟩; obtain ⟨o', n', rfl⟩ := below_plus hbw; exact ⟨_, rfl, hK _ ⟨_, _, World.plus_plus _ _ _ _ _⟩⟩) ?_
  refine wpHold_call (v := kv Z) (wanted_none rfl) (by rintro K _ ⟨o, d, rfl⟩ hK; go_simp; refine (mul_K ee t Z lee lt HZ.out _).mono ?_; rintro e w' ⟨rfl, hbw⟩; obtain ⟨o', n', rfl⟩ := below_plus hbw; exact ⟨_, rfl, hK _ ⟨_, _, World.plus_plus _ _ _ _ _⟩⟩) ?_
  refine wpHold_val ⟨_, #[], 0, rfl⟩ (wanted_none rfl) (by rintro K _ ⟨o, d, rfl⟩ hK; go_simp; exact hK _ ⟨o, d, rfl⟩) ?_
  refine wpHold_nil ?_
  rintro _ ⟨oh5, nh5, rfl⟩
  go_wp2_with fail
  refine bodyPost_ret (v := fv X Z) (results_frac Try.results29 _ _ _ rfl (by go_simp) (by go_simp)) rfl ⟨rfl, ?_⟩
  exact below_more (below_setRow HB4.out (by omega) _) _ _

set_option maxHeartbeats 2000000 in
set_option maxRecDepth 100000 in
theorem sum_K (x z x3 z3 x1 : Nat) (hx : x < 115792089237316195423570985008687907853269984665640564039457584007913129639936) (hz : z < 115792089237316195423570985008687907853269984665640564039457584007913129639936) (hx3 : x3 < 115792089237316195423570985008687907853269984665640564039457584007913129639936) (hz3 : z3 < 115792089237316195423570985008687907853269984665640564039457584007913129639936) (hx1 : x1 < 115792089237316195423570985008687907853269984665640564039457584007913129639936) (w : World) :
    Calls Try.prog 30 #[fv x z, fv x3 z3, kv x1] w fun e w' => e = .returned (fv (Cv.nsm x1 (x, z) (x3, z3)).1 (Cv.nsm x1 (x, z) (x3, z3)).2) ∧ Below w.heap.size w w' := by
  show Calls Try.prog 30 #[fv x z, fv x3 z3, kv x1] w fun e w' => e = .returned (fv (Cv.nmul (Cv.nadd (Cv.nmul (Cv.nsub x3 z3) (Cv.nadd x z)) (Cv.nmul (Cv.nadd x3 z3) (Cv.nsub x z))) (Cv.nadd (Cv.nmul (Cv.nsub x3 z3) (Cv.nadd x z)) (Cv.nmul (Cv.nadd x3 z3) (Cv.nsub x z))))
    (Cv.nmul x1 (Cv.nmul (Cv.nsub (Cv.nmul (Cv.nsub x3 z3) (Cv.nadd x z)) (Cv.nmul (Cv.nadd x3 z3) (Cv.nsub x z))) (Cv.nsub (Cv.nmul (Cv.nsub x3 z3) (Cv.nadd x z)) (Cv.nmul (Cv.nadd x3 z3) (Cv.nsub x z)))))) ∧ Below w.heap.size w w'
  obtain ⟨bm, ebm⟩ : ∃ y, y = Cv.nsub x3 z3 := ⟨_, rfl⟩
  have lbm : bm < 115792089237316195423570985008687907853269984665640564039457584007913129639936 := by rw [ebm]; exact (Nat.lt_trans (Cv.nsub_lt _ _) P_lt)
  have Hbm := Lib.hid ebm.symm
  obtain ⟨ap, eap⟩ : ∃ y, y = Cv.nadd x z := ⟨_, rfl⟩
  have lap : ap < 115792089237316195423570985008687907853269984665640564039457584007913129639936 := by rw [eap]; exact (Nat.lt_trans (Cv.nadd_lt _ _) P_lt)
  have Hap := Lib.hid eap.symm
  obtain ⟨dd, edd⟩ : ∃ y, y = Cv.nmul bm ap := ⟨_, rfl⟩
  have ldd : dd < 115792089237316195423570985008687907853269984665640564039457584007913129639936 := by rw [edd]; exact (Nat.lt_trans (Cv.nmul_lt _ _) P_lt)
  have Hdd := Lib.hid edd.symm
  obtain ⟨bp, ebp⟩ : ∃ y, y = Cv.nadd x3 z3 := ⟨_, rfl⟩
  have lbp : bp < 115792089237316195423570985008687907853269984665640564039457584007913129639936 := by rw [ebp]; exact (Nat.lt_trans (Cv.nadd_lt _ _) P_lt)
  have Hbp := Lib.hid ebp.symm
  obtain ⟨am, eam⟩ : ∃ y, y = Cv.nsub x z := ⟨_, rfl⟩
  have lam : am < 115792089237316195423570985008687907853269984665640564039457584007913129639936 := by rw [eam]; exact (Nat.lt_trans (Cv.nsub_lt _ _) P_lt)
  have Ham := Lib.hid eam.symm
  obtain ⟨cc, ecc⟩ : ∃ y, y = Cv.nmul bp am := ⟨_, rfl⟩
  have lcc : cc < 115792089237316195423570985008687907853269984665640564039457584007913129639936 := by rw [ecc]; exact (Nat.lt_trans (Cv.nmul_lt _ _) P_lt)
  have Hcc := Lib.hid ecc.symm
  obtain ⟨s, es⟩ : ∃ y, y = Cv.nadd dd cc := ⟨_, rfl⟩
  have ls : s < 115792089237316195423570985008687907853269984665640564039457584007913129639936 := by rw [es]; exact (Nat.lt_trans (Cv.nadd_lt _ _) P_lt)
  have Hs := Lib.hid es.symm
  obtain ⟨t, et⟩ : ∃ y, y = Cv.nsub dd cc := ⟨_, rfl⟩
  have lt : t < 115792089237316195423570985008687907853269984665640564039457584007913129639936 := by rw [et]; exact (Nat.lt_trans (Cv.nsub_lt _ _) P_lt)
  have Ht := Lib.hid et.symm
  obtain ⟨X, eX⟩ : ∃ y, y = Cv.nmul s s := ⟨_, rfl⟩
  have lX : X < 115792089237316195423570985008687907853269984665640564039457584007913129639936 := by rw [eX]; exact (Nat.lt_trans (Cv.nmul_lt _ _) P_lt)
  have HX := Lib.hid eX.symm
  obtain ⟨tt, ett⟩ : ∃ y, y = Cv.nmul t t := ⟨_, rfl⟩
  have ltt : tt < 115792089237316195423570985008687907853269984665640564039457584007913129639936 := by rw [ett]; exact (Nat.lt_trans (Cv.nmul_lt _ _) P_lt)
  have Htt := Lib.hid ett.symm
  obtain ⟨Z, eZ⟩ : ∃ y, y = Cv.nmul x1 tt := ⟨_, rfl⟩
  have lZ : Z < 115792089237316195423570985008687907853269984665640564039457584007913129639936 := by rw [eZ]; exact (Nat.lt_trans (Cv.nmul_lt _ _) P_lt)
  have HZ := Lib.hid eZ.symm
  rw [← ebm, ← eap, ← edd, ← ebp, ← eam, ← ecc, ← es, ← et, ← eX, ← ett, ← eZ]
  clear ebm eap edd ebp eam ecc es et eX ett eZ
  go_enter Try.func30, Try.ntmps30
  go_wp2_with fail
  generalize hW : World.alloc _ _ = W1
  have R1x0 := Lib.hid (show RowAt W1 (w.heap.size) (fracA x z) by rw [← hW]; clear hW; exact ⟨by go_simp, by go_simp, by go_simp⟩)
  have R1x1 := Lib.hid (show RowAt W1 (w.heap.size + 1) (fracA x3 z3) by rw [← hW]; clear hW; exact ⟨by go_simp, by go_simp, by go_simp⟩)
  have R1x2 := Lib.hid (show RowAt W1 (w.heap.size + 1 + 1) (keyA x1) by rw [← hW]; clear hW; exact ⟨by go_simp, by go_simp, by go_simp⟩)
  have R1x3 := Lib.hid (show RowAt W1 (w.heap.size + 1 + 1 + 1) (#[.int .u8 0, .int .u8 0, .int .u8 0, .int .u8 0, .int .u8 0, .int .u8 0, .int .u8 0, .int .u8 0, .int .u8 0, .int .u8 0, .int .u8 0, .int .u8 0, .int .u8 0, .int .u8 0, .int .u8 0, .int .u8 0, .int .u8 0, .int .u8 0, .int .u8 0, .int .u8 0, .int .u8 0, .int .u8 0, .int .u8 0, .int .u8 0, .int .u8 0, .int .u8 0, .int .u8 0, .int .u8 0, .int .u8 0, .int .u8 0, .int .u8 0, .int .u8 0, .int .u8 0, .int .u8 0, .int .u8 0, .int .u8 0, .int .u8 0, .int .u8 0, .int .u8 0, .int .u8 0, .int .u8 0, .int .u8 0, .int .u8 0, .int .u8 0, .int .u8 0, .int .u8 0, .int .u8 0, .int .u8 0, .int .u8 0, .int .u8 0, .int .u8 0, .int .u8 0, .int .u8 0, .int .u8 0, .int .u8 0, .int .u8 0, .int .u8 0, .int .u8 0, .int .u8 0, .int .u8 0, .int .u8 0, .int .u8 0, .int .u8 0, .int .u8 0]) by rw [← hW]; clear hW; exact ⟨by go_simp, by go_simp, by go_simp⟩)
  have HB1 := Lib.hid (show Below w.heap.size w W1 by rw [← hW]; repeat (first | apply below_more | apply below_alloc | exact Below.refl _ _))
  clear hW
  obtain ⟨R1x0a, R1x0b, R1x0c⟩ := R1x0.out
  obtain ⟨R1x1a, R1x1b, R1x1c⟩ := R1x1.out
  obtain ⟨R1x2a, R1x2b, R1x2c⟩ := R1x2.out
  obtain ⟨R1x3a, R1x3b, R1x3c⟩ := R1x3.out
  refine wp_region_lays W1 11 [(23, #[.int .u8 0, .int .u8 0, .int .u8 0, .int .u8 0, .int .u8 0, .int .u8 0, .int .u8 0, .int .u8 0, .int .u8 0, .int .u8 0, .int .u8 0, .int .u8 0, .int .u8 0, .int .u8 0, .int .u8 0, .int .u8 0, .int .u8 0, .int .u8 0, .int .u8 0, .int .u8 0, .int .u8 0, .int .u8 0, .int .u8 0, .int .u8 0, .int .u8 0, .int .u8 0, .int .u8 0, .int .u8 0, .int .u8 0, .int .u8 0, .int .u8 0, .int .u8 0])] (by kernel_rfl) (by kernel_rfl) ((Below.refl _ _).drew) ?_
  simp only [List.take_succ_cons, List.take_zero, List.drop_succ_cons, List.drop_zero, List.length_cons, List.length_nil, Nat.reduceAdd]
  iterate 4 (refine wpHoldB_val (wanted_none rfl) (by intro K o d hK; go_simp; exact hK _ (Below.refl _ _)) ?_)
  refine wpHoldB_call (v := kv bm) (wanted_none rfl) (by intro K o d hK; go_simp; refine (sub_K x3 z3 bm hx3 hz3 Hbm.out _).mono ?_; rintro e w' ⟨rfl, hbw⟩; exact ⟨_, rfl, hK _ hbw⟩) ?_
  iterate 4 (refine wpHoldB_val (wanted_none rfl) (by intro K o d hK; go_simp; exact hK _ (Below.refl _ _)) ?_)
  refine wpHoldB_call (v := kv ap) (wanted_none rfl) (by intro K o d hK; go_simp; refine (add_K x z ap hx hz Hap.out _).mono ?_; rintro e w' ⟨rfl, hbw⟩; exact ⟨_, rfl, hK _ hbw⟩) ?_
  refine wpHoldB_call (v := kv dd) (wanted_none rfl) (by intro K o d hK; go_simp; refine (mul_K bm ap dd lbm lap Hdd.out _).mono ?_; rintro e w' ⟨rfl, hbw⟩; exact ⟨_, rfl, hK _ hbw⟩) ?_
  refine wpHoldB_nil ?_
  refine ⟨lays_key _ rfl rfl, fun g2x0 hg2x0 hn2x0 => ?_⟩
  intro w2 hb2 hblk2
  have A2x0 := R1x0.out.grow hb2
  have c2x0 := R1x0.out.2.2
  have A2x1 := R1x1.out.grow hb2
  have c2x1 := R1x1.out.2.2
  have A2x2 := R1x2.out.grow hb2
  have c2x2 := R1x2.out.2.2
  have A2x3 := R1x3.out.grow hb2
  have c2x3 := R1x3.out.2.2
  have N2x0 := RowAt.of (hblk2 0 g2x0 _ _ rfl rfl)
  have B2x0 := HB1.out.trans (hb2.mono HB1.out.size)
  have s2 := HB1.out.size
  have O2x0 := N2x0
  have P2x0x0 := A2x0.other (show w.heap.size ≠ g2x0 by omega) (keyA dd)
  have P2x0x1 := A2x1.other (show w.heap.size + 1 ≠ g2x0 by omega) (keyA dd)
  have P2x0x2 := A2x2.other (show w.heap.size + 1 + 1 ≠ g2x0 by omega) (keyA dd)
  have P2x0x3 := A2x3.other (show w.heap.size + 1 + 1 + 1 ≠ g2x0 by omega) (keyA dd)
  have Q2x0x0 := N2x0.set (keyA dd)
  have B2x1 := below_setRow B2x0 (show w.heap.size ≤ g2x0 by omega) (keyA dd)
  have Z2x0 := Lib.hid P2x0x0
  have Z2x1 := Lib.hid P2x0x1
  have Z2x2 := Lib.hid P2x0x2
  have Z2x3 := Lib.hid P2x0x3
  have Z2x4 := Lib.hid Q2x0x0
  have HB2 := Lib.hid B2x1
  have ne2x0x0 : ¬ w.heap.size = g2x0 := by omega
  have nf2x0x0 : ¬ g2x0 = w.heap.size := by omega
  have ne2x1x0 : ¬ w.heap.size + 1 = g2x0 := by omega
  have nf2x1x0 : ¬ g2x0 = w.heap.size + 1 := by omega
  have ne2x2x0 : ¬ w.heap.size + 1 + 1 = g2x0 := by omega
  have nf2x2x0 : ¬ g2x0 = w.heap.size + 1 + 1 := by omega
  have ne2x3x0 : ¬ w.heap.size + 1 + 1 + 1 = g2x0 := by omega
  have nf2x3x0 : ¬ g2x0 = w.heap.size + 1 + 1 + 1 := by omega
  clear hb2 hblk2 HB1 s2 R1x0a R1x0b R1x0c R1x1a R1x1b R1x1c R1x2a R1x2b R1x2c R1x3a R1x3b R1x3c R1x0 R1x1 R1x2 R1x3 c2x0 c2x1 c2x2 c2x3 B2x0 B2x1 O2x0 P2x0x0 P2x0x1 P2x0x2 P2x0x3 Q2x0x0 hg2x0 hn2x0
  obtain ⟨A2x0a, A2x0b, A2x0c⟩ := A2x0
  obtain ⟨A2x1a, A2x1b, A2x1c⟩ := A2x1
  obtain ⟨A2x2a, A2x2b, A2x2c⟩ := A2x2
  obtain ⟨A2x3a, A2x3b, A2x3c⟩ := A2x3
  obtain ⟨N2x0a, N2x0b, N2x0c⟩ := N2x0
  go_wp2_with fail
  clear A2x0a A2x0b A2x0c A2x1a A2x1b A2x1c A2x2a A2x2b A2x2c A2x3a A2x3b A2x3c N2x0a N2x0b N2x0c ne2x0x0 nf2x0x0 ne2x1x0 nf2x1x0 ne2x2x0 nf2x2x0 ne2x3x0 nf2x3x0
  generalize World.setRow _ _ _ = W3 at *
  obtain ⟨Z2x0a, Z2x0b, Z2x0c⟩ := Z2x0.out
  obtain ⟨Z2x1a, Z2x1b, Z2x1c⟩ := Z2x1.out
  obtain ⟨Z2x2a, Z2x2b, Z2x2c⟩ := Z2x2.out
  obtain ⟨Z2x3a, Z2x3b, Z2x3c⟩ := Z2x3.out
  obtain ⟨Z2x4a, Z2x4b, Z2x4c⟩ := Z2x4.out
  refine wp_region_lays W3 11 [(23, #[.int .u8 0, .int .u8 0, .int .u8 0, .int .u8 0, .int .u8 0, .int .u8 0, .int .u8 0, .int .u8 0, .int .u8 0, .int .u8 0, .int .u8 0, .int .u8 0, .int .u8 0, .int .u8 0, .int .u8 0, .int .u8 0, .int .u8 0, .int .u8 0, .int .u8 0, .int .u8 0, .int .u8 0, .int .u8 0, .int .u8 0, .int .u8 0, .int .u8 0, .int .u8 0, .int .u8 0, .int .u8 0, .int .u8 0, .int .u8 0, .int .u8 0, .int .u8 0])] (by kernel_rfl) (by kernel_rfl) ((Below.refl _ _).drew) ?_
  simp only [List.take_succ_cons, List.take_zero, List.drop_succ_cons, List.drop_zero, List.length_cons, List.length_nil, Nat.reduceAdd]
  iterate 4 (refine wpHoldB_val (wanted_none rfl) (by intro K o d hK; go_simp; exact hK _ (Below.refl _ _)) ?_)
  refine wpHoldB_call (v := kv bp) (wanted_none rfl) (by intro K o d hK; go_simp; refine (add_K x3 z3 bp hx3 hz3 Hbp.out _).mono ?_; rintro e w' ⟨rfl, hbw⟩; exact ⟨_, rfl, hK _ hbw⟩) ?_
  iterate 4 (refine wpHoldB_val (wanted_none rfl) (by intro K o d hK; go_simp; exact hK _ (Below.refl _ _)) ?_)
  refine wpHoldB_call (v := kv am) (wanted_none rfl) (by intro K o d hK; go_simp; refine (sub_K x z am hx hz Ham.out _).mono ?_; rintro e w' ⟨rfl, hbw⟩; exact ⟨_, rfl, hK _ hbw⟩) ?_
  refine wpHoldB_call (v := kv cc) (wanted_none rfl) (by intro K o d hK; go_simp; refine (mul_K bp am cc lbp lam Hcc.out _).mono ?_; rintro e w' ⟨rfl, hbw⟩; exact ⟨_, rfl, hK _ hbw⟩) ?_
  refine wpHoldB_nil ?_
  refine ⟨lays_key _ rfl rfl, fun g4x0 hg4x0 hn4x0 => ?_⟩
  intro w4 hb4 hblk4
  have A4x0 := Z2x0.out.grow hb4
  have c4x0 := Z2x0.out.2.2
  have A4x1 := Z2x1.out.grow hb4
  have c4x1 := Z2x1.out.2.2
  have A4x2 := Z2x2.out.grow hb4
  have c4x2 := Z2x2.out.2.2
  have A4x3 := Z2x3.out.grow hb4
  have c4x3 := Z2x3.out.2.2
  have A4x4 := Z2x4.out.grow hb4
  have c4x4 := Z2x4.out.2.2
  have N4x0 := RowAt.of (hblk4 0 g4x0 _ _ rfl rfl)
  have B4x0 := HB2.out.trans (hb4.mono HB2.out.size)
  have s4 := HB2.out.size
  have O4x0 := N4x0
  have P4x0x0 := A4x0.other (show w.heap.size ≠ g4x0 by omega) (keyA cc)
  have P4x0x1 := A4x1.other (show w.heap.size + 1 ≠ g4x0 by omega) (keyA cc)
  have P4x0x2 := A4x2.other (show w.heap.size + 1 + 1 ≠ g4x0 by omega) (keyA cc)
  have P4x0x3 := A4x3.other (show w.heap.size + 1 + 1 + 1 ≠ g4x0 by omega) (keyA cc)
  have P4x0x4 := A4x4.other (show g2x0 ≠ g4x0 by omega) (keyA cc)
  have Q4x0x0 := N4x0.set (keyA cc)
  have B4x1 := below_setRow B4x0 (show w.heap.size ≤ g4x0 by omega) (keyA cc)
  have Z4x0 := Lib.hid P4x0x0
  have Z4x1 := Lib.hid P4x0x1
  have Z4x2 := Lib.hid P4x0x2
  have Z4x3 := Lib.hid P4x0x3
  have Z4x4 := Lib.hid P4x0x4
  have Z4x5 := Lib.hid Q4x0x0
  have HB4 := Lib.hid B4x1
  have ne4x0x0 : ¬ w.heap.size = g4x0 := by omega
  have nf4x0x0 : ¬ g4x0 = w.heap.size := by omega
  have ne4x1x0 : ¬ w.heap.size + 1 = g4x0 := by omega
  have nf4x1x0 : ¬ g4x0 = w.heap.size + 1 := by omega
  have ne4x2x0 : ¬ w.heap.size + 1 + 1 = g4x0 := by omega
  have nf4x2x0 : ¬ g4x0 = w.heap.size + 1 + 1 := by omega
  have ne4x3x0 : ¬ w.heap.size + 1 + 1 + 1 = g4x0 := by omega
  have nf4x3x0 : ¬ g4x0 = w.heap.size + 1 + 1 + 1 := by omega
  have ne4x4x0 : ¬ g2x0 = g4x0 := by omega
  have nf4x4x0 : ¬ g4x0 = g2x0 := by omega
  clear hb4 hblk4 HB2 s4 Z2x0a Z2x0b Z2x0c Z2x1a Z2x1b Z2x1c Z2x2a Z2x2b Z2x2c Z2x3a Z2x3b Z2x3c Z2x4a Z2x4b Z2x4c Z2x0 Z2x1 Z2x2 Z2x3 Z2x4 c4x0 c4x1 c4x2 c4x3 c4x4 B4x0 B4x1 O4x0 P4x0x0 P4x0x1 P4x0x2 P4x0x3 P4x0x4 Q4x0x0 hg4x0 hn4x0
  obtain ⟨A4x0a, A4x0b, A4x0c⟩ := A4x0
  obtain ⟨A4x1a, A4x1b, A4x1c⟩ := A4x1
  obtain ⟨A4x2a, A4x2b, A4x2c⟩ := A4x2
  obtain ⟨A4x3a, A4x3b, A4x3c⟩ := A4x3
  obtain ⟨A4x4a, A4x4b, A4x4c⟩ := A4x4
  obtain ⟨N4x0a, N4x0b, N4x0c⟩ := N4x0
  go_wp2_with fail
  clear A4x0a A4x0b A4x0c A4x1a A4x1b A4x1c A4x2a A4x2b A4x2c A4x3a A4x3b A4x3c A4x4a A4x4b A4x4c N4x0a N4x0b N4x0c ne4x0x0 nf4x0x0 ne4x1x0 nf4x1x0 ne4x2x0 nf4x2x0 ne4x3x0 nf4x3x0 ne4x4x0 nf4x4x0
  generalize World.setRow _ _ _ = W5 at *
  obtain ⟨Z4x0a, Z4x0b, Z4x0c⟩ := Z4x0.out
  obtain ⟨Z4x1a, Z4x1b, Z4x1c⟩ := Z4x1.out
  obtain ⟨Z4x2a, Z4x2b, Z4x2c⟩ := Z4x2.out
  obtain ⟨Z4x3a, Z4x3b, Z4x3c⟩ := Z4x3.out
  obtain ⟨Z4x4a, Z4x4b, Z4x4c⟩ := Z4x4.out
  obtain ⟨Z4x5a, Z4x5b, Z4x5c⟩ := Z4x5.out
  refine wp_region_hold (fun w' => ∃ o d, w' = W5.plus o d) 11 (by kernel_rfl) (by kernel_rfl) ⟨#[], _, rfl⟩ ?_
  simp only [List.take_succ_cons, List.take_zero, List.drop_succ_cons, List.drop_zero]
  iterate 2 (refine wpHold_val ⟨_, #[], 0, rfl⟩ (wanted_none rfl) (by rintro K _ ⟨o, d, rfl⟩ hK; go_simp; exact hK _ ⟨o, d, rfl⟩) ?_)
  refine wpHold_call (v := kv s) (wanted_none rfl) (by rintro K _ ⟨o, d, rfl⟩ hK; go_simp; refine (add_K dd cc s ldd lcc Hs.out _).mono ?_; rintro e w' ⟨rfl, hbw⟩; obtain ⟨o', n', rfl⟩ := below_plus hbw; exact ⟨_, rfl, hK _ ⟨_, _, World.plus_plus _ _ _ _ _⟩⟩) ?_
  refine wpHold_call (v := kv X) (wanted_none rfl) (by rintro K _ ⟨o, d, rfl⟩ hK; go_simp; refine (square_K s X ls HX.out _).mono ?_; rintro e w' ⟨rfl, hbw⟩; obtain ⟨o', n', rfl⟩ := below_plus hbw; exact ⟨_, rfl, hK _ ⟨_, _, World.plus_plus _ _ _ _ _⟩⟩) ?_
  iterate 3 (refine wpHold_val ⟨_, #[], 0, rfl⟩ (wanted_none rfl) (by rintro K _ ⟨o, d, rfl⟩ hK; go_simp; exact hK _ ⟨o, d, rfl⟩) ?_)
  refine wpHold_call (v := kv t) (wanted_none rfl) (by rintro K _ ⟨o, d, rfl⟩ hK; go_simp; refine (sub_K dd cc t ldd lcc Ht.out _).mono ?_; rintro e w' ⟨rfl, hbw⟩; obtain ⟨o', n', rfl⟩ := below_plus hbw; exact ⟨_, rfl, hK _ ⟨_, _, World.plus_plus _ _ _ _ _⟩⟩) ?_
  refine wpHold_call (v := kv tt) (wanted_none rfl) (by rintro K _ ⟨o, d, rfl⟩ hK; go_simp; refine (square_K t tt lt Htt.out _).mono ?_; rintro e w' ⟨rfl, hbw⟩; obtain ⟨o', n', rfl⟩ := below_plus hbw; exact ⟨_, rfl, hK _ ⟨_, _, World.plus_plus _ _ _ _ _⟩⟩) ?_
  refine wpHold_call (v := kv Z) (wanted_none rfl) (by rintro K _ ⟨o, d, rfl⟩ hK; go_simp; refine (mul_K x1 tt Z hx1 ltt HZ.out _).mono ?_; rintro e w' ⟨rfl, hbw⟩; obtain ⟨o', n', rfl⟩ := below_plus hbw; exact ⟨_, rfl, hK _ ⟨_, _, World.plus_plus _ _ _ _ _⟩⟩) ?_
  refine wpHold_val ⟨_, #[], 0, rfl⟩ (wanted_none rfl) (by rintro K _ ⟨o, d, rfl⟩ hK; go_simp; exact hK _ ⟨o, d, rfl⟩) ?_
  refine wpHold_nil ?_
  rintro _ ⟨oh6, nh6, rfl⟩
  go_wp2_with fail
  refine bodyPost_ret (v := fv X Z) (results_frac Try.results30 _ _ _ rfl (by go_simp) (by go_simp)) rfl ⟨rfl, ?_⟩
  exact below_more (below_setRow HB4.out (by omega) _) _ _

end Go.Proofs.Ytpilonikhokjeaa
