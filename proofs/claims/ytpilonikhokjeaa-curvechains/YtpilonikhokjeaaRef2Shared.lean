/-
  The reference's answer for layer 2: Clamp, Point, Shared, Public, Chain.
-/
import Derived.Test.YtpilonikhokjeaaRef2Times
import Derived.Test.YtpilonikhokjeaaCurveAlive
namespace Go.Proofs.Ytpilonikhokjeaa
open Go.RowKit Go.Shelf Go.Hold

theorem rtimes_V (x1 m r : Nat) (hx1 : x1 < 115792089237316195423570985008687907853269984665640564039457584007913129639936) (h : Cv.nT m x1 = r) (w : World) : Calls Try.prog 23 #[kv m, kv x1] w fun e w' => e = .returned (kv r) ∧ Below w.heap.size w w' := by
  subst h; exact rtimes_K x1 m hx1 w
theorem byte_quo : ∀ b : Nat, b < 256 → (b : Int).tdiv 8 % 256 * 8 % 256 = ((b / 8 * 8 : Nat) : Int) := by decide +kernel
theorem byte_rem : ∀ b : Nat, b < 256 → ((b : Int).tmod 64 + 64) % 256 = ((b % 64 + 64 : Nat) : Int) := by decide +kernel
theorem byte_rem2 : ∀ b : Nat, b < 256 → ((b : Int).tmod 128) = ((b % 128 : Nat) : Int) := by decide +kernel
theorem rclamp_b0 (k : Nat) : (bt k 0).tdiv 8 % 256 * 8 % 256 = bt (Cv.clampN k) 0 := by
  rw [clamp_bt0]; unfold bt
  rw [byte_quo _ (Nat.mod_lt _ (by decide)), Int.natCast_mul, Int.natCast_ediv]; rfl
theorem rclamp_b31 (k : Nat) : ((bt k 31).tmod 64 + 64) % 256 = bt (Cv.clampN k) 31 := by
  rw [clamp_bt31]; unfold bt
  rw [byte_rem _ (Nat.mod_lt _ (by decide))]; omega
theorem rpt_b31 (k : Nat) : (bt k 31).tmod 128 = bt (ptN k) 31 := by
  rw [pt_bt31]; unfold bt
  rw [byte_rem2 _ (Nat.mod_lt _ (by decide))]; omega
set_option maxHeartbeats 2000000 in
set_option maxRecDepth 100000 in
theorem rclamp_K (k c : Nat) (hc : Cv.clampN k = c) (w : World) : Calls Try.prog 13 #[kv k] w fun e w' => e = .returned (kv c) ∧ Below w.heap.size w w' := by
  have h0 := rclamp_b0 k
  have h31 := rclamp_b31 k
  have hs := clamp_cells k
  rw [hc] at h0 h31 hs
  have ha := set0_at31 k (.int .u8 (bt c 0))
  go_enter Try.func13, Try.ntmps13
  go_wp2_with fail
  refine bodyPost_ret (v := kv c) (results_key Try.results13 _ _ _ rfl (by go_simp) (by go_simp)) rfl ⟨rfl, ?_⟩
  repeat (first | apply below_more | apply below_alloc | exact Below.refl _ _)
set_option maxHeartbeats 2000000 in
set_option maxRecDepth 100000 in
theorem rpoint_K (u p : Nat) (hp : ptN u % Fp.P = p) (w : World) : Calls Try.prog 24 #[kv u] w fun e w' => e = .returned (kv p) ∧ Below w.heap.size w w' := by
  have h31 := rpt_b31 u
  have hs := pt_cells u
  have hl := ptN_lt u
  generalize ptN u = v at *
  have Hp := Lib.hid hp
  clear hp
  go_enter Try.func24, Try.ntmps24
  go_wp2_with fail
  refine (rcanon_K v p hl Hp.out _).mono ?_
  rintro e w' ⟨rfl, hbw⟩
  obtain ⟨oc1, nc1, rfl⟩ := below_plus hbw
  clear hbw
  go_wp2_with fail
  refine bodyPost_ret (v := kv p) (results_key Try.results24 _ _ _ rfl (by go_simp) (by go_simp)) rfl ⟨rfl, ?_⟩
  repeat (first | apply below_more | apply below_alloc | exact Below.refl _ _)
set_option maxHeartbeats 2000000 in
set_option maxRecDepth 100000 in
theorem rpublic_K (k p : Nat) (hp : Cv.nT (Cv.clampN k) 9 = p) (w : World) : Calls Try.prog 15 #[kv k] w fun e w' => e = .returned (kv p) ∧ Below w.heap.size w w' := by
  obtain ⟨c, ec⟩ : ∃ y, y = Cv.clampN k := ⟨_, rfl⟩
  have Hc := Lib.hid ec.symm
  have Hp := Lib.hid (show Cv.nT c 9 = p by rw [ec]; exact hp)
  clear ec hp
  have hk9 : #[.int .u8 9, .int .u8 0, .int .u8 0, .int .u8 0, .int .u8 0, .int .u8 0, .int .u8 0, .int .u8 0, .int .u8 0, .int .u8 0, .int .u8 0, .int .u8 0, .int .u8 0, .int .u8 0, .int .u8 0, .int .u8 0, .int .u8 0, .int .u8 0, .int .u8 0, .int .u8 0, .int .u8 0, .int .u8 0, .int .u8 0, .int .u8 0, .int .u8 0, .int .u8 0, .int .u8 0, .int .u8 0, .int .u8 0, .int .u8 0, .int .u8 0, .int .u8 0] = keyA 9 := keyA_small 9 (by decide)
  go_enter Try.func15, Try.ntmps15
  go_wp2_with fail
  generalize hW : World.alloc _ _ = W1
  have R1x0 := Lib.hid (show RowAt W1 (w.heap.size) (keyA k) by rw [← hW]; clear hW; exact ⟨by go_simp, by go_simp, by go_simp⟩)
  have R1x1 := Lib.hid (show RowAt W1 (w.heap.size + 1) (#[.int .u8 0, .int .u8 0, .int .u8 0, .int .u8 0, .int .u8 0, .int .u8 0, .int .u8 0, .int .u8 0, .int .u8 0, .int .u8 0, .int .u8 0, .int .u8 0, .int .u8 0, .int .u8 0, .int .u8 0, .int .u8 0, .int .u8 0, .int .u8 0, .int .u8 0, .int .u8 0, .int .u8 0, .int .u8 0, .int .u8 0, .int .u8 0, .int .u8 0, .int .u8 0, .int .u8 0, .int .u8 0, .int .u8 0, .int .u8 0, .int .u8 0, .int .u8 0]) by rw [← hW]; clear hW; exact ⟨by go_simp, by go_simp, by go_simp⟩)
  have R1x2 := Lib.hid (show RowAt W1 (w.heap.size + 1 + 1) (keyA 9) by rw [← hW]; clear hW; exact ⟨by go_simp, by go_simp, by go_simp⟩)
  have HB1 := Lib.hid (show Below w.heap.size w W1 by rw [← hW]; repeat (first | apply below_more | apply below_alloc | apply Below.drew | refine below_setRow ?_ (by omega) _ | exact Below.refl _ _))
  clear hW
  obtain ⟨R1x0a, R1x0b, R1x0c⟩ := R1x0.out
  obtain ⟨R1x1a, R1x1b, R1x1c⟩ := R1x1.out
  obtain ⟨R1x2a, R1x2b, R1x2c⟩ := R1x2.out
  refine wp_region_pick W1 [0, 1, 2, 3] [false, false, false, false] [] [] 4 (by kernel_rfl) rfl (by kernel_rfl) (by intro c a d v w h; cases d <;> exact h) ((Below.refl _ _).drew) ?_
  simp only [pick, List.getElem?_cons_succ, List.getElem?_cons_zero, List.drop_succ_cons, List.drop_zero]
  refine wpHoldF_val (wanted_none rfl) (by intro K o d hK; go_simp; exact hK _ (Below.refl _ _)) ?_
  refine wpHoldF_call (v := kv c) (wanted_none rfl) (by intro K o d hK; go_simp; refine (rclamp_K k c Hc.out _).mono ?_; rintro e w' ⟨rfl, hbw⟩; exact ⟨_, rfl, hK _ hbw⟩) ?_
  refine wpHoldF_val (wanted_none rfl) (by intro K o d hK; go_simp; exact hK _ (Below.refl _ _)) ?_
  refine wpHoldF_call (v := kv p) (wanted_none rfl) (by intro K o d hK; go_simp; refine (rtimes_V 9 c p (by decide) Hp.out _).mono ?_; rintro e w' ⟨rfl, hbw⟩; exact ⟨_, rfl, hK _ hbw⟩) ?_
  refine wpHoldF_nil ?_
  intro w2 hb2 hblk2
  have A2x0 := R1x0.out.grow hb2
  have c2x0 := R1x0.out.2.2
  have A2x1 := R1x1.out.grow hb2
  have c2x1 := R1x1.out.2.2
  have A2x2 := R1x2.out.grow hb2
  have c2x2 := R1x2.out.2.2
  have B2x0 := HB1.out.trans (hb2.mono HB1.out.size)
  have s2 := HB1.out.size
  have P2x0x0 := A2x0.other (show w.heap.size ≠ w.heap.size + 1 by omega) (keyA p)
  have P2x0x1 := A2x1.set (keyA p)
  have P2x0x2 := A2x2.other (show w.heap.size + 1 + 1 ≠ w.heap.size + 1 by omega) (keyA p)
  have B2x1 := below_setRow B2x0 (show w.heap.size ≤ w.heap.size + 1 by omega) (keyA p)
  have Z2x0 := Lib.hid P2x0x0
  have Z2x1 := Lib.hid P2x0x1
  have Z2x2 := Lib.hid P2x0x2
  have HB2 := Lib.hid B2x1
  clear hb2 hblk2 HB1 s2 R1x0a R1x0b R1x0c R1x1a R1x1b R1x1c R1x2a R1x2b R1x2c R1x0 R1x1 R1x2 c2x0 c2x1 c2x2 B2x0 B2x1 P2x0x0 P2x0x1 P2x0x2
  obtain ⟨A2x0a, A2x0b, A2x0c⟩ := A2x0
  obtain ⟨A2x1a, A2x1b, A2x1c⟩ := A2x1
  obtain ⟨A2x2a, A2x2b, A2x2c⟩ := A2x2
  go_wp2_with fail
  clear A2x0a A2x0b A2x0c A2x1a A2x1b A2x1c A2x2a A2x2b A2x2c
  generalize World.setRow _ _ _ = W3 at *
  obtain ⟨Z2x0a, Z2x0b, Z2x0c⟩ := Z2x0.out
  obtain ⟨Z2x1a, Z2x1b, Z2x1c⟩ := Z2x1.out
  obtain ⟨Z2x2a, Z2x2b, Z2x2c⟩ := Z2x2.out
  refine bodyPost_ret (v := kv p) (results_key Try.results15 _ _ _ rfl (by go_simp) (by go_simp)) rfl ⟨rfl, HB2.out⟩
set_option maxHeartbeats 2000000 in
set_option maxRecDepth 100000 in
theorem rshared_zero (k u r : Nat) (hr : shN k u = r) (hz : r = 0) (w : World) :
    Calls Try.prog 11 #[kv k, kv u] w fun x w' => x = .returned (.tuple #[kv r, .int .i64 7]) ∧ Below w.heap.size w w' := by
  obtain ⟨p, ep⟩ : ∃ y, y = ptN u % Fp.P := ⟨_, rfl⟩
  have lp : p < 115792089237316195423570985008687907853269984665640564039457584007913129639936 := by rw [ep]; exact mod_lt _
  obtain ⟨c, ec⟩ : ∃ y, y = Cv.clampN k := ⟨_, rfl⟩
  have lr : r < 115792089237316195423570985008687907853269984665640564039457584007913129639936 := by rw [← hr]; exact Nat.lt_trans (shN_lt k u) P_lt
  have lP : r < Fp.P := by rw [← hr]; exact shN_lt k u
  have Hp := Lib.hid ep.symm
  have Hc := Lib.hid ec.symm
  have Hr := Lib.hid (show Cv.nT c p = r by rw [← hr, ec, ep]; rfl)
  have Hz := Lib.hid (show decide (r % Fp.P = 0) = true by rw [Nat.mod_eq_of_lt lP]; exact decide_eq_true hz)
  have Hz0 := Lib.hid hz
  clear ep ec hr lP hz
  go_enter Try.func11, Try.ntmps11
  go_wp2_with fail
  generalize hW : World.alloc _ _ = W1
  have R1x0 := Lib.hid (show RowAt W1 (w.heap.size) (keyA k) by rw [← hW]; clear hW; exact ⟨by go_simp, by go_simp, by go_simp⟩)
  have R1x1 := Lib.hid (show RowAt W1 (w.heap.size + 1) (keyA u) by rw [← hW]; clear hW; exact ⟨by go_simp, by go_simp, by go_simp⟩)
  have R1x2 := Lib.hid (show RowAt W1 (w.heap.size + 1 + 1) (#[.int .u8 0, .int .u8 0, .int .u8 0, .int .u8 0, .int .u8 0, .int .u8 0, .int .u8 0, .int .u8 0, .int .u8 0, .int .u8 0, .int .u8 0, .int .u8 0, .int .u8 0, .int .u8 0, .int .u8 0, .int .u8 0, .int .u8 0, .int .u8 0, .int .u8 0, .int .u8 0, .int .u8 0, .int .u8 0, .int .u8 0, .int .u8 0, .int .u8 0, .int .u8 0, .int .u8 0, .int .u8 0, .int .u8 0, .int .u8 0, .int .u8 0, .int .u8 0]) by rw [← hW]; clear hW; exact ⟨by go_simp, by go_simp, by go_simp⟩)
  have HB1 := Lib.hid (show Below w.heap.size w W1 by rw [← hW]; repeat (first | apply below_more | apply below_alloc | apply Below.drew | refine below_setRow ?_ (by omega) _ | exact Below.refl _ _))
  clear hW
  obtain ⟨R1x0a, R1x0b, R1x0c⟩ := R1x0.out
  obtain ⟨R1x1a, R1x1b, R1x1c⟩ := R1x1.out
  obtain ⟨R1x2a, R1x2b, R1x2c⟩ := R1x2.out
  refine wp_region_pick W1 [0, 1, 2, 3, 4] [false, false, false, false, false] [5] [(23, #[.int .u8 0, .int .u8 0, .int .u8 0, .int .u8 0, .int .u8 0, .int .u8 0, .int .u8 0, .int .u8 0, .int .u8 0, .int .u8 0, .int .u8 0, .int .u8 0, .int .u8 0, .int .u8 0, .int .u8 0, .int .u8 0, .int .u8 0, .int .u8 0, .int .u8 0, .int .u8 0, .int .u8 0, .int .u8 0, .int .u8 0, .int .u8 0, .int .u8 0, .int .u8 0, .int .u8 0, .int .u8 0, .int .u8 0, .int .u8 0, .int .u8 0, .int .u8 0])] 6 (by kernel_rfl) rfl (by kernel_rfl) (by intro c a d v w h; cases d <;> exact h) ((Below.refl _ _).drew) ?_
  simp only [pick, List.getElem?_cons_succ, List.getElem?_cons_zero, List.drop_succ_cons, List.drop_zero]
  refine wpHoldF_val (wanted_none rfl) (by intro K o d hK; go_simp; exact hK _ (Below.refl _ _)) ?_
  refine wpHoldF_call (v := kv c) (wanted_none rfl) (by intro K o d hK; go_simp; refine (rclamp_K k c Hc.out _).mono ?_; rintro e w' ⟨rfl, hbw⟩; exact ⟨_, rfl, hK _ hbw⟩) ?_
  refine wpHoldF_val (wanted_none rfl) (by intro K o d hK; go_simp; exact hK _ (Below.refl _ _)) ?_
  refine wpHoldF_call (v := kv p) (wanted_none rfl) (by intro K o d hK; go_simp; refine (rpoint_K u p Hp.out _).mono ?_; rintro e w' ⟨rfl, hbw⟩; exact ⟨_, rfl, hK _ hbw⟩) ?_
  refine wpHoldF_call (v := kv r) (wanted_none rfl) (by intro K o d hK; go_simp; refine (rtimes_V p c r lp Hr.out _).mono ?_; rintro e w' ⟨rfl, hbw⟩; exact ⟨_, rfl, hK _ hbw⟩) ?_
  refine wpHoldF_nil ?_
  refine ⟨lays_key _ rfl rfl, fun g2x0 hg2x0 hn2x0 => ?_⟩
  intro w2 hb2 hblk2
  have A2x0 := R1x0.out.grow hb2
  have c2x0 := R1x0.out.2.2
  have A2x1 := R1x1.out.grow hb2
  have c2x1 := R1x1.out.2.2
  have A2x2 := R1x2.out.grow hb2
  have c2x2 := R1x2.out.2.2
  have N2x0 := RowAt.of (hblk2 0 g2x0 _ _ rfl rfl)
  have B2x0 := HB1.out.trans (hb2.mono HB1.out.size)
  have s2 := HB1.out.size
  have le2x0 : w.heap.size ≤ g2x0 := by omega
  have ne2x0x0 : ¬ w.heap.size = g2x0 := by omega
  have nf2x0x0 : ¬ g2x0 = w.heap.size := by omega
  have ne2x1x0 : ¬ w.heap.size + 1 = g2x0 := by omega
  have nf2x1x0 : ¬ g2x0 = w.heap.size + 1 := by omega
  have ne2x2x0 : ¬ w.heap.size + 1 + 1 = g2x0 := by omega
  have nf2x2x0 : ¬ g2x0 = w.heap.size + 1 + 1 := by omega
  have P2x0x0 := A2x0.other (show w.heap.size ≠ g2x0 by omega) (keyA r)
  have P2x0x1 := A2x1.other (show w.heap.size + 1 ≠ g2x0 by omega) (keyA r)
  have P2x0x2 := A2x2.other (show w.heap.size + 1 + 1 ≠ g2x0 by omega) (keyA r)
  have P2x0x3 := N2x0.set (keyA r)
  have B2x1 := below_setRow B2x0 (show w.heap.size ≤ g2x0 by omega) (keyA r)
  have Z2x0 := Lib.hid P2x0x0
  have Z2x1 := Lib.hid P2x0x1
  have Z2x2 := Lib.hid P2x0x2
  have Z2x3 := Lib.hid P2x0x3
  have HB2 := Lib.hid B2x1
  clear hb2 hblk2 HB1 s2 R1x0a R1x0b R1x0c R1x1a R1x1b R1x1c R1x2a R1x2b R1x2c R1x0 R1x1 R1x2 c2x0 c2x1 c2x2 B2x0 B2x1 P2x0x0 P2x0x1 P2x0x2 P2x0x3 hg2x0 hn2x0
  obtain ⟨A2x0a, A2x0b, A2x0c⟩ := A2x0
  obtain ⟨A2x1a, A2x1b, A2x1c⟩ := A2x1
  obtain ⟨A2x2a, A2x2b, A2x2c⟩ := A2x2
  obtain ⟨N2x0a, N2x0b, N2x0c⟩ := N2x0
  go_wp2_with fail
  clear A2x0a A2x0b A2x0c A2x1a A2x1b A2x1c A2x2a A2x2b A2x2c N2x0a N2x0b N2x0c
  generalize World.setRow _ _ _ = W3 at *
  obtain ⟨Z2x0a, Z2x0b, Z2x0c⟩ := Z2x0.out
  obtain ⟨Z2x1a, Z2x1b, Z2x1c⟩ := Z2x1.out
  obtain ⟨Z2x2a, Z2x2b, Z2x2c⟩ := Z2x2.out
  obtain ⟨Z2x3a, Z2x3b, Z2x3c⟩ := Z2x3.out
  refine (rzero_K r true lr Hz.out _).mono ?_
  rintro e w' ⟨rfl, hbw⟩
  obtain ⟨oc2, nc2, rfl⟩ := below_plus hbw
  clear hbw
  have lt2x0 : w.heap.size < W3.heap.size + oc2.size := by omega
  have lt2x1 : w.heap.size + 1 < W3.heap.size + oc2.size := by omega
  have lt2x2 : w.heap.size + 1 + 1 < W3.heap.size + oc2.size := by omega
  have lt2x3 : g2x0 < W3.heap.size + oc2.size := by omega
  go_wp2_with fail
  refine bodyPost_ret (v := .tuple #[kv 0, .int .i64 7]) (results_key_slot Try.results11 _ _ _ rfl (by go_simp) (by go_simp) rfl) rfl ⟨by rw [Hz0.out], ?_⟩
  exact below_more (below_setRow HB2.out (by omega) _) _ _
set_option maxHeartbeats 2000000 in
set_option maxRecDepth 100000 in
theorem rshared_not (k u r : Nat) (hr : shN k u = r) (hz : ¬ r = 0) (w : World) :
    Calls Try.prog 11 #[kv k, kv u] w fun x w' => x = .returned (.tuple #[kv r, .int .i64 0]) ∧ Below w.heap.size w w' := by
  obtain ⟨p, ep⟩ : ∃ y, y = ptN u % Fp.P := ⟨_, rfl⟩
  have lp : p < 115792089237316195423570985008687907853269984665640564039457584007913129639936 := by rw [ep]; exact mod_lt _
  obtain ⟨c, ec⟩ : ∃ y, y = Cv.clampN k := ⟨_, rfl⟩
  have lr : r < 115792089237316195423570985008687907853269984665640564039457584007913129639936 := by rw [← hr]; exact Nat.lt_trans (shN_lt k u) P_lt
  have lP : r < Fp.P := by rw [← hr]; exact shN_lt k u
  have Hp := Lib.hid ep.symm
  have Hc := Lib.hid ec.symm
  have Hr := Lib.hid (show Cv.nT c p = r by rw [← hr, ec, ep]; rfl)
  have Hz := Lib.hid (show decide (r % Fp.P = 0) = false by rw [Nat.mod_eq_of_lt lP]; exact decide_eq_false hz)
  skip
  clear ep ec hr lP hz
  go_enter Try.func11, Try.ntmps11
  go_wp2_with fail
  generalize hW : World.alloc _ _ = W1
  have R1x0 := Lib.hid (show RowAt W1 (w.heap.size) (keyA k) by rw [← hW]; clear hW; exact ⟨by go_simp, by go_simp, by go_simp⟩)
  have R1x1 := Lib.hid (show RowAt W1 (w.heap.size + 1) (keyA u) by rw [← hW]; clear hW; exact ⟨by go_simp, by go_simp, by go_simp⟩)
  have R1x2 := Lib.hid (show RowAt W1 (w.heap.size + 1 + 1) (#[.int .u8 0, .int .u8 0, .int .u8 0, .int .u8 0, .int .u8 0, .int .u8 0, .int .u8 0, .int .u8 0, .int .u8 0, .int .u8 0, .int .u8 0, .int .u8 0, .int .u8 0, .int .u8 0, .int .u8 0, .int .u8 0, .int .u8 0, .int .u8 0, .int .u8 0, .int .u8 0, .int .u8 0, .int .u8 0, .int .u8 0, .int .u8 0, .int .u8 0, .int .u8 0, .int .u8 0, .int .u8 0, .int .u8 0, .int .u8 0, .int .u8 0, .int .u8 0]) by rw [← hW]; clear hW; exact ⟨by go_simp, by go_simp, by go_simp⟩)
  have HB1 := Lib.hid (show Below w.heap.size w W1 by rw [← hW]; repeat (first | apply below_more | apply below_alloc | apply Below.drew | refine below_setRow ?_ (by omega) _ | exact Below.refl _ _))
  clear hW
  obtain ⟨R1x0a, R1x0b, R1x0c⟩ := R1x0.out
  obtain ⟨R1x1a, R1x1b, R1x1c⟩ := R1x1.out
  obtain ⟨R1x2a, R1x2b, R1x2c⟩ := R1x2.out
  refine wp_region_pick W1 [0, 1, 2, 3, 4] [false, false, false, false, false] [5] [(23, #[.int .u8 0, .int .u8 0, .int .u8 0, .int .u8 0, .int .u8 0, .int .u8 0, .int .u8 0, .int .u8 0, .int .u8 0, .int .u8 0, .int .u8 0, .int .u8 0, .int .u8 0, .int .u8 0, .int .u8 0, .int .u8 0, .int .u8 0, .int .u8 0, .int .u8 0, .int .u8 0, .int .u8 0, .int .u8 0, .int .u8 0, .int .u8 0, .int .u8 0, .int .u8 0, .int .u8 0, .int .u8 0, .int .u8 0, .int .u8 0, .int .u8 0, .int .u8 0])] 6 (by kernel_rfl) rfl (by kernel_rfl) (by intro c a d v w h; cases d <;> exact h) ((Below.refl _ _).drew) ?_
  simp only [pick, List.getElem?_cons_succ, List.getElem?_cons_zero, List.drop_succ_cons, List.drop_zero]
  refine wpHoldF_val (wanted_none rfl) (by intro K o d hK; go_simp; exact hK _ (Below.refl _ _)) ?_
  refine wpHoldF_call (v := kv c) (wanted_none rfl) (by intro K o d hK; go_simp; refine (rclamp_K k c Hc.out _).mono ?_; rintro e w' ⟨rfl, hbw⟩; exact ⟨_, rfl, hK _ hbw⟩) ?_
  refine wpHoldF_val (wanted_none rfl) (by intro K o d hK; go_simp; exact hK _ (Below.refl _ _)) ?_
  refine wpHoldF_call (v := kv p) (wanted_none rfl) (by intro K o d hK; go_simp; refine (rpoint_K u p Hp.out _).mono ?_; rintro e w' ⟨rfl, hbw⟩; exact ⟨_, rfl, hK _ hbw⟩) ?_
  refine wpHoldF_call (v := kv r) (wanted_none rfl) (by intro K o d hK; go_simp; refine (rtimes_V p c r lp Hr.out _).mono ?_; rintro e w' ⟨rfl, hbw⟩; exact ⟨_, rfl, hK _ hbw⟩) ?_
  refine wpHoldF_nil ?_
  refine ⟨lays_key _ rfl rfl, fun g2x0 hg2x0 hn2x0 => ?_⟩
  intro w2 hb2 hblk2
  have A2x0 := R1x0.out.grow hb2
  have c2x0 := R1x0.out.2.2
  have A2x1 := R1x1.out.grow hb2
  have c2x1 := R1x1.out.2.2
  have A2x2 := R1x2.out.grow hb2
  have c2x2 := R1x2.out.2.2
  have N2x0 := RowAt.of (hblk2 0 g2x0 _ _ rfl rfl)
  have B2x0 := HB1.out.trans (hb2.mono HB1.out.size)
  have s2 := HB1.out.size
  have le2x0 : w.heap.size ≤ g2x0 := by omega
  have ne2x0x0 : ¬ w.heap.size = g2x0 := by omega
  have nf2x0x0 : ¬ g2x0 = w.heap.size := by omega
  have ne2x1x0 : ¬ w.heap.size + 1 = g2x0 := by omega
  have nf2x1x0 : ¬ g2x0 = w.heap.size + 1 := by omega
  have ne2x2x0 : ¬ w.heap.size + 1 + 1 = g2x0 := by omega
  have nf2x2x0 : ¬ g2x0 = w.heap.size + 1 + 1 := by omega
  have P2x0x0 := A2x0.other (show w.heap.size ≠ g2x0 by omega) (keyA r)
  have P2x0x1 := A2x1.other (show w.heap.size + 1 ≠ g2x0 by omega) (keyA r)
  have P2x0x2 := A2x2.other (show w.heap.size + 1 + 1 ≠ g2x0 by omega) (keyA r)
  have P2x0x3 := N2x0.set (keyA r)
  have B2x1 := below_setRow B2x0 (show w.heap.size ≤ g2x0 by omega) (keyA r)
  have Z2x0 := Lib.hid P2x0x0
  have Z2x1 := Lib.hid P2x0x1
  have Z2x2 := Lib.hid P2x0x2
  have Z2x3 := Lib.hid P2x0x3
  have HB2 := Lib.hid B2x1
  clear hb2 hblk2 HB1 s2 R1x0a R1x0b R1x0c R1x1a R1x1b R1x1c R1x2a R1x2b R1x2c R1x0 R1x1 R1x2 c2x0 c2x1 c2x2 B2x0 B2x1 P2x0x0 P2x0x1 P2x0x2 P2x0x3 hg2x0 hn2x0
  obtain ⟨A2x0a, A2x0b, A2x0c⟩ := A2x0
  obtain ⟨A2x1a, A2x1b, A2x1c⟩ := A2x1
  obtain ⟨A2x2a, A2x2b, A2x2c⟩ := A2x2
  obtain ⟨N2x0a, N2x0b, N2x0c⟩ := N2x0
  go_wp2_with fail
  clear A2x0a A2x0b A2x0c A2x1a A2x1b A2x1c A2x2a A2x2b A2x2c N2x0a N2x0b N2x0c
  generalize World.setRow _ _ _ = W3 at *
  obtain ⟨Z2x0a, Z2x0b, Z2x0c⟩ := Z2x0.out
  obtain ⟨Z2x1a, Z2x1b, Z2x1c⟩ := Z2x1.out
  obtain ⟨Z2x2a, Z2x2b, Z2x2c⟩ := Z2x2.out
  obtain ⟨Z2x3a, Z2x3b, Z2x3c⟩ := Z2x3.out
  refine (rzero_K r false lr Hz.out _).mono ?_
  rintro e w' ⟨rfl, hbw⟩
  obtain ⟨oc3, nc3, rfl⟩ := below_plus hbw
  clear hbw
  have lt3x0 : w.heap.size < W3.heap.size + oc3.size := by omega
  have lt3x1 : w.heap.size + 1 < W3.heap.size + oc3.size := by omega
  have lt3x2 : w.heap.size + 1 + 1 < W3.heap.size + oc3.size := by omega
  have lt3x3 : g2x0 < W3.heap.size + oc3.size := by omega
  go_wp2_with fail
  refine bodyPost_ret (v := .tuple #[kv r, .int .i64 0]) (results_key_slot Try.results11 _ _ _ rfl (by go_simp) (by go_simp) rfl) rfl ⟨rfl, ?_⟩
  exact below_more (below_setRow HB2.out (by omega) _) _ _
theorem rshared_K (k u r : Nat) (e : Int) (hr : shN k u = r) (he : errOf r = e) (w : World) :
    Calls Try.prog 11 #[kv k, kv u] w fun x w' => x = .returned (.tuple #[kv r, .int .i64 e]) ∧ Below w.heap.size w w' := by
  unfold errOf at he
  by_cases h : r = 0
  · rw [if_pos h] at he; subst he; exact rshared_zero k u r hr h w
  · rw [if_neg h] at he; subst he; exact rshared_not k u r hr h w
end Go.Proofs.Ytpilonikhokjeaa
