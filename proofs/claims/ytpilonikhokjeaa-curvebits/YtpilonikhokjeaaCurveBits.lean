/-
  Secrets with one scalar, and keys with one point, are alike: CurveBits answers true, whatever two keys it is given.
-/
import Derived.Test.YtpilonikhokjeaaCurveAlive
namespace Go.Proofs.Ytpilonikhokjeaa
open Go.RowKit Go.Shelf Go.Hold

/-- A key with its highest bit turned. -/
def flN (u : Nat) : Nat := if u < 57896044618658097711785492504343953926634992332820282019728792003956564819968 then u + 57896044618658097711785492504343953926634992332820282019728792003956564819968 else u - 57896044618658097711785492504343953926634992332820282019728792003956564819968
theorem flN_pt (u : Nat) (hu : u < 115792089237316195423570985008687907853269984665640564039457584007913129639936) : ptN (flN u) = ptN u := by
  unfold ptN flN
  simp only [Nat.reducePow]
  split <;> omega
theorem bytesx : ∀ b : Nat, b < 256 → bits .xor .u8 (b : Int) 128 = ((if b < 128 then b + 128 else b - 128 : Nat) : Int) := by decide +kernel
theorem bytes127 : ∀ b : Nat, b < 256 → bits .and .u8 (b : Int) 127 = ((b % 128 : Nat) : Int) := by decide +kernel
theorem bytesa7 : ∀ b : Nat, b < 256 → bits .and .u8 ((b / 8 * 8 : Nat) : Int) 7 = 0 := by decide +kernel
theorem bytes192 : ∀ b : Nat, b < 64 → bits .and .u8 ((b + 64 : Nat) : Int) 192 = 64 := by decide +kernel
theorem fl_b31 (u : Nat) (hu : u < 115792089237316195423570985008687907853269984665640564039457584007913129639936) : bits .xor .u8 (bt u 31) 128 = bt (flN u) 31 := by
  unfold bt
  rw [bytesx _ (Nat.mod_lt _ (by decide))]
  unfold flN
  simp only [Nat.reducePow]
  congr 1
  split <;> split <;> omega
theorem fl_bt (u i : Nat) (h1 : i < 31) : bt (flN u) i = bt u i := by
  unfold bt flN
  congr 1
  by_cases h0 : i = 0
  · subst h0; split <;> simp only [Nat.reducePow] <;> omega
  · have h : i = 1 ∨ i = 2 ∨ i = 3 ∨ i = 4 ∨ i = 5 ∨ i = 6 ∨ i = 7 ∨ i = 8 ∨ i = 9 ∨ i = 10 ∨ i = 11 ∨ i = 12 ∨ i = 13 ∨ i = 14 ∨ i = 15 ∨ i = 16 ∨ i = 17 ∨ i = 18 ∨ i = 19 ∨ i = 20 ∨ i = 21 ∨ i = 22 ∨ i = 23 ∨ i = 24 ∨ i = 25 ∨ i = 26 ∨ i = 27 ∨ i = 28 ∨ i = 29 ∨ i = 30 := by omega
    split
    · rcases h with rfl | rfl | rfl | rfl | rfl | rfl | rfl | rfl | rfl | rfl | rfl | rfl | rfl | rfl | rfl | rfl | rfl | rfl | rfl | rfl | rfl | rfl | rfl | rfl | rfl | rfl | rfl | rfl | rfl | rfl <;> simp only [Nat.reducePow] <;> omega
    · rcases h with rfl | rfl | rfl | rfl | rfl | rfl | rfl | rfl | rfl | rfl | rfl | rfl | rfl | rfl | rfl | rfl | rfl | rfl | rfl | rfl | rfl | rfl | rfl | rfl | rfl | rfl | rfl | rfl | rfl | rfl <;> simp only [Nat.reducePow] <;> omega
theorem fl_cells (u : Nat) : (keyA u).setIfInBounds 31 (.int .u8 (bt (flN u) 31)) = keyA (flN u) := by
  refine keyA_of_ints (by simp [keyA_size]) fun i hi => ?_
  rw [Array.getElem?_setIfInBounds]
  by_cases e1 : 31 = i
  · subst e1; simp [keyA_size]
  · rw [if_neg e1, keyA_get u i hi, fl_bt u i (by omega)]
theorem pt_and (u : Nat) : bits .and .u8 (bt u 31) 127 = bt (ptN u) 31 := by
  rw [pt_bt31]; unfold bt
  rw [bytes127 _ (Nat.mod_lt _ (by decide))]; omega
theorem cl_7 (k : Nat) : bits .and .u8 (bt (Cv.clampN k) 0) 7 = 0 := by
  rw [clamp_bt0]; unfold bt
  have := bytesa7 (k / 256 ^ 0 % 256) (Nat.mod_lt _ (by decide))
  rw [Int.natCast_mul, Int.natCast_ediv] at this; exact this
theorem cl_192 (k : Nat) : bits .and .u8 (bt (Cv.clampN k) 31) 192 = 64 := by
  rw [clamp_bt31]; unfold bt
  have := bytes192 (k / 256 ^ 31 % 256 % 64) (Nat.mod_lt _ (by decide))
  rw [Int.natCast_add, Int.natCast_emod] at this; exact this

set_option maxHeartbeats 2000000 in
set_option maxRecDepth 100000 in
theorem bits_any (k u : Nat) (_hk : k < 115792089237316195423570985008687907853269984665640564039457584007913129639936) (_hu : u < 115792089237316195423570985008687907853269984665640564039457584007913129639936) (w : World) :
    Calls Try.prog 6 #[kv k, kv u] w fun e w' => e = .returned (.bool true) ∧ Below w.heap.size w w' := by
  obtain ⟨v, evv⟩ : ∃ nn, nn = flN u := ⟨_, rfl⟩
  obtain ⟨y, ey⟩ : ∃ nn, nn = ptN u := ⟨_, rfl⟩
  obtain ⟨q, eq⟩ : ∃ nn, nn = y % Fp.P := ⟨_, rfl⟩
  obtain ⟨c, ec⟩ : ∃ nn, nn = Cv.clampN k := ⟨_, rfl⟩
  obtain ⟨x, ex⟩ : ∃ nn, nn = shN k u := ⟨_, rfl⟩
  obtain ⟨ev, eev⟩ : ∃ nn, nn = errOf x := ⟨_, rfl⟩
  obtain ⟨p, ep⟩ : ∃ nn, nn = puN k := ⟨_, rfl⟩
  have lP : q < Fp.P := by rw [eq]; exact Nat.mod_lt _ Fp.P_pos
  have ly : y < 115792089237316195423570985008687907853269984665640564039457584007913129639936 := by rw [ey]; exact ptN_lt u
  have h31 := fl_b31 u _hu
  have hs := fl_cells u
  have h31' := pt_and u
  have hs' := pt_cells u
  rw [← evv] at h31 hs
  rw [← ey] at h31' hs'
  have Hq := Lib.hid eq.symm
  have Hc := Lib.hid ec.symm
  have Hcc := Lib.hid (show Cv.clampN c = c by rw [ec]; exact Cv.clampN_idem k)
  have Hx := Lib.hid ex.symm
  have Hxv := Lib.hid (show shN c v = x by rw [ex, ec, evv]; unfold shN; rw [Cv.clampN_idem, flN_pt u _hu])
  have Hxq := Lib.hid (show shN k q = x by rw [ex]; unfold shN; rw [ptN_small lP, eq, ey])
  have He := Lib.hid eev.symm
  have Hp := Lib.hid (show Cv.nT (Cv.clampN k) 9 = p from ep.symm)
  have Hpc := Lib.hid (show Cv.nT (Cv.clampN c) 9 = p by rw [ec, Cv.clampN_idem]; exact ep.symm)
  have h7 := cl_7 k
  have h192 := cl_192 k
  rw [← ec] at h7 h192
  clear evv ey eq ec ex eev ep lP
  go_enter Try.func6, Try.ntmps6
  go_wp2_with fail
  refine (alive_any _).mono ?_
  rintro e w' ⟨rfl, hbw⟩
  obtain ⟨oc16, nc16, rfl⟩ := below_plus hbw
  clear hbw
  go_wp2_with fail
  generalize hW : World.alloc _ _ = W1
  have R1x0 := Lib.hid (show RowAt W1 (w.heap.size) (keyA k) by rw [← hW]; clear hW; exact ⟨by go_simp, by go_simp, by go_simp⟩)
  have R1x1 := Lib.hid (show RowAt W1 (w.heap.size + 1) (keyA u) by rw [← hW]; clear hW; exact ⟨by go_simp, by go_simp, by go_simp⟩)
  have R1x2 := Lib.hid (show RowAt W1 (w.heap.size + 1 + 1 + oc16.size) (keyA v) by rw [← hW]; clear hW; exact ⟨by go_simp, by go_simp, by go_simp⟩)
  have R1x3 := Lib.hid (show RowAt W1 (w.heap.size + 1 + 1 + oc16.size + 1) (keyA y) by rw [← hW]; clear hW; exact ⟨by go_simp, by go_simp, by go_simp⟩)
  have HB1 := Lib.hid (show Below w.heap.size w W1 by rw [← hW]; repeat (first | apply below_more | apply below_alloc | apply Below.drew | refine below_setRow ?_ (by omega) _ | exact Below.refl _ _))
  clear hW
  have lz1x0 : w.heap.size ≤ w.heap.size + 1 + 1 + oc16.size + 1 := by omega
  have nz1x0x0 : ¬ w.heap.size = w.heap.size + 1 + 1 + oc16.size + 1 := by omega
  have ny1x0x0 : ¬ w.heap.size + 1 + 1 + oc16.size + 1 = w.heap.size := by omega
  have nz1x0x1 : ¬ w.heap.size + 1 = w.heap.size + 1 + 1 + oc16.size + 1 := by omega
  have ny1x0x1 : ¬ w.heap.size + 1 + 1 + oc16.size + 1 = w.heap.size + 1 := by omega
  have nz1x0x2 : ¬ w.heap.size + 1 + 1 + oc16.size = w.heap.size + 1 + 1 + oc16.size + 1 := by omega
  have ny1x0x2 : ¬ w.heap.size + 1 + 1 + oc16.size + 1 = w.heap.size + 1 + 1 + oc16.size := by omega
  have lz1x1 : w.heap.size ≤ w.heap.size + 1 + 1 + oc16.size := by omega
  have nz1x1x0 : ¬ w.heap.size = w.heap.size + 1 + 1 + oc16.size := by omega
  have ny1x1x0 : ¬ w.heap.size + 1 + 1 + oc16.size = w.heap.size := by omega
  have nz1x1x1 : ¬ w.heap.size + 1 = w.heap.size + 1 + 1 + oc16.size := by omega
  have ny1x1x1 : ¬ w.heap.size + 1 + 1 + oc16.size = w.heap.size + 1 := by omega
  have nz1x1x3 : ¬ w.heap.size + 1 + 1 + oc16.size + 1 = w.heap.size + 1 + 1 + oc16.size := by omega
  have ny1x1x3 : ¬ w.heap.size + 1 + 1 + oc16.size = w.heap.size + 1 + 1 + oc16.size + 1 := by omega
  generalize w.heap.size + 1 + 1 + oc16.size + 1 = gy at *
  generalize w.heap.size + 1 + 1 + oc16.size = gv at *
  obtain ⟨R1x0a, R1x0b, R1x0c⟩ := R1x0.out
  obtain ⟨R1x1a, R1x1b, R1x1c⟩ := R1x1.out
  obtain ⟨R1x2a, R1x2b, R1x2c⟩ := R1x2.out
  obtain ⟨R1x3a, R1x3b, R1x3c⟩ := R1x3.out
  refine (canon_K y q ly Hq.out _).mono ?_
  rintro e w' ⟨rfl, hbw⟩
  obtain ⟨oc17, nc17, rfl⟩ := below_plus hbw
  clear hbw
  have lt17x0 : w.heap.size < W1.heap.size + oc17.size := by omega
  have lt17x1 : w.heap.size + 1 < W1.heap.size + oc17.size := by omega
  have lt17x2 : gv < W1.heap.size + oc17.size := by omega
  have lt17x3 : gy < W1.heap.size + oc17.size := by omega
  go_wp2_with fail
  generalize hW : World.plus _ _ _ = W2
  have R2x0 := Lib.hid (show RowAt W2 (w.heap.size) (keyA k) by rw [← hW]; clear hW; exact ⟨by go_simp, by go_simp, by go_simp⟩)
  have R2x1 := Lib.hid (show RowAt W2 (w.heap.size + 1) (keyA u) by rw [← hW]; clear hW; exact ⟨by go_simp, by go_simp, by go_simp⟩)
  have R2x2 := Lib.hid (show RowAt W2 (gv) (keyA v) by rw [← hW]; clear hW; exact ⟨by go_simp, by go_simp, by go_simp⟩)
  have R2x3 := Lib.hid (show RowAt W2 (gy) (keyA q) by rw [← hW]; clear hW; exact ⟨by go_simp, by go_simp, by go_simp⟩)
  have HB2 := Lib.hid (show Below w.heap.size w W2 by rw [← hW]; repeat (first | apply below_more | apply below_alloc | apply Below.drew | refine below_setRow ?_ (by omega) _ | exact HB1.out))
  clear hW
  clear R1x0a R1x0b R1x0c R1x1a R1x1b R1x1c R1x2a R1x2b R1x2c R1x3a R1x3b R1x3c R1x0 R1x1 R1x2 R1x3 HB1
  obtain ⟨R2x0a, R2x0b, R2x0c⟩ := R2x0.out
  obtain ⟨R2x1a, R2x1b, R2x1c⟩ := R2x1.out
  obtain ⟨R2x2a, R2x2b, R2x2c⟩ := R2x2.out
  obtain ⟨R2x3a, R2x3b, R2x3c⟩ := R2x3.out
  refine (shared_K k u x ev Hx.out He.out _).mono ?_
  rintro e w' ⟨rfl, hbw⟩
  obtain ⟨oc18, nc18, rfl⟩ := below_plus hbw
  clear hbw
  have lt18x0 : w.heap.size < W2.heap.size + oc18.size := by omega
  have lt18x1 : w.heap.size + 1 < W2.heap.size + oc18.size := by omega
  have lt18x2 : gv < W2.heap.size + oc18.size := by omega
  have lt18x3 : gy < W2.heap.size + oc18.size := by omega
  go_wp2_with fail
  generalize hW : World.alloc _ _ = W3
  have R3x0 := Lib.hid (show RowAt W3 (w.heap.size) (keyA k) by rw [← hW]; clear hW; exact ⟨by go_simp, by go_simp, by go_simp⟩)
  have R3x1 := Lib.hid (show RowAt W3 (w.heap.size + 1) (keyA u) by rw [← hW]; clear hW; exact ⟨by go_simp, by go_simp, by go_simp⟩)
  have R3x2 := Lib.hid (show RowAt W3 (gv) (keyA v) by rw [← hW]; clear hW; exact ⟨by go_simp, by go_simp, by go_simp⟩)
  have R3x3 := Lib.hid (show RowAt W3 (gy) (keyA q) by rw [← hW]; clear hW; exact ⟨by go_simp, by go_simp, by go_simp⟩)
  have R3x4 := Lib.hid (show RowAt W3 (W2.heap.size + oc18.size) (keyA x) by rw [← hW]; clear hW; exact ⟨by go_simp, by go_simp, by go_simp⟩)
  have HB3 := Lib.hid (show Below w.heap.size w W3 by rw [← hW]; repeat (first | apply below_more | apply below_alloc | apply Below.drew | refine below_setRow ?_ (by omega) _ | exact HB2.out))
  clear hW
  have lz3x0 : w.heap.size ≤ W2.heap.size + oc18.size := by have := HB2.out.size; omega
  have nz3x0x0 : ¬ w.heap.size = W2.heap.size + oc18.size := by omega
  have ny3x0x0 : ¬ W2.heap.size + oc18.size = w.heap.size := by omega
  have nz3x0x1 : ¬ w.heap.size + 1 = W2.heap.size + oc18.size := by omega
  have ny3x0x1 : ¬ W2.heap.size + oc18.size = w.heap.size + 1 := by omega
  have nz3x0x2 : ¬ gv = W2.heap.size + oc18.size := by omega
  have ny3x0x2 : ¬ W2.heap.size + oc18.size = gv := by omega
  have nz3x0x3 : ¬ gy = W2.heap.size + oc18.size := by omega
  have ny3x0x3 : ¬ W2.heap.size + oc18.size = gy := by omega
  clear R2x0a R2x0b R2x0c R2x1a R2x1b R2x1c R2x2a R2x2b R2x2c R2x3a R2x3b R2x3c R2x0 R2x1 R2x2 R2x3 HB2
  generalize W2.heap.size + oc18.size = g7 at *
  obtain ⟨R3x0a, R3x0b, R3x0c⟩ := R3x0.out
  obtain ⟨R3x1a, R3x1b, R3x1c⟩ := R3x1.out
  obtain ⟨R3x2a, R3x2b, R3x2c⟩ := R3x2.out
  obtain ⟨R3x3a, R3x3b, R3x3c⟩ := R3x3.out
  obtain ⟨R3x4a, R3x4b, R3x4c⟩ := R3x4.out
  refine wp_region_pick W3 [0, 1, 2, 3, 4, 5, 6] [false, false, false, false, false, false, true] [7] [(23, #[.int .u8 0, .int .u8 0, .int .u8 0, .int .u8 0, .int .u8 0, .int .u8 0, .int .u8 0, .int .u8 0, .int .u8 0, .int .u8 0, .int .u8 0, .int .u8 0, .int .u8 0, .int .u8 0, .int .u8 0, .int .u8 0, .int .u8 0, .int .u8 0, .int .u8 0, .int .u8 0, .int .u8 0, .int .u8 0, .int .u8 0, .int .u8 0, .int .u8 0, .int .u8 0, .int .u8 0, .int .u8 0, .int .u8 0, .int .u8 0, .int .u8 0, .int .u8 0])] 8 (by kernel_rfl) rfl (by kernel_rfl) (by intro c a d v w h; cases d <;> exact h) ((Below.refl _ _).drew) ?_
  simp only [pick, List.getElem?_cons_succ, List.getElem?_cons_zero, List.drop_succ_cons, List.drop_zero]
  refine wpHoldF_val (wanted_none rfl) (by intro K o d hK; go_simp; exact hK _ (Below.refl _ _)) ?_
  refine wpHoldF_call (v := kv c) (wanted_none rfl) (by intro K o d hK; go_simp; refine (clamp_K k c Hc.out _).mono ?_; rintro e w' ⟨rfl, hbw⟩; exact ⟨_, rfl, hK _ hbw⟩) ?_
  refine wpHoldF_val (wanted_none rfl) (by intro K o d hK; go_simp; exact hK _ (Below.refl _ _)) ?_
  refine wpHoldF_call (v := (.tuple #[kv x, .int .i64 ev])) (wanted_none rfl) (by intro K o d hK; go_simp; refine (shared_K c v x ev Hxv.out He.out _).mono ?_; rintro e w' ⟨rfl, hbw⟩; exact ⟨_, rfl, hK _ hbw⟩) ?_
  refine wpHoldF_val (wanted_none rfl) (by intro K o d hK; go_simp; exact hK _ (Below.refl _ _)) ?_
  refine wpHoldF_val (wanted_none rfl) (by intro K o d hK; go_simp; exact hK _ (Below.refl _ _)) ?_
  refine wpHoldF_late (wanted_none rfl) (fun w => by go_simp; rfl) ?_
  refine wpHoldF_nil ?_
  refine ⟨lays_key _ rfl rfl, fun g4x0 hg4x0 hn4x0 => ?_⟩
  intro w4 hb4 hblk4
  have A4x0 := R3x0.out.grow hb4
  have c4x0 := R3x0.out.2.2
  have A4x1 := R3x1.out.grow hb4
  have c4x1 := R3x1.out.2.2
  have A4x2 := R3x2.out.grow hb4
  have c4x2 := R3x2.out.2.2
  have A4x3 := R3x3.out.grow hb4
  have c4x3 := R3x3.out.2.2
  have A4x4 := R3x4.out.grow hb4
  have c4x4 := R3x4.out.2.2
  have N4x0 := RowAt.of (hblk4 0 g4x0 _ _ rfl rfl)
  have B4x0 := HB3.out.trans (hb4.mono HB3.out.size)
  have s4 := HB3.out.size
  have le4x0 : w.heap.size ≤ g4x0 := by omega
  have ne4x0x0 : ¬ w.heap.size = g4x0 := by omega
  have nf4x0x0 : ¬ g4x0 = w.heap.size := by omega
  have ne4x1x0 : ¬ w.heap.size + 1 = g4x0 := by omega
  have nf4x1x0 : ¬ g4x0 = w.heap.size + 1 := by omega
  have ne4x2x0 : ¬ gv = g4x0 := by omega
  have nf4x2x0 : ¬ g4x0 = gv := by omega
  have ne4x3x0 : ¬ gy = g4x0 := by omega
  have nf4x3x0 : ¬ g4x0 = gy := by omega
  have ne4x4x0 : ¬ g7 = g4x0 := by omega
  have nf4x4x0 : ¬ g4x0 = g7 := by omega
  have P4x0x0 := A4x0.other (show w.heap.size ≠ g4x0 by omega) (keyA x)
  have P4x0x1 := A4x1.other (show w.heap.size + 1 ≠ g4x0 by omega) (keyA x)
  have P4x0x2 := A4x2.other (show gv ≠ g4x0 by omega) (keyA x)
  have P4x0x3 := A4x3.other (show gy ≠ g4x0 by omega) (keyA x)
  have P4x0x4 := A4x4.other (show g7 ≠ g4x0 by omega) (keyA x)
  have P4x0x5 := N4x0.set (keyA x)
  have B4x1 := below_setRow B4x0 (show w.heap.size ≤ g4x0 by omega) (keyA x)
  have Z4x0 := Lib.hid P4x0x0
  have Z4x1 := Lib.hid P4x0x1
  have Z4x2 := Lib.hid P4x0x2
  have Z4x3 := Lib.hid P4x0x3
  have Z4x4 := Lib.hid P4x0x4
  have Z4x5 := Lib.hid P4x0x5
  have HB4 := Lib.hid B4x1
  clear hb4 hblk4 HB3 s4 R3x0a R3x0b R3x0c R3x1a R3x1b R3x1c R3x2a R3x2b R3x2c R3x3a R3x3b R3x3c R3x4a R3x4b R3x4c R3x0 R3x1 R3x2 R3x3 R3x4 c4x0 c4x1 c4x2 c4x3 c4x4 B4x0 B4x1 P4x0x0 P4x0x1 P4x0x2 P4x0x3 P4x0x4 P4x0x5 hg4x0 hn4x0
  obtain ⟨A4x0a, A4x0b, A4x0c⟩ := A4x0
  obtain ⟨A4x1a, A4x1b, A4x1c⟩ := A4x1
  obtain ⟨A4x2a, A4x2b, A4x2c⟩ := A4x2
  obtain ⟨A4x3a, A4x3b, A4x3c⟩ := A4x3
  obtain ⟨A4x4a, A4x4b, A4x4c⟩ := A4x4
  obtain ⟨N4x0a, N4x0b, N4x0c⟩ := N4x0
  go_wp2_with fail
  clear A4x0a A4x0b A4x0c A4x1a A4x1b A4x1c A4x2a A4x2b A4x2c A4x3a A4x3b A4x3c A4x4a A4x4b A4x4c N4x0a N4x0b N4x0c
  generalize World.setRow _ _ _ = W5 at *
  obtain ⟨Z4x0a, Z4x0b, Z4x0c⟩ := Z4x0.out
  obtain ⟨Z4x1a, Z4x1b, Z4x1c⟩ := Z4x1.out
  obtain ⟨Z4x2a, Z4x2b, Z4x2c⟩ := Z4x2.out
  obtain ⟨Z4x3a, Z4x3b, Z4x3c⟩ := Z4x3.out
  obtain ⟨Z4x4a, Z4x4b, Z4x4c⟩ := Z4x4.out
  obtain ⟨Z4x5a, Z4x5b, Z4x5c⟩ := Z4x5.out
  refine (shared_K k q x ev Hxq.out He.out _).mono ?_
  rintro e w' ⟨rfl, hbw⟩
  obtain ⟨oc19, nc19, rfl⟩ := below_plus hbw
  clear hbw
  have lt19x0 : w.heap.size < W5.heap.size + oc19.size := by omega
  have lt19x1 : w.heap.size + 1 < W5.heap.size + oc19.size := by omega
  have lt19x2 : gv < W5.heap.size + oc19.size := by omega
  have lt19x3 : gy < W5.heap.size + oc19.size := by omega
  have lt19x4 : g7 < W5.heap.size + oc19.size := by omega
  have lt19x5 : g4x0 < W5.heap.size + oc19.size := by omega
  go_wp2_with fail
  generalize hW : World.alloc _ _ = W6
  have R6x0 := Lib.hid (show RowAt W6 (w.heap.size) (keyA k) by rw [← hW]; clear hW; exact ⟨by go_simp, by go_simp, by go_simp⟩)
  have R6x1 := Lib.hid (show RowAt W6 (w.heap.size + 1) (keyA u) by rw [← hW]; clear hW; exact ⟨by go_simp, by go_simp, by go_simp⟩)
  have R6x2 := Lib.hid (show RowAt W6 (gv) (keyA v) by rw [← hW]; clear hW; exact ⟨by go_simp, by go_simp, by go_simp⟩)
  have R6x3 := Lib.hid (show RowAt W6 (gy) (keyA q) by rw [← hW]; clear hW; exact ⟨by go_simp, by go_simp, by go_simp⟩)
  have R6x4 := Lib.hid (show RowAt W6 (g7) (keyA x) by rw [← hW]; clear hW; exact ⟨by go_simp, by go_simp, by go_simp⟩)
  have R6x5 := Lib.hid (show RowAt W6 (g4x0) (keyA x) by rw [← hW]; clear hW; exact ⟨by go_simp, by go_simp, by go_simp⟩)
  have R6x6 := Lib.hid (show RowAt W6 (W5.heap.size + oc19.size) (keyA x) by rw [← hW]; clear hW; exact ⟨by go_simp, by go_simp, by go_simp⟩)
  have HB6 := Lib.hid (show Below w.heap.size w W6 by rw [← hW]; repeat (first | apply below_more | apply below_alloc | apply Below.drew | refine below_setRow ?_ (by omega) _ | exact HB4.out))
  clear hW
  have lz6x0 : w.heap.size ≤ W5.heap.size + oc19.size := by have := HB4.out.size; omega
  have nz6x0x0 : ¬ w.heap.size = W5.heap.size + oc19.size := by omega
  have ny6x0x0 : ¬ W5.heap.size + oc19.size = w.heap.size := by omega
  have nz6x0x1 : ¬ w.heap.size + 1 = W5.heap.size + oc19.size := by omega
  have ny6x0x1 : ¬ W5.heap.size + oc19.size = w.heap.size + 1 := by omega
  have nz6x0x2 : ¬ gv = W5.heap.size + oc19.size := by omega
  have ny6x0x2 : ¬ W5.heap.size + oc19.size = gv := by omega
  have nz6x0x3 : ¬ gy = W5.heap.size + oc19.size := by omega
  have ny6x0x3 : ¬ W5.heap.size + oc19.size = gy := by omega
  have nz6x0x4 : ¬ g7 = W5.heap.size + oc19.size := by omega
  have ny6x0x4 : ¬ W5.heap.size + oc19.size = g7 := by omega
  have nz6x0x5 : ¬ g4x0 = W5.heap.size + oc19.size := by omega
  have ny6x0x5 : ¬ W5.heap.size + oc19.size = g4x0 := by omega
  clear Z4x0a Z4x0b Z4x0c Z4x1a Z4x1b Z4x1c Z4x2a Z4x2b Z4x2c Z4x3a Z4x3b Z4x3c Z4x4a Z4x4b Z4x4c Z4x5a Z4x5b Z4x5c Z4x0 Z4x1 Z4x2 Z4x3 Z4x4 Z4x5 HB4
  generalize W5.heap.size + oc19.size = g11 at *
  obtain ⟨R6x0a, R6x0b, R6x0c⟩ := R6x0.out
  obtain ⟨R6x1a, R6x1b, R6x1c⟩ := R6x1.out
  obtain ⟨R6x2a, R6x2b, R6x2c⟩ := R6x2.out
  obtain ⟨R6x3a, R6x3b, R6x3c⟩ := R6x3.out
  obtain ⟨R6x4a, R6x4b, R6x4c⟩ := R6x4.out
  obtain ⟨R6x5a, R6x5b, R6x5c⟩ := R6x5.out
  obtain ⟨R6x6a, R6x6b, R6x6c⟩ := R6x6.out
  refine (clamp_K k c Hc.out _).mono ?_
  rintro e w' ⟨rfl, hbw⟩
  obtain ⟨oc20, nc20, rfl⟩ := below_plus hbw
  clear hbw
  have lt20x0 : w.heap.size < W6.heap.size + oc20.size := by omega
  have lt20x1 : w.heap.size + 1 < W6.heap.size + oc20.size := by omega
  have lt20x2 : gv < W6.heap.size + oc20.size := by omega
  have lt20x3 : gy < W6.heap.size + oc20.size := by omega
  have lt20x4 : g7 < W6.heap.size + oc20.size := by omega
  have lt20x5 : g4x0 < W6.heap.size + oc20.size := by omega
  have lt20x6 : g11 < W6.heap.size + oc20.size := by omega
  go_wp2_with fail
  generalize hW : World.alloc _ _ = W7
  have R7x0 := Lib.hid (show RowAt W7 (w.heap.size) (keyA k) by rw [← hW]; clear hW; exact ⟨by go_simp, by go_simp, by go_simp⟩)
  have R7x1 := Lib.hid (show RowAt W7 (w.heap.size + 1) (keyA u) by rw [← hW]; clear hW; exact ⟨by go_simp, by go_simp, by go_simp⟩)
  have R7x2 := Lib.hid (show RowAt W7 (gv) (keyA v) by rw [← hW]; clear hW; exact ⟨by go_simp, by go_simp, by go_simp⟩)
  have R7x3 := Lib.hid (show RowAt W7 (gy) (keyA q) by rw [← hW]; clear hW; exact ⟨by go_simp, by go_simp, by go_simp⟩)
  have R7x4 := Lib.hid (show RowAt W7 (g7) (keyA x) by rw [← hW]; clear hW; exact ⟨by go_simp, by go_simp, by go_simp⟩)
  have R7x5 := Lib.hid (show RowAt W7 (g4x0) (keyA x) by rw [← hW]; clear hW; exact ⟨by go_simp, by go_simp, by go_simp⟩)
  have R7x6 := Lib.hid (show RowAt W7 (g11) (keyA x) by rw [← hW]; clear hW; exact ⟨by go_simp, by go_simp, by go_simp⟩)
  have R7x7 := Lib.hid (show RowAt W7 (W6.heap.size + oc20.size) (keyA c) by rw [← hW]; clear hW; exact ⟨by go_simp, by go_simp, by go_simp⟩)
  have HB7 := Lib.hid (show Below w.heap.size w W7 by rw [← hW]; repeat (first | apply below_more | apply below_alloc | apply Below.drew | refine below_setRow ?_ (by omega) _ | exact HB6.out))
  clear hW
  have lz7x0 : w.heap.size ≤ W6.heap.size + oc20.size := by have := HB6.out.size; omega
  have nz7x0x0 : ¬ w.heap.size = W6.heap.size + oc20.size := by omega
  have ny7x0x0 : ¬ W6.heap.size + oc20.size = w.heap.size := by omega
  have nz7x0x1 : ¬ w.heap.size + 1 = W6.heap.size + oc20.size := by omega
  have ny7x0x1 : ¬ W6.heap.size + oc20.size = w.heap.size + 1 := by omega
  have nz7x0x2 : ¬ gv = W6.heap.size + oc20.size := by omega
  have ny7x0x2 : ¬ W6.heap.size + oc20.size = gv := by omega
  have nz7x0x3 : ¬ gy = W6.heap.size + oc20.size := by omega
  have ny7x0x3 : ¬ W6.heap.size + oc20.size = gy := by omega
  have nz7x0x4 : ¬ g7 = W6.heap.size + oc20.size := by omega
  have ny7x0x4 : ¬ W6.heap.size + oc20.size = g7 := by omega
  have nz7x0x5 : ¬ g4x0 = W6.heap.size + oc20.size := by omega
  have ny7x0x5 : ¬ W6.heap.size + oc20.size = g4x0 := by omega
  have nz7x0x6 : ¬ g11 = W6.heap.size + oc20.size := by omega
  have ny7x0x6 : ¬ W6.heap.size + oc20.size = g11 := by omega
  clear R6x0a R6x0b R6x0c R6x1a R6x1b R6x1c R6x2a R6x2b R6x2c R6x3a R6x3b R6x3c R6x4a R6x4b R6x4c R6x5a R6x5b R6x5c R6x6a R6x6b R6x6c R6x0 R6x1 R6x2 R6x3 R6x4 R6x5 R6x6 HB6
  generalize W6.heap.size + oc20.size = g13 at *
  obtain ⟨R7x0a, R7x0b, R7x0c⟩ := R7x0.out
  obtain ⟨R7x1a, R7x1b, R7x1c⟩ := R7x1.out
  obtain ⟨R7x2a, R7x2b, R7x2c⟩ := R7x2.out
  obtain ⟨R7x3a, R7x3b, R7x3c⟩ := R7x3.out
  obtain ⟨R7x4a, R7x4b, R7x4c⟩ := R7x4.out
  obtain ⟨R7x5a, R7x5b, R7x5c⟩ := R7x5.out
  obtain ⟨R7x6a, R7x6b, R7x6c⟩ := R7x6.out
  obtain ⟨R7x7a, R7x7b, R7x7c⟩ := R7x7.out
  have hc0 := R7x7.out.cellAt 0 (keyA_get c 0 (by decide))
  have hc31 := R7x7.out.cellAt 31 (keyA_get c 31 (by decide))
  refine wp_region_fast (fun w' => ∃ o d, w' = W7.plus o d) (by kernel_rfl) (by kernel_rfl) ⟨#[], _, rfl⟩ ?_
  iterate 4 (refine wpHold_val ⟨_, #[], 0, rfl⟩ (wanted_none rfl) (by rintro K _ ⟨o, d, rfl⟩ hK; go_simp; exact hK _ ⟨o, d, rfl⟩) ?_)
  iterate 3 (refine wpHold_val ⟨_, #[], 0, rfl⟩ (wanted_some rfl rfl rfl) (by rintro K _ ⟨o, d, rfl⟩ hK; go_simp; exact hK _ ⟨o, d, rfl⟩) ?_)
  iterate 2 (refine wpHold_val ⟨_, #[], 0, rfl⟩ (wanted_none rfl) (by rintro K _ ⟨o, d, rfl⟩ hK; go_simp; exact hK _ ⟨o, d, rfl⟩) ?_)
  iterate 3 (refine wpHold_val ⟨_, #[], 0, rfl⟩ (wanted_some rfl rfl rfl) (by rintro K _ ⟨o, d, rfl⟩ hK; go_simp; exact hK _ ⟨o, d, rfl⟩) ?_)
  iterate 2 (refine wpHold_val ⟨_, #[], 0, rfl⟩ (wanted_none rfl) (by rintro K _ ⟨o, d, rfl⟩ hK; go_simp; exact hK _ ⟨o, d, rfl⟩) ?_)
  iterate 3 (refine wpHold_val ⟨_, #[], 0, rfl⟩ (wanted_some rfl rfl rfl) (by rintro K _ ⟨o, d, rfl⟩ hK; go_simp; exact hK _ ⟨o, d, rfl⟩) ?_)
  iterate 2 (refine wpHold_val ⟨_, #[], 0, rfl⟩ (wanted_none rfl) (by rintro K _ ⟨o, d, rfl⟩ hK; go_simp; exact hK _ ⟨o, d, rfl⟩) ?_)
  refine wpHold_val ⟨_, #[], 0, rfl⟩ (wanted_some rfl rfl rfl) (by rintro K _ ⟨o, d, rfl⟩ hK; go_simp; exact hK _ ⟨o, d, rfl⟩) ?_
  refine wpHold_call (v := kv c) (wanted_some rfl rfl rfl) (by rintro K _ ⟨o, d, rfl⟩ hK; go_simp; refine (clamp_K c c Hcc.out _).mono ?_; rintro e w' ⟨rfl, hbw⟩; obtain ⟨o', n', rfl⟩ := below_plus hbw; exact ⟨_, rfl, hK _ ⟨_, _, World.plus_plus _ _ _ _ _⟩⟩) ?_
  iterate 2 (refine wpHold_val ⟨_, #[], 0, rfl⟩ (wanted_some rfl rfl rfl) (by rintro K _ ⟨o, d, rfl⟩ hK; go_simp; exact hK _ ⟨o, d, rfl⟩) ?_)
  iterate 2 (refine wpHold_val ⟨_, #[], 0, rfl⟩ (wanted_none rfl) (by rintro K _ ⟨o, d, rfl⟩ hK; go_simp; exact hK _ ⟨o, d, rfl⟩) ?_)
  iterate 4 (refine wpHold_val ⟨_, #[], 0, rfl⟩ (wanted_some rfl rfl rfl) (by rintro K _ ⟨o, d, rfl⟩ hK; go_simp; exact hK _ ⟨o, d, rfl⟩) ?_)
  iterate 2 (refine wpHold_val ⟨_, #[], 0, rfl⟩ (wanted_none rfl) (by rintro K _ ⟨o, d, rfl⟩ hK; go_simp; exact hK _ ⟨o, d, rfl⟩) ?_)
  iterate 4 (refine wpHold_val ⟨_, #[], 0, rfl⟩ (wanted_some rfl rfl rfl) (by rintro K _ ⟨o, d, rfl⟩ hK; go_simp; exact hK _ ⟨o, d, rfl⟩) ?_)
  iterate 2 (refine wpHold_val ⟨_, #[], 0, rfl⟩ (wanted_none rfl) (by rintro K _ ⟨o, d, rfl⟩ hK; go_simp; exact hK _ ⟨o, d, rfl⟩) ?_)
  refine wpHold_val ⟨_, #[], 0, rfl⟩ (wanted_some rfl rfl rfl) (by rintro K _ ⟨o, d, rfl⟩ hK; go_simp; exact hK _ ⟨o, d, rfl⟩) ?_
  refine wpHold_call (v := kv p) (wanted_some rfl rfl rfl) (by rintro K _ ⟨o, d, rfl⟩ hK; go_simp; refine (public_K k p Hp.out _).mono ?_; rintro e w' ⟨rfl, hbw⟩; obtain ⟨o', n', rfl⟩ := below_plus hbw; exact ⟨_, rfl, hK _ ⟨_, _, World.plus_plus _ _ _ _ _⟩⟩) ?_
  refine wpHold_val ⟨_, #[], 0, rfl⟩ (wanted_some rfl rfl rfl) (by rintro K _ ⟨o, d, rfl⟩ hK; go_simp; exact hK _ ⟨o, d, rfl⟩) ?_
  refine wpHold_call (v := kv p) (wanted_some rfl rfl rfl) (by rintro K _ ⟨o, d, rfl⟩ hK; go_simp; refine (public_K c p Hpc.out _).mono ?_; rintro e w' ⟨rfl, hbw⟩; obtain ⟨o', n', rfl⟩ := below_plus hbw; exact ⟨_, rfl, hK _ ⟨_, _, World.plus_plus _ _ _ _ _⟩⟩) ?_
  refine wpHold_val ⟨_, #[], 0, rfl⟩ (wanted_some rfl rfl rfl) (by rintro K _ ⟨o, d, rfl⟩ hK; go_simp; exact hK _ ⟨o, d, rfl⟩) ?_
  iterate 2 (refine wpHold_val ⟨_, #[], 0, rfl⟩ (wanted_none rfl) (by rintro K _ ⟨o, d, rfl⟩ hK; go_simp; exact hK _ ⟨o, d, rfl⟩) ?_)
  refine wpHold_nil ?_
  rintro _ ⟨of8, nf8, rfl⟩
  go_wp2_with fail
  go_ret
  exact ⟨rfl, below_more HB7.out _ _⟩
end Go.Proofs.Ytpilonikhokjeaa
