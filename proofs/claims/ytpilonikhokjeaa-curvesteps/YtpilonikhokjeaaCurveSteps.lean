/-
  A chain of secrets is one of them behind the other; the point that belongs to a secret is the point 9 times it: CurveSteps answers true, whatever three keys it is given.
-/
import Derived.Test.YtpilonikhokjeaaCurveSlices
namespace Go.Proofs.Ytpilonikhokjeaa
open Go.RowKit Go.Shelf Go.Hold

theorem sh_nine (a : Nat) : shN a 9 = puN a := by
  unfold shN puN; rw [ptN_small (show 9 < Fp.P by decide +kernel)]
set_option maxHeartbeats 2000000 in
set_option maxRecDepth 100000 in
theorem steps_zero (u a b q one two : Nat) (ev e2 : Int) (Hq : Hid (ptN u % Fp.P = q)) (H1 : Hid (chN q [a] = one)) (H2 : Hid (chN q [a, b] = two)) (He : Hid (errOf one = ev)) (He2 : Hid (errOf two = e2)) (hz : ev = 7 ∧ e2 = 7) (w : World) :
    Calls Try.prog 8 #[kv u, kv a, kv b] w fun e w' => e = .returned (.bool true) ∧ Below w.heap.size w w' := by
  obtain ⟨p, ep⟩ : ∃ nn, nn = puN a := ⟨_, rfl⟩
  have Hp := Lib.hid (show Cv.nT (Cv.clampN a) 9 = p from ep.symm)
  have Hp' := Lib.hid (show shN a 9 = p by rw [ep]; exact sh_nine a)
  have Hn := Lib.hid (show errOf p = 0 by rw [ep]; exact errOf_ne (Cv.public_ne a))
  have Hx := Lib.hid (show shN a u = one by rw [← H1.out]; exact (ch_one u a q Hq.out).symm)
  have Hy := Lib.hid (show shN b one = two by rw [← H1.out, ← H2.out]; exact (ch_two q a b).symm)
  clear ep
  obtain ⟨rfl, rfl⟩ := hz
  go_enter Try.func8, Try.ntmps8
  go_wp2_with fail
  refine (alive_any _).mono ?_
  rintro e w' ⟨rfl, hbw⟩
  obtain ⟨oc5, nc5, rfl⟩ := below_plus hbw
  clear hbw
  go_wp2_with fail
  generalize hW : World.alloc _ _ = W1
  have R1x0 := Lib.hid (show RowAt W1 (w.heap.size) (keyA u) by rw [← hW]; clear hW; exact ⟨by go_simp, by go_simp, by go_simp⟩)
  have R1x1 := Lib.hid (show RowAt W1 (w.heap.size + 1) (keyA a) by rw [← hW]; clear hW; exact ⟨by go_simp, by go_simp, by go_simp⟩)
  have R1x2 := Lib.hid (show RowAt W1 (w.heap.size + 1 + 1) (keyA b) by rw [← hW]; clear hW; exact ⟨by go_simp, by go_simp, by go_simp⟩)
  have R1x3 := Lib.hid (show RowAt W1 (w.heap.size + 1 + 1 + 1 + oc5.size) (keyA a) by rw [← hW]; clear hW; exact ⟨by go_simp, by go_simp, by go_simp⟩)
  have HB1 := Lib.hid (show Below w.heap.size w W1 by rw [← hW]; repeat (first | apply below_more | apply below_alloc | apply Below.drew | refine below_setRow ?_ (by omega) _ | exact Below.refl _ _))
  clear hW
  obtain ⟨R1x0a, R1x0b, R1x0c⟩ := R1x0.out
  obtain ⟨R1x1a, R1x1b, R1x1c⟩ := R1x1.out
  obtain ⟨R1x2a, R1x2b, R1x2c⟩ := R1x2.out
  obtain ⟨R1x3a, R1x3b, R1x3c⟩ := R1x3.out
  refine (chain_one u q a one 7 Hq.out H1.out He.out R1x3.out).mono ?_
  rintro e w' ⟨rfl, hbw⟩
  obtain ⟨oc6, nc6, rfl⟩ := below_plus hbw
  clear hbw
  have lt6x0 : w.heap.size < W1.heap.size + oc6.size := by omega
  have lt6x1 : w.heap.size + 1 < W1.heap.size + oc6.size := by omega
  have lt6x2 : w.heap.size + 1 + 1 < W1.heap.size + oc6.size := by omega
  have lt6x3 : w.heap.size + 1 + 1 + 1 + oc5.size < W1.heap.size + oc6.size := by omega
  go_wp2_with fail
  generalize hW : World.alloc _ _ = W2
  have R2x0 := Lib.hid (show RowAt W2 (w.heap.size) (keyA u) by rw [← hW]; clear hW; exact ⟨by go_simp, by go_simp, by go_simp⟩)
  have R2x1 := Lib.hid (show RowAt W2 (w.heap.size + 1) (keyA a) by rw [← hW]; clear hW; exact ⟨by go_simp, by go_simp, by go_simp⟩)
  have R2x2 := Lib.hid (show RowAt W2 (w.heap.size + 1 + 1) (keyA b) by rw [← hW]; clear hW; exact ⟨by go_simp, by go_simp, by go_simp⟩)
  have R2x3 := Lib.hid (show RowAt W2 (w.heap.size + 1 + 1 + 1 + oc5.size) (keyA a) by rw [← hW]; clear hW; exact ⟨by go_simp, by go_simp, by go_simp⟩)
  have R2x4 := Lib.hid (show RowAt W2 (W1.heap.size + oc6.size + 1) (fracA a b) by rw [← hW]; clear hW; exact ⟨by go_simp, by go_simp, by go_simp⟩)
  have R2x5 := Lib.hid (show RowAt W2 (W1.heap.size + oc6.size) (keyA one) by rw [← hW]; clear hW; exact ⟨by go_simp, by go_simp, by go_simp⟩)
  have HB2 := Lib.hid (show Below w.heap.size w W2 by rw [← hW]; repeat (first | apply below_more | apply below_alloc | apply Below.drew | refine below_setRow ?_ (by omega) _ | exact HB1.out))
  clear hW
  have lz2x0 : w.heap.size ≤ W1.heap.size + oc6.size + 1 := by have := HB1.out.size; omega
  have nz2x0x0 : ¬ w.heap.size = W1.heap.size + oc6.size + 1 := by omega
  have ny2x0x0 : ¬ W1.heap.size + oc6.size + 1 = w.heap.size := by omega
  have nz2x0x1 : ¬ w.heap.size + 1 = W1.heap.size + oc6.size + 1 := by omega
  have ny2x0x1 : ¬ W1.heap.size + oc6.size + 1 = w.heap.size + 1 := by omega
  have nz2x0x2 : ¬ w.heap.size + 1 + 1 = W1.heap.size + oc6.size + 1 := by omega
  have ny2x0x2 : ¬ W1.heap.size + oc6.size + 1 = w.heap.size + 1 + 1 := by omega
  have nz2x0x3 : ¬ w.heap.size + 1 + 1 + 1 + oc5.size = W1.heap.size + oc6.size + 1 := by omega
  have ny2x0x3 : ¬ W1.heap.size + oc6.size + 1 = w.heap.size + 1 + 1 + 1 + oc5.size := by omega
  have lz2x1 : w.heap.size ≤ W1.heap.size + oc6.size := by have := HB1.out.size; omega
  have nz2x1x0 : ¬ w.heap.size = W1.heap.size + oc6.size := by omega
  have ny2x1x0 : ¬ W1.heap.size + oc6.size = w.heap.size := by omega
  have nz2x1x1 : ¬ w.heap.size + 1 = W1.heap.size + oc6.size := by omega
  have ny2x1x1 : ¬ W1.heap.size + oc6.size = w.heap.size + 1 := by omega
  have nz2x1x2 : ¬ w.heap.size + 1 + 1 = W1.heap.size + oc6.size := by omega
  have ny2x1x2 : ¬ W1.heap.size + oc6.size = w.heap.size + 1 + 1 := by omega
  have nz2x1x3 : ¬ w.heap.size + 1 + 1 + 1 + oc5.size = W1.heap.size + oc6.size := by omega
  have ny2x1x3 : ¬ W1.heap.size + oc6.size = w.heap.size + 1 + 1 + 1 + oc5.size := by omega
  have nx2x1x0 : ¬ W1.heap.size + oc6.size + 1 = W1.heap.size + oc6.size := by omega
  have nv2x1x0 : ¬ W1.heap.size + oc6.size = W1.heap.size + oc6.size + 1 := by omega
  clear R1x0a R1x0b R1x0c R1x1a R1x1b R1x1c R1x2a R1x2b R1x2c R1x3a R1x3b R1x3c R1x0 R1x1 R1x2 R1x3 HB1
  generalize W1.heap.size + oc6.size + 1 = gs at *
  generalize W1.heap.size + oc6.size = g7 at *
  obtain ⟨R2x0a, R2x0b, R2x0c⟩ := R2x0.out
  obtain ⟨R2x1a, R2x1b, R2x1c⟩ := R2x1.out
  obtain ⟨R2x2a, R2x2b, R2x2c⟩ := R2x2.out
  obtain ⟨R2x3a, R2x3b, R2x3c⟩ := R2x3.out
  obtain ⟨R2x4a, R2x4b, R2x4c⟩ := R2x4.out
  obtain ⟨R2x5a, R2x5b, R2x5c⟩ := R2x5.out
  refine (chain_two u q a b two 7 Hq.out H2.out He2.out R2x4.out).mono ?_
  rintro e w' ⟨rfl, hbw⟩
  obtain ⟨oc7, nc7, rfl⟩ := below_plus hbw
  clear hbw
  have lt7x0 : w.heap.size < W2.heap.size + oc7.size := by omega
  have lt7x1 : w.heap.size + 1 < W2.heap.size + oc7.size := by omega
  have lt7x2 : w.heap.size + 1 + 1 < W2.heap.size + oc7.size := by omega
  have lt7x3 : w.heap.size + 1 + 1 + 1 + oc5.size < W2.heap.size + oc7.size := by omega
  have lt7x4 : gs < W2.heap.size + oc7.size := by omega
  have lt7x5 : g7 < W2.heap.size + oc7.size := by omega
  go_wp2_with fail
  generalize hW : World.alloc _ _ = W3
  have R3x0 := Lib.hid (show RowAt W3 (w.heap.size) (keyA u) by rw [← hW]; clear hW; exact ⟨by go_simp, by go_simp, by go_simp⟩)
  have R3x1 := Lib.hid (show RowAt W3 (w.heap.size + 1) (keyA a) by rw [← hW]; clear hW; exact ⟨by go_simp, by go_simp, by go_simp⟩)
  have R3x2 := Lib.hid (show RowAt W3 (w.heap.size + 1 + 1) (keyA b) by rw [← hW]; clear hW; exact ⟨by go_simp, by go_simp, by go_simp⟩)
  have R3x3 := Lib.hid (show RowAt W3 (w.heap.size + 1 + 1 + 1 + oc5.size) (keyA a) by rw [← hW]; clear hW; exact ⟨by go_simp, by go_simp, by go_simp⟩)
  have R3x4 := Lib.hid (show RowAt W3 (gs) (fracA a b) by rw [← hW]; clear hW; exact ⟨by go_simp, by go_simp, by go_simp⟩)
  have R3x5 := Lib.hid (show RowAt W3 (g7) (keyA one) by rw [← hW]; clear hW; exact ⟨by go_simp, by go_simp, by go_simp⟩)
  have R3x6 := Lib.hid (show RowAt W3 (W2.heap.size + oc7.size) (keyA two) by rw [← hW]; clear hW; exact ⟨by go_simp, by go_simp, by go_simp⟩)
  have HB3 := Lib.hid (show Below w.heap.size w W3 by rw [← hW]; repeat (first | apply below_more | apply below_alloc | apply Below.drew | refine below_setRow ?_ (by omega) _ | exact HB2.out))
  clear hW
  have lz3x0 : w.heap.size ≤ W2.heap.size + oc7.size := by have := HB2.out.size; omega
  have nz3x0x0 : ¬ w.heap.size = W2.heap.size + oc7.size := by omega
  have ny3x0x0 : ¬ W2.heap.size + oc7.size = w.heap.size := by omega
  have nz3x0x1 : ¬ w.heap.size + 1 = W2.heap.size + oc7.size := by omega
  have ny3x0x1 : ¬ W2.heap.size + oc7.size = w.heap.size + 1 := by omega
  have nz3x0x2 : ¬ w.heap.size + 1 + 1 = W2.heap.size + oc7.size := by omega
  have ny3x0x2 : ¬ W2.heap.size + oc7.size = w.heap.size + 1 + 1 := by omega
  have nz3x0x3 : ¬ w.heap.size + 1 + 1 + 1 + oc5.size = W2.heap.size + oc7.size := by omega
  have ny3x0x3 : ¬ W2.heap.size + oc7.size = w.heap.size + 1 + 1 + 1 + oc5.size := by omega
  have nz3x0x4 : ¬ gs = W2.heap.size + oc7.size := by omega
  have ny3x0x4 : ¬ W2.heap.size + oc7.size = gs := by omega
  have nz3x0x5 : ¬ g7 = W2.heap.size + oc7.size := by omega
  have ny3x0x5 : ¬ W2.heap.size + oc7.size = g7 := by omega
  clear R2x0a R2x0b R2x0c R2x1a R2x1b R2x1c R2x2a R2x2b R2x2c R2x3a R2x3b R2x3c R2x4a R2x4b R2x4c R2x5a R2x5b R2x5c R2x0 R2x1 R2x2 R2x3 R2x4 R2x5 HB2
  generalize W2.heap.size + oc7.size = g9 at *
  obtain ⟨R3x0a, R3x0b, R3x0c⟩ := R3x0.out
  obtain ⟨R3x1a, R3x1b, R3x1c⟩ := R3x1.out
  obtain ⟨R3x2a, R3x2b, R3x2c⟩ := R3x2.out
  obtain ⟨R3x3a, R3x3b, R3x3c⟩ := R3x3.out
  obtain ⟨R3x4a, R3x4b, R3x4c⟩ := R3x4.out
  obtain ⟨R3x5a, R3x5b, R3x5c⟩ := R3x5.out
  obtain ⟨R3x6a, R3x6b, R3x6c⟩ := R3x6.out
  refine (shared_K a u one 7 Hx.out He.out _).mono ?_
  rintro e w' ⟨rfl, hbw⟩
  obtain ⟨oc8, nc8, rfl⟩ := below_plus hbw
  clear hbw
  have lt8x0 : w.heap.size < W3.heap.size + oc8.size := by omega
  have lt8x1 : w.heap.size + 1 < W3.heap.size + oc8.size := by omega
  have lt8x2 : w.heap.size + 1 + 1 < W3.heap.size + oc8.size := by omega
  have lt8x3 : w.heap.size + 1 + 1 + 1 + oc5.size < W3.heap.size + oc8.size := by omega
  have lt8x4 : gs < W3.heap.size + oc8.size := by omega
  have lt8x5 : g7 < W3.heap.size + oc8.size := by omega
  have lt8x6 : g9 < W3.heap.size + oc8.size := by omega
  go_wp2_with fail
  generalize hW : World.alloc _ _ = W4
  have R4x0 := Lib.hid (show RowAt W4 (w.heap.size) (keyA u) by rw [← hW]; clear hW; exact ⟨by go_simp, by go_simp, by go_simp⟩)
  have R4x1 := Lib.hid (show RowAt W4 (w.heap.size + 1) (keyA a) by rw [← hW]; clear hW; exact ⟨by go_simp, by go_simp, by go_simp⟩)
  have R4x2 := Lib.hid (show RowAt W4 (w.heap.size + 1 + 1) (keyA b) by rw [← hW]; clear hW; exact ⟨by go_simp, by go_simp, by go_simp⟩)
  have R4x3 := Lib.hid (show RowAt W4 (w.heap.size + 1 + 1 + 1 + oc5.size) (keyA a) by rw [← hW]; clear hW; exact ⟨by go_simp, by go_simp, by go_simp⟩)
  have R4x4 := Lib.hid (show RowAt W4 (gs) (fracA a b) by rw [← hW]; clear hW; exact ⟨by go_simp, by go_simp, by go_simp⟩)
  have R4x5 := Lib.hid (show RowAt W4 (g7) (keyA one) by rw [← hW]; clear hW; exact ⟨by go_simp, by go_simp, by go_simp⟩)
  have R4x6 := Lib.hid (show RowAt W4 (g9) (keyA two) by rw [← hW]; clear hW; exact ⟨by go_simp, by go_simp, by go_simp⟩)
  have R4x7 := Lib.hid (show RowAt W4 (W3.heap.size + oc8.size) (keyA one) by rw [← hW]; clear hW; exact ⟨by go_simp, by go_simp, by go_simp⟩)
  have HB4 := Lib.hid (show Below w.heap.size w W4 by rw [← hW]; repeat (first | apply below_more | apply below_alloc | apply Below.drew | refine below_setRow ?_ (by omega) _ | exact HB3.out))
  clear hW
  have lz4x0 : w.heap.size ≤ W3.heap.size + oc8.size := by have := HB3.out.size; omega
  have nz4x0x0 : ¬ w.heap.size = W3.heap.size + oc8.size := by omega
  have ny4x0x0 : ¬ W3.heap.size + oc8.size = w.heap.size := by omega
  have nz4x0x1 : ¬ w.heap.size + 1 = W3.heap.size + oc8.size := by omega
  have ny4x0x1 : ¬ W3.heap.size + oc8.size = w.heap.size + 1 := by omega
  have nz4x0x2 : ¬ w.heap.size + 1 + 1 = W3.heap.size + oc8.size := by omega
  have ny4x0x2 : ¬ W3.heap.size + oc8.size = w.heap.size + 1 + 1 := by omega
  have nz4x0x3 : ¬ w.heap.size + 1 + 1 + 1 + oc5.size = W3.heap.size + oc8.size := by omega
  have ny4x0x3 : ¬ W3.heap.size + oc8.size = w.heap.size + 1 + 1 + 1 + oc5.size := by omega
  have nz4x0x4 : ¬ gs = W3.heap.size + oc8.size := by omega
  have ny4x0x4 : ¬ W3.heap.size + oc8.size = gs := by omega
  have nz4x0x5 : ¬ g7 = W3.heap.size + oc8.size := by omega
  have ny4x0x5 : ¬ W3.heap.size + oc8.size = g7 := by omega
  have nz4x0x6 : ¬ g9 = W3.heap.size + oc8.size := by omega
  have ny4x0x6 : ¬ W3.heap.size + oc8.size = g9 := by omega
  clear R3x0a R3x0b R3x0c R3x1a R3x1b R3x1c R3x2a R3x2b R3x2c R3x3a R3x3b R3x3c R3x4a R3x4b R3x4c R3x5a R3x5b R3x5c R3x6a R3x6b R3x6c R3x0 R3x1 R3x2 R3x3 R3x4 R3x5 R3x6 HB3
  generalize W3.heap.size + oc8.size = g11 at *
  obtain ⟨R4x0a, R4x0b, R4x0c⟩ := R4x0.out
  obtain ⟨R4x1a, R4x1b, R4x1c⟩ := R4x1.out
  obtain ⟨R4x2a, R4x2b, R4x2c⟩ := R4x2.out
  obtain ⟨R4x3a, R4x3b, R4x3c⟩ := R4x3.out
  obtain ⟨R4x4a, R4x4b, R4x4c⟩ := R4x4.out
  obtain ⟨R4x5a, R4x5b, R4x5c⟩ := R4x5.out
  obtain ⟨R4x6a, R4x6b, R4x6c⟩ := R4x6.out
  obtain ⟨R4x7a, R4x7b, R4x7c⟩ := R4x7.out
  refine (shared_K a 9 p 0 Hp'.out Hn.out _).mono ?_
  rintro e w' ⟨rfl, hbw⟩
  obtain ⟨oc9, nc9, rfl⟩ := below_plus hbw
  clear hbw
  have lt9x0 : w.heap.size < W4.heap.size + oc9.size := by omega
  have lt9x1 : w.heap.size + 1 < W4.heap.size + oc9.size := by omega
  have lt9x2 : w.heap.size + 1 + 1 < W4.heap.size + oc9.size := by omega
  have lt9x3 : w.heap.size + 1 + 1 + 1 + oc5.size < W4.heap.size + oc9.size := by omega
  have lt9x4 : gs < W4.heap.size + oc9.size := by omega
  have lt9x5 : g7 < W4.heap.size + oc9.size := by omega
  have lt9x6 : g9 < W4.heap.size + oc9.size := by omega
  have lt9x7 : g11 < W4.heap.size + oc9.size := by omega
  go_wp2_with fail
  generalize hW : World.alloc _ _ = W5
  have R5x0 := Lib.hid (show RowAt W5 (w.heap.size) (keyA u) by rw [← hW]; clear hW; exact ⟨by go_simp, by go_simp, by go_simp⟩)
  have R5x1 := Lib.hid (show RowAt W5 (w.heap.size + 1) (keyA a) by rw [← hW]; clear hW; exact ⟨by go_simp, by go_simp, by go_simp⟩)
  have R5x2 := Lib.hid (show RowAt W5 (w.heap.size + 1 + 1) (keyA b) by rw [← hW]; clear hW; exact ⟨by go_simp, by go_simp, by go_simp⟩)
  have R5x3 := Lib.hid (show RowAt W5 (w.heap.size + 1 + 1 + 1 + oc5.size) (keyA a) by rw [← hW]; clear hW; exact ⟨by go_simp, by go_simp, by go_simp⟩)
  have R5x4 := Lib.hid (show RowAt W5 (gs) (fracA a b) by rw [← hW]; clear hW; exact ⟨by go_simp, by go_simp, by go_simp⟩)
  have R5x5 := Lib.hid (show RowAt W5 (g7) (keyA one) by rw [← hW]; clear hW; exact ⟨by go_simp, by go_simp, by go_simp⟩)
  have R5x6 := Lib.hid (show RowAt W5 (g9) (keyA two) by rw [← hW]; clear hW; exact ⟨by go_simp, by go_simp, by go_simp⟩)
  have R5x7 := Lib.hid (show RowAt W5 (g11) (keyA one) by rw [← hW]; clear hW; exact ⟨by go_simp, by go_simp, by go_simp⟩)
  have R5x8 := Lib.hid (show RowAt W5 (W4.heap.size + oc9.size) (keyA p) by rw [← hW]; clear hW; exact ⟨by go_simp, by go_simp, by go_simp⟩)
  have HB5 := Lib.hid (show Below w.heap.size w W5 by rw [← hW]; repeat (first | apply below_more | apply below_alloc | apply Below.drew | refine below_setRow ?_ (by omega) _ | exact HB4.out))
  clear hW
  have lz5x0 : w.heap.size ≤ W4.heap.size + oc9.size := by have := HB4.out.size; omega
  have nz5x0x0 : ¬ w.heap.size = W4.heap.size + oc9.size := by omega
  have ny5x0x0 : ¬ W4.heap.size + oc9.size = w.heap.size := by omega
  have nz5x0x1 : ¬ w.heap.size + 1 = W4.heap.size + oc9.size := by omega
  have ny5x0x1 : ¬ W4.heap.size + oc9.size = w.heap.size + 1 := by omega
  have nz5x0x2 : ¬ w.heap.size + 1 + 1 = W4.heap.size + oc9.size := by omega
  have ny5x0x2 : ¬ W4.heap.size + oc9.size = w.heap.size + 1 + 1 := by omega
  have nz5x0x3 : ¬ w.heap.size + 1 + 1 + 1 + oc5.size = W4.heap.size + oc9.size := by omega
  have ny5x0x3 : ¬ W4.heap.size + oc9.size = w.heap.size + 1 + 1 + 1 + oc5.size := by omega
  have nz5x0x4 : ¬ gs = W4.heap.size + oc9.size := by omega
  have ny5x0x4 : ¬ W4.heap.size + oc9.size = gs := by omega
  have nz5x0x5 : ¬ g7 = W4.heap.size + oc9.size := by omega
  have ny5x0x5 : ¬ W4.heap.size + oc9.size = g7 := by omega
  have nz5x0x6 : ¬ g9 = W4.heap.size + oc9.size := by omega
  have ny5x0x6 : ¬ W4.heap.size + oc9.size = g9 := by omega
  have nz5x0x7 : ¬ g11 = W4.heap.size + oc9.size := by omega
  have ny5x0x7 : ¬ W4.heap.size + oc9.size = g11 := by omega
  clear R4x0a R4x0b R4x0c R4x1a R4x1b R4x1c R4x2a R4x2b R4x2c R4x3a R4x3b R4x3c R4x4a R4x4b R4x4c R4x5a R4x5b R4x5c R4x6a R4x6b R4x6c R4x7a R4x7b R4x7c R4x0 R4x1 R4x2 R4x3 R4x4 R4x5 R4x6 R4x7 HB4
  generalize W4.heap.size + oc9.size = g13 at *
  obtain ⟨R5x0a, R5x0b, R5x0c⟩ := R5x0.out
  obtain ⟨R5x1a, R5x1b, R5x1c⟩ := R5x1.out
  obtain ⟨R5x2a, R5x2b, R5x2c⟩ := R5x2.out
  obtain ⟨R5x3a, R5x3b, R5x3c⟩ := R5x3.out
  obtain ⟨R5x4a, R5x4b, R5x4c⟩ := R5x4.out
  obtain ⟨R5x5a, R5x5b, R5x5c⟩ := R5x5.out
  obtain ⟨R5x6a, R5x6b, R5x6c⟩ := R5x6.out
  obtain ⟨R5x7a, R5x7b, R5x7c⟩ := R5x7.out
  obtain ⟨R5x8a, R5x8b, R5x8c⟩ := R5x8.out
  refine wp_region_fast (fun w' => ∃ o d, w' = W5.plus o d) (by kernel_rfl) (by kernel_rfl) ⟨#[], _, rfl⟩ ?_
  iterate 3 (refine wpHold_val ⟨_, #[], 0, rfl⟩ (wanted_none rfl) (by rintro K _ ⟨o, d, rfl⟩ hK; go_simp; exact hK _ ⟨o, d, rfl⟩) ?_)
  iterate 2 (refine wpHold_val ⟨_, #[], 0, rfl⟩ (wanted_some rfl rfl rfl) (by rintro K _ ⟨o, d, rfl⟩ hK; go_simp; exact hK _ ⟨o, d, rfl⟩) ?_)
  refine wpHold_call (v := kv p) (wanted_some rfl rfl rfl) (by rintro K _ ⟨o, d, rfl⟩ hK; go_simp; refine (public_K a p Hp.out _).mono ?_; rintro e w' ⟨rfl, hbw⟩; obtain ⟨o', n', rfl⟩ := below_plus hbw; exact ⟨_, rfl, hK _ ⟨_, _, World.plus_plus _ _ _ _ _⟩⟩) ?_
  refine wpHold_val ⟨_, #[], 0, rfl⟩ (wanted_some rfl rfl rfl) (by rintro K _ ⟨o, d, rfl⟩ hK; go_simp; exact hK _ ⟨o, d, rfl⟩) ?_
  iterate 2 (refine wpHold_val ⟨_, #[], 0, rfl⟩ (wanted_none rfl) (by rintro K _ ⟨o, d, rfl⟩ hK; go_simp; exact hK _ ⟨o, d, rfl⟩) ?_)
  iterate 3 (refine wpHold_val ⟨_, #[], 0, rfl⟩ (wanted_some rfl rfl rfl) (by rintro K _ ⟨o, d, rfl⟩ hK; go_simp; exact hK _ ⟨o, d, rfl⟩) ?_)
  iterate 2 (refine wpHold_val ⟨_, #[], 0, rfl⟩ (wanted_none rfl) (by rintro K _ ⟨o, d, rfl⟩ hK; go_simp; exact hK _ ⟨o, d, rfl⟩) ?_)
  iterate 3 (refine wpHold_val ⟨_, #[], 0, rfl⟩ (wanted_some rfl rfl rfl) (by rintro K _ ⟨o, d, rfl⟩ hK; go_simp; exact hK _ ⟨o, d, rfl⟩) ?_)
  refine wpHold_val ⟨_, #[], 0, rfl⟩ (wanted_none rfl) (by rintro K _ ⟨o, d, rfl⟩ hK; go_simp; exact hK _ ⟨o, d, rfl⟩) ?_
  refine wpHold_nil ?_
  rintro _ ⟨of6, nf6, rfl⟩
  go_wp2_with fail
  go_ret
  exact ⟨rfl, below_more HB5.out _ _⟩

set_option maxHeartbeats 2000000 in
set_option maxRecDepth 100000 in
theorem steps_not (u a b q one two : Nat) (ev e2 : Int) (Hq : Hid (ptN u % Fp.P = q)) (H1 : Hid (chN q [a] = one)) (H2 : Hid (chN q [a, b] = two)) (He : Hid (errOf one = ev)) (He2 : Hid (errOf two = e2)) (hz : ev = 0) (w : World) :
    Calls Try.prog 8 #[kv u, kv a, kv b] w fun e w' => e = .returned (.bool true) ∧ Below w.heap.size w w' := by
  obtain ⟨p, ep⟩ : ∃ nn, nn = puN a := ⟨_, rfl⟩
  have Hp := Lib.hid (show Cv.nT (Cv.clampN a) 9 = p from ep.symm)
  have Hp' := Lib.hid (show shN a 9 = p by rw [ep]; exact sh_nine a)
  have Hn := Lib.hid (show errOf p = 0 by rw [ep]; exact errOf_ne (Cv.public_ne a))
  have Hx := Lib.hid (show shN a u = one by rw [← H1.out]; exact (ch_one u a q Hq.out).symm)
  have Hy := Lib.hid (show shN b one = two by rw [← H1.out, ← H2.out]; exact (ch_two q a b).symm)
  clear ep
  subst hz
  go_enter Try.func8, Try.ntmps8
  go_wp2_with fail
  refine (alive_any _).mono ?_
  rintro e w' ⟨rfl, hbw⟩
  obtain ⟨oc10, nc10, rfl⟩ := below_plus hbw
  clear hbw
  go_wp2_with fail
  generalize hW : World.alloc _ _ = W1
  have R1x0 := Lib.hid (show RowAt W1 (w.heap.size) (keyA u) by rw [← hW]; clear hW; exact ⟨by go_simp, by go_simp, by go_simp⟩)
  have R1x1 := Lib.hid (show RowAt W1 (w.heap.size + 1) (keyA a) by rw [← hW]; clear hW; exact ⟨by go_simp, by go_simp, by go_simp⟩)
  have R1x2 := Lib.hid (show RowAt W1 (w.heap.size + 1 + 1) (keyA b) by rw [← hW]; clear hW; exact ⟨by go_simp, by go_simp, by go_simp⟩)
  have R1x3 := Lib.hid (show RowAt W1 (w.heap.size + 1 + 1 + 1 + oc10.size) (keyA a) by rw [← hW]; clear hW; exact ⟨by go_simp, by go_simp, by go_simp⟩)
  have HB1 := Lib.hid (show Below w.heap.size w W1 by rw [← hW]; repeat (first | apply below_more | apply below_alloc | apply Below.drew | refine below_setRow ?_ (by omega) _ | exact Below.refl _ _))
  clear hW
  obtain ⟨R1x0a, R1x0b, R1x0c⟩ := R1x0.out
  obtain ⟨R1x1a, R1x1b, R1x1c⟩ := R1x1.out
  obtain ⟨R1x2a, R1x2b, R1x2c⟩ := R1x2.out
  obtain ⟨R1x3a, R1x3b, R1x3c⟩ := R1x3.out
  refine (chain_one u q a one 0 Hq.out H1.out He.out R1x3.out).mono ?_
  rintro e w' ⟨rfl, hbw⟩
  obtain ⟨oc11, nc11, rfl⟩ := below_plus hbw
  clear hbw
  have lt11x0 : w.heap.size < W1.heap.size + oc11.size := by omega
  have lt11x1 : w.heap.size + 1 < W1.heap.size + oc11.size := by omega
  have lt11x2 : w.heap.size + 1 + 1 < W1.heap.size + oc11.size := by omega
  have lt11x3 : w.heap.size + 1 + 1 + 1 + oc10.size < W1.heap.size + oc11.size := by omega
  go_wp2_with fail
  generalize hW : World.alloc _ _ = W2
  have R2x0 := Lib.hid (show RowAt W2 (w.heap.size) (keyA u) by rw [← hW]; clear hW; exact ⟨by go_simp, by go_simp, by go_simp⟩)
  have R2x1 := Lib.hid (show RowAt W2 (w.heap.size + 1) (keyA a) by rw [← hW]; clear hW; exact ⟨by go_simp, by go_simp, by go_simp⟩)
  have R2x2 := Lib.hid (show RowAt W2 (w.heap.size + 1 + 1) (keyA b) by rw [← hW]; clear hW; exact ⟨by go_simp, by go_simp, by go_simp⟩)
  have R2x3 := Lib.hid (show RowAt W2 (w.heap.size + 1 + 1 + 1 + oc10.size) (keyA a) by rw [← hW]; clear hW; exact ⟨by go_simp, by go_simp, by go_simp⟩)
  have R2x4 := Lib.hid (show RowAt W2 (W1.heap.size + oc11.size + 1) (fracA a b) by rw [← hW]; clear hW; exact ⟨by go_simp, by go_simp, by go_simp⟩)
  have R2x5 := Lib.hid (show RowAt W2 (W1.heap.size + oc11.size) (keyA one) by rw [← hW]; clear hW; exact ⟨by go_simp, by go_simp, by go_simp⟩)
  have HB2 := Lib.hid (show Below w.heap.size w W2 by rw [← hW]; repeat (first | apply below_more | apply below_alloc | apply Below.drew | refine below_setRow ?_ (by omega) _ | exact HB1.out))
  clear hW
  have lz2x0 : w.heap.size ≤ W1.heap.size + oc11.size + 1 := by have := HB1.out.size; omega
  have nz2x0x0 : ¬ w.heap.size = W1.heap.size + oc11.size + 1 := by omega
  have ny2x0x0 : ¬ W1.heap.size + oc11.size + 1 = w.heap.size := by omega
  have nz2x0x1 : ¬ w.heap.size + 1 = W1.heap.size + oc11.size + 1 := by omega
  have ny2x0x1 : ¬ W1.heap.size + oc11.size + 1 = w.heap.size + 1 := by omega
  have nz2x0x2 : ¬ w.heap.size + 1 + 1 = W1.heap.size + oc11.size + 1 := by omega
  have ny2x0x2 : ¬ W1.heap.size + oc11.size + 1 = w.heap.size + 1 + 1 := by omega
  have nz2x0x3 : ¬ w.heap.size + 1 + 1 + 1 + oc10.size = W1.heap.size + oc11.size + 1 := by omega
  have ny2x0x3 : ¬ W1.heap.size + oc11.size + 1 = w.heap.size + 1 + 1 + 1 + oc10.size := by omega
  have lz2x1 : w.heap.size ≤ W1.heap.size + oc11.size := by have := HB1.out.size; omega
  have nz2x1x0 : ¬ w.heap.size = W1.heap.size + oc11.size := by omega
  have ny2x1x0 : ¬ W1.heap.size + oc11.size = w.heap.size := by omega
  have nz2x1x1 : ¬ w.heap.size + 1 = W1.heap.size + oc11.size := by omega
  have ny2x1x1 : ¬ W1.heap.size + oc11.size = w.heap.size + 1 := by omega
  have nz2x1x2 : ¬ w.heap.size + 1 + 1 = W1.heap.size + oc11.size := by omega
  have ny2x1x2 : ¬ W1.heap.size + oc11.size = w.heap.size + 1 + 1 := by omega
  have nz2x1x3 : ¬ w.heap.size + 1 + 1 + 1 + oc10.size = W1.heap.size + oc11.size := by omega
  have ny2x1x3 : ¬ W1.heap.size + oc11.size = w.heap.size + 1 + 1 + 1 + oc10.size := by omega
  have nx2x1x0 : ¬ W1.heap.size + oc11.size + 1 = W1.heap.size + oc11.size := by omega
  have nv2x1x0 : ¬ W1.heap.size + oc11.size = W1.heap.size + oc11.size + 1 := by omega
  clear R1x0a R1x0b R1x0c R1x1a R1x1b R1x1c R1x2a R1x2b R1x2c R1x3a R1x3b R1x3c R1x0 R1x1 R1x2 R1x3 HB1
  generalize W1.heap.size + oc11.size + 1 = gs at *
  generalize W1.heap.size + oc11.size = g7 at *
  obtain ⟨R2x0a, R2x0b, R2x0c⟩ := R2x0.out
  obtain ⟨R2x1a, R2x1b, R2x1c⟩ := R2x1.out
  obtain ⟨R2x2a, R2x2b, R2x2c⟩ := R2x2.out
  obtain ⟨R2x3a, R2x3b, R2x3c⟩ := R2x3.out
  obtain ⟨R2x4a, R2x4b, R2x4c⟩ := R2x4.out
  obtain ⟨R2x5a, R2x5b, R2x5c⟩ := R2x5.out
  refine (chain_two u q a b two e2 Hq.out H2.out He2.out R2x4.out).mono ?_
  rintro e w' ⟨rfl, hbw⟩
  obtain ⟨oc12, nc12, rfl⟩ := below_plus hbw
  clear hbw
  have lt12x0 : w.heap.size < W2.heap.size + oc12.size := by omega
  have lt12x1 : w.heap.size + 1 < W2.heap.size + oc12.size := by omega
  have lt12x2 : w.heap.size + 1 + 1 < W2.heap.size + oc12.size := by omega
  have lt12x3 : w.heap.size + 1 + 1 + 1 + oc10.size < W2.heap.size + oc12.size := by omega
  have lt12x4 : gs < W2.heap.size + oc12.size := by omega
  have lt12x5 : g7 < W2.heap.size + oc12.size := by omega
  go_wp2_with fail
  generalize hW : World.alloc _ _ = W3
  have R3x0 := Lib.hid (show RowAt W3 (w.heap.size) (keyA u) by rw [← hW]; clear hW; exact ⟨by go_simp, by go_simp, by go_simp⟩)
  have R3x1 := Lib.hid (show RowAt W3 (w.heap.size + 1) (keyA a) by rw [← hW]; clear hW; exact ⟨by go_simp, by go_simp, by go_simp⟩)
  have R3x2 := Lib.hid (show RowAt W3 (w.heap.size + 1 + 1) (keyA b) by rw [← hW]; clear hW; exact ⟨by go_simp, by go_simp, by go_simp⟩)
  have R3x3 := Lib.hid (show RowAt W3 (w.heap.size + 1 + 1 + 1 + oc10.size) (keyA a) by rw [← hW]; clear hW; exact ⟨by go_simp, by go_simp, by go_simp⟩)
  have R3x4 := Lib.hid (show RowAt W3 (gs) (fracA a b) by rw [← hW]; clear hW; exact ⟨by go_simp, by go_simp, by go_simp⟩)
  have R3x5 := Lib.hid (show RowAt W3 (g7) (keyA one) by rw [← hW]; clear hW; exact ⟨by go_simp, by go_simp, by go_simp⟩)
  have R3x6 := Lib.hid (show RowAt W3 (W2.heap.size + oc12.size) (keyA two) by rw [← hW]; clear hW; exact ⟨by go_simp, by go_simp, by go_simp⟩)
  have HB3 := Lib.hid (show Below w.heap.size w W3 by rw [← hW]; repeat (first | apply below_more | apply below_alloc | apply Below.drew | refine below_setRow ?_ (by omega) _ | exact HB2.out))
  clear hW
  have lz3x0 : w.heap.size ≤ W2.heap.size + oc12.size := by have := HB2.out.size; omega
  have nz3x0x0 : ¬ w.heap.size = W2.heap.size + oc12.size := by omega
  have ny3x0x0 : ¬ W2.heap.size + oc12.size = w.heap.size := by omega
  have nz3x0x1 : ¬ w.heap.size + 1 = W2.heap.size + oc12.size := by omega
  have ny3x0x1 : ¬ W2.heap.size + oc12.size = w.heap.size + 1 := by omega
  have nz3x0x2 : ¬ w.heap.size + 1 + 1 = W2.heap.size + oc12.size := by omega
  have ny3x0x2 : ¬ W2.heap.size + oc12.size = w.heap.size + 1 + 1 := by omega
  have nz3x0x3 : ¬ w.heap.size + 1 + 1 + 1 + oc10.size = W2.heap.size + oc12.size := by omega
  have ny3x0x3 : ¬ W2.heap.size + oc12.size = w.heap.size + 1 + 1 + 1 + oc10.size := by omega
  have nz3x0x4 : ¬ gs = W2.heap.size + oc12.size := by omega
  have ny3x0x4 : ¬ W2.heap.size + oc12.size = gs := by omega
  have nz3x0x5 : ¬ g7 = W2.heap.size + oc12.size := by omega
  have ny3x0x5 : ¬ W2.heap.size + oc12.size = g7 := by omega
  clear R2x0a R2x0b R2x0c R2x1a R2x1b R2x1c R2x2a R2x2b R2x2c R2x3a R2x3b R2x3c R2x4a R2x4b R2x4c R2x5a R2x5b R2x5c R2x0 R2x1 R2x2 R2x3 R2x4 R2x5 HB2
  generalize W2.heap.size + oc12.size = g9 at *
  obtain ⟨R3x0a, R3x0b, R3x0c⟩ := R3x0.out
  obtain ⟨R3x1a, R3x1b, R3x1c⟩ := R3x1.out
  obtain ⟨R3x2a, R3x2b, R3x2c⟩ := R3x2.out
  obtain ⟨R3x3a, R3x3b, R3x3c⟩ := R3x3.out
  obtain ⟨R3x4a, R3x4b, R3x4c⟩ := R3x4.out
  obtain ⟨R3x5a, R3x5b, R3x5c⟩ := R3x5.out
  obtain ⟨R3x6a, R3x6b, R3x6c⟩ := R3x6.out
  refine (shared_K a u one 0 Hx.out He.out _).mono ?_
  rintro e w' ⟨rfl, hbw⟩
  obtain ⟨oc13, nc13, rfl⟩ := below_plus hbw
  clear hbw
  have lt13x0 : w.heap.size < W3.heap.size + oc13.size := by omega
  have lt13x1 : w.heap.size + 1 < W3.heap.size + oc13.size := by omega
  have lt13x2 : w.heap.size + 1 + 1 < W3.heap.size + oc13.size := by omega
  have lt13x3 : w.heap.size + 1 + 1 + 1 + oc10.size < W3.heap.size + oc13.size := by omega
  have lt13x4 : gs < W3.heap.size + oc13.size := by omega
  have lt13x5 : g7 < W3.heap.size + oc13.size := by omega
  have lt13x6 : g9 < W3.heap.size + oc13.size := by omega
  go_wp2_with fail
  generalize hW : World.alloc _ _ = W4
  have R4x0 := Lib.hid (show RowAt W4 (w.heap.size) (keyA u) by rw [← hW]; clear hW; exact ⟨by go_simp, by go_simp, by go_simp⟩)
  have R4x1 := Lib.hid (show RowAt W4 (w.heap.size + 1) (keyA a) by rw [← hW]; clear hW; exact ⟨by go_simp, by go_simp, by go_simp⟩)
  have R4x2 := Lib.hid (show RowAt W4 (w.heap.size + 1 + 1) (keyA b) by rw [← hW]; clear hW; exact ⟨by go_simp, by go_simp, by go_simp⟩)
  have R4x3 := Lib.hid (show RowAt W4 (w.heap.size + 1 + 1 + 1 + oc10.size) (keyA a) by rw [← hW]; clear hW; exact ⟨by go_simp, by go_simp, by go_simp⟩)
  have R4x4 := Lib.hid (show RowAt W4 (gs) (fracA a b) by rw [← hW]; clear hW; exact ⟨by go_simp, by go_simp, by go_simp⟩)
  have R4x5 := Lib.hid (show RowAt W4 (g7) (keyA one) by rw [← hW]; clear hW; exact ⟨by go_simp, by go_simp, by go_simp⟩)
  have R4x6 := Lib.hid (show RowAt W4 (g9) (keyA two) by rw [← hW]; clear hW; exact ⟨by go_simp, by go_simp, by go_simp⟩)
  have R4x7 := Lib.hid (show RowAt W4 (W3.heap.size + oc13.size) (keyA one) by rw [← hW]; clear hW; exact ⟨by go_simp, by go_simp, by go_simp⟩)
  have HB4 := Lib.hid (show Below w.heap.size w W4 by rw [← hW]; repeat (first | apply below_more | apply below_alloc | apply Below.drew | refine below_setRow ?_ (by omega) _ | exact HB3.out))
  clear hW
  have lz4x0 : w.heap.size ≤ W3.heap.size + oc13.size := by have := HB3.out.size; omega
  have nz4x0x0 : ¬ w.heap.size = W3.heap.size + oc13.size := by omega
  have ny4x0x0 : ¬ W3.heap.size + oc13.size = w.heap.size := by omega
  have nz4x0x1 : ¬ w.heap.size + 1 = W3.heap.size + oc13.size := by omega
  have ny4x0x1 : ¬ W3.heap.size + oc13.size = w.heap.size + 1 := by omega
  have nz4x0x2 : ¬ w.heap.size + 1 + 1 = W3.heap.size + oc13.size := by omega
  have ny4x0x2 : ¬ W3.heap.size + oc13.size = w.heap.size + 1 + 1 := by omega
  have nz4x0x3 : ¬ w.heap.size + 1 + 1 + 1 + oc10.size = W3.heap.size + oc13.size := by omega
  have ny4x0x3 : ¬ W3.heap.size + oc13.size = w.heap.size + 1 + 1 + 1 + oc10.size := by omega
  have nz4x0x4 : ¬ gs = W3.heap.size + oc13.size := by omega
  have ny4x0x4 : ¬ W3.heap.size + oc13.size = gs := by omega
  have nz4x0x5 : ¬ g7 = W3.heap.size + oc13.size := by omega
  have ny4x0x5 : ¬ W3.heap.size + oc13.size = g7 := by omega
  have nz4x0x6 : ¬ g9 = W3.heap.size + oc13.size := by omega
  have ny4x0x6 : ¬ W3.heap.size + oc13.size = g9 := by omega
  clear R3x0a R3x0b R3x0c R3x1a R3x1b R3x1c R3x2a R3x2b R3x2c R3x3a R3x3b R3x3c R3x4a R3x4b R3x4c R3x5a R3x5b R3x5c R3x6a R3x6b R3x6c R3x0 R3x1 R3x2 R3x3 R3x4 R3x5 R3x6 HB3
  generalize W3.heap.size + oc13.size = g11 at *
  obtain ⟨R4x0a, R4x0b, R4x0c⟩ := R4x0.out
  obtain ⟨R4x1a, R4x1b, R4x1c⟩ := R4x1.out
  obtain ⟨R4x2a, R4x2b, R4x2c⟩ := R4x2.out
  obtain ⟨R4x3a, R4x3b, R4x3c⟩ := R4x3.out
  obtain ⟨R4x4a, R4x4b, R4x4c⟩ := R4x4.out
  obtain ⟨R4x5a, R4x5b, R4x5c⟩ := R4x5.out
  obtain ⟨R4x6a, R4x6b, R4x6c⟩ := R4x6.out
  obtain ⟨R4x7a, R4x7b, R4x7c⟩ := R4x7.out
  refine (shared_K a 9 p 0 Hp'.out Hn.out _).mono ?_
  rintro e w' ⟨rfl, hbw⟩
  obtain ⟨oc14, nc14, rfl⟩ := below_plus hbw
  clear hbw
  have lt14x0 : w.heap.size < W4.heap.size + oc14.size := by omega
  have lt14x1 : w.heap.size + 1 < W4.heap.size + oc14.size := by omega
  have lt14x2 : w.heap.size + 1 + 1 < W4.heap.size + oc14.size := by omega
  have lt14x3 : w.heap.size + 1 + 1 + 1 + oc10.size < W4.heap.size + oc14.size := by omega
  have lt14x4 : gs < W4.heap.size + oc14.size := by omega
  have lt14x5 : g7 < W4.heap.size + oc14.size := by omega
  have lt14x6 : g9 < W4.heap.size + oc14.size := by omega
  have lt14x7 : g11 < W4.heap.size + oc14.size := by omega
  go_wp2_with fail
  generalize hW : World.alloc _ _ = W5
  have R5x0 := Lib.hid (show RowAt W5 (w.heap.size) (keyA u) by rw [← hW]; clear hW; exact ⟨by go_simp, by go_simp, by go_simp⟩)
  have R5x1 := Lib.hid (show RowAt W5 (w.heap.size + 1) (keyA a) by rw [← hW]; clear hW; exact ⟨by go_simp, by go_simp, by go_simp⟩)
  have R5x2 := Lib.hid (show RowAt W5 (w.heap.size + 1 + 1) (keyA b) by rw [← hW]; clear hW; exact ⟨by go_simp, by go_simp, by go_simp⟩)
  have R5x3 := Lib.hid (show RowAt W5 (w.heap.size + 1 + 1 + 1 + oc10.size) (keyA a) by rw [← hW]; clear hW; exact ⟨by go_simp, by go_simp, by go_simp⟩)
  have R5x4 := Lib.hid (show RowAt W5 (gs) (fracA a b) by rw [← hW]; clear hW; exact ⟨by go_simp, by go_simp, by go_simp⟩)
  have R5x5 := Lib.hid (show RowAt W5 (g7) (keyA one) by rw [← hW]; clear hW; exact ⟨by go_simp, by go_simp, by go_simp⟩)
  have R5x6 := Lib.hid (show RowAt W5 (g9) (keyA two) by rw [← hW]; clear hW; exact ⟨by go_simp, by go_simp, by go_simp⟩)
  have R5x7 := Lib.hid (show RowAt W5 (g11) (keyA one) by rw [← hW]; clear hW; exact ⟨by go_simp, by go_simp, by go_simp⟩)
  have R5x8 := Lib.hid (show RowAt W5 (W4.heap.size + oc14.size) (keyA p) by rw [← hW]; clear hW; exact ⟨by go_simp, by go_simp, by go_simp⟩)
  have HB5 := Lib.hid (show Below w.heap.size w W5 by rw [← hW]; repeat (first | apply below_more | apply below_alloc | apply Below.drew | refine below_setRow ?_ (by omega) _ | exact HB4.out))
  clear hW
  have lz5x0 : w.heap.size ≤ W4.heap.size + oc14.size := by have := HB4.out.size; omega
  have nz5x0x0 : ¬ w.heap.size = W4.heap.size + oc14.size := by omega
  have ny5x0x0 : ¬ W4.heap.size + oc14.size = w.heap.size := by omega
  have nz5x0x1 : ¬ w.heap.size + 1 = W4.heap.size + oc14.size := by omega
  have ny5x0x1 : ¬ W4.heap.size + oc14.size = w.heap.size + 1 := by omega
  have nz5x0x2 : ¬ w.heap.size + 1 + 1 = W4.heap.size + oc14.size := by omega
  have ny5x0x2 : ¬ W4.heap.size + oc14.size = w.heap.size + 1 + 1 := by omega
  have nz5x0x3 : ¬ w.heap.size + 1 + 1 + 1 + oc10.size = W4.heap.size + oc14.size := by omega
  have ny5x0x3 : ¬ W4.heap.size + oc14.size = w.heap.size + 1 + 1 + 1 + oc10.size := by omega
  have nz5x0x4 : ¬ gs = W4.heap.size + oc14.size := by omega
  have ny5x0x4 : ¬ W4.heap.size + oc14.size = gs := by omega
  have nz5x0x5 : ¬ g7 = W4.heap.size + oc14.size := by omega
  have ny5x0x5 : ¬ W4.heap.size + oc14.size = g7 := by omega
  have nz5x0x6 : ¬ g9 = W4.heap.size + oc14.size := by omega
  have ny5x0x6 : ¬ W4.heap.size + oc14.size = g9 := by omega
  have nz5x0x7 : ¬ g11 = W4.heap.size + oc14.size := by omega
  have ny5x0x7 : ¬ W4.heap.size + oc14.size = g11 := by omega
  clear R4x0a R4x0b R4x0c R4x1a R4x1b R4x1c R4x2a R4x2b R4x2c R4x3a R4x3b R4x3c R4x4a R4x4b R4x4c R4x5a R4x5b R4x5c R4x6a R4x6b R4x6c R4x7a R4x7b R4x7c R4x0 R4x1 R4x2 R4x3 R4x4 R4x5 R4x6 R4x7 HB4
  generalize W4.heap.size + oc14.size = g13 at *
  obtain ⟨R5x0a, R5x0b, R5x0c⟩ := R5x0.out
  obtain ⟨R5x1a, R5x1b, R5x1c⟩ := R5x1.out
  obtain ⟨R5x2a, R5x2b, R5x2c⟩ := R5x2.out
  obtain ⟨R5x3a, R5x3b, R5x3c⟩ := R5x3.out
  obtain ⟨R5x4a, R5x4b, R5x4c⟩ := R5x4.out
  obtain ⟨R5x5a, R5x5b, R5x5c⟩ := R5x5.out
  obtain ⟨R5x6a, R5x6b, R5x6c⟩ := R5x6.out
  obtain ⟨R5x7a, R5x7b, R5x7c⟩ := R5x7.out
  obtain ⟨R5x8a, R5x8b, R5x8c⟩ := R5x8.out
  refine wp_region_fast (fun w' => ∃ o d, w' = W5.plus o d) (by kernel_rfl) (by kernel_rfl) ⟨#[], _, rfl⟩ ?_
  iterate 3 (refine wpHold_val ⟨_, #[], 0, rfl⟩ (wanted_none rfl) (by rintro K _ ⟨o, d, rfl⟩ hK; go_simp; exact hK _ ⟨o, d, rfl⟩) ?_)
  iterate 2 (refine wpHold_val ⟨_, #[], 0, rfl⟩ (wanted_some rfl rfl rfl) (by rintro K _ ⟨o, d, rfl⟩ hK; go_simp; exact hK _ ⟨o, d, rfl⟩) ?_)
  refine wpHold_call (v := kv p) (wanted_some rfl rfl rfl) (by rintro K _ ⟨o, d, rfl⟩ hK; go_simp; refine (public_K a p Hp.out _).mono ?_; rintro e w' ⟨rfl, hbw⟩; obtain ⟨o', n', rfl⟩ := below_plus hbw; exact ⟨_, rfl, hK _ ⟨_, _, World.plus_plus _ _ _ _ _⟩⟩) ?_
  refine wpHold_val ⟨_, #[], 0, rfl⟩ (wanted_some rfl rfl rfl) (by rintro K _ ⟨o, d, rfl⟩ hK; go_simp; exact hK _ ⟨o, d, rfl⟩) ?_
  iterate 2 (refine wpHold_val ⟨_, #[], 0, rfl⟩ (wanted_none rfl) (by rintro K _ ⟨o, d, rfl⟩ hK; go_simp; exact hK _ ⟨o, d, rfl⟩) ?_)
  iterate 3 (refine wpHold_val ⟨_, #[], 0, rfl⟩ (wanted_some rfl rfl rfl) (by rintro K _ ⟨o, d, rfl⟩ hK; go_simp; exact hK _ ⟨o, d, rfl⟩) ?_)
  iterate 2 (refine wpHold_val ⟨_, #[], 0, rfl⟩ (wanted_none rfl) (by rintro K _ ⟨o, d, rfl⟩ hK; go_simp; exact hK _ ⟨o, d, rfl⟩) ?_)
  iterate 3 (refine wpHold_val ⟨_, #[], 0, rfl⟩ (wanted_some rfl rfl rfl) (by rintro K _ ⟨o, d, rfl⟩ hK; go_simp; exact hK _ ⟨o, d, rfl⟩) ?_)
  refine wpHold_val ⟨_, #[], 0, rfl⟩ (wanted_none rfl) (by rintro K _ ⟨o, d, rfl⟩ hK; go_simp; exact hK _ ⟨o, d, rfl⟩) ?_
  refine wpHold_nil ?_
  rintro _ ⟨of6, nf6, rfl⟩
  go_wp2_with fail
  generalize hW : World.plus _ _ _ = W7
  have R7x0 := Lib.hid (show RowAt W7 (w.heap.size) (keyA u) by rw [← hW]; clear hW; exact ⟨by go_simp, by go_simp, by go_simp⟩)
  have R7x1 := Lib.hid (show RowAt W7 (w.heap.size + 1) (keyA a) by rw [← hW]; clear hW; exact ⟨by go_simp, by go_simp, by go_simp⟩)
  have R7x2 := Lib.hid (show RowAt W7 (w.heap.size + 1 + 1) (keyA b) by rw [← hW]; clear hW; exact ⟨by go_simp, by go_simp, by go_simp⟩)
  have R7x3 := Lib.hid (show RowAt W7 (w.heap.size + 1 + 1 + 1 + oc10.size) (keyA a) by rw [← hW]; clear hW; exact ⟨by go_simp, by go_simp, by go_simp⟩)
  have R7x4 := Lib.hid (show RowAt W7 (gs) (fracA a b) by rw [← hW]; clear hW; exact ⟨by go_simp, by go_simp, by go_simp⟩)
  have R7x5 := Lib.hid (show RowAt W7 (g7) (keyA one) by rw [← hW]; clear hW; exact ⟨by go_simp, by go_simp, by go_simp⟩)
  have R7x6 := Lib.hid (show RowAt W7 (g9) (keyA two) by rw [← hW]; clear hW; exact ⟨by go_simp, by go_simp, by go_simp⟩)
  have R7x7 := Lib.hid (show RowAt W7 (g11) (keyA one) by rw [← hW]; clear hW; exact ⟨by go_simp, by go_simp, by go_simp⟩)
  have R7x8 := Lib.hid (show RowAt W7 (g13) (keyA p) by rw [← hW]; clear hW; exact ⟨by go_simp, by go_simp, by go_simp⟩)
  have HB7 := Lib.hid (show Below w.heap.size w W7 by rw [← hW]; repeat (first | apply below_more | apply below_alloc | apply Below.drew | refine below_setRow ?_ (by omega) _ | exact HB5.out))
  clear hW
  clear R5x0a R5x0b R5x0c R5x1a R5x1b R5x1c R5x2a R5x2b R5x2c R5x3a R5x3b R5x3c R5x4a R5x4b R5x4c R5x5a R5x5b R5x5c R5x6a R5x6b R5x6c R5x7a R5x7b R5x7c R5x8a R5x8b R5x8c R5x0 R5x1 R5x2 R5x3 R5x4 R5x5 R5x6 R5x7 R5x8 HB5
  obtain ⟨R7x0a, R7x0b, R7x0c⟩ := R7x0.out
  obtain ⟨R7x1a, R7x1b, R7x1c⟩ := R7x1.out
  obtain ⟨R7x2a, R7x2b, R7x2c⟩ := R7x2.out
  obtain ⟨R7x3a, R7x3b, R7x3c⟩ := R7x3.out
  obtain ⟨R7x4a, R7x4b, R7x4c⟩ := R7x4.out
  obtain ⟨R7x5a, R7x5b, R7x5c⟩ := R7x5.out
  obtain ⟨R7x6a, R7x6b, R7x6c⟩ := R7x6.out
  obtain ⟨R7x7a, R7x7b, R7x7c⟩ := R7x7.out
  obtain ⟨R7x8a, R7x8b, R7x8c⟩ := R7x8.out
  refine (shared_K b one two e2 Hy.out He2.out _).mono ?_
  rintro e w' ⟨rfl, hbw⟩
  obtain ⟨oc15, nc15, rfl⟩ := below_plus hbw
  clear hbw
  have lt15x0 : w.heap.size < W7.heap.size + oc15.size := by omega
  have lt15x1 : w.heap.size + 1 < W7.heap.size + oc15.size := by omega
  have lt15x2 : w.heap.size + 1 + 1 < W7.heap.size + oc15.size := by omega
  have lt15x3 : w.heap.size + 1 + 1 + 1 + oc10.size < W7.heap.size + oc15.size := by omega
  have lt15x4 : gs < W7.heap.size + oc15.size := by omega
  have lt15x5 : g7 < W7.heap.size + oc15.size := by omega
  have lt15x6 : g9 < W7.heap.size + oc15.size := by omega
  have lt15x7 : g11 < W7.heap.size + oc15.size := by omega
  have lt15x8 : g13 < W7.heap.size + oc15.size := by omega
  go_wp2_with fail
  go_ret
  refine ⟨rfl, ?_⟩
  repeat (first | apply below_more | apply below_alloc | exact HB7.out)

theorem steps_any (u a b : Nat) (_hu : u < 115792089237316195423570985008687907853269984665640564039457584007913129639936) (_ha : a < 115792089237316195423570985008687907853269984665640564039457584007913129639936) (_hb : b < 115792089237316195423570985008687907853269984665640564039457584007913129639936) (w : World) :
    Calls Try.prog 8 #[kv u, kv a, kv b] w fun e w' => e = .returned (.bool true) ∧ Below w.heap.size w w' := by
  by_cases h : chN (ptN u % Fp.P) [a] = 0
  · refine steps_zero u a b _ _ _ _ _ (Lib.hid rfl) (Lib.hid rfl) (Lib.hid rfl) (Lib.hid rfl) (Lib.hid rfl) ⟨by rw [h]; rfl, ?_⟩ w
    rw [ch_two, h, sh_zero]; rfl
  · exact steps_not u a b _ _ _ _ _ (Lib.hid rfl) (Lib.hid rfl) (Lib.hid rfl) (Lib.hid rfl) (Lib.hid rfl) (errOf_ne h) w
end Go.Proofs.Ytpilonikhokjeaa
