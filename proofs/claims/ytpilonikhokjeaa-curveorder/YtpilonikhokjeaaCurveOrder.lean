/-
  A point times one secret and another one is that times the other one and the one: CurveOrder answers true, whatever three keys it is given.
-/
import Derived.Test.YtpilonikhokjeaaCurveSlices
namespace Go.Proofs.Ytpilonikhokjeaa
open Go.RowKit Go.Shelf Go.Hold

set_option maxHeartbeats 2000000 in
set_option maxRecDepth 100000 in
theorem order_any (a b u : Nat) (_ha : a < 115792089237316195423570985008687907853269984665640564039457584007913129639936) (_hb : b < 115792089237316195423570985008687907853269984665640564039457584007913129639936) (_hu : u < 115792089237316195423570985008687907853269984665640564039457584007913129639936) (w : World) :
    Calls Try.prog 5 #[kv a, kv b, kv u] w fun e w' => e = .returned (.bool true) ∧ Below w.heap.size w w' := by
  obtain ⟨q, eq⟩ : ∃ nn, nn = ptN u % Fp.P := ⟨_, rfl⟩
  obtain ⟨r, er⟩ : ∃ nn, nn = chN q [a, b] := ⟨_, rfl⟩
  obtain ⟨ev, eev⟩ : ∃ nn, nn = errOf r := ⟨_, rfl⟩
  have lq : q < Fp.P := by rw [eq]; exact Nat.mod_lt _ Fp.P_pos
  have Hq := Lib.hid eq.symm
  have Hr := Lib.hid er.symm
  have Hs := Lib.hid (show chN q [b, a] = r by rw [er]; exact (ch_order q a b lq).symm)
  have He := Lib.hid eev.symm
  clear eq er eev lq
  go_enter Try.func5, Try.ntmps5
  go_wp2_with fail
  refine (alive_any _).mono ?_
  rintro e w' ⟨rfl, hbw⟩
  obtain ⟨oc2, nc2, rfl⟩ := below_plus hbw
  clear hbw
  go_wp2_with fail
  generalize hW : World.alloc _ _ = W1
  have R1x0 := Lib.hid (show RowAt W1 (w.heap.size) (keyA a) by rw [← hW]; clear hW; exact ⟨by go_simp, by go_simp, by go_simp⟩)
  have R1x1 := Lib.hid (show RowAt W1 (w.heap.size + 1) (keyA b) by rw [← hW]; clear hW; exact ⟨by go_simp, by go_simp, by go_simp⟩)
  have R1x2 := Lib.hid (show RowAt W1 (w.heap.size + 1 + 1) (keyA u) by rw [← hW]; clear hW; exact ⟨by go_simp, by go_simp, by go_simp⟩)
  have R1x3 := Lib.hid (show RowAt W1 (w.heap.size + 1 + 1 + 1 + oc2.size) (fracA a b) by rw [← hW]; clear hW; exact ⟨by go_simp, by go_simp, by go_simp⟩)
  have HB1 := Lib.hid (show Below w.heap.size w W1 by rw [← hW]; repeat (first | apply below_more | apply below_alloc | apply Below.drew | refine below_setRow ?_ (by omega) _ | exact Below.refl _ _))
  clear hW
  obtain ⟨R1x0a, R1x0b, R1x0c⟩ := R1x0.out
  obtain ⟨R1x1a, R1x1b, R1x1c⟩ := R1x1.out
  obtain ⟨R1x2a, R1x2b, R1x2c⟩ := R1x2.out
  obtain ⟨R1x3a, R1x3b, R1x3c⟩ := R1x3.out
  refine (chain_two u q a b r ev Hq.out Hr.out He.out R1x3.out).mono ?_
  rintro e w' ⟨rfl, hbw⟩
  obtain ⟨oc3, nc3, rfl⟩ := below_plus hbw
  clear hbw
  have lt3x0 : w.heap.size < W1.heap.size + oc3.size := by omega
  have lt3x1 : w.heap.size + 1 < W1.heap.size + oc3.size := by omega
  have lt3x2 : w.heap.size + 1 + 1 < W1.heap.size + oc3.size := by omega
  have lt3x3 : w.heap.size + 1 + 1 + 1 + oc2.size < W1.heap.size + oc3.size := by omega
  go_wp2_with fail
  generalize hW : World.alloc _ _ = W2
  have R2x0 := Lib.hid (show RowAt W2 (w.heap.size) (keyA a) by rw [← hW]; clear hW; exact ⟨by go_simp, by go_simp, by go_simp⟩)
  have R2x1 := Lib.hid (show RowAt W2 (w.heap.size + 1) (keyA b) by rw [← hW]; clear hW; exact ⟨by go_simp, by go_simp, by go_simp⟩)
  have R2x2 := Lib.hid (show RowAt W2 (w.heap.size + 1 + 1) (keyA u) by rw [← hW]; clear hW; exact ⟨by go_simp, by go_simp, by go_simp⟩)
  have R2x3 := Lib.hid (show RowAt W2 (w.heap.size + 1 + 1 + 1 + oc2.size) (fracA a b) by rw [← hW]; clear hW; exact ⟨by go_simp, by go_simp, by go_simp⟩)
  have R2x4 := Lib.hid (show RowAt W2 (W1.heap.size + oc3.size + 1) (fracA b a) by rw [← hW]; clear hW; exact ⟨by go_simp, by go_simp, by go_simp⟩)
  have R2x5 := Lib.hid (show RowAt W2 (W1.heap.size + oc3.size) (keyA r) by rw [← hW]; clear hW; exact ⟨by go_simp, by go_simp, by go_simp⟩)
  have HB2 := Lib.hid (show Below w.heap.size w W2 by rw [← hW]; repeat (first | apply below_more | apply below_alloc | apply Below.drew | refine below_setRow ?_ (by omega) _ | exact HB1.out))
  clear hW
  have lz2x0 : w.heap.size ≤ W1.heap.size + oc3.size + 1 := by have := HB1.out.size; omega
  have nz2x0x0 : ¬ w.heap.size = W1.heap.size + oc3.size + 1 := by omega
  have ny2x0x0 : ¬ W1.heap.size + oc3.size + 1 = w.heap.size := by omega
  have nz2x0x1 : ¬ w.heap.size + 1 = W1.heap.size + oc3.size + 1 := by omega
  have ny2x0x1 : ¬ W1.heap.size + oc3.size + 1 = w.heap.size + 1 := by omega
  have nz2x0x2 : ¬ w.heap.size + 1 + 1 = W1.heap.size + oc3.size + 1 := by omega
  have ny2x0x2 : ¬ W1.heap.size + oc3.size + 1 = w.heap.size + 1 + 1 := by omega
  have nz2x0x3 : ¬ w.heap.size + 1 + 1 + 1 + oc2.size = W1.heap.size + oc3.size + 1 := by omega
  have ny2x0x3 : ¬ W1.heap.size + oc3.size + 1 = w.heap.size + 1 + 1 + 1 + oc2.size := by omega
  have lz2x1 : w.heap.size ≤ W1.heap.size + oc3.size := by have := HB1.out.size; omega
  have nz2x1x0 : ¬ w.heap.size = W1.heap.size + oc3.size := by omega
  have ny2x1x0 : ¬ W1.heap.size + oc3.size = w.heap.size := by omega
  have nz2x1x1 : ¬ w.heap.size + 1 = W1.heap.size + oc3.size := by omega
  have ny2x1x1 : ¬ W1.heap.size + oc3.size = w.heap.size + 1 := by omega
  have nz2x1x2 : ¬ w.heap.size + 1 + 1 = W1.heap.size + oc3.size := by omega
  have ny2x1x2 : ¬ W1.heap.size + oc3.size = w.heap.size + 1 + 1 := by omega
  have nz2x1x3 : ¬ w.heap.size + 1 + 1 + 1 + oc2.size = W1.heap.size + oc3.size := by omega
  have ny2x1x3 : ¬ W1.heap.size + oc3.size = w.heap.size + 1 + 1 + 1 + oc2.size := by omega
  have nx2x1x0 : ¬ W1.heap.size + oc3.size + 1 = W1.heap.size + oc3.size := by omega
  have nv2x1x0 : ¬ W1.heap.size + oc3.size = W1.heap.size + oc3.size + 1 := by omega
  clear R1x0a R1x0b R1x0c R1x1a R1x1b R1x1c R1x2a R1x2b R1x2c R1x3a R1x3b R1x3c R1x0 R1x1 R1x2 R1x3 HB1
  generalize W1.heap.size + oc3.size + 1 = g9 at *
  generalize W1.heap.size + oc3.size = g7 at *
  obtain ⟨R2x0a, R2x0b, R2x0c⟩ := R2x0.out
  obtain ⟨R2x1a, R2x1b, R2x1c⟩ := R2x1.out
  obtain ⟨R2x2a, R2x2b, R2x2c⟩ := R2x2.out
  obtain ⟨R2x3a, R2x3b, R2x3c⟩ := R2x3.out
  obtain ⟨R2x4a, R2x4b, R2x4c⟩ := R2x4.out
  obtain ⟨R2x5a, R2x5b, R2x5c⟩ := R2x5.out
  refine (chain_two u q b a r ev Hq.out Hs.out He.out R2x4.out).mono ?_
  rintro e w' ⟨rfl, hbw⟩
  obtain ⟨oc4, nc4, rfl⟩ := below_plus hbw
  clear hbw
  have lt4x0 : w.heap.size < W2.heap.size + oc4.size := by omega
  have lt4x1 : w.heap.size + 1 < W2.heap.size + oc4.size := by omega
  have lt4x2 : w.heap.size + 1 + 1 < W2.heap.size + oc4.size := by omega
  have lt4x3 : w.heap.size + 1 + 1 + 1 + oc2.size < W2.heap.size + oc4.size := by omega
  have lt4x4 : g9 < W2.heap.size + oc4.size := by omega
  have lt4x5 : g7 < W2.heap.size + oc4.size := by omega
  go_wp2_with fail
  go_ret
  refine ⟨rfl, ?_⟩
  repeat (first | apply below_more | apply below_alloc | exact HB2.out)
end Go.Proofs.Ytpilonikhokjeaa
