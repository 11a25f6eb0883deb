/-
  All answers are the same of a number, and of what is left of it, and are numbers of which nothing else is left: FieldSame answers true, whatever two keys it is given.
-/
import Derived.Test.YtelibbgldblnbaaFieldPowers
namespace Go.Proofs.Ytelibbgldblnbaa
open Go.RowKit Go.Shelf Go.Hold

set_option maxHeartbeats 8000000 in
set_option maxRecDepth 100000 in
theorem same_any (a b : Nat) (ha : a < 115792089237316195423570985008687907853269984665640564039457584007913129639936) (hb : b < 115792089237316195423570985008687907853269984665640564039457584007913129639936) (w : World) :
    Calls Try.prog 9 #[kv a, kv b] w fun e w' => e = .returned (.bool true) ∧ Below w.heap.size w w' := by
  obtain ⟨ap, eap⟩ : ∃ x, x = a % Fp.P := ⟨_, rfl⟩
  have lap : ap < 115792089237316195423570985008687907853269984665640564039457584007913129639936 := by rw [eap]; exact mod_lt _
  have Hap := Lib.hid eap
  obtain ⟨bp, ebp⟩ : ∃ x, x = b % Fp.P := ⟨_, rfl⟩
  have lbp : bp < 115792089237316195423570985008687907853269984665640564039457584007913129639936 := by rw [ebp]; exact mod_lt _
  have Hbp := Lib.hid ebp
  obtain ⟨ab, eab⟩ : ∃ x, x = (a + b) % Fp.P := ⟨_, rfl⟩
  have lab : ab < 115792089237316195423570985008687907853269984665640564039457584007913129639936 := by rw [eab]; exact mod_lt _
  have Hab := Lib.hid eab
  obtain ⟨dd, edd⟩ : ∃ x, x = (a % Fp.P + (Fp.P - b % Fp.P)) % Fp.P := ⟨_, rfl⟩
  have ldd : dd < 115792089237316195423570985008687907853269984665640564039457584007913129639936 := by rw [edd]; exact mod_lt _
  have Hdd := Lib.hid edd
  obtain ⟨mm, emm⟩ : ∃ x, x = a * b % Fp.P := ⟨_, rfl⟩
  have lmm : mm < 115792089237316195423570985008687907853269984665640564039457584007913129639936 := by rw [emm]; exact mod_lt _
  have Hmm := Lib.hid emm
  obtain ⟨ia, eia⟩ : ∃ x, x = a ^ Fp.E % Fp.P := ⟨_, rfl⟩
  have lia : ia < 115792089237316195423570985008687907853269984665640564039457584007913129639936 := by rw [eia]; exact mod_lt _
  have Hia := Lib.hid eia
  clear eap ebp eab edd emm eia
  go_enter Try.func9, Try.ntmps9
  go_wp2_with fail
  refine (alive_any _).mono ?_
  rintro e w' ⟨rfl, hbw⟩
  obtain ⟨o1, n1, rfl⟩ := below_plus hbw
  clear hbw
  go_wp2_with fail
  generalize hW : World.plus _ _ _ = W1
  have R1x0 := Lib.hid (show RowAt W1 (w.heap.size) (keyA a) by rw [← hW]; clear hW; exact ⟨by go_simp, by go_simp, by go_simp⟩)
  have R1x1 := Lib.hid (show RowAt W1 (w.heap.size + 1) (keyA b) by rw [← hW]; clear hW; exact ⟨by go_simp, by go_simp, by go_simp⟩)
  have HB1 := Lib.hid (show Below w.heap.size w W1 by rw [← hW]; repeat (first | apply below_more | apply below_alloc | exact Below.refl _ _))
  clear hW
  obtain ⟨R1x0a, R1x0b, R1x0c⟩ := R1x0.out
  obtain ⟨R1x1a, R1x1b, R1x1c⟩ := R1x1.out
  refine wp_region_lays W1 4 [(23, #[.int .u8 0, .int .u8 0, .int .u8 0, .int .u8 0, .int .u8 0, .int .u8 0, .int .u8 0, .int .u8 0, .int .u8 0, .int .u8 0, .int .u8 0, .int .u8 0, .int .u8 0, .int .u8 0, .int .u8 0, .int .u8 0, .int .u8 0, .int .u8 0, .int .u8 0, .int .u8 0, .int .u8 0, .int .u8 0, .int .u8 0, .int .u8 0, .int .u8 0, .int .u8 0, .int .u8 0, .int .u8 0, .int .u8 0, .int .u8 0, .int .u8 0, .int .u8 0]), (23, #[.int .u8 0, .int .u8 0, .int .u8 0, .int .u8 0, .int .u8 0, .int .u8 0, .int .u8 0, .int .u8 0, .int .u8 0, .int .u8 0, .int .u8 0, .int .u8 0, .int .u8 0, .int .u8 0, .int .u8 0, .int .u8 0, .int .u8 0, .int .u8 0, .int .u8 0, .int .u8 0, .int .u8 0, .int .u8 0, .int .u8 0, .int .u8 0, .int .u8 0, .int .u8 0, .int .u8 0, .int .u8 0, .int .u8 0, .int .u8 0, .int .u8 0, .int .u8 0])] (by kernel_rfl) (by kernel_rfl) ((Below.refl _ _).drew) ?_
  simp only [List.take_succ_cons, List.take_zero, List.drop_succ_cons, List.drop_zero, List.length_cons, List.length_nil, Nat.reduceAdd]
  refine wpHoldB_val (wanted_none rfl) (by intro K o d hK; go_simp; exact hK _ (Below.refl _ _)) ?_
  refine wpHoldB_call (v := kv ap) (wanted_none rfl) (by intro K o d hK; go_simp; refine (canon_K a ap ha (by rw [Hap.out]) _).mono ?_; rintro e w' ⟨rfl, hbw⟩; exact ⟨_, rfl, hK _ hbw⟩) ?_
  refine wpHoldB_val (wanted_none rfl) (by intro K o d hK; go_simp; exact hK _ (Below.refl _ _)) ?_
  refine wpHoldB_call (v := kv bp) (wanted_none rfl) (by intro K o d hK; go_simp; refine (canon_K b bp hb (by rw [Hbp.out]) _).mono ?_; rintro e w' ⟨rfl, hbw⟩; exact ⟨_, rfl, hK _ hbw⟩) ?_
  refine wpHoldB_nil ?_
  refine ⟨lays_key _ rfl rfl, fun g2x0 hg2x0 hn2x0 => ?_⟩
  refine ⟨lays_key _ rfl rfl, fun g2x1 hg2x1 hn2x1 => ?_⟩
  simp at hn2x1
  intro w2 hb2 hblk2
  have A2x0 := R1x0.out.grow hb2
  have c2x0 := R1x0.out.2.2
  have A2x1 := R1x1.out.grow hb2
  have c2x1 := R1x1.out.2.2
  have N2x0 := RowAt.of (hblk2 0 g2x0 _ _ rfl rfl)
  have N2x1 := RowAt.of (hblk2 1 g2x1 _ _ rfl rfl)
  have B2x0 := HB1.out.trans (hb2.mono HB1.out.size)
  have s2 := HB1.out.size
  have O2x0 := N2x0
  have P2x0x0 := A2x0.other (show w.heap.size ≠ g2x0 by omega) (keyA ap)
  have P2x0x1 := A2x1.other (show w.heap.size + 1 ≠ g2x0 by omega) (keyA ap)
  have Q2x0x0 := N2x0.set (keyA ap)
  have Q2x0x1 := N2x1.other (show g2x1 ≠ g2x0 by omega) (keyA ap)
  have B2x1 := below_setRow B2x0 (show w.heap.size ≤ g2x0 by omega) (keyA ap)
  have O2x1 := Q2x0x1
  have P2x1x0 := P2x0x0.other (show w.heap.size ≠ g2x1 by omega) (keyA bp)
  have P2x1x1 := P2x0x1.other (show w.heap.size + 1 ≠ g2x1 by omega) (keyA bp)
  have Q2x1x0 := Q2x0x0.other (show g2x0 ≠ g2x1 by omega) (keyA bp)
  have Q2x1x1 := Q2x0x1.set (keyA bp)
  have B2x2 := below_setRow B2x1 (show w.heap.size ≤ g2x1 by omega) (keyA bp)
  have Z2x0 := Lib.hid P2x1x0
  have Z2x1 := Lib.hid P2x1x1
  have Z2x2 := Lib.hid Q2x1x0
  have Z2x3 := Lib.hid Q2x1x1
  have HB2 := Lib.hid B2x2
  clear hb2 hblk2 HB1 s2 R1x0a R1x0b R1x0c R1x1a R1x1b R1x1c R1x0 R1x1 A2x0 A2x1 c2x0 c2x1 N2x0 N2x1 B2x0 B2x1 B2x2 P2x0x0 P2x0x1 Q2x0x0 Q2x0x1 P2x1x0 P2x1x1 Q2x1x0 Q2x1x1 hg2x0 hg2x1 hn2x0 hn2x1
  obtain ⟨O2x0a, O2x0b, O2x0c⟩ := O2x0
  obtain ⟨O2x1a, O2x1b, O2x1c⟩ := O2x1
  go_wp2_with fail
  clear O2x0a O2x0b O2x0c O2x1a O2x1b O2x1c
  generalize World.setRow _ _ _ = W3 at *
  obtain ⟨Z2x0a, Z2x0b, Z2x0c⟩ := Z2x0.out
  obtain ⟨Z2x1a, Z2x1b, Z2x1c⟩ := Z2x1.out
  obtain ⟨Z2x2a, Z2x2b, Z2x2c⟩ := Z2x2.out
  obtain ⟨Z2x3a, Z2x3b, Z2x3c⟩ := Z2x3.out
  refine wp_region_lays W3 9 [(23, #[.int .u8 0, .int .u8 0, .int .u8 0, .int .u8 0, .int .u8 0, .int .u8 0, .int .u8 0, .int .u8 0, .int .u8 0, .int .u8 0, .int .u8 0, .int .u8 0, .int .u8 0, .int .u8 0, .int .u8 0, .int .u8 0, .int .u8 0, .int .u8 0, .int .u8 0, .int .u8 0, .int .u8 0, .int .u8 0, .int .u8 0, .int .u8 0, .int .u8 0, .int .u8 0, .int .u8 0, .int .u8 0, .int .u8 0, .int .u8 0, .int .u8 0, .int .u8 0]), (23, #[.int .u8 0, .int .u8 0, .int .u8 0, .int .u8 0, .int .u8 0, .int .u8 0, .int .u8 0, .int .u8 0, .int .u8 0, .int .u8 0, .int .u8 0, .int .u8 0, .int .u8 0, .int .u8 0, .int .u8 0, .int .u8 0, .int .u8 0, .int .u8 0, .int .u8 0, .int .u8 0, .int .u8 0, .int .u8 0, .int .u8 0, .int .u8 0, .int .u8 0, .int .u8 0, .int .u8 0, .int .u8 0, .int .u8 0, .int .u8 0, .int .u8 0, .int .u8 0]), (23, #[.int .u8 0, .int .u8 0, .int .u8 0, .int .u8 0, .int .u8 0, .int .u8 0, .int .u8 0, .int .u8 0, .int .u8 0, .int .u8 0, .int .u8 0, .int .u8 0, .int .u8 0, .int .u8 0, .int .u8 0, .int .u8 0, .int .u8 0, .int .u8 0, .int .u8 0, .int .u8 0, .int .u8 0, .int .u8 0, .int .u8 0, .int .u8 0, .int .u8 0, .int .u8 0, .int .u8 0, .int .u8 0, .int .u8 0, .int .u8 0, .int .u8 0, .int .u8 0])] (by kernel_rfl) (by kernel_rfl) ((Below.refl _ _).drew) ?_
  simp only [List.take_succ_cons, List.take_zero, List.drop_succ_cons, List.drop_zero, List.length_cons, List.length_nil, Nat.reduceAdd]
  iterate 2 (refine wpHoldB_val (wanted_none rfl) (by intro K o d hK; go_simp; exact hK _ (Below.refl _ _)) ?_)
  refine wpHoldB_call (v := kv ab) (wanted_none rfl) (by intro K o d hK; go_simp; refine (add_K a b ab ha hb (by rw [Hab.out]) _).mono ?_; rintro e w' ⟨rfl, hbw⟩; exact ⟨_, rfl, hK _ hbw⟩) ?_
  iterate 2 (refine wpHoldB_val (wanted_none rfl) (by intro K o d hK; go_simp; exact hK _ (Below.refl _ _)) ?_)
  refine wpHoldB_call (v := kv dd) (wanted_none rfl) (by intro K o d hK; go_simp; refine (sub_K a b dd ha hb (by rw [Hdd.out]) _).mono ?_; rintro e w' ⟨rfl, hbw⟩; exact ⟨_, rfl, hK _ hbw⟩) ?_
  iterate 2 (refine wpHoldB_val (wanted_none rfl) (by intro K o d hK; go_simp; exact hK _ (Below.refl _ _)) ?_)
  refine wpHoldB_call (v := kv mm) (wanted_none rfl) (by intro K o d hK; go_simp; refine (mul_K a b mm ha hb (by rw [Hmm.out]) _).mono ?_; rintro e w' ⟨rfl, hbw⟩; exact ⟨_, rfl, hK _ hbw⟩) ?_
  refine wpHoldB_nil ?_
  refine ⟨lays_key _ rfl rfl, fun g4x0 hg4x0 hn4x0 => ?_⟩
  refine ⟨lays_key _ rfl rfl, fun g4x1 hg4x1 hn4x1 => ?_⟩
  refine ⟨lays_key _ rfl rfl, fun g4x2 hg4x2 hn4x2 => ?_⟩
  simp at hn4x1
  simp at hn4x2
  intro w4 hb4 hblk4
  have A4x0 := Z2x0.out.grow hb4
  have c4x0 := Z2x0.out.2.2
  have A4x1 := Z2x1.out.grow hb4
  have c4x1 := Z2x1.out.2.2
  have A4x2 := Z2x2.out.grow hb4
  have c4x2 := Z2x2.out.2.2
  have A4x3 := Z2x3.out.grow hb4
  have c4x3 := Z2x3.out.2.2
  have N4x0 := RowAt.of (hblk4 0 g4x0 _ _ rfl rfl)
  have N4x1 := RowAt.of (hblk4 1 g4x1 _ _ rfl rfl)
  have N4x2 := RowAt.of (hblk4 2 g4x2 _ _ rfl rfl)
  have B4x0 := HB2.out.trans (hb4.mono HB2.out.size)
  have s4 := HB2.out.size
  have O4x0 := N4x0
  have P4x0x0 := A4x0.other (show w.heap.size ≠ g4x0 by omega) (keyA ab)
  have P4x0x1 := A4x1.other (show w.heap.size + 1 ≠ g4x0 by omega) (keyA ab)
  have P4x0x2 := A4x2.other (show g2x0 ≠ g4x0 by omega) (keyA ab)
  have P4x0x3 := A4x3.other (show g2x1 ≠ g4x0 by omega) (keyA ab)
  have Q4x0x0 := N4x0.set (keyA ab)
  have Q4x0x1 := N4x1.other (show g4x1 ≠ g4x0 by omega) (keyA ab)
  have Q4x0x2 := N4x2.other (show g4x2 ≠ g4x0 by omega) (keyA ab)
  have B4x1 := below_setRow B4x0 (show w.heap.size ≤ g4x0 by omega) (keyA ab)
  have O4x1 := Q4x0x1
  have P4x1x0 := P4x0x0.other (show w.heap.size ≠ g4x1 by omega) (keyA dd)
  have P4x1x1 := P4x0x1.other (show w.heap.size + 1 ≠ g4x1 by omega) (keyA dd)
  have P4x1x2 := P4x0x2.other (show g2x0 ≠ g4x1 by omega) (keyA dd)
  have P4x1x3 := P4x0x3.other (show g2x1 ≠ g4x1 by omega) (keyA dd)
  have Q4x1x0 := Q4x0x0.other (show g4x0 ≠ g4x1 by omega) (keyA dd)
  have Q4x1x1 := Q4x0x1.set (keyA dd)
  have Q4x1x2 := Q4x0x2.other (show g4x2 ≠ g4x1 by omega) (keyA dd)
  have B4x2 := below_setRow B4x1 (show w.heap.size ≤ g4x1 by omega) (keyA dd)
  have O4x2 := Q4x1x2
  have P4x2x0 := P4x1x0.other (show w.heap.size ≠ g4x2 by omega) (keyA mm)
  have P4x2x1 := P4x1x1.other (show w.heap.size + 1 ≠ g4x2 by omega) (keyA mm)
  have P4x2x2 := P4x1x2.other (show g2x0 ≠ g4x2 by omega) (keyA mm)
  have P4x2x3 := P4x1x3.other (show g2x1 ≠ g4x2 by omega) (keyA mm)
  have Q4x2x0 := Q4x1x0.other (show g4x0 ≠ g4x2 by omega) (keyA mm)
  have Q4x2x1 := Q4x1x1.other (show g4x1 ≠ g4x2 by omega) (keyA mm)
  have Q4x2x2 := Q4x1x2.set (keyA mm)
  have B4x3 := below_setRow B4x2 (show w.heap.size ≤ g4x2 by omega) (keyA mm)
  have Z4x0 := Lib.hid P4x2x0
  have Z4x1 := Lib.hid P4x2x1
  have Z4x2 := Lib.hid P4x2x2
  have Z4x3 := Lib.hid P4x2x3
  have Z4x4 := Lib.hid Q4x2x0
  have Z4x5 := Lib.hid Q4x2x1
  have Z4x6 := Lib.hid Q4x2x2
  have HB4 := Lib.hid B4x3
  clear hb4 hblk4 HB2 s4 Z2x0a Z2x0b Z2x0c Z2x1a Z2x1b Z2x1c Z2x2a Z2x2b Z2x2c Z2x3a Z2x3b Z2x3c Z2x0 Z2x1 Z2x2 Z2x3 A4x0 A4x1 A4x2 A4x3 c4x0 c4x1 c4x2 c4x3 N4x0 N4x1 N4x2 B4x0 B4x1 B4x2 B4x3 P4x0x0 P4x0x1 P4x0x2 P4x0x3 Q4x0x0 Q4x0x1 Q4x0x2 P4x1x0 P4x1x1 P4x1x2 P4x1x3 Q4x1x0 Q4x1x1 Q4x1x2 P4x2x0 P4x2x1 P4x2x2 P4x2x3 Q4x2x0 Q4x2x1 Q4x2x2 hg4x0 hg4x1 hg4x2 hn4x0 hn4x1 hn4x2
  obtain ⟨O4x0a, O4x0b, O4x0c⟩ := O4x0
  obtain ⟨O4x1a, O4x1b, O4x1c⟩ := O4x1
  obtain ⟨O4x2a, O4x2b, O4x2c⟩ := O4x2
  go_wp2_with fail
  clear O4x0a O4x0b O4x0c O4x1a O4x1b O4x1c O4x2a O4x2b O4x2c
  generalize World.setRow _ _ _ = W5 at *
  obtain ⟨Z4x0a, Z4x0b, Z4x0c⟩ := Z4x0.out
  obtain ⟨Z4x1a, Z4x1b, Z4x1c⟩ := Z4x1.out
  obtain ⟨Z4x2a, Z4x2b, Z4x2c⟩ := Z4x2.out
  obtain ⟨Z4x3a, Z4x3b, Z4x3c⟩ := Z4x3.out
  obtain ⟨Z4x4a, Z4x4b, Z4x4c⟩ := Z4x4.out
  obtain ⟨Z4x5a, Z4x5b, Z4x5c⟩ := Z4x5.out
  obtain ⟨Z4x6a, Z4x6b, Z4x6c⟩ := Z4x6.out
  refine wp_region_fast (fun w' => ∃ o d, w' = W5.plus o d) (by kernel_rfl) (by kernel_rfl) ⟨#[], _, rfl⟩ ?_
  iterate 3 (refine wpHold_val ⟨_, #[], 0, rfl⟩ (wanted_none rfl) (by rintro K _ ⟨o, d, rfl⟩ hK; go_simp; exact hK _ ⟨o, d, rfl⟩) ?_)
  refine wpHold_call (v := kv ab) (wanted_none rfl) (by rintro K _ ⟨o, d, rfl⟩ hK; go_simp; refine (add_K ap bp ab lap lbp (by rw [Hab.out, Hap.out, Hbp.out]; rw [← Nat.add_mod]) _).mono ?_; rintro e w' ⟨rfl, hbw⟩; obtain ⟨o', n', rfl⟩ := below_plus hbw; exact ⟨_, rfl, hK _ ⟨_, _, World.plus_plus _ _ _ _ _⟩⟩) ?_
  iterate 2 (refine wpHold_val ⟨_, #[], 0, rfl⟩ (wanted_none rfl) (by rintro K _ ⟨o, d, rfl⟩ hK; go_simp; exact hK _ ⟨o, d, rfl⟩) ?_)
  iterate 3 (refine wpHold_val ⟨_, #[], 0, rfl⟩ (wanted_some rfl rfl rfl) (by rintro K _ ⟨o, d, rfl⟩ hK; go_simp; exact hK _ ⟨o, d, rfl⟩) ?_)
  refine wpHold_call (v := kv dd) (wanted_some rfl rfl rfl) (by rintro K _ ⟨o, d, rfl⟩ hK; go_simp; refine (sub_K ap bp dd lap lbp (by rw [Hdd.out, Hap.out, Hbp.out]; rw [Nat.mod_mod, Nat.mod_mod]) _).mono ?_; rintro e w' ⟨rfl, hbw⟩; obtain ⟨o', n', rfl⟩ := below_plus hbw; exact ⟨_, rfl, hK _ ⟨_, _, World.plus_plus _ _ _ _ _⟩⟩) ?_
  refine wpHold_val ⟨_, #[], 0, rfl⟩ (wanted_some rfl rfl rfl) (by rintro K _ ⟨o, d, rfl⟩ hK; go_simp; exact hK _ ⟨o, d, rfl⟩) ?_
  iterate 2 (refine wpHold_val ⟨_, #[], 0, rfl⟩ (wanted_none rfl) (by rintro K _ ⟨o, d, rfl⟩ hK; go_simp; exact hK _ ⟨o, d, rfl⟩) ?_)
  iterate 3 (refine wpHold_val ⟨_, #[], 0, rfl⟩ (wanted_some rfl rfl rfl) (by rintro K _ ⟨o, d, rfl⟩ hK; go_simp; exact hK _ ⟨o, d, rfl⟩) ?_)
  refine wpHold_call (v := kv mm) (wanted_some rfl rfl rfl) (by rintro K _ ⟨o, d, rfl⟩ hK; go_simp; refine (mul_K ap bp mm lap lbp (by rw [Hmm.out, Hap.out, Hbp.out]; rw [← Nat.mul_mod]) _).mono ?_; rintro e w' ⟨rfl, hbw⟩; obtain ⟨o', n', rfl⟩ := below_plus hbw; exact ⟨_, rfl, hK _ ⟨_, _, World.plus_plus _ _ _ _ _⟩⟩) ?_
  refine wpHold_val ⟨_, #[], 0, rfl⟩ (wanted_some rfl rfl rfl) (by rintro K _ ⟨o, d, rfl⟩ hK; go_simp; exact hK _ ⟨o, d, rfl⟩) ?_
  iterate 2 (refine wpHold_val ⟨_, #[], 0, rfl⟩ (wanted_none rfl) (by rintro K _ ⟨o, d, rfl⟩ hK; go_simp; exact hK _ ⟨o, d, rfl⟩) ?_)
  refine wpHold_val ⟨_, #[], 0, rfl⟩ (wanted_some rfl rfl rfl) (by rintro K _ ⟨o, d, rfl⟩ hK; go_simp; exact hK _ ⟨o, d, rfl⟩) ?_
  refine wpHold_call (v := kv ab) (wanted_some rfl rfl rfl) (by rintro K _ ⟨o, d, rfl⟩ hK; go_simp; refine (canon_K ab ab lab (by rw [Hab.out]; exact Nat.mod_mod _ _) _).mono ?_; rintro e w' ⟨rfl, hbw⟩; obtain ⟨o', n', rfl⟩ := below_plus hbw; exact ⟨_, rfl, hK _ ⟨_, _, World.plus_plus _ _ _ _ _⟩⟩) ?_
  iterate 2 (refine wpHold_val ⟨_, #[], 0, rfl⟩ (wanted_some rfl rfl rfl) (by rintro K _ ⟨o, d, rfl⟩ hK; go_simp; exact hK _ ⟨o, d, rfl⟩) ?_)
  iterate 2 (refine wpHold_val ⟨_, #[], 0, rfl⟩ (wanted_none rfl) (by rintro K _ ⟨o, d, rfl⟩ hK; go_simp; exact hK _ ⟨o, d, rfl⟩) ?_)
  refine wpHold_val ⟨_, #[], 0, rfl⟩ (wanted_some rfl rfl rfl) (by rintro K _ ⟨o, d, rfl⟩ hK; go_simp; exact hK _ ⟨o, d, rfl⟩) ?_
  refine wpHold_call (v := kv dd) (wanted_some rfl rfl rfl) (by rintro K _ ⟨o, d, rfl⟩ hK; go_simp; refine (canon_K dd dd ldd (by rw [Hdd.out]; exact Nat.mod_mod _ _) _).mono ?_; rintro e w' ⟨rfl, hbw⟩; obtain ⟨o', n', rfl⟩ := below_plus hbw; exact ⟨_, rfl, hK _ ⟨_, _, World.plus_plus _ _ _ _ _⟩⟩) ?_
  iterate 2 (refine wpHold_val ⟨_, #[], 0, rfl⟩ (wanted_some rfl rfl rfl) (by rintro K _ ⟨o, d, rfl⟩ hK; go_simp; exact hK _ ⟨o, d, rfl⟩) ?_)
  iterate 2 (refine wpHold_val ⟨_, #[], 0, rfl⟩ (wanted_none rfl) (by rintro K _ ⟨o, d, rfl⟩ hK; go_simp; exact hK _ ⟨o, d, rfl⟩) ?_)
  refine wpHold_val ⟨_, #[], 0, rfl⟩ (wanted_some rfl rfl rfl) (by rintro K _ ⟨o, d, rfl⟩ hK; go_simp; exact hK _ ⟨o, d, rfl⟩) ?_
  refine wpHold_call (v := kv mm) (wanted_some rfl rfl rfl) (by rintro K _ ⟨o, d, rfl⟩ hK; go_simp; refine (canon_K mm mm lmm (by rw [Hmm.out]; exact Nat.mod_mod _ _) _).mono ?_; rintro e w' ⟨rfl, hbw⟩; obtain ⟨o', n', rfl⟩ := below_plus hbw; exact ⟨_, rfl, hK _ ⟨_, _, World.plus_plus _ _ _ _ _⟩⟩) ?_
  iterate 2 (refine wpHold_val ⟨_, #[], 0, rfl⟩ (wanted_some rfl rfl rfl) (by rintro K _ ⟨o, d, rfl⟩ hK; go_simp; exact hK _ ⟨o, d, rfl⟩) ?_)
  iterate 2 (refine wpHold_val ⟨_, #[], 0, rfl⟩ (wanted_none rfl) (by rintro K _ ⟨o, d, rfl⟩ hK; go_simp; exact hK _ ⟨o, d, rfl⟩) ?_)
  refine wpHold_val ⟨_, #[], 0, rfl⟩ (wanted_some rfl rfl rfl) (by rintro K _ ⟨o, d, rfl⟩ hK; go_simp; exact hK _ ⟨o, d, rfl⟩) ?_
  refine wpHold_call (v := kv ia) (wanted_some rfl rfl rfl) (by rintro K _ ⟨o, d, rfl⟩ hK; go_simp; refine (inv_K a ia ha (by rw [Hia.out]) _).mono ?_; rintro e w' ⟨rfl, hbw⟩; obtain ⟨o', n', rfl⟩ := below_plus hbw; exact ⟨_, rfl, hK _ ⟨_, _, World.plus_plus _ _ _ _ _⟩⟩) ?_
  refine wpHold_val ⟨_, #[], 0, rfl⟩ (wanted_some rfl rfl rfl) (by rintro K _ ⟨o, d, rfl⟩ hK; go_simp; exact hK _ ⟨o, d, rfl⟩) ?_
  refine wpHold_call (v := kv ia) (wanted_some rfl rfl rfl) (by rintro K _ ⟨o, d, rfl⟩ hK; go_simp; refine (inv_K ap ia lap (by rw [Hia.out, Hap.out]; exact Fp.pow_mod _ _) _).mono ?_; rintro e w' ⟨rfl, hbw⟩; obtain ⟨o', n', rfl⟩ := below_plus hbw; exact ⟨_, rfl, hK _ ⟨_, _, World.plus_plus _ _ _ _ _⟩⟩) ?_
  refine wpHold_val ⟨_, #[], 0, rfl⟩ (wanted_some rfl rfl rfl) (by rintro K _ ⟨o, d, rfl⟩ hK; go_simp; exact hK _ ⟨o, d, rfl⟩) ?_
  iterate 2 (refine wpHold_val ⟨_, #[], 0, rfl⟩ (wanted_none rfl) (by rintro K _ ⟨o, d, rfl⟩ hK; go_simp; exact hK _ ⟨o, d, rfl⟩) ?_)
  refine wpHold_nil ?_
  rintro _ ⟨o6, n6, rfl⟩
  go_wp2_with fail
  go_ret
  exact ⟨rfl, below_more HB4.out _ _⟩
end Go.Proofs.Ytelibbgldblnbaa
