/-
  The inverse of a product is the product of the inverses; a sum times a difference is the difference of the squares: FieldPowers answers true, whatever two keys it is given.
-/
import Derived.Test.YtelibbgldblnbaaFieldAlive
import Derived.Test.YtelibbgldblnbaaFast
import Derived.Test.YtelibbgldblnbaaRowed
namespace Go.Proofs.Ytelibbgldblnbaa
open Go.RowKit Go.Shelf Go.Hold

theorem diff_squares (a b : Nat) : (a * a % Fp.P % Fp.P + (Fp.P - b * b % Fp.P % Fp.P)) % Fp.P = (a + b) % Fp.P * ((a % Fp.P + (Fp.P - b % Fp.P)) % Fp.P) % Fp.P := by
  have hp := Fp.P_pos
  have ha := Nat.mod_lt a hp; have hb := Nat.mod_lt b hp; have hbb := Nat.mod_lt (b * b) hp
  rw [Nat.mod_mod, Nat.mod_mod, ← Nat.mul_mod]
  -- over the integers
  have key : ∀ m n : Nat, ((m : Int) % (Fp.P : Nat) = (n : Int) % (Fp.P : Nat)) → m % Fp.P = n % Fp.P := fun m n h => by omega
  apply key
  have e1 : ((a * a % Fp.P + (Fp.P - b * b % Fp.P) : Nat) : Int) = ((a * a % Fp.P : Nat) : Int) - ((b * b % Fp.P : Nat) : Int) + (Fp.P : Nat) := by omega
  have e2 : ((a % Fp.P + (Fp.P - b % Fp.P) : Nat) : Int) = ((a % Fp.P : Nat) : Int) - ((b % Fp.P : Nat) : Int) + (Fp.P : Nat) := by omega
  rw [e1, Int.natCast_mul, e2, Int.add_emod_right, Int.natCast_emod, Int.natCast_emod, Int.natCast_emod, Int.natCast_emod]
  rw [← Int.sub_emod, Int.mul_emod, Int.add_emod_right, ← Int.sub_emod, ← Int.mul_emod]
  congr 1
  rw [Int.natCast_mul, Int.natCast_mul, Int.natCast_add, Int.add_mul, Int.mul_sub, Int.mul_sub, Int.mul_comm (b : Int) a]
  omega

theorem lays_key (o : Oper) (h : o.op = .alloc 23) (hg : o.guard = none) : Lays Try.prog o 23 #[.int .u8 0, .int .u8 0, .int .u8 0, .int .u8 0, .int .u8 0, .int .u8 0, .int .u8 0, .int .u8 0, .int .u8 0, .int .u8 0, .int .u8 0, .int .u8 0, .int .u8 0, .int .u8 0, .int .u8 0, .int .u8 0, .int .u8 0, .int .u8 0, .int .u8 0, .int .u8 0, .int .u8 0, .int .u8 0, .int .u8 0, .int .u8 0, .int .u8 0, .int .u8 0, .int .u8 0, .int .u8 0, .int .u8 0, .int .u8 0, .int .u8 0, .int .u8 0] := by
  refine ⟨hg, fun a w => ?_⟩
  obtain ⟨dst, op, ty, pos, after, guard⟩ := o
  simp only at h hg
  subst h; subst hg
  go_simp

set_option maxHeartbeats 8000000 in
set_option maxRecDepth 100000 in
theorem powers_any (a b : Nat) (ha : a < 115792089237316195423570985008687907853269984665640564039457584007913129639936) (hb : b < 115792089237316195423570985008687907853269984665640564039457584007913129639936) (w : World) :
    Calls Try.prog 10 #[kv a, kv b] w fun e w' => e = .returned (.bool true) ∧ Below w.heap.size w w' := by
  obtain ⟨ab, eab⟩ : ∃ x, x = (a + b) % Fp.P := ⟨_, rfl⟩
  have lab : ab < 115792089237316195423570985008687907853269984665640564039457584007913129639936 := by rw [eab]; exact mod_lt _
  have Hab := Lib.hid eab
  obtain ⟨dd, edd⟩ : ∃ x, x = (a % Fp.P + (Fp.P - b % Fp.P)) % Fp.P := ⟨_, rfl⟩
  have ldd : dd < 115792089237316195423570985008687907853269984665640564039457584007913129639936 := by rw [edd]; exact mod_lt _
  have Hdd := Lib.hid edd
  obtain ⟨x, ex⟩ : ∃ x, x = (a + b) % Fp.P * ((a % Fp.P + (Fp.P - b % Fp.P)) % Fp.P) % Fp.P := ⟨_, rfl⟩
  have lx : x < 115792089237316195423570985008687907853269984665640564039457584007913129639936 := by rw [ex]; exact mod_lt _
  have Hx := Lib.hid ex
  obtain ⟨aa, eaa⟩ : ∃ x, x = a * a % Fp.P := ⟨_, rfl⟩
  have laa : aa < 115792089237316195423570985008687907853269984665640564039457584007913129639936 := by rw [eaa]; exact mod_lt _
  have Haa := Lib.hid eaa
  obtain ⟨bb, ebb⟩ : ∃ x, x = b * b % Fp.P := ⟨_, rfl⟩
  have lbb : bb < 115792089237316195423570985008687907853269984665640564039457584007913129639936 := by rw [ebb]; exact mod_lt _
  have Hbb := Lib.hid ebb
  obtain ⟨mm, emm⟩ : ∃ x, x = a * b % Fp.P := ⟨_, rfl⟩
  have lmm : mm < 115792089237316195423570985008687907853269984665640564039457584007913129639936 := by rw [emm]; exact mod_lt _
  have Hmm := Lib.hid emm
  obtain ⟨ia, eia⟩ : ∃ x, x = a ^ Fp.E % Fp.P := ⟨_, rfl⟩
  have lia : ia < 115792089237316195423570985008687907853269984665640564039457584007913129639936 := by rw [eia]; exact mod_lt _
  have Hia := Lib.hid eia
  obtain ⟨ib, eib⟩ : ∃ x, x = b ^ Fp.E % Fp.P := ⟨_, rfl⟩
  have lib : ib < 115792089237316195423570985008687907853269984665640564039457584007913129639936 := by rw [eib]; exact mod_lt _
  have Hib := Lib.hid eib
  obtain ⟨im, eim⟩ : ∃ x, x = (a * b % Fp.P) ^ Fp.E % Fp.P := ⟨_, rfl⟩
  have lim : im < 115792089237316195423570985008687907853269984665640564039457584007913129639936 := by rw [eim]; exact mod_lt _
  have Him := Lib.hid eim
  clear eab edd ex eaa ebb emm eia eib eim
  go_enter Try.func10, Try.ntmps10
  go_wp2_with fail
  refine (alive_any _).mono ?_
  rintro e w' ⟨rfl, hbw⟩
  obtain ⟨o1, n1, rfl⟩ := below_plus hbw
  clear hbw
  go_wp2_with fail
  generalize hW : World.plus _ _ _ = W1
  have R10 : RowAt W1 w.heap.size (keyA a) := by rw [← hW]; clear hW; exact ⟨by go_simp, by go_simp, by go_simp⟩
  have R11 : RowAt W1 (w.heap.size + 1) (keyA b) := by rw [← hW]; clear hW; exact ⟨by go_simp, by go_simp, by go_simp⟩
  have HB1 : Hid (Below w.heap.size w W1) := by
    show Below _ _ _
    rw [← hW]
    repeat (first | apply below_more | apply below_alloc | exact Below.refl _ _)
  clear hW
  have S10 := Lib.hid R10
  have S11 := Lib.hid R11
  obtain ⟨R10a, R10b, R10c⟩ := R10
  obtain ⟨R11a, R11b, R11c⟩ := R11
  refine wp_region_lays W1 7 [(23, #[.int .u8 0, .int .u8 0, .int .u8 0, .int .u8 0, .int .u8 0, .int .u8 0, .int .u8 0, .int .u8 0, .int .u8 0, .int .u8 0, .int .u8 0, .int .u8 0, .int .u8 0, .int .u8 0, .int .u8 0, .int .u8 0, .int .u8 0, .int .u8 0, .int .u8 0, .int .u8 0, .int .u8 0, .int .u8 0, .int .u8 0, .int .u8 0, .int .u8 0, .int .u8 0, .int .u8 0, .int .u8 0, .int .u8 0, .int .u8 0, .int .u8 0, .int .u8 0])] (by kernel_rfl) (by kernel_rfl) ((Below.refl _ _).drew) ?_
  simp only [List.take_succ_cons, List.take_zero, List.drop_succ_cons, List.drop_zero, List.length_cons, List.length_nil, Nat.reduceAdd]
  iterate 2 (refine wpHoldB_val (wanted_none rfl) (by intro K o d hK; go_simp; exact hK _ (Below.refl _ _)) ?_)
  refine wpHoldB_call (v := kv ab) (wanted_none rfl) (by intro K o d hK; go_simp; refine (add_K a b ab ha hb (by rw [Hab.out]) _).mono ?_; rintro e w' ⟨rfl, hbw⟩; exact ⟨_, rfl, hK _ hbw⟩) ?_
  iterate 2 (refine wpHoldB_val (wanted_none rfl) (by intro K o d hK; go_simp; exact hK _ (Below.refl _ _)) ?_)
  refine wpHoldB_call (v := kv dd) (wanted_none rfl) (by intro K o d hK; go_simp; refine (sub_K a b dd ha hb (by rw [Hdd.out]) _).mono ?_; rintro e w' ⟨rfl, hbw⟩; exact ⟨_, rfl, hK _ hbw⟩) ?_
  refine wpHoldB_call (v := kv x) (wanted_none rfl) (by intro K o d hK; go_simp; refine (mul_K ab dd x lab ldd (by rw [Hx.out, Hab.out, Hdd.out]) _).mono ?_; rintro e w' ⟨rfl, hbw⟩; exact ⟨_, rfl, hK _ hbw⟩) ?_
  refine wpHoldB_nil ?_
  refine ⟨lays_key _ rfl rfl, fun g1 hg1 _ => ?_⟩
  intro w2 hb2 hblk
  have T0 := S10.out.grow hb2
  have T1 := S11.out.grow hb2
  have T2 := RowAt.of (hblk 0 g1 _ _ rfl rfl)
  have HB2 := Lib.hid (HB1.out.trans (hb2.mono HB1.out.size))
  have l0 := S10.out.2.2
  have l1 := S11.out.2.2
  clear hblk hb2 HB1 R10a R10b R10c R11a R11b R11c
  have U0 := T0.other (show w.heap.size ≠ g1 by omega) (keyA x)
  have U1 := T1.other (show w.heap.size + 1 ≠ g1 by omega) (keyA x)
  have U2 := T2.set (keyA x)
  have HB3 := Lib.hid (below_setRow HB2.out (show w.heap.size ≤ g1 by omega) (keyA x))
  clear HB2 T0 T1 S10 S11
  have V0 := Lib.hid U0
  have V1 := Lib.hid U1
  have V2 := Lib.hid U2
  clear U0 U1 U2 hg1 l0 l1
  obtain ⟨T2a, T2b, T2c⟩ := T2
  go_wp2_with fail
  clear T2a T2b T2c
  generalize World.setRow _ _ _ = W3 at *
  have X0 := V0.out
  have X1 := V1.out
  have X2 := V2.out
  obtain ⟨X0a, X0b, X0c⟩ := X0
  obtain ⟨X1a, X1b, X1c⟩ := X1
  obtain ⟨X2a, X2b, X2c⟩ := X2
  refine wp_region_lays W3 7 [(23, #[.int .u8 0, .int .u8 0, .int .u8 0, .int .u8 0, .int .u8 0, .int .u8 0, .int .u8 0, .int .u8 0, .int .u8 0, .int .u8 0, .int .u8 0, .int .u8 0, .int .u8 0, .int .u8 0, .int .u8 0, .int .u8 0, .int .u8 0, .int .u8 0, .int .u8 0, .int .u8 0, .int .u8 0, .int .u8 0, .int .u8 0, .int .u8 0, .int .u8 0, .int .u8 0, .int .u8 0, .int .u8 0, .int .u8 0, .int .u8 0, .int .u8 0, .int .u8 0])] (by kernel_rfl) (by kernel_rfl) ((Below.refl _ _).drew) ?_
  simp only [List.take_succ_cons, List.take_zero, List.drop_succ_cons, List.drop_zero, List.length_cons, List.length_nil, Nat.reduceAdd]
  iterate 2 (refine wpHoldB_val (wanted_none rfl) (by intro K o d hK; go_simp; exact hK _ (Below.refl _ _)) ?_)
  refine wpHoldB_call (v := kv aa) (wanted_none rfl) (by intro K o d hK; go_simp; refine (mul_K a a aa ha ha (by rw [Haa.out]) _).mono ?_; rintro e w' ⟨rfl, hbw⟩; exact ⟨_, rfl, hK _ hbw⟩) ?_
  iterate 2 (refine wpHoldB_val (wanted_none rfl) (by intro K o d hK; go_simp; exact hK _ (Below.refl _ _)) ?_)
  refine wpHoldB_call (v := kv bb) (wanted_none rfl) (by intro K o d hK; go_simp; refine (mul_K b b bb hb hb (by rw [Hbb.out]) _).mono ?_; rintro e w' ⟨rfl, hbw⟩; exact ⟨_, rfl, hK _ hbw⟩) ?_
  refine wpHoldB_call (v := kv x) (wanted_none rfl) (by intro K o d hK; go_simp; refine (sub_K aa bb x laa lbb (by rw [Hx.out, Haa.out, Hbb.out]; exact diff_squares a b) _).mono ?_; rintro e w' ⟨rfl, hbw⟩; exact ⟨_, rfl, hK _ hbw⟩) ?_
  refine wpHoldB_nil ?_
  refine ⟨lays_key _ rfl rfl, fun g2 hg2 _ => ?_⟩
  intro w4 hb4 hblk
  have T0 := V0.out.grow hb4
  have T1 := V1.out.grow hb4
  have T2 := V2.out.grow hb4
  have T3 := RowAt.of (hblk 0 g2 _ _ rfl rfl)
  have HB4 := Lib.hid (HB3.out.trans (hb4.mono HB3.out.size))
  have HB5 := Lib.hid (below_setRow HB4.out (show w.heap.size ≤ g2 from Nat.le_trans HB3.out.size hg2) (keyA x))
  have U0 := Lib.hid (T0.other (show w.heap.size ≠ g2 by omega) (keyA x))
  have U1 := Lib.hid (T1.other (show w.heap.size + 1 ≠ g2 by omega) (keyA x))
  have U2 := Lib.hid (T2.other (show g1 ≠ g2 by omega) (keyA x))
  have U3 := Lib.hid (T3.set (keyA x))
  clear hblk hb4 HB3 HB4 X0a X0b X0c X1a X1b X1c X2a X2b X2c T0 T1 T2 V0 V1 V2 hg2
  obtain ⟨T3a, T3b, T3c⟩ := T3
  go_wp2_with fail
  clear T3a T3b T3c
  generalize World.setRow _ _ _ = W5 at *
  have X0 := U0.out
  have X1 := U1.out
  have X2 := U2.out
  have X3 := U3.out
  clear U0 U1 U2 U3
  obtain ⟨X0a, X0b, X0c⟩ := X0
  obtain ⟨X1a, X1b, X1c⟩ := X1
  obtain ⟨X2a, X2b, X2c⟩ := X2
  obtain ⟨X3a, X3b, X3c⟩ := X3
  refine wp_region_fast (fun w' => ∃ o d, w' = W5.plus o d) (by kernel_rfl) (by kernel_rfl) ⟨#[], _, rfl⟩ ?_
  iterate 4 (refine wpHold_val ⟨_, #[], 0, rfl⟩ (wanted_none rfl) (by rintro K _ ⟨o, d, rfl⟩ hK; go_simp; exact hK _ ⟨o, d, rfl⟩) ?_)
  iterate 2 (refine wpHold_val ⟨_, #[], 0, rfl⟩ (wanted_some rfl rfl rfl) (by rintro K _ ⟨o, d, rfl⟩ hK; go_simp; exact hK _ ⟨o, d, rfl⟩) ?_)
  refine wpHold_call (v := kv mm) (wanted_some rfl rfl rfl) (by rintro K _ ⟨o, d, rfl⟩ hK; go_simp; refine (mul_K a b mm ha hb (by rw [Hmm.out]) _).mono ?_; rintro e w' ⟨rfl, hbw⟩; obtain ⟨o', n', rfl⟩ := below_plus hbw; exact ⟨_, rfl, hK _ ⟨_, _, World.plus_plus _ _ _ _ _⟩⟩) ?_
  refine wpHold_call (v := kv im) (wanted_some rfl rfl rfl) (by rintro K _ ⟨o, d, rfl⟩ hK; go_simp; refine (inv_K mm im lmm (by rw [Him.out, Hmm.out]) _).mono ?_; rintro e w' ⟨rfl, hbw⟩; obtain ⟨o', n', rfl⟩ := below_plus hbw; exact ⟨_, rfl, hK _ ⟨_, _, World.plus_plus _ _ _ _ _⟩⟩) ?_
  refine wpHold_val ⟨_, #[], 0, rfl⟩ (wanted_some rfl rfl rfl) (by rintro K _ ⟨o, d, rfl⟩ hK; go_simp; exact hK _ ⟨o, d, rfl⟩) ?_
  refine wpHold_call (v := kv ia) (wanted_some rfl rfl rfl) (by rintro K _ ⟨o, d, rfl⟩ hK; go_simp; refine (inv_K a ia ha (by rw [Hia.out]) _).mono ?_; rintro e w' ⟨rfl, hbw⟩; obtain ⟨o', n', rfl⟩ := below_plus hbw; exact ⟨_, rfl, hK _ ⟨_, _, World.plus_plus _ _ _ _ _⟩⟩) ?_
  refine wpHold_val ⟨_, #[], 0, rfl⟩ (wanted_some rfl rfl rfl) (by rintro K _ ⟨o, d, rfl⟩ hK; go_simp; exact hK _ ⟨o, d, rfl⟩) ?_
  refine wpHold_call (v := kv ib) (wanted_some rfl rfl rfl) (by rintro K _ ⟨o, d, rfl⟩ hK; go_simp; refine (inv_K b ib hb (by rw [Hib.out]) _).mono ?_; rintro e w' ⟨rfl, hbw⟩; obtain ⟨o', n', rfl⟩ := below_plus hbw; exact ⟨_, rfl, hK _ ⟨_, _, World.plus_plus _ _ _ _ _⟩⟩) ?_
  refine wpHold_call (v := kv im) (wanted_some rfl rfl rfl) (by rintro K _ ⟨o, d, rfl⟩ hK; go_simp; refine (mul_K ia ib im lia lib (by rw [Him.out, Hia.out, Hib.out]; exact (Fp.inv_prod a b).symm) _).mono ?_; rintro e w' ⟨rfl, hbw⟩; obtain ⟨o', n', rfl⟩ := below_plus hbw; exact ⟨_, rfl, hK _ ⟨_, _, World.plus_plus _ _ _ _ _⟩⟩) ?_
  refine wpHold_val ⟨_, #[], 0, rfl⟩ (wanted_some rfl rfl rfl) (by rintro K _ ⟨o, d, rfl⟩ hK; go_simp; exact hK _ ⟨o, d, rfl⟩) ?_
  iterate 2 (refine wpHold_val ⟨_, #[], 0, rfl⟩ (wanted_none rfl) (by rintro K _ ⟨o, d, rfl⟩ hK; go_simp; exact hK _ ⟨o, d, rfl⟩) ?_)
  refine wpHold_nil ?_
  rintro _ ⟨o6, n6, rfl⟩
  go_wp2_with fail
  go_ret
  exact ⟨rfl, below_more HB5.out _ _⟩
end Go.Proofs.Ytelibbgldblnbaa
