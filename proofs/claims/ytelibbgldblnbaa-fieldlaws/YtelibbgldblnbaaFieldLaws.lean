/-
  Sums and products hang on no order, a product of a sum is the sum of the products, a difference is undone by a sum: FieldLaws answers true, whatever three keys it is given.
-/
import Derived.Test.YtelibbgldblnbaaFieldAlive
import Derived.Test.YtelibbgldblnbaaFast
namespace Go.Proofs.Ytelibbgldblnbaa
open Go.RowKit Go.Shelf Go.Hold

set_option maxHeartbeats 8000000 in
set_option maxRecDepth 100000 in
theorem laws_any (a b c : Nat) (ha : a < 115792089237316195423570985008687907853269984665640564039457584007913129639936) (hb : b < 115792089237316195423570985008687907853269984665640564039457584007913129639936) (hc : c < 115792089237316195423570985008687907853269984665640564039457584007913129639936) (w : World) :
    Calls Try.prog 7 #[kv a, kv b, kv c] w fun e w' => e = .returned (.bool true) ∧ Below w.heap.size w w' := by
  obtain ⟨ab, eab⟩ : ∃ x, x = (a + b) % Fp.P := ⟨_, rfl⟩
  have lab : ab < 115792089237316195423570985008687907853269984665640564039457584007913129639936 := by rw [eab]; exact mod_lt _
  have Hab := Lib.hid eab
  obtain ⟨abm, eabm⟩ : ∃ x, x = a * b % Fp.P := ⟨_, rfl⟩
  have labm : abm < 115792089237316195423570985008687907853269984665640564039457584007913129639936 := by rw [eabm]; exact mod_lt _
  have Habm := Lib.hid eabm
  obtain ⟨abc, eabc⟩ : ∃ x, x = (a + b + c) % Fp.P := ⟨_, rfl⟩
  have labc : abc < 115792089237316195423570985008687907853269984665640564039457584007913129639936 := by rw [eabc]; exact mod_lt _
  have Habc := Lib.hid eabc
  obtain ⟨bc, ebc⟩ : ∃ x, x = (b + c) % Fp.P := ⟨_, rfl⟩
  have lbc : bc < 115792089237316195423570985008687907853269984665640564039457584007913129639936 := by rw [ebc]; exact mod_lt _
  have Hbc := Lib.hid ebc
  obtain ⟨abcm, eabcm⟩ : ∃ x, x = a * b * c % Fp.P := ⟨_, rfl⟩
  have labcm : abcm < 115792089237316195423570985008687907853269984665640564039457584007913129639936 := by rw [eabcm]; exact mod_lt _
  have Habcm := Lib.hid eabcm
  obtain ⟨bcm, ebcm⟩ : ∃ x, x = b * c % Fp.P := ⟨_, rfl⟩
  have lbcm : bcm < 115792089237316195423570985008687907853269984665640564039457584007913129639936 := by rw [ebcm]; exact mod_lt _
  have Hbcm := Lib.hid ebcm
  obtain ⟨di, edi⟩ : ∃ x, x = (a + b) * c % Fp.P := ⟨_, rfl⟩
  have ldi : di < 115792089237316195423570985008687907853269984665640564039457584007913129639936 := by rw [edi]; exact mod_lt _
  have Hdi := Lib.hid edi
  obtain ⟨acm, eacm⟩ : ∃ x, x = a * c % Fp.P := ⟨_, rfl⟩
  have lacm : acm < 115792089237316195423570985008687907853269984665640564039457584007913129639936 := by rw [eacm]; exact mod_lt _
  have Hacm := Lib.hid eacm
  obtain ⟨dd, edd⟩ : ∃ x, x = (a % Fp.P + (Fp.P - b % Fp.P)) % Fp.P := ⟨_, rfl⟩
  have ldd : dd < 115792089237316195423570985008687907853269984665640564039457584007913129639936 := by rw [edd]; exact mod_lt _
  have Hdd := Lib.hid edd
  obtain ⟨ap, eap⟩ : ∃ x, x = a % Fp.P := ⟨_, rfl⟩
  have lap : ap < 115792089237316195423570985008687907853269984665640564039457584007913129639936 := by rw [eap]; exact mod_lt _
  have Hap := Lib.hid eap
  clear eab eabm eabc ebc eabcm ebcm edi eacm edd eap
  go_enter Try.func7, Try.ntmps7
  go_wp2_with fail
  refine (alive_any _).mono ?_
  rintro e w' ⟨rfl, hbw⟩
  obtain ⟨o1, n1, rfl⟩ := below_plus hbw
  clear hbw
  go_wp2_with fail
  refine (canon_K a ap ha (by rw [Hap.out]) _).mono ?_
  rintro e w' ⟨rfl, hbw⟩
  obtain ⟨o2, n2, rfl⟩ := below_plus hbw
  clear hbw
  go_wp2_with fail
  generalize hW : World.alloc (World.plus _ _ _) _ = W1
  refine wp_region_fast (fun w' => ∃ o d, w' = W1.plus o d) (by kernel_rfl) (by kernel_rfl) ⟨#[], _, rfl⟩ ?_
  subst hW
  simp only [List.append_eq, List.cons_append, List.nil_append]
  iterate 2 (refine wpHold_val ⟨_, #[], 0, rfl⟩ (wanted_none rfl) (by rintro K _ ⟨o, d, rfl⟩ hK; go_simp; exact hK _ ⟨o, d, rfl⟩) ?_)
  refine wpHold_call (v := kv ab) (wanted_none rfl) (by rintro K _ ⟨o, d, rfl⟩ hK; go_simp; refine (add_K a b ab ha hb (by rw [Hab.out]) _).mono ?_; rintro e w' ⟨rfl, hbw⟩; obtain ⟨o', n', rfl⟩ := below_plus hbw; exact ⟨_, rfl, hK _ ⟨_, _, World.plus_plus _ _ _ _ _⟩⟩) ?_
  iterate 2 (refine wpHold_val ⟨_, #[], 0, rfl⟩ (wanted_none rfl) (by rintro K _ ⟨o, d, rfl⟩ hK; go_simp; exact hK _ ⟨o, d, rfl⟩) ?_)
  refine wpHold_call (v := kv ab) (wanted_none rfl) (by rintro K _ ⟨o, d, rfl⟩ hK; go_simp; refine (add_K b a ab hb ha (by rw [Hab.out]; rw [Nat.add_comm]) _).mono ?_; rintro e w' ⟨rfl, hbw⟩; obtain ⟨o', n', rfl⟩ := below_plus hbw; exact ⟨_, rfl, hK _ ⟨_, _, World.plus_plus _ _ _ _ _⟩⟩) ?_
  iterate 2 (refine wpHold_val ⟨_, #[], 0, rfl⟩ (wanted_none rfl) (by rintro K _ ⟨o, d, rfl⟩ hK; go_simp; exact hK _ ⟨o, d, rfl⟩) ?_)
  iterate 2 (refine wpHold_val ⟨_, #[], 0, rfl⟩ (wanted_some rfl rfl rfl) (by rintro K _ ⟨o, d, rfl⟩ hK; go_simp; exact hK _ ⟨o, d, rfl⟩) ?_)
  refine wpHold_call (v := kv abm) (wanted_some rfl rfl rfl) (by rintro K _ ⟨o, d, rfl⟩ hK; go_simp; refine (mul_K a b abm ha hb (by rw [Habm.out]) _).mono ?_; rintro e w' ⟨rfl, hbw⟩; obtain ⟨o', n', rfl⟩ := below_plus hbw; exact ⟨_, rfl, hK _ ⟨_, _, World.plus_plus _ _ _ _ _⟩⟩) ?_
  iterate 2 (refine wpHold_val ⟨_, #[], 0, rfl⟩ (wanted_some rfl rfl rfl) (by rintro K _ ⟨o, d, rfl⟩ hK; go_simp; exact hK _ ⟨o, d, rfl⟩) ?_)
  refine wpHold_call (v := kv abm) (wanted_some rfl rfl rfl) (by rintro K _ ⟨o, d, rfl⟩ hK; go_simp; refine (mul_K b a abm hb ha (by rw [Habm.out]; rw [Nat.mul_comm]) _).mono ?_; rintro e w' ⟨rfl, hbw⟩; obtain ⟨o', n', rfl⟩ := below_plus hbw; exact ⟨_, rfl, hK _ ⟨_, _, World.plus_plus _ _ _ _ _⟩⟩) ?_
  refine wpHold_val ⟨_, #[], 0, rfl⟩ (wanted_some rfl rfl rfl) (by rintro K _ ⟨o, d, rfl⟩ hK; go_simp; exact hK _ ⟨o, d, rfl⟩) ?_
  iterate 2 (refine wpHold_val ⟨_, #[], 0, rfl⟩ (wanted_none rfl) (by rintro K _ ⟨o, d, rfl⟩ hK; go_simp; exact hK _ ⟨o, d, rfl⟩) ?_)
  iterate 2 (refine wpHold_val ⟨_, #[], 0, rfl⟩ (wanted_some rfl rfl rfl) (by rintro K _ ⟨o, d, rfl⟩ hK; go_simp; exact hK _ ⟨o, d, rfl⟩) ?_)
  refine wpHold_call (v := kv ab) (wanted_some rfl rfl rfl) (by rintro K _ ⟨o, d, rfl⟩ hK; go_simp; refine (add_K a b ab ha hb (by rw [Hab.out]) _).mono ?_; rintro e w' ⟨rfl, hbw⟩; obtain ⟨o', n', rfl⟩ := below_plus hbw; exact ⟨_, rfl, hK _ ⟨_, _, World.plus_plus _ _ _ _ _⟩⟩) ?_
  refine wpHold_val ⟨_, #[], 0, rfl⟩ (wanted_some rfl rfl rfl) (by rintro K _ ⟨o, d, rfl⟩ hK; go_simp; exact hK _ ⟨o, d, rfl⟩) ?_
  refine wpHold_call (v := kv abc) (wanted_some rfl rfl rfl) (by rintro K _ ⟨o, d, rfl⟩ hK; go_simp; refine (add_K ab c abc lab hc (by rw [Habc.out, Hab.out]; exact Nat.mod_add_mod _ _ _) _).mono ?_; rintro e w' ⟨rfl, hbw⟩; obtain ⟨o', n', rfl⟩ := below_plus hbw; exact ⟨_, rfl, hK _ ⟨_, _, World.plus_plus _ _ _ _ _⟩⟩) ?_
  iterate 3 (refine wpHold_val ⟨_, #[], 0, rfl⟩ (wanted_some rfl rfl rfl) (by rintro K _ ⟨o, d, rfl⟩ hK; go_simp; exact hK _ ⟨o, d, rfl⟩) ?_)
  refine wpHold_call (v := kv bc) (wanted_some rfl rfl rfl) (by rintro K _ ⟨o, d, rfl⟩ hK; go_simp; refine (add_K b c bc hb hc (by rw [Hbc.out]) _).mono ?_; rintro e w' ⟨rfl, hbw⟩; obtain ⟨o', n', rfl⟩ := below_plus hbw; exact ⟨_, rfl, hK _ ⟨_, _, World.plus_plus _ _ _ _ _⟩⟩) ?_
  refine wpHold_call (v := kv abc) (wanted_some rfl rfl rfl) (by rintro K _ ⟨o, d, rfl⟩ hK; go_simp; refine (add_K a bc abc ha lbc (by rw [Habc.out, Hbc.out]; rw [Nat.add_mod_mod, Nat.add_assoc]) _).mono ?_; rintro e w' ⟨rfl, hbw⟩; obtain ⟨o', n', rfl⟩ := below_plus hbw; exact ⟨_, rfl, hK _ ⟨_, _, World.plus_plus _ _ _ _ _⟩⟩) ?_
  refine wpHold_val ⟨_, #[], 0, rfl⟩ (wanted_some rfl rfl rfl) (by rintro K _ ⟨o, d, rfl⟩ hK; go_simp; exact hK _ ⟨o, d, rfl⟩) ?_
  iterate 2 (refine wpHold_val ⟨_, #[], 0, rfl⟩ (wanted_none rfl) (by rintro K _ ⟨o, d, rfl⟩ hK; go_simp; exact hK _ ⟨o, d, rfl⟩) ?_)
  iterate 2 (refine wpHold_val ⟨_, #[], 0, rfl⟩ (wanted_some rfl rfl rfl) (by rintro K _ ⟨o, d, rfl⟩ hK; go_simp; exact hK _ ⟨o, d, rfl⟩) ?_)
  refine wpHold_call (v := kv abm) (wanted_some rfl rfl rfl) (by rintro K _ ⟨o, d, rfl⟩ hK; go_simp; refine (mul_K a b abm ha hb (by rw [Habm.out]) _).mono ?_; rintro e w' ⟨rfl, hbw⟩; obtain ⟨o', n', rfl⟩ := below_plus hbw; exact ⟨_, rfl, hK _ ⟨_, _, World.plus_plus _ _ _ _ _⟩⟩) ?_
  refine wpHold_val ⟨_, #[], 0, rfl⟩ (wanted_some rfl rfl rfl) (by rintro K _ ⟨o, d, rfl⟩ hK; go_simp; exact hK _ ⟨o, d, rfl⟩) ?_
  refine wpHold_call (v := kv abcm) (wanted_some rfl rfl rfl) (by rintro K _ ⟨o, d, rfl⟩ hK; go_simp; refine (mul_K abm c abcm labm hc (by rw [Habcm.out, Habm.out]; exact Nat.mod_mul_mod _ _ _) _).mono ?_; rintro e w' ⟨rfl, hbw⟩; obtain ⟨o', n', rfl⟩ := below_plus hbw; exact ⟨_, rfl, hK _ ⟨_, _, World.plus_plus _ _ _ _ _⟩⟩) ?_
  iterate 3 (refine wpHold_val ⟨_, #[], 0, rfl⟩ (wanted_some rfl rfl rfl) (by rintro K _ ⟨o, d, rfl⟩ hK; go_simp; exact hK _ ⟨o, d, rfl⟩) ?_)
  refine wpHold_call (v := kv bcm) (wanted_some rfl rfl rfl) (by rintro K _ ⟨o, d, rfl⟩ hK; go_simp; refine (mul_K b c bcm hb hc (by rw [Hbcm.out]) _).mono ?_; rintro e w' ⟨rfl, hbw⟩; obtain ⟨o', n', rfl⟩ := below_plus hbw; exact ⟨_, rfl, hK _ ⟨_, _, World.plus_plus _ _ _ _ _⟩⟩) ?_
  refine wpHold_call (v := kv abcm) (wanted_some rfl rfl rfl) (by rintro K _ ⟨o, d, rfl⟩ hK; go_simp; refine (mul_K a bcm abcm ha lbcm (by rw [Habcm.out, Hbcm.out]; rw [Nat.mul_mod_mod, Nat.mul_assoc]) _).mono ?_; rintro e w' ⟨rfl, hbw⟩; obtain ⟨o', n', rfl⟩ := below_plus hbw; exact ⟨_, rfl, hK _ ⟨_, _, World.plus_plus _ _ _ _ _⟩⟩) ?_
  refine wpHold_val ⟨_, #[], 0, rfl⟩ (wanted_some rfl rfl rfl) (by rintro K _ ⟨o, d, rfl⟩ hK; go_simp; exact hK _ ⟨o, d, rfl⟩) ?_
  iterate 2 (refine wpHold_val ⟨_, #[], 0, rfl⟩ (wanted_none rfl) (by rintro K _ ⟨o, d, rfl⟩ hK; go_simp; exact hK _ ⟨o, d, rfl⟩) ?_)
  iterate 2 (refine wpHold_val ⟨_, #[], 0, rfl⟩ (wanted_some rfl rfl rfl) (by rintro K _ ⟨o, d, rfl⟩ hK; go_simp; exact hK _ ⟨o, d, rfl⟩) ?_)
  refine wpHold_call (v := kv ab) (wanted_some rfl rfl rfl) (by rintro K _ ⟨o, d, rfl⟩ hK; go_simp; refine (add_K a b ab ha hb (by rw [Hab.out]) _).mono ?_; rintro e w' ⟨rfl, hbw⟩; obtain ⟨o', n', rfl⟩ := below_plus hbw; exact ⟨_, rfl, hK _ ⟨_, _, World.plus_plus _ _ _ _ _⟩⟩) ?_
  refine wpHold_val ⟨_, #[], 0, rfl⟩ (wanted_some rfl rfl rfl) (by rintro K _ ⟨o, d, rfl⟩ hK; go_simp; exact hK _ ⟨o, d, rfl⟩) ?_
  refine wpHold_call (v := kv di) (wanted_some rfl rfl rfl) (by rintro K _ ⟨o, d, rfl⟩ hK; go_simp; refine (mul_K ab c di lab hc (by rw [Hdi.out, Hab.out]; exact Nat.mod_mul_mod _ _ _) _).mono ?_; rintro e w' ⟨rfl, hbw⟩; obtain ⟨o', n', rfl⟩ := below_plus hbw; exact ⟨_, rfl, hK _ ⟨_, _, World.plus_plus _ _ _ _ _⟩⟩) ?_
  iterate 2 (refine wpHold_val ⟨_, #[], 0, rfl⟩ (wanted_some rfl rfl rfl) (by rintro K _ ⟨o, d, rfl⟩ hK; go_simp; exact hK _ ⟨o, d, rfl⟩) ?_)
  refine wpHold_call (v := kv acm) (wanted_some rfl rfl rfl) (by rintro K _ ⟨o, d, rfl⟩ hK; go_simp; refine (mul_K a c acm ha hc (by rw [Hacm.out]) _).mono ?_; rintro e w' ⟨rfl, hbw⟩; obtain ⟨o', n', rfl⟩ := below_plus hbw; exact ⟨_, rfl, hK _ ⟨_, _, World.plus_plus _ _ _ _ _⟩⟩) ?_
  iterate 2 (refine wpHold_val ⟨_, #[], 0, rfl⟩ (wanted_some rfl rfl rfl) (by rintro K _ ⟨o, d, rfl⟩ hK; go_simp; exact hK _ ⟨o, d, rfl⟩) ?_)
  refine wpHold_call (v := kv bcm) (wanted_some rfl rfl rfl) (by rintro K _ ⟨o, d, rfl⟩ hK; go_simp; refine (mul_K b c bcm hb hc (by rw [Hbcm.out]) _).mono ?_; rintro e w' ⟨rfl, hbw⟩; obtain ⟨o', n', rfl⟩ := below_plus hbw; exact ⟨_, rfl, hK _ ⟨_, _, World.plus_plus _ _ _ _ _⟩⟩) ?_
  refine wpHold_call (v := kv di) (wanted_some rfl rfl rfl) (by rintro K _ ⟨o, d, rfl⟩ hK; go_simp; refine (add_K acm bcm di lacm lbcm (by rw [Hdi.out, Hacm.out, Hbcm.out]; rw [← Nat.add_mod, Nat.add_mul]) _).mono ?_; rintro e w' ⟨rfl, hbw⟩; obtain ⟨o', n', rfl⟩ := below_plus hbw; exact ⟨_, rfl, hK _ ⟨_, _, World.plus_plus _ _ _ _ _⟩⟩) ?_
  refine wpHold_val ⟨_, #[], 0, rfl⟩ (wanted_some rfl rfl rfl) (by rintro K _ ⟨o, d, rfl⟩ hK; go_simp; exact hK _ ⟨o, d, rfl⟩) ?_
  iterate 2 (refine wpHold_val ⟨_, #[], 0, rfl⟩ (wanted_none rfl) (by rintro K _ ⟨o, d, rfl⟩ hK; go_simp; exact hK _ ⟨o, d, rfl⟩) ?_)
  iterate 2 (refine wpHold_val ⟨_, #[], 0, rfl⟩ (wanted_some rfl rfl rfl) (by rintro K _ ⟨o, d, rfl⟩ hK; go_simp; exact hK _ ⟨o, d, rfl⟩) ?_)
  refine wpHold_call (v := kv dd) (wanted_some rfl rfl rfl) (by rintro K _ ⟨o, d, rfl⟩ hK; go_simp; refine (sub_K a b dd ha hb (by rw [Hdd.out]) _).mono ?_; rintro e w' ⟨rfl, hbw⟩; obtain ⟨o', n', rfl⟩ := below_plus hbw; exact ⟨_, rfl, hK _ ⟨_, _, World.plus_plus _ _ _ _ _⟩⟩) ?_
  refine wpHold_val ⟨_, #[], 0, rfl⟩ (wanted_some rfl rfl rfl) (by rintro K _ ⟨o, d, rfl⟩ hK; go_simp; exact hK _ ⟨o, d, rfl⟩) ?_
  refine wpHold_call (v := kv ap) (wanted_some rfl rfl rfl) (by rintro K _ ⟨o, d, rfl⟩ hK; go_simp; refine (add_K dd b ap ldd hb (by rw [Hap.out, Hdd.out]; exact sub_add a b) _).mono ?_; rintro e w' ⟨rfl, hbw⟩; obtain ⟨o', n', rfl⟩ := below_plus hbw; exact ⟨_, rfl, hK _ ⟨_, _, World.plus_plus _ _ _ _ _⟩⟩) ?_
  iterate 2 (refine wpHold_val ⟨_, #[], 0, rfl⟩ (wanted_some rfl rfl rfl) (by rintro K _ ⟨o, d, rfl⟩ hK; go_simp; exact hK _ ⟨o, d, rfl⟩) ?_)
  iterate 2 (refine wpHold_val ⟨_, #[], 0, rfl⟩ (wanted_none rfl) (by rintro K _ ⟨o, d, rfl⟩ hK; go_simp; exact hK _ ⟨o, d, rfl⟩) ?_)
  refine wpHold_val ⟨_, #[], 0, rfl⟩ (wanted_some rfl rfl rfl) (by rintro K _ ⟨o, d, rfl⟩ hK; go_simp; exact hK _ ⟨o, d, rfl⟩) ?_
  refine wpHold_call (v := kv 1) (wanted_some rfl rfl rfl) (by rintro K _ ⟨o, d, rfl⟩ hK; go_simp; refine (num_i 1 1 rfl (by decide) _).mono ?_; rintro e w' ⟨rfl, hbw⟩; obtain ⟨o', n', rfl⟩ := below_plus hbw; exact ⟨_, rfl, hK _ ⟨_, _, World.plus_plus _ _ _ _ _⟩⟩) ?_
  refine wpHold_call (v := kv ap) (wanted_some rfl rfl rfl) (by rintro K _ ⟨o, d, rfl⟩ hK; go_simp; refine (mul_K a 1 ap ha (by decide) (by rw [Hap.out]; rw [Nat.mul_one]) _).mono ?_; rintro e w' ⟨rfl, hbw⟩; obtain ⟨o', n', rfl⟩ := below_plus hbw; exact ⟨_, rfl, hK _ ⟨_, _, World.plus_plus _ _ _ _ _⟩⟩) ?_
  iterate 2 (refine wpHold_val ⟨_, #[], 0, rfl⟩ (wanted_some rfl rfl rfl) (by rintro K _ ⟨o, d, rfl⟩ hK; go_simp; exact hK _ ⟨o, d, rfl⟩) ?_)
  iterate 2 (refine wpHold_val ⟨_, #[], 0, rfl⟩ (wanted_none rfl) (by rintro K _ ⟨o, d, rfl⟩ hK; go_simp; exact hK _ ⟨o, d, rfl⟩) ?_)
  iterate 2 (refine wpHold_val ⟨_, #[], 0, rfl⟩ (wanted_some rfl rfl rfl) (by rintro K _ ⟨o, d, rfl⟩ hK; go_simp; exact hK _ ⟨o, d, rfl⟩) ?_)
  refine wpHold_call (v := kv 0) (wanted_some rfl rfl rfl) (by rintro K _ ⟨o, d, rfl⟩ hK; go_simp; refine (sub_K a a 0 ha ha (by exact sub_self' a) _).mono ?_; rintro e w' ⟨rfl, hbw⟩; obtain ⟨o', n', rfl⟩ := below_plus hbw; exact ⟨_, rfl, hK _ ⟨_, _, World.plus_plus _ _ _ _ _⟩⟩) ?_
  refine wpHold_call (v := kv 0) (wanted_some rfl rfl rfl) (by rintro K _ ⟨o, d, rfl⟩ hK; go_simp; refine (num_i 0 0 rfl (by decide) _).mono ?_; rintro e w' ⟨rfl, hbw⟩; obtain ⟨o', n', rfl⟩ := below_plus hbw; exact ⟨_, rfl, hK _ ⟨_, _, World.plus_plus _ _ _ _ _⟩⟩) ?_
  refine wpHold_val ⟨_, #[], 0, rfl⟩ (wanted_some rfl rfl rfl) (by rintro K _ ⟨o, d, rfl⟩ hK; go_simp; exact hK _ ⟨o, d, rfl⟩) ?_
  iterate 2 (refine wpHold_val ⟨_, #[], 0, rfl⟩ (wanted_none rfl) (by rintro K _ ⟨o, d, rfl⟩ hK; go_simp; exact hK _ ⟨o, d, rfl⟩) ?_)
  refine wpHold_nil ?_
  rintro _ ⟨o3, n3, rfl⟩
  go_wp2_with fail
  go_ret
  refine ⟨rfl, ?_⟩
  repeat (first | apply below_more | apply below_alloc | exact Below.refl _ _)
end Go.Proofs.Ytelibbgldblnbaa
