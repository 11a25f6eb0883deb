/-
  Package field: sums, differences, and the inverse as a power.
-/
import Derived.Test.YtpilonikhokjeaaFieldProd
import Derived.Test.YtpilonikhokjeaaPrime
import Derived.LoopTactic
namespace Go.Proofs.Ytpilonikhokjeaa
open Go.RowKit Go.Shelf Go.Hold

/-- Four words of a number below p. -/
def RedR (n : Int) (a b c d : Int) : Prop := W4 a b c d ∧ V a b c d = n % 57896044618658097711785492504343953926634992332820282019728792003956564819949

theorem add_fix {a0 a1 a2 a3 b0 b1 b2 b3 : Int} (ha : W4 a0 a1 a2 a3) (hb : W4 b0 b1 b2 b3) :
    ∃ r0 r1 r2 r3 h, W4 r0 r1 r2 r3 ∧ 0 ≤ h ∧ h ≤ 1 ∧ V r0 r1 r2 r3 + h * 115792089237316195423570985008687907853269984665640564039457584007913129639936 = V a0 a1 a2 a3 + V b0 b1 b2 b3 ∧
      Hid (∀ w, Calls Try.prog 51 #[nv a0 a1 a2 a3, nv b0 b1 b2 b3] w fun e w' => e = .returned (.tuple #[nv r0 r1 r2 r3, .int .u64 h]) ∧ Below w.heap.size w w') := by
  have v1 := V_bd ha
  have v2 := V_bd hb
  obtain ⟨r0, r1, r2, r3, h, hw, hv, hc⟩ := fix5 (n := V a0 a1 a2 a3 + V b0 b1 b2 b3) (fun _ _ _ _ _ hr => ⟨hr.1, hr.2.2.2⟩) (fun w => add_any a0 a1 a2 a3 b0 b1 b2 b3 ha hb w)
  have v3 := V_bd hw
  exact ⟨r0, r1, r2, r3, h, hw, by omega, by omega, hv, hc⟩
theorem subtract_fix {a0 a1 a2 a3 b0 b1 b2 b3 : Int} (ha : W4 a0 a1 a2 a3) (hb : W4 b0 b1 b2 b3) (hle : V b0 b1 b2 b3 ≤ V a0 a1 a2 a3) :
    ∃ r0 r1 r2 r3, W4 r0 r1 r2 r3 ∧ V r0 r1 r2 r3 = V a0 a1 a2 a3 - V b0 b1 b2 b3 ∧
      Hid (∀ w, Calls Try.prog 61 #[nv a0 a1 a2 a3, nv b0 b1 b2 b3] w fun e w' => e = .returned (nv r0 r1 r2 r3) ∧ Below w.heap.size w w') := by
  have v1 := V_bd ha
  have v2 := V_bd hb
  exact fix4 (by omega) (by omega) (fun _ _ _ _ hr => ⟨hr.1, hr.2 hle⟩) (fun w => subtract_any a0 a1 a2 a3 b0 b1 b2 b3 ha hb w)
theorem red_fix {n : Int} {f : FuncId} {args : Array Value} (h : ∀ w, Calls Try.prog f args w (Ret4 (RedR n) w)) :
    ∃ r0 r1 r2 r3, W4 r0 r1 r2 r3 ∧ V r0 r1 r2 r3 = n % 57896044618658097711785492504343953926634992332820282019728792003956564819949 ∧
      Hid (∀ w, Calls Try.prog f args w fun e w' => e = .returned (nv r0 r1 r2 r3) ∧ Below w.heap.size w w') :=
  fix4 (by omega) (by omega) (fun _ _ _ _ hr => hr) h

set_option maxHeartbeats 1000000 in
theorem sum_any (a0 a1 a2 a3 b0 b1 b2 b3 : Int) (ha : W4 a0 a1 a2 a3) (hb : W4 b0 b1 b2 b3) (w : World) :
    Calls Try.prog 53 #[nv a0 a1 a2 a3, nv b0 b1 b2 b3] w (Ret4 (RedR (V a0 a1 a2 a3 + V b0 b1 b2 b3)) w) := by
  obtain ⟨r0, r1, r2, r3, h, R0, h0, h1, R1, RC⟩ := add_fix ha hb
  obtain ⟨g0, g1, g2, g3, G0, G1, GC⟩ := settle_fix R0 h0 (by omega)
  rw [R1] at G1
  have HG := Lib.hid G1
  clear R1 G1 ha hb R0 h0 h1
  go_enter Try.func53, Try.ntmps53
  go_wp2_with fail
  refine (RC.out _).mono ?_
  rintro e w' ⟨rfl, hb⟩
  obtain ⟨o1, n1, rfl⟩ := below_plus hb
  clear hb
  go_wp2_with fail
  refine (GC.out _).mono ?_
  rintro e w' ⟨rfl, hb⟩
  obtain ⟨o2, n2, rfl⟩ := below_plus hb
  clear hb
  go_wp2_with fail
  refine bodyPost_ret (v := nv g0 g1 g2 g3) (by simp [results, Try.results53, go_sem]) rfl ⟨g0, g1, g2, g3, ⟨G0, HG.out⟩, rfl, ?_⟩
  repeat (first | apply below_more | apply below_alloc | exact Below.refl _ _)

theorem w4_p : W4 18446744073709551597 18446744073709551615 18446744073709551615 9223372036854775807 := by unfold W4 Word; omega
theorem V_p : V 18446744073709551597 18446744073709551615 18446744073709551615 9223372036854775807 = 57896044618658097711785492504343953926634992332820282019728792003956564819949 := by unfold V; omega

set_option maxHeartbeats 1000000 in
theorem difference_any (a0 a1 a2 a3 b0 b1 b2 b3 : Int) (ha : W4 a0 a1 a2 a3) (hb : W4 b0 b1 b2 b3) (hp : V b0 b1 b2 b3 ≤ 57896044618658097711785492504343953926634992332820282019728792003956564819949) (w : World) :
    Calls Try.prog 54 #[nv a0 a1 a2 a3, nv b0 b1 b2 b3] w (Ret4 (RedR (V a0 a1 a2 a3 - V b0 b1 b2 b3)) w) := by
  obtain ⟨s0, s1, s2, s3, S0, S1, SC⟩ := subtract_fix w4_p hb (by rw [V_p]; exact hp)
  obtain ⟨r0, r1, r2, r3, h, R0, h0, h1, R1, RC⟩ := add_fix ha S0
  obtain ⟨g0, g1, g2, g3, G0, G1, GC⟩ := settle_fix R0 h0 (by omega)
  rw [R1, S1, V_p] at G1
  have e : V a0 a1 a2 a3 + (57896044618658097711785492504343953926634992332820282019728792003956564819949 - V b0 b1 b2 b3) = (V a0 a1 a2 a3 - V b0 b1 b2 b3) + 57896044618658097711785492504343953926634992332820282019728792003956564819949 := by omega
  rw [e, Int.add_emod_right] at G1
  have HG := Lib.hid G1
  clear e R1 G1 ha hb R0 h0 h1 S0 S1 hp
  go_enter Try.func54, Try.ntmps54
  go_wp2_with fail
  generalize hW : World.alloc _ _ = W1
  refine wp_region_parts (fun w' => ∃ o d, w' = W1.plus o d) 8 0 (by kernel_rfl) (by kernel_rfl) (by intro c a d v w h; cases d <;> exact h) ⟨#[], _, rfl⟩ ?_
  subst hW
  simp only [List.take_succ_cons, List.take_zero, List.drop_succ_cons, List.drop_zero]
  refine wpHold_step ⟨_, #[], 0, rfl⟩ (by rintro K _ ⟨o, d, rfl⟩ hK; go_simp; exact hK _ ⟨o, d, rfl⟩) ?_
  refine wpHold_call (v := nv 18446744073709551597 18446744073709551615 18446744073709551615 9223372036854775807) (by go_simp) (by rintro K _ ⟨o, d, rfl⟩ hK; go_simp; refine (prime_any _).mono ?_; rintro e w' ⟨rfl, hb⟩; obtain ⟨o', n', rfl⟩ := below_plus hb; exact ⟨_, rfl, hK _ ⟨_, _, World.plus_plus _ _ _ _ _⟩⟩) ?_
  refine wpHold_step ⟨_, #[], 0, rfl⟩ (by rintro K _ ⟨o, d, rfl⟩ hK; go_simp; exact hK _ ⟨o, d, rfl⟩) ?_
  refine wpHold_call (v := nv s0 s1 s2 s3) (by go_simp) (by rintro K _ ⟨o, d, rfl⟩ hK; go_simp; refine (SC.out _).mono ?_; rintro e w' ⟨rfl, hb⟩; obtain ⟨o', n', rfl⟩ := below_plus hb; exact ⟨_, rfl, hK _ ⟨_, _, World.plus_plus _ _ _ _ _⟩⟩) ?_
  refine wpHold_call (v := .tuple #[nv r0 r1 r2 r3, .int .u64 h]) (by go_simp) (by rintro K _ ⟨o, d, rfl⟩ hK; go_simp; refine (RC.out _).mono ?_; rintro e w' ⟨rfl, hb⟩; obtain ⟨o', n', rfl⟩ := below_plus hb; exact ⟨_, rfl, hK _ ⟨_, _, World.plus_plus _ _ _ _ _⟩⟩) ?_
  iterate 2 (refine wpHold_step ⟨_, #[], 0, rfl⟩ (by rintro K _ ⟨o, d, rfl⟩ hK; go_simp; exact hK _ ⟨o, d, rfl⟩) ?_)
  refine wpHold_call (v := nv g0 g1 g2 g3) (by go_simp) (by rintro K _ ⟨o, d, rfl⟩ hK; go_simp; refine (GC.out _).mono ?_; rintro e w' ⟨rfl, hb⟩; obtain ⟨o', n', rfl⟩ := below_plus hb; exact ⟨_, rfl, hK _ ⟨_, _, World.plus_plus _ _ _ _ _⟩⟩) ?_
  refine wpHold_nil ?_
  rintro _ ⟨o2, n2, rfl⟩
  refine wpFree_nil ?_
  go_wp2_with fail
  refine bodyPost_ret (v := nv g0 g1 g2 g3) (by simp [results, Try.results54, go_sem]) rfl ⟨g0, g1, g2, g3, ⟨G0, HG.out⟩, rfl, ?_⟩
  repeat (first | apply below_more | apply below_alloc | exact Below.refl _ _)

/-- A number that is kept in four words: n below 2^256. -/
def IsN (n : Nat) (a b c d : Int) : Prop := W4 a b c d ∧ V a b c d = n
theorem pint : (57896044618658097711785492504343953926634992332820282019728792003956564819949 : Int) = ((Fp.P : Nat) : Int) := rfl
theorem red_isN {n : Nat} {a b c d : Int} (h : RedR n a b c d) : IsN (n % Fp.P) a b c d := ⟨h.1, by rw [h.2, pint]; exact (Int.natCast_emod n Fp.P).symm⟩
theorem product_N {m n : Nat} {a0 a1 a2 a3 b0 b1 b2 b3 : Int} (ha : IsN m a0 a1 a2 a3) (hb : IsN n b0 b1 b2 b3) :
    ∃ r0 r1 r2 r3, IsN (m * n % Fp.P) r0 r1 r2 r3 ∧ Hid (∀ w, Calls Try.prog 44 #[nv a0 a1 a2 a3, nv b0 b1 b2 b3] w fun e w' => e = .returned (nv r0 r1 r2 r3) ∧ Below w.heap.size w w') := by
  obtain ⟨r0, r1, r2, r3, h0, h1, hC⟩ := red_fix (n := V a0 a1 a2 a3 * V b0 b1 b2 b3) (fun w => product_any a0 a1 a2 a3 b0 b1 b2 b3 ha.1 hb.1 w)
  refine ⟨r0, r1, r2, r3, red_isN ⟨h0, ?_⟩, hC⟩
  rw [h1, ha.2, hb.2, Int.natCast_mul]

/-- What the loop of 'inverse' keeps: the bits from k on are done. -/
def InvR (A : Nat) (a0 a1 a2 a3 : Int) (w : World) (bit : Value) (w' : World) : Prop :=
  ∃ (k : Nat) (r0 r1 r2 r3 : Int) (o : Array Obj) (d : Nat), k ≤ 255 ∧ bit = .int .i64 ((k : Int) - 1) ∧ IsN (Fp.pw A k) r0 r1 r2 r3 ∧
    w' = (((w.alloc (.cells #[.int .u64 a0, .int .u64 a1, .int .u64 a2, .int .u64 a3] 43)).alloc (.cells #[.int .u64 0, .int .u64 0, .int .u64 0, .int .u64 0] 43)).alloc (.cells #[.int .u64 r0, .int .u64 r1, .int .u64 r2, .int .u64 r3] 43)).plus o d

set_option maxHeartbeats 1000000 in
theorem inverse_any (A : Nat) (a0 a1 a2 a3 : Int) (ha : IsN A a0 a1 a2 a3) (w : World) :
    Calls Try.prog 45 #[nv a0 a1 a2 a3] w (Ret4 (IsN (A ^ Fp.E % Fp.P)) w) := by
  go_enter Try.func45, Try.ntmps45
  go_wp2_with fail
  go_loopw [4] (fun bit w' => InvR A a0 a1 a2 a3 w bit w') (fun bit _ => (intOf bit + 1).toNat)
  case atStart => exact ⟨255, 1, 0, 0, 0, #[], _, by decide, rfl, ⟨⟨⟨by decide, by decide⟩, word0, word0, word0⟩, by rw [Fp.pw_top]; rfl⟩, rfl⟩
  case round =>
    obtain ⟨k, r0, r1, r2, r3, o, d, hk, rfl, hR, rfl⟩ := hrel
    rcases Nat.eq_zero_or_pos k with rfl | hpos
    · rw [Fp.pw_bot] at hR
      go_wp2_with fail
      refine bodyPost_ret (v := nv r0 r1 r2 r3) (by simp [results, Try.results45, go_sem]) rfl ⟨r0, r1, r2, r3, hR, rfl, ?_⟩
      repeat (first | apply below_more | apply below_alloc | exact Below.refl _ _)
    · obtain ⟨j, rfl⟩ : ∃ j, k = j + 1 := ⟨k - 1, by omega⟩
      rw [show (((j + 1 : Nat) : Int) - 1) = (j : Int) by omega]
      obtain ⟨s0, s1, s2, s3, S0, SC⟩ := product_N hR hR
      obtain ⟨t0, t1, t2, t3, T0, TC⟩ := product_N S0 ha
      have hj0 : (0 : Int) ≤ j := by omega
      have hj1 : (j : Int) ≤ 254 := by omega
      by_cases h4 : j = 4 ∨ j = 2
      · rw [Fp.pw_sq A j (by omega) h4] at S0
        have HS := Lib.hid S0
        clear S0 T0 TC hR
        rcases h4 with rfl | rfl
        · go_wp2_with (go_at_call 44; refine (SC.out _).mono ?_; rintro e w' ⟨rfl, hb⟩; obtain ⟨o1, n1, rfl⟩ := below_plus hb; clear hb)
          go_roundw
          case rel => exact ⟨4, s0, s1, s2, s3, _, _, by decide, by go_num, HS.out, rfl⟩
          case measure => simp [intOf]
        · go_wp2_with (go_at_call 44; refine (SC.out _).mono ?_; rintro e w' ⟨rfl, hb⟩; obtain ⟨o1, n1, rfl⟩ := below_plus hb; clear hb)
          go_roundw
          case rel => exact ⟨2, s0, s1, s2, s3, _, _, by decide, by go_num, HS.out, rfl⟩
          case measure => simp [intOf]
      · rw [Fp.pw_sqm A j (by omega) h4] at T0
        have HT := Lib.hid T0
        have e4 : ((j : Int) != 4) = true := by rw [bne_iff_ne]; omega
        have e2 : ((j : Int) != 2) = true := by rw [bne_iff_ne]; omega
        clear S0 T0 hR
        go_wp2_with fail
        refine (SC.out _).mono ?_
        rintro e w' ⟨rfl, hb⟩
        obtain ⟨o1, n1, rfl⟩ := below_plus hb
        clear hb
        go_wp2_with fail
        refine (TC.out _).mono ?_
        rintro e w' ⟨rfl, hb⟩
        obtain ⟨o2, n2, rfl⟩ := below_plus hb
        clear hb
        go_wp2_with fail
        go_roundw
        case rel => exact ⟨j, t0, t1, t2, t3, _, _, by omega, by go_num, HT.out, rfl⟩
        case measure => simp [intOf]
end Go.Proofs.Ytpilonikhokjeaa
