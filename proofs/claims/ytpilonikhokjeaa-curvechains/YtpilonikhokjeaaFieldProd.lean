/-
  Package field: sums, differences and products of numbers, modulo 2^255 - 19.
-/
import Derived.Test.YtpilonikhokjeaaFieldNum
namespace Go.Proofs.Ytpilonikhokjeaa
open Go.RowKit Go.Shelf Go.Hold

/-- Four words are told by their number. -/
theorem V_inj {a b c d a' b' c' d' : Int} (h : W4 a b c d) (h' : W4 a' b' c' d') (e : V a b c d = V a' b' c' d') : a = a' ∧ b = b' ∧ c = c' ∧ d = d' := by
  unfold W4 Word V at *; omega
theorem V_words (n : Int) (h0 : 0 ≤ n) (h1 : n < 115792089237316195423570985008687907853269984665640564039457584007913129639936) : ∃ a b c d, W4 a b c d ∧ V a b c d = n := by
  refine ⟨n % 18446744073709551616, n / 18446744073709551616 % 18446744073709551616, n / 340282366920938463463374607431768211456 % 18446744073709551616, n / 6277101735386680763835789423207666416102355444464034512896, ?_⟩
  unfold W4 Word V; omega

theorem fix4 {f : FuncId} {args : Array Value} {R : Int → Int → Int → Int → Prop} {n : Int} (h0 : 0 ≤ n) (h1 : n < 115792089237316195423570985008687907853269984665640564039457584007913129639936)
    (hR : ∀ a b c d, R a b c d → W4 a b c d ∧ V a b c d = n) (h : ∀ w, Calls Try.prog f args w (Ret4 R w)) :
    ∃ a b c d, W4 a b c d ∧ V a b c d = n ∧ ∀ w, Calls Try.prog f args w fun e w' => e = .returned (nv a b c d) ∧ Below w.heap.size w w' := by
  obtain ⟨a, b, c, d, hw, hv⟩ := V_words n h0 h1
  refine ⟨a, b, c, d, hw, hv, fun w => (h w).mono ?_⟩
  rintro e w' ⟨a', b', c', d', hr, rfl, hb⟩
  obtain ⟨hw', hv'⟩ := hR _ _ _ _ hr
  obtain ⟨rfl, rfl, rfl, rfl⟩ := V_inj hw hw' (hv.trans hv'.symm)
  exact ⟨rfl, hb⟩
theorem fix5 {f : FuncId} {args : Array Value} {R : Int → Int → Int → Int → Int → Prop} {n : Int}
    (hR : ∀ a b c d h, R a b c d h → W4 a b c d ∧ V a b c d + h * 115792089237316195423570985008687907853269984665640564039457584007913129639936 = n) (h : ∀ w, Calls Try.prog f args w (Ret5 R w)) :
    ∃ a b c d h, W4 a b c d ∧ V a b c d + h * 115792089237316195423570985008687907853269984665640564039457584007913129639936 = n ∧ ∀ w, Calls Try.prog f args w fun e w' => e = .returned (.tuple #[nv a b c d, .int .u64 h]) ∧ Below w.heap.size w w' := by
  obtain ⟨a, b, c, d, hw, hv⟩ := V_words (n % 115792089237316195423570985008687907853269984665640564039457584007913129639936) (by omega) (by omega)
  refine ⟨a, b, c, d, n / 115792089237316195423570985008687907853269984665640564039457584007913129639936, hw, by omega, fun w => (h w).mono ?_⟩
  rintro e w' ⟨a', b', c', d', k, hr, rfl, hb⟩
  obtain ⟨hw', hv'⟩ := hR _ _ _ _ _ hr
  have hbd := V_bd hw'
  obtain ⟨rfl, rfl, rfl, rfl⟩ := V_inj hw hw' (by omega)
  have : k = n / 115792089237316195423570985008687907853269984665640564039457584007913129639936 := by omega
  exact ⟨by rw [this], hb⟩

theorem V_mul_bd {a b c d y : Int} (h : W4 a b c d) (hy : Word y) : 0 ≤ V a b c d * y ∧ V a b c d * y ≤ 115792089237316195423570985008687907853269984665640564039457584007913129639935 * y := by
  have := V_bd h
  exact ⟨Int.mul_nonneg this.1 hy.1, Int.mul_le_mul_of_nonneg_right (by omega) hy.1⟩
theorem multiplyAdd_fix {a0 a1 a2 a3 y m0 m1 m2 m3 : Int} (ha : W4 a0 a1 a2 a3) (hy : Word y) (hm : W4 m0 m1 m2 m3) :
    ∃ r0 r1 r2 r3 h, W4 r0 r1 r2 r3 ∧ Word h ∧ V r0 r1 r2 r3 + h * 115792089237316195423570985008687907853269984665640564039457584007913129639936 = V a0 a1 a2 a3 * y + V m0 m1 m2 m3 ∧
      Hid (∀ w, Calls Try.prog 55 #[nv a0 a1 a2 a3, .int .u64 y, nv m0 m1 m2 m3] w fun e w' => e = .returned (.tuple #[nv r0 r1 r2 r3, .int .u64 h]) ∧ Below w.heap.size w w') := by
  have b1 := V_mul_bd ha hy
  have b2 := V_bd hm
  obtain ⟨r0, r1, r2, r3, h, hw, hv, hc⟩ := fix5 (n := V a0 a1 a2 a3 * y + V m0 m1 m2 m3) (fun _ _ _ _ _ hr => ⟨hr.1, hr.2.2⟩) (fun w => multiplyAdd_any a0 a1 a2 a3 y m0 m1 m2 m3 ha hy hm w)
  have b3 := V_bd hw
  refine ⟨r0, r1, r2, r3, h, hw, ?_, hv, hc⟩
  obtain ⟨y0, y1⟩ := hy
  generalize V a0 a1 a2 a3 * y = t at *
  unfold Word; omega
theorem settle_fix {a b c d h : Int} (ha : W4 a b c d) (h0 : 0 ≤ h) (h1 : h ≤ 38) :
    ∃ r0 r1 r2 r3, W4 r0 r1 r2 r3 ∧ V r0 r1 r2 r3 = (V a b c d + h * 115792089237316195423570985008687907853269984665640564039457584007913129639936) % 57896044618658097711785492504343953926634992332820282019728792003956564819949 ∧
      Hid (∀ w, Calls Try.prog 39 #[nv a b c d, .int .u64 h] w fun e w' => e = .returned (nv r0 r1 r2 r3) ∧ Below w.heap.size w w') :=
  fix4 (by omega) (by omega) (fun _ _ _ _ hr => hr) (fun w => settle_any a b c d h ha h0 h1 w)

/-- The product, of words that the rows and the settling have told. -/
theorem product_fact {a0 a1 a2 a3 b0 b1 b2 b3 p0 p1 p2 p3 hp q0 q1 q2 q3 hq r0 r1 r2 r3 hr s0 s1 s2 s3 hs : Int}
    (P1 : V p0 p1 p2 p3 + hp * 115792089237316195423570985008687907853269984665640564039457584007913129639936 = V a0 a1 a2 a3 * b0 + V 0 0 0 0)
    (Q1 : V q0 q1 q2 q3 + hq * 115792089237316195423570985008687907853269984665640564039457584007913129639936 = V a0 a1 a2 a3 * b1 + V p1 p2 p3 hp)
    (R1 : V r0 r1 r2 r3 + hr * 115792089237316195423570985008687907853269984665640564039457584007913129639936 = V a0 a1 a2 a3 * b2 + V q1 q2 q3 hq)
    (S1 : V s0 s1 s2 s3 + hs * 115792089237316195423570985008687907853269984665640564039457584007913129639936 = V a0 a1 a2 a3 * b3 + V r1 r2 r3 hr) :
    V a0 a1 a2 a3 * V b0 b1 b2 b3 = V p0 q0 r0 s0 + V s1 s2 s3 hs * 115792089237316195423570985008687907853269984665640564039457584007913129639936 := by
  have e : V a0 a1 a2 a3 * V b0 b1 b2 b3 = V a0 a1 a2 a3 * b0 + V a0 a1 a2 a3 * b1 * 18446744073709551616 + V a0 a1 a2 a3 * b2 * 340282366920938463463374607431768211456 + V a0 a1 a2 a3 * b3 * 6277101735386680763835789423207666416102355444464034512896 := by
    conv => lhs; rhs; unfold V
    rw [Int.mul_add, Int.mul_add, Int.mul_add, Int.mul_assoc, Int.mul_assoc, Int.mul_assoc]
  rw [e]
  generalize V a0 a1 a2 a3 * b0 = x0 at *; generalize V a0 a1 a2 a3 * b1 = x1 at *; generalize V a0 a1 a2 a3 * b2 = x2 at *; generalize V a0 a1 a2 a3 * b3 = x3 at *
  unfold V at *; omega

theorem fold_fact {s1 s2 s3 hs p0 q0 r0 s0 f0 f1 f2 f3 hf : Int} (F0 : W4 f0 f1 f2 f3) (F1 : V f0 f1 f2 f3 + hf * 115792089237316195423570985008687907853269984665640564039457584007913129639936 = V s1 s2 s3 hs * 38 + V p0 q0 r0 s0)
    (h1 : W4 s1 s2 s3 hs) (h2 : W4 p0 q0 r0 s0) : hf ≤ 38 := by
  have a := V_bd F0; have b := V_bd h1; have c := V_bd h2
  omega
theorem left_fact {s1 s2 s3 hs p0 q0 r0 s0 f0 f1 f2 f3 hf m : Int} (F1 : V f0 f1 f2 f3 + hf * 115792089237316195423570985008687907853269984665640564039457584007913129639936 = V s1 s2 s3 hs * 38 + V p0 q0 r0 s0)
    (hm : m = V p0 q0 r0 s0 + V s1 s2 s3 hs * 115792089237316195423570985008687907853269984665640564039457584007913129639936) :
    (V f0 f1 f2 f3 + hf * 115792089237316195423570985008687907853269984665640564039457584007913129639936) % 57896044618658097711785492504343953926634992332820282019728792003956564819949 = m % 57896044618658097711785492504343953926634992332820282019728792003956564819949 := by
  rw [F1, hm]
  have e : V p0 q0 r0 s0 + V s1 s2 s3 hs * 115792089237316195423570985008687907853269984665640564039457584007913129639936 = (V s1 s2 s3 hs * 38 + V p0 q0 r0 s0) + 57896044618658097711785492504343953926634992332820282019728792003956564819949 * (2 * V s1 s2 s3 hs) := by omega
  rw [e, Int.add_mul_emod_self_left]
theorem w4_0 : W4 0 0 0 0 := ⟨word0, word0, word0, word0⟩
set_option maxHeartbeats 1000000 in
theorem product_any (a0 a1 a2 a3 b0 b1 b2 b3 : Int) (ha : W4 a0 a1 a2 a3) (hb : W4 b0 b1 b2 b3) (w : World) :
    Calls Try.prog 44 #[nv a0 a1 a2 a3, nv b0 b1 b2 b3] w (Ret4 (fun r0 r1 r2 r3 => W4 r0 r1 r2 r3 ∧ V r0 r1 r2 r3 = V a0 a1 a2 a3 * V b0 b1 b2 b3 % 57896044618658097711785492504343953926634992332820282019728792003956564819949) w) := by
  obtain ⟨hb0, hb1, hb2, hb3⟩ := hb
  obtain ⟨p0, p1, p2, p3, hp, P0, Ph, P1, PC⟩ := multiplyAdd_fix ha hb0 w4_0
  obtain ⟨q0, q1, q2, q3, hq, Q0, Qh, Q1, QC⟩ := multiplyAdd_fix ha hb1 ⟨P0.2.1, P0.2.2.1, P0.2.2.2, Ph⟩
  obtain ⟨r0, r1, r2, r3, hr, R0, Rh, R1, RC⟩ := multiplyAdd_fix ha hb2 ⟨Q0.2.1, Q0.2.2.1, Q0.2.2.2, Qh⟩
  obtain ⟨s0, s1, s2, s3, hs, S0, Sh, S1, SC⟩ := multiplyAdd_fix ha hb3 ⟨R0.2.1, R0.2.2.1, R0.2.2.2, Rh⟩
  have hfact := product_fact P1 Q1 R1 S1
  have Hfact := Lib.hid hfact
  clear hfact P1 Q1 R1 S1
  go_enter Try.func44, Try.ntmps44
  go_wp2_with (go_at_call 55; refine (PC.out _).mono ?_; rintro e w' ⟨rfl, hb⟩; obtain ⟨o1, n1, rfl⟩ := below_plus hb; clear hb)
  generalize hW : World.alloc (World.plus _ o1 n1) _ = W1
  refine wp_region_parts (fun w' => ∃ o d, w' = W1.plus o d) 8 2 (by kernel_rfl) (by kernel_rfl) (by intro c a d v w h; cases d <;> exact h) ⟨#[], _, rfl⟩ ?_
  subst hW
  simp only [List.take_succ_cons, List.take_zero, List.drop_succ_cons, List.drop_zero]
  iterate 5 (refine wpHold_step ⟨_, #[], 0, rfl⟩ (by rintro K _ ⟨o, d, rfl⟩ hK; go_simp; exact hK _ ⟨o, d, rfl⟩) ?_)
  refine wpHold_call (v := nv p1 p2 p3 hp) (by go_simp) (by rintro K _ ⟨o, d, rfl⟩ hK; go_simp; refine (upper_any p0 p1 p2 p3 hp _).mono ?_; rintro e w' ⟨rfl, hb⟩; obtain ⟨o', n', rfl⟩ := below_plus hb; exact ⟨_, rfl, hK _ ⟨_, _, World.plus_plus _ _ _ _ _⟩⟩) ?_
  refine wpHold_call (v := .tuple #[nv q0 q1 q2 q3, .int .u64 hq]) (by go_simp) (by rintro K _ ⟨o, d, rfl⟩ hK; go_simp; refine (QC.out _).mono ?_; rintro e w' ⟨rfl, hb⟩; obtain ⟨o', n', rfl⟩ := below_plus hb; exact ⟨_, rfl, hK _ ⟨_, _, World.plus_plus _ _ _ _ _⟩⟩) ?_
  refine wpHold_step ⟨_, #[], 0, rfl⟩ (by rintro K _ ⟨o, d, rfl⟩ hK; go_simp; exact hK _ ⟨o, d, rfl⟩) ?_
  refine wpHold_nil ?_
  rintro _ ⟨o2, n2, rfl⟩
  iterate 2 (refine wpFree_step (by intro K w' hK; go_simp; exact hK _) (by intro w' _; go_simp) ?_)
  refine wpFree_nil ?_
  go_wp2_with fail
  generalize hW : World.alloc (World.plus _ o1 n1) _ = W1
  refine wp_region_parts (fun w' => ∃ o d, w' = W1.plus o d) 8 2 (by kernel_rfl) (by kernel_rfl) (by intro c a d v w h; cases d <;> exact h) ⟨_, _, rfl⟩ ?_
  subst hW
  simp only [List.take_succ_cons, List.take_zero, List.drop_succ_cons, List.drop_zero]
  iterate 5 (refine wpHold_step ⟨_, #[], 0, rfl⟩ (by rintro K _ ⟨o, d, rfl⟩ hK; go_simp; exact hK _ ⟨o, d, rfl⟩) ?_)
  refine wpHold_call (v := nv q1 q2 q3 hq) (by go_simp) (by rintro K _ ⟨o, d, rfl⟩ hK; go_simp; refine (upper_any q0 q1 q2 q3 hq _).mono ?_; rintro e w' ⟨rfl, hb⟩; obtain ⟨o', n', rfl⟩ := below_plus hb; exact ⟨_, rfl, hK _ ⟨_, _, World.plus_plus _ _ _ _ _⟩⟩) ?_
  refine wpHold_call (v := .tuple #[nv r0 r1 r2 r3, .int .u64 hr]) (by go_simp) (by rintro K _ ⟨o, d, rfl⟩ hK; go_simp; refine (RC.out _).mono ?_; rintro e w' ⟨rfl, hb⟩; obtain ⟨o', n', rfl⟩ := below_plus hb; exact ⟨_, rfl, hK _ ⟨_, _, World.plus_plus _ _ _ _ _⟩⟩) ?_
  refine wpHold_step ⟨_, #[], 0, rfl⟩ (by rintro K _ ⟨o, d, rfl⟩ hK; go_simp; exact hK _ ⟨o, d, rfl⟩) ?_
  refine wpHold_nil ?_
  rintro _ ⟨o3, n3, rfl⟩
  iterate 2 (refine wpFree_step (by intro K w' hK; go_simp; exact hK _) (by intro w' _; go_simp) ?_)
  refine wpFree_nil ?_
  go_wp2_with fail
  generalize hW : World.alloc (World.plus _ o1 n1) _ = W1
  refine wp_region_parts (fun w' => ∃ o d, w' = W1.plus o d) 8 2 (by kernel_rfl) (by kernel_rfl) (by intro c a d v w h; cases d <;> exact h) ⟨_, _, rfl⟩ ?_
  subst hW
  simp only [List.take_succ_cons, List.take_zero, List.drop_succ_cons, List.drop_zero]
  iterate 5 (refine wpHold_step ⟨_, #[], 0, rfl⟩ (by rintro K _ ⟨o, d, rfl⟩ hK; go_simp; exact hK _ ⟨o, d, rfl⟩) ?_)
  refine wpHold_call (v := nv r1 r2 r3 hr) (by go_simp) (by rintro K _ ⟨o, d, rfl⟩ hK; go_simp; refine (upper_any r0 r1 r2 r3 hr _).mono ?_; rintro e w' ⟨rfl, hb⟩; obtain ⟨o', n', rfl⟩ := below_plus hb; exact ⟨_, rfl, hK _ ⟨_, _, World.plus_plus _ _ _ _ _⟩⟩) ?_
  refine wpHold_call (v := .tuple #[nv s0 s1 s2 s3, .int .u64 hs]) (by go_simp) (by rintro K _ ⟨o, d, rfl⟩ hK; go_simp; refine (SC.out _).mono ?_; rintro e w' ⟨rfl, hb⟩; obtain ⟨o', n', rfl⟩ := below_plus hb; exact ⟨_, rfl, hK _ ⟨_, _, World.plus_plus _ _ _ _ _⟩⟩) ?_
  refine wpHold_step ⟨_, #[], 0, rfl⟩ (by rintro K _ ⟨o, d, rfl⟩ hK; go_simp; exact hK _ ⟨o, d, rfl⟩) ?_
  refine wpHold_nil ?_
  rintro _ ⟨o4, n4, rfl⟩
  iterate 2 (refine wpFree_step (by intro K w' hK; go_simp; exact hK _) (by intro w' _; go_simp) ?_)
  refine wpFree_nil ?_
  go_wp2_with fail
  refine (upper_any s0 s1 s2 s3 hs _).mono ?_
  rintro e w' ⟨rfl, hb⟩
  obtain ⟨o5, n5, rfl⟩ := below_plus hb
  clear hb
  obtain ⟨f0, f1, f2, f3, hf, F0, Fh, F1, FC⟩ := multiplyAdd_fix (y := 38) ⟨S0.2.1, S0.2.2.1, S0.2.2.2, Sh⟩ ⟨by decide, by decide⟩ ⟨P0.1, Q0.1, R0.1, S0.1⟩
  have hf38 := fold_fact F0 F1 ⟨S0.2.1, S0.2.2.1, S0.2.2.2, Sh⟩ ⟨P0.1, Q0.1, R0.1, S0.1⟩
  obtain ⟨g0, g1, g2, g3, G0, G1, GC⟩ := settle_fix F0 Fh.1 hf38
  have HG := Lib.hid (G1.trans (left_fact F1 Hfact.out))
  clear F1 G1 Hfact P0 Q0 R0 S0 Ph Qh Rh Sh F0 Fh hf38 ha hb0 hb1 hb2 hb3 PC QC RC SC
  go_wp2_with fail
  refine (FC.out _).mono ?_
  rintro e w' ⟨rfl, hb⟩
  obtain ⟨o6, n6, rfl⟩ := below_plus hb
  clear hb
  go_wp2_with fail
  refine (GC.out _).mono ?_
  rintro e w' ⟨rfl, hb⟩
  obtain ⟨o7, n7, rfl⟩ := below_plus hb
  clear hb
  go_wp2_with fail
  refine bodyPost_ret (v := nv g0 g1 g2 g3) (by simp [results, Try.results44, go_sem]) rfl ⟨g0, g1, g2, g3, ⟨G0, HG.out⟩, rfl, ?_⟩
  repeat (first | apply below_more | apply below_alloc | exact Below.refl _ _)
end Go.Proofs.Ytpilonikhokjeaa
