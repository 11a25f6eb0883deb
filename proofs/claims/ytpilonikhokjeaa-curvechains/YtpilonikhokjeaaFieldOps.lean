/-
  Package field: its six calls, over keys.
-/
import Derived.Test.YtpilonikhokjeaaFieldKeys
import Derived.ChangeKeysEq
namespace Go.Proofs.Ytpilonikhokjeaa
open Go.RowKit Go.Shelf Go.Hold

/-! ### Keys that are compared -/
/-- Two keys, byte by byte. -/
def keq (m n : Nat) : Bool := (List.range 32).all fun i => bt m i == bt n i
@[go_sem] theorem keq_self (n : Nat) : keq n n = true := by simp [keq]
theorem bt_inj {m n : Nat} (hm : m < 115792089237316195423570985008687907853269984665640564039457584007913129639936) (hn : n < 115792089237316195423570985008687907853269984665640564039457584007913129639936) (h : ∀ i, i < 32 → bt m i = bt n i) : m = n := by
  have e0 := sum_bt0 m; have e1 := sum_bt1 m; have e2 := sum_bt2 m; have e3 := sum_bt3 m
  rw [h 0 (by decide), h 1 (by decide), h 2 (by decide), h 3 (by decide), h 4 (by decide), h 5 (by decide), h 6 (by decide), h 7 (by decide), sum_bt0] at e0
  rw [h 8 (by decide), h 9 (by decide), h 10 (by decide), h 11 (by decide), h 12 (by decide), h 13 (by decide), h 14 (by decide), h 15 (by decide), sum_bt1] at e1
  rw [h 16 (by decide), h 17 (by decide), h 18 (by decide), h 19 (by decide), h 20 (by decide), h 21 (by decide), h 22 (by decide), h 23 (by decide), sum_bt2] at e2
  rw [h 24 (by decide), h 25 (by decide), h 26 (by decide), h 27 (by decide), h 28 (by decide), h 29 (by decide), h 30 (by decide), h 31 (by decide), sum_bt3] at e3
  have a := (wd_V m hm).2
  have b := (wd_V n hn).2
  rw [← e0, ← e1, ← e2, ← e3] at a
  omega
theorem keq_iff {m n : Nat} (hm : m < 115792089237316195423570985008687907853269984665640564039457584007913129639936) (hn : n < 115792089237316195423570985008687907853269984665640564039457584007913129639936) : keq m n = true ↔ m = n := by
  constructor
  · intro h
    refine bt_inj hm hn fun i hi => ?_
    have := List.all_eq_true.1 h i (List.mem_range.2 hi)
    simpa using this
  · rintro rfl; exact keq_self m
theorem keq_false {m n : Nat} (hm : m < 115792089237316195423570985008687907853269984665640564039457584007913129639936) (hn : n < 115792089237316195423570985008687907853269984665640564039457584007913129639936) (h : m ≠ n) : keq m n = false := by
  rw [← Bool.not_eq_true]; exact fun e => h ((keq_iff hm hn).1 e)

theorem run_eqItems_int {P : Program} {e : TypeId} {k k' : IntKind} (d : Nat) (he : P.underlying e = some (.int k')) (xs ys : Array Value) (f g : Nat → Int) (w : World) : ∀ is : List Nat,
    (∀ i ∈ is, xs[i]? = some (.int k (f i)) ∧ ys[i]? = some (.int k (g i))) → (Op.eqItems (d + 1) e 1 xs ys is).run P w = .ok (is.all fun i => f i == g i) w
  | [], _ => by simp [Op.eqItems]
  | i :: is, h => by
    obtain ⟨h1, h2⟩ := h i (by simp)
    have hag : (isAgg e).run P w = .ok false w := by unfold isAgg; rw [Sem.run_bind, run_underlying he w]; simp
    have hp : ∀ (cs : Array Value) (v : Value), cs[i]? = some v → (part e cs (i * 1)).run P w = .ok v w := fun cs v hv => by
      unfold part; rw [Sem.run_bind, hag]; simp [hv]
    have ih := run_eqItems_int d he xs ys f g w is fun j hj => h j (by simp [hj])
    simp only [Op.eqItems, Sem.run_bind, hp xs _ h1, hp ys _ h2, Result.andThen_ok, run_equalIn_int w d e k k' (f i) (g i) he]
    cases hfg : (f i == g i)
    · simp [hfg]
    · simp [hfg, ih]
@[go_sem] theorem run_equalIn_key (m n : Nat) (w : World) : (Op.equalIn 10000 23 (.agg (keyA m)) (.agg (keyA n))).run Try.prog w = .ok (keq m n) w := by
  obtain ⟨i, hi⟩ : ∃ i, Try.prog.info? 5 = some i := Option.isSome_iff_exists.1 (by kernel_rfl)
  rw [run_equalIn_array w 9999 (keyA m) (keyA n) Try.underlying23 hi, show Try.prog.cellsOf 5 = 1 from by kernel_rfl]
  exact run_eqItems_int 9998 Try.underlying5 _ _ (bt m) (bt n) w _ fun j hj => ⟨keyA_get m j (List.mem_range.1 hj), keyA_get n j (List.mem_range.1 hj)⟩
@[go_sem] theorem eqGuard_key (op : BinOp) (x y : Operand) (xs ys : Array Value) (w : World) : (eqGuard op 23 x y (.agg xs) (.agg ys)).run Try.prog w = .ok () w := run_eqGuard_agg w op 23 x y xs ys (by kernel_rfl)

theorem P_lt : Fp.P < 115792089237316195423570985008687907853269984665640564039457584007913129639936 := by decide +kernel
theorem mod_lt (n : Nat) : n % Fp.P < 115792089237316195423570985008687907853269984665640564039457584007913129639936 := Nat.lt_trans (Nat.mod_lt _ Fp.P_pos) P_lt
theorem isN_inj {n : Nat} {a b c d a' b' c' d' : Int} (h : IsN n a b c d) (h' : IsN n a' b' c' d') : a = a' ∧ b = b' ∧ c = c' ∧ d = d' := V_inj h.1 h'.1 (h.2.trans h'.2.symm)
theorem isN_fix {n : Nat} {f : FuncId} {args : Array Value} (hn : n < 115792089237316195423570985008687907853269984665640564039457584007913129639936) (h : ∀ w, Calls Try.prog f args w (Ret4 (IsN n) w)) :
    ∃ r0 r1 r2 r3, IsN n r0 r1 r2 r3 ∧ Hid (∀ w, Calls Try.prog f args w fun e w' => e = .returned (nv r0 r1 r2 r3) ∧ Below w.heap.size w w') := by
  obtain ⟨a, b, c, d, h0, h1, hC⟩ := fix4 (n := n) (by omega) (by omega) (fun _ _ _ _ hr => hr) h
  exact ⟨a, b, c, d, ⟨h0, h1⟩, hC⟩
theorem sum_N {m n : Nat} {a0 a1 a2 a3 b0 b1 b2 b3 : Int} (ha : IsN m a0 a1 a2 a3) (hb : IsN n b0 b1 b2 b3) :
    ∃ r0 r1 r2 r3, IsN ((m + n) % Fp.P) r0 r1 r2 r3 ∧ Hid (∀ w, Calls Try.prog 53 #[nv a0 a1 a2 a3, nv b0 b1 b2 b3] w fun e w' => e = .returned (nv r0 r1 r2 r3) ∧ Below w.heap.size w w') := by
  obtain ⟨r0, r1, r2, r3, h0, h1, hC⟩ := red_fix (n := V a0 a1 a2 a3 + V b0 b1 b2 b3) (fun w => sum_any a0 a1 a2 a3 b0 b1 b2 b3 ha.1 hb.1 w)
  refine ⟨r0, r1, r2, r3, red_isN ⟨h0, ?_⟩, hC⟩
  rw [h1, ha.2, hb.2, Int.natCast_add]
theorem difference_N {m n : Nat} {a0 a1 a2 a3 b0 b1 b2 b3 : Int} (ha : IsN m a0 a1 a2 a3) (hb : IsN n b0 b1 b2 b3) (hn : n ≤ Fp.P) :
    ∃ r0 r1 r2 r3, IsN ((m + (Fp.P - n)) % Fp.P) r0 r1 r2 r3 ∧ Hid (∀ w, Calls Try.prog 54 #[nv a0 a1 a2 a3, nv b0 b1 b2 b3] w fun e w' => e = .returned (nv r0 r1 r2 r3) ∧ Below w.heap.size w w') := by
  obtain ⟨r0, r1, r2, r3, h0, h1, hC⟩ := red_fix (n := V a0 a1 a2 a3 - V b0 b1 b2 b3) (fun w => difference_any a0 a1 a2 a3 b0 b1 b2 b3 ha.1 hb.1 (by rw [hb.2, pint]; omega) w)
  refine ⟨r0, r1, r2, r3, red_isN ⟨h0, ?_⟩, hC⟩
  rw [h1, ha.2, hb.2, pint, show ((m + (Fp.P - n) : Nat) : Int) = ((m : Int) - n) + (Fp.P : Nat) by omega, Int.add_emod_right]

set_option maxHeartbeats 1000000 in
set_option maxRecDepth 100000 in
theorem canon_N (n : Nat) (hn : n < 115792089237316195423570985008687907853269984665640564039457584007913129639936) (w : World) :
    Calls Try.prog 18 #[kv n] w fun e w' => e = .returned (kv (n % Fp.P)) ∧ Below w.heap.size w w' := by
  obtain ⟨r0, r1, r2, r3, R, RC⟩ := numberOf_N n hn
  clear hn
  go_enter Try.func18, Try.ntmps18
  go_wp2_with fail
  refine (RC.out _).mono ?_
  rintro e w' ⟨rfl, hb⟩
  obtain ⟨o1, n1, rfl⟩ := below_plus hb
  clear hb
  go_wp2_with fail
  refine (keyOf_N _ r0 r1 r2 r3 R _).mono ?_
  rintro e w' ⟨rfl, hb⟩
  obtain ⟨o2, n2, rfl⟩ := below_plus hb
  clear hb
  go_wp2_with fail
  refine bodyPost_ret (v := kv (n % Fp.P)) (results_key Try.results18 _ _ _ rfl (by go_simp) (by go_simp)) rfl ⟨rfl, ?_⟩
  repeat (first | apply below_more | apply below_alloc | exact Below.refl _ _)

set_option maxHeartbeats 1000000 in
set_option maxRecDepth 100000 in
theorem inv_N (n : Nat) (hn : n < 115792089237316195423570985008687907853269984665640564039457584007913129639936) (w : World) :
    Calls Try.prog 32 #[kv n] w fun e w' => e = .returned (kv ((n % Fp.P) ^ Fp.E % Fp.P)) ∧ Below w.heap.size w w' := by
  obtain ⟨r0, r1, r2, r3, R, RC⟩ := numberOf_N n hn
  obtain ⟨s0, s1, s2, s3, S, SC⟩ := isN_fix (mod_lt _) (fun w => inverse_any (n % Fp.P) r0 r1 r2 r3 R w)
  clear hn
  generalize hm : (n % Fp.P) ^ Fp.E % Fp.P = m at *
  clear hm
  go_enter Try.func32, Try.ntmps32
  go_wp2_with fail
  refine (RC.out _).mono ?_
  rintro e w' ⟨rfl, hb⟩
  obtain ⟨o1, n1, rfl⟩ := below_plus hb
  clear hb
  go_wp2_with fail
  refine (SC.out _).mono ?_
  rintro e w' ⟨rfl, hb⟩
  obtain ⟨o2, n2, rfl⟩ := below_plus hb
  clear hb
  go_wp2_with fail
  refine (keyOf_N _ s0 s1 s2 s3 S _).mono ?_
  rintro e w' ⟨rfl, hb⟩
  obtain ⟨o3, n3, rfl⟩ := below_plus hb
  clear hb
  go_wp2_with fail
  refine bodyPost_ret (v := kv (m)) (results_key Try.results32 _ _ _ rfl (by go_simp) (by go_simp)) rfl ⟨rfl, ?_⟩
  repeat (first | apply below_more | apply below_alloc | exact Below.refl _ _)

set_option maxHeartbeats 1000000 in
set_option maxRecDepth 100000 in
theorem add_N (m n : Nat) (hm : m < 115792089237316195423570985008687907853269984665640564039457584007913129639936) (hn : n < 115792089237316195423570985008687907853269984665640564039457584007913129639936) (w : World) :
    Calls Try.prog 42 #[kv m, kv n] w fun e w' => e = .returned (kv ((m % Fp.P + n % Fp.P) % Fp.P)) ∧ Below w.heap.size w w' := by
  obtain ⟨r0, r1, r2, r3, R, RC⟩ := numberOf_N m hm
  obtain ⟨s0, s1, s2, s3, S, SC⟩ := numberOf_N n hn
  obtain ⟨t0, t1, t2, t3, T, TC⟩ := sum_N R S
  clear hm hn
  generalize hk : (m % Fp.P + n % Fp.P) % Fp.P = k at *
  clear hk
  go_enter Try.func42, Try.ntmps42
  go_wp2_with fail
  generalize hW : World.alloc _ _ = W1
  refine wp_region_parts (fun w' => ∃ o d, w' = W1.plus o d) 6 0 (by kernel_rfl) (by kernel_rfl) (by intro c a d v w h; cases d <;> exact h) ⟨#[], _, rfl⟩ ?_
  subst hW
  simp only [List.take_succ_cons, List.take_zero, List.drop_succ_cons, List.drop_zero]
  refine wpHold_step ⟨_, #[], 0, rfl⟩ (by rintro K _ ⟨o, d, rfl⟩ hK; go_simp; exact hK _ ⟨o, d, rfl⟩) ?_
  refine wpHold_call (v := nv r0 r1 r2 r3) (by go_simp) (by rintro K _ ⟨o, d, rfl⟩ hK; go_simp; refine (RC.out _).mono ?_; rintro e w' ⟨rfl, hb⟩; obtain ⟨o', n', rfl⟩ := below_plus hb; exact ⟨_, rfl, hK _ ⟨_, _, World.plus_plus _ _ _ _ _⟩⟩) ?_
  refine wpHold_step ⟨_, #[], 0, rfl⟩ (by rintro K _ ⟨o, d, rfl⟩ hK; go_simp; exact hK _ ⟨o, d, rfl⟩) ?_
  refine wpHold_call (v := nv s0 s1 s2 s3) (by go_simp) (by rintro K _ ⟨o, d, rfl⟩ hK; go_simp; refine (SC.out _).mono ?_; rintro e w' ⟨rfl, hb⟩; obtain ⟨o', n', rfl⟩ := below_plus hb; exact ⟨_, rfl, hK _ ⟨_, _, World.plus_plus _ _ _ _ _⟩⟩) ?_
  refine wpHold_call (v := nv t0 t1 t2 t3) (by go_simp) (by rintro K _ ⟨o, d, rfl⟩ hK; go_simp; refine (TC.out _).mono ?_; rintro e w' ⟨rfl, hb⟩; obtain ⟨o', n', rfl⟩ := below_plus hb; exact ⟨_, rfl, hK _ ⟨_, _, World.plus_plus _ _ _ _ _⟩⟩) ?_
  refine wpHold_call (v := kv k) (by go_simp) (by rintro K _ ⟨o, d, rfl⟩ hK; go_simp; refine (keyOf_N _ t0 t1 t2 t3 T _).mono ?_; rintro e w' ⟨rfl, hb⟩; obtain ⟨o', n', rfl⟩ := below_plus hb; exact ⟨_, rfl, hK _ ⟨_, _, World.plus_plus _ _ _ _ _⟩⟩) ?_
  refine wpHold_nil ?_
  rintro _ ⟨o2, n2, rfl⟩
  refine wpFree_nil ?_
  go_wp2_with fail
  refine bodyPost_ret (v := kv (k)) (results_key Try.results42 _ _ _ rfl (by go_simp) (by go_simp)) rfl ⟨rfl, ?_⟩
  repeat (first | apply below_more | apply below_alloc | exact Below.refl _ _)

set_option maxHeartbeats 1000000 in
set_option maxRecDepth 100000 in
theorem sub_N (m n : Nat) (hm : m < 115792089237316195423570985008687907853269984665640564039457584007913129639936) (hn : n < 115792089237316195423570985008687907853269984665640564039457584007913129639936) (w : World) :
    Calls Try.prog 43 #[kv m, kv n] w fun e w' => e = .returned (kv ((m % Fp.P + (Fp.P - n % Fp.P)) % Fp.P)) ∧ Below w.heap.size w w' := by
  obtain ⟨r0, r1, r2, r3, R, RC⟩ := numberOf_N m hm
  obtain ⟨s0, s1, s2, s3, S, SC⟩ := numberOf_N n hn
  obtain ⟨t0, t1, t2, t3, T, TC⟩ := difference_N R S (Nat.le_of_lt (Nat.mod_lt _ Fp.P_pos))
  clear hm hn
  generalize hk : (m % Fp.P + (Fp.P - n % Fp.P)) % Fp.P = k at *
  clear hk
  go_enter Try.func43, Try.ntmps43
  go_wp2_with fail
  generalize hW : World.alloc _ _ = W1
  refine wp_region_parts (fun w' => ∃ o d, w' = W1.plus o d) 6 0 (by kernel_rfl) (by kernel_rfl) (by intro c a d v w h; cases d <;> exact h) ⟨#[], _, rfl⟩ ?_
  subst hW
  simp only [List.take_succ_cons, List.take_zero, List.drop_succ_cons, List.drop_zero]
  refine wpHold_step ⟨_, #[], 0, rfl⟩ (by rintro K _ ⟨o, d, rfl⟩ hK; go_simp; exact hK _ ⟨o, d, rfl⟩) ?_
  refine wpHold_call (v := nv r0 r1 r2 r3) (by go_simp) (by rintro K _ ⟨o, d, rfl⟩ hK; go_simp; refine (RC.out _).mono ?_; rintro e w' ⟨rfl, hb⟩; obtain ⟨o', n', rfl⟩ := below_plus hb; exact ⟨_, rfl, hK _ ⟨_, _, World.plus_plus _ _ _ _ _⟩⟩) ?_
  refine wpHold_step ⟨_, #[], 0, rfl⟩ (by rintro K _ ⟨o, d, rfl⟩ hK; go_simp; exact hK _ ⟨o, d, rfl⟩) ?_
  refine wpHold_call (v := nv s0 s1 s2 s3) (by go_simp) (by rintro K _ ⟨o, d, rfl⟩ hK; go_simp; refine (SC.out _).mono ?_; rintro e w' ⟨rfl, hb⟩; obtain ⟨o', n', rfl⟩ := below_plus hb; exact ⟨_, rfl, hK _ ⟨_, _, World.plus_plus _ _ _ _ _⟩⟩) ?_
  refine wpHold_call (v := nv t0 t1 t2 t3) (by go_simp) (by rintro K _ ⟨o, d, rfl⟩ hK; go_simp; refine (TC.out _).mono ?_; rintro e w' ⟨rfl, hb⟩; obtain ⟨o', n', rfl⟩ := below_plus hb; exact ⟨_, rfl, hK _ ⟨_, _, World.plus_plus _ _ _ _ _⟩⟩) ?_
  refine wpHold_call (v := kv k) (by go_simp) (by rintro K _ ⟨o, d, rfl⟩ hK; go_simp; refine (keyOf_N _ t0 t1 t2 t3 T _).mono ?_; rintro e w' ⟨rfl, hb⟩; obtain ⟨o', n', rfl⟩ := below_plus hb; exact ⟨_, rfl, hK _ ⟨_, _, World.plus_plus _ _ _ _ _⟩⟩) ?_
  refine wpHold_nil ?_
  rintro _ ⟨o2, n2, rfl⟩
  refine wpFree_nil ?_
  go_wp2_with fail
  refine bodyPost_ret (v := kv (k)) (results_key Try.results43 _ _ _ rfl (by go_simp) (by go_simp)) rfl ⟨rfl, ?_⟩
  repeat (first | apply below_more | apply below_alloc | exact Below.refl _ _)

set_option maxHeartbeats 1000000 in
set_option maxRecDepth 100000 in
theorem mul_N (m n : Nat) (hm : m < 115792089237316195423570985008687907853269984665640564039457584007913129639936) (hn : n < 115792089237316195423570985008687907853269984665640564039457584007913129639936) (w : World) :
    Calls Try.prog 31 #[kv m, kv n] w fun e w' => e = .returned (kv ((m % Fp.P) * (n % Fp.P) % Fp.P)) ∧ Below w.heap.size w w' := by
  obtain ⟨r0, r1, r2, r3, R, RC⟩ := numberOf_N m hm
  obtain ⟨s0, s1, s2, s3, S, SC⟩ := numberOf_N n hn
  obtain ⟨t0, t1, t2, t3, T, TC⟩ := product_N R S
  clear hm hn
  generalize hk : (m % Fp.P) * (n % Fp.P) % Fp.P = k at *
  clear hk
  go_enter Try.func31, Try.ntmps31
  go_wp2_with fail
  generalize hW : World.alloc _ _ = W1
  refine wp_region_parts (fun w' => ∃ o d, w' = W1.plus o d) 6 0 (by kernel_rfl) (by kernel_rfl) (by intro c a d v w h; cases d <;> exact h) ⟨#[], _, rfl⟩ ?_
  subst hW
  simp only [List.take_succ_cons, List.take_zero, List.drop_succ_cons, List.drop_zero]
  refine wpHold_step ⟨_, #[], 0, rfl⟩ (by rintro K _ ⟨o, d, rfl⟩ hK; go_simp; exact hK _ ⟨o, d, rfl⟩) ?_
  refine wpHold_call (v := nv r0 r1 r2 r3) (by go_simp) (by rintro K _ ⟨o, d, rfl⟩ hK; go_simp; refine (RC.out _).mono ?_; rintro e w' ⟨rfl, hb⟩; obtain ⟨o', n', rfl⟩ := below_plus hb; exact ⟨_, rfl, hK _ ⟨_, _, World.plus_plus _ _ _ _ _⟩⟩) ?_
  refine wpHold_step ⟨_, #[], 0, rfl⟩ (by rintro K _ ⟨o, d, rfl⟩ hK; go_simp; exact hK _ ⟨o, d, rfl⟩) ?_
  refine wpHold_call (v := nv s0 s1 s2 s3) (by go_simp) (by rintro K _ ⟨o, d, rfl⟩ hK; go_simp; refine (SC.out _).mono ?_; rintro e w' ⟨rfl, hb⟩; obtain ⟨o', n', rfl⟩ := below_plus hb; exact ⟨_, rfl, hK _ ⟨_, _, World.plus_plus _ _ _ _ _⟩⟩) ?_
  refine wpHold_call (v := nv t0 t1 t2 t3) (by go_simp) (by rintro K _ ⟨o, d, rfl⟩ hK; go_simp; refine (TC.out _).mono ?_; rintro e w' ⟨rfl, hb⟩; obtain ⟨o', n', rfl⟩ := below_plus hb; exact ⟨_, rfl, hK _ ⟨_, _, World.plus_plus _ _ _ _ _⟩⟩) ?_
  refine wpHold_call (v := kv k) (by go_simp) (by rintro K _ ⟨o, d, rfl⟩ hK; go_simp; refine (keyOf_N _ t0 t1 t2 t3 T _).mono ?_; rintro e w' ⟨rfl, hb⟩; obtain ⟨o', n', rfl⟩ := below_plus hb; exact ⟨_, rfl, hK _ ⟨_, _, World.plus_plus _ _ _ _ _⟩⟩) ?_
  refine wpHold_nil ?_
  rintro _ ⟨o2, n2, rfl⟩
  refine wpFree_nil ?_
  go_wp2_with fail
  refine bodyPost_ret (v := kv (k)) (results_key Try.results31 _ _ _ rfl (by go_simp) (by go_simp)) rfl ⟨rfl, ?_⟩
  repeat (first | apply below_more | apply below_alloc | exact Below.refl _ _)


/-! ### Nought, and small numbers -/
set_option maxHeartbeats 1000000 in
set_option maxRecDepth 100000 in
theorem zero_N (n : Nat) (hn : n < 115792089237316195423570985008687907853269984665640564039457584007913129639936) (w : World) :
    Calls Try.prog 19 #[kv n] w fun e w' => e = .returned (.bool (decide (n % Fp.P = 0))) ∧ Below w.heap.size w w' := by
  obtain ⟨r0, r1, r2, r3, R, RC⟩ := numberOf_N n hn
  clear hn
  by_cases h : n % Fp.P = 0
  · rw [h] at R
    obtain ⟨rfl, rfl, rfl, rfl⟩ := isN_inj R ⟨w4_0, by rfl⟩
    have Hd := Lib.hid (decide_eq_true h)
    clear R h
    go_enter Try.func19, Try.ntmps19
    go_wp2_with fail
    refine (RC.out _).mono ?_
    rintro e w' ⟨rfl, hb⟩
    obtain ⟨o1, n1, rfl⟩ := below_plus hb
    clear hb
    go_wp2_with fail
    go_ret
    refine ⟨by rw [Hd.out]; rfl, ?_⟩
    repeat (first | apply below_more | apply below_alloc | exact Below.refl _ _)
  · have Hd := Lib.hid (decide_eq_false h)
    have hne : ¬ (r0 = 0 ∧ r1 = 0 ∧ r2 = 0 ∧ r3 = 0) := by
      rintro ⟨rfl, rfl, rfl, rfl⟩
      have := R.2
      unfold V at this
      omega
    have hcase : r0 ≠ 0 ∨ (r0 = 0 ∧ r1 ≠ 0) ∨ (r0 = 0 ∧ r1 = 0 ∧ r2 ≠ 0) ∨ (r0 = 0 ∧ r1 = 0 ∧ r2 = 0 ∧ r3 ≠ 0) := by omega
    clear R h hne
    rcases hcase with h | ⟨rfl, h⟩ | ⟨rfl, rfl, h⟩ | ⟨rfl, rfl, rfl, h⟩
    all_goals
      have hb := beq_eq_false_iff_ne.2 h
      clear h
      go_enter Try.func19, Try.ntmps19
      go_wp2_with fail
      refine (RC.out _).mono ?_
      rintro e w' ⟨rfl, hb1⟩
      obtain ⟨o1, n1, rfl⟩ := below_plus hb1
      clear hb1
      go_wp2_with fail
      go_ret
      refine ⟨by rw [Hd.out]; rfl, ?_⟩
      repeat (first | apply below_more | apply below_alloc | exact Below.refl _ _)

theorem keyA_small (x : Nat) (h : x < 256) : #[.int .u8 (x : Int), .int .u8 0, .int .u8 0, .int .u8 0, .int .u8 0, .int .u8 0, .int .u8 0, .int .u8 0, .int .u8 0, .int .u8 0, .int .u8 0, .int .u8 0, .int .u8 0, .int .u8 0, .int .u8 0, .int .u8 0, .int .u8 0, .int .u8 0, .int .u8 0, .int .u8 0, .int .u8 0, .int .u8 0, .int .u8 0, .int .u8 0, .int .u8 0, .int .u8 0, .int .u8 0, .int .u8 0, .int .u8 0, .int .u8 0, .int .u8 0, .int .u8 0] = keyA x := by
  have e0 : bt x 0 = x := by unfold bt; omega
  have e1 : bt x 1 = 0 := by unfold bt; simp only [Nat.reducePow]; omega
  have e2 : bt x 2 = 0 := by unfold bt; simp only [Nat.reducePow]; omega
  have e3 : bt x 3 = 0 := by unfold bt; simp only [Nat.reducePow]; omega
  have e4 : bt x 4 = 0 := by unfold bt; simp only [Nat.reducePow]; omega
  have e5 : bt x 5 = 0 := by unfold bt; simp only [Nat.reducePow]; omega
  have e6 : bt x 6 = 0 := by unfold bt; simp only [Nat.reducePow]; omega
  have e7 : bt x 7 = 0 := by unfold bt; simp only [Nat.reducePow]; omega
  have e8 : bt x 8 = 0 := by unfold bt; simp only [Nat.reducePow]; omega
  have e9 : bt x 9 = 0 := by unfold bt; simp only [Nat.reducePow]; omega
  have e10 : bt x 10 = 0 := by unfold bt; simp only [Nat.reducePow]; omega
  have e11 : bt x 11 = 0 := by unfold bt; simp only [Nat.reducePow]; omega
  have e12 : bt x 12 = 0 := by unfold bt; simp only [Nat.reducePow]; omega
  have e13 : bt x 13 = 0 := by unfold bt; simp only [Nat.reducePow]; omega
  have e14 : bt x 14 = 0 := by unfold bt; simp only [Nat.reducePow]; omega
  have e15 : bt x 15 = 0 := by unfold bt; simp only [Nat.reducePow]; omega
  have e16 : bt x 16 = 0 := by unfold bt; simp only [Nat.reducePow]; omega
  have e17 : bt x 17 = 0 := by unfold bt; simp only [Nat.reducePow]; omega
  have e18 : bt x 18 = 0 := by unfold bt; simp only [Nat.reducePow]; omega
  have e19 : bt x 19 = 0 := by unfold bt; simp only [Nat.reducePow]; omega
  have e20 : bt x 20 = 0 := by unfold bt; simp only [Nat.reducePow]; omega
  have e21 : bt x 21 = 0 := by unfold bt; simp only [Nat.reducePow]; omega
  have e22 : bt x 22 = 0 := by unfold bt; simp only [Nat.reducePow]; omega
  have e23 : bt x 23 = 0 := by unfold bt; simp only [Nat.reducePow]; omega
  have e24 : bt x 24 = 0 := by unfold bt; simp only [Nat.reducePow]; omega
  have e25 : bt x 25 = 0 := by unfold bt; simp only [Nat.reducePow]; omega
  have e26 : bt x 26 = 0 := by unfold bt; simp only [Nat.reducePow]; omega
  have e27 : bt x 27 = 0 := by unfold bt; simp only [Nat.reducePow]; omega
  have e28 : bt x 28 = 0 := by unfold bt; simp only [Nat.reducePow]; omega
  have e29 : bt x 29 = 0 := by unfold bt; simp only [Nat.reducePow]; omega
  have e30 : bt x 30 = 0 := by unfold bt; simp only [Nat.reducePow]; omega
  have e31 : bt x 31 = 0 := by unfold bt; simp only [Nat.reducePow]; omega
  unfold keyA
  rw [e0, e1, e2, e3, e4, e5, e6, e7, e8, e9, e10, e11, e12, e13, e14, e15, e16, e17, e18, e19, e20, e21, e22, e23, e24, e25, e26, e27, e28, e29, e30, e31]
end Go.Proofs.Ytpilonikhokjeaa
