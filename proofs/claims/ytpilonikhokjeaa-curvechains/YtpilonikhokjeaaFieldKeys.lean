/-
  Package field: keys as numbers, and numbers as keys.
-/
import Derived.Test.YtpilonikhokjeaaFieldBytes
import Derived.Test.YtpilonikhokjeaaWhole
import Derived.Laws.Rows
namespace Go.Proofs.Ytpilonikhokjeaa
open Go.RowKit Go.Shelf Go.Hold

/-- The i-th byte of a key's number. -/
def bt (n i : Nat) : Int := ((n / 256 ^ i % 256 : Nat) : Int)
/-- A key, as the cells of its number. -/
def keyA (n : Nat) : Array Value := #[.int .u8 (bt n 0), .int .u8 (bt n 1), .int .u8 (bt n 2), .int .u8 (bt n 3), .int .u8 (bt n 4), .int .u8 (bt n 5), .int .u8 (bt n 6), .int .u8 (bt n 7), .int .u8 (bt n 8), .int .u8 (bt n 9), .int .u8 (bt n 10), .int .u8 (bt n 11), .int .u8 (bt n 12), .int .u8 (bt n 13), .int .u8 (bt n 14), .int .u8 (bt n 15), .int .u8 (bt n 16), .int .u8 (bt n 17), .int .u8 (bt n 18), .int .u8 (bt n 19), .int .u8 (bt n 20), .int .u8 (bt n 21), .int .u8 (bt n 22), .int .u8 (bt n 23), .int .u8 (bt n 24), .int .u8 (bt n 25), .int .u8 (bt n 26), .int .u8 (bt n 27), .int .u8 (bt n 28), .int .u8 (bt n 29), .int .u8 (bt n 30), .int .u8 (bt n 31)]
/-- A key. -/
abbrev kv (n : Nat) : Value := .agg (keyA n)
@[go_sem] theorem keyA_size (n : Nat) : (keyA n).size = 32 := by simp [keyA]
@[go_sem] theorem keyA_one (n : Nat) : oneAll (keyA n) = true := by simp [oneAll, keyA, Value.oneCell']
@[go_sem ↓] theorem loadAt_key (v : Value) : Instr.loadAt 23 v = loadRow 23 v := rfl
@[go_sem] theorem run_loadKey (w : World) (n : Nat) (h1 : w.isRow n = true) (h2 : (w.rowOf n).size = 32) : (loadRow 23 (.pointer (some ⟨n, 0, none⟩))).run Try.prog w = .ok (.agg (w.rowOf n)) w := run_loadRow w Try.underlying23 rfl (by kernel_rfl) n h1 h2
theorem results_key {fn : Func} {p : Tmp} {m : Nat} (h : fn.results = #[.cell p 23]) (w : World) (tmps : Array Value) (n : Nat) (hp : tmps.getD p undef = .pointer (some ⟨n, 0, none⟩)) (h1 : w.isRow n = true) (h2 : w.rowOf n = keyA m) : (results fn tmps).run Try.prog w = .ok (kv m) w :=
  results_row w h Try.underlying23 rfl (by rw [keyA_size]; kernel_rfl) tmps n hp h1 h2
theorem keyA_get (n i : Nat) (h : i < 32) : (keyA n)[i]? = some (.int .u8 (bt n i)) := by
  have : i = 0 ∨ i = 1 ∨ i = 2 ∨ i = 3 ∨ i = 4 ∨ i = 5 ∨ i = 6 ∨ i = 7 ∨ i = 8 ∨ i = 9 ∨ i = 10 ∨ i = 11 ∨ i = 12 ∨ i = 13 ∨ i = 14 ∨ i = 15 ∨ i = 16 ∨ i = 17 ∨ i = 18 ∨ i = 19 ∨ i = 20 ∨ i = 21 ∨ i = 22 ∨ i = 23 ∨ i = 24 ∨ i = 25 ∨ i = 26 ∨ i = 27 ∨ i = 28 ∨ i = 29 ∨ i = 30 ∨ i = 31 := by omega
  rcases this with rfl | rfl | rfl | rfl | rfl | rfl | rfl | rfl | rfl | rfl | rfl | rfl | rfl | rfl | rfl | rfl | rfl | rfl | rfl | rfl | rfl | rfl | rfl | rfl | rfl | rfl | rfl | rfl | rfl | rfl | rfl | rfl <;> rfl
theorem bt_byte (n i : Nat) : Byte (bt n i) := by unfold Byte bt; omega

/-- The k-th word of a number. -/
def wd (n k : Nat) : Int := ((n / 18446744073709551616 ^ k % 18446744073709551616 : Nat) : Int)
theorem wd_V (n : Nat) (h : n < 115792089237316195423570985008687907853269984665640564039457584007913129639936) : IsN n (wd n 0) (wd n 1) (wd n 2) (wd n 3) := by
  unfold IsN W4 Word V wd
  simp only [Nat.reducePow]
  omega
theorem sum_bt0 (n : Nat) : bt n 0 + bt n 1 * 256 + bt n 2 * 65536 + bt n 3 * 16777216 + bt n 4 * 4294967296 + bt n 5 * 1099511627776 + bt n 6 * 281474976710656 + bt n 7 * 72057594037927936 = wd n 0 := by
  unfold bt wd
  simp only [Nat.reducePow]
  omega
theorem sum_bt1 (n : Nat) : bt n 8 + bt n 9 * 256 + bt n 10 * 65536 + bt n 11 * 16777216 + bt n 12 * 4294967296 + bt n 13 * 1099511627776 + bt n 14 * 281474976710656 + bt n 15 * 72057594037927936 = wd n 1 := by
  unfold bt wd
  simp only [Nat.reducePow]
  omega
theorem sum_bt2 (n : Nat) : bt n 16 + bt n 17 * 256 + bt n 18 * 65536 + bt n 19 * 16777216 + bt n 20 * 4294967296 + bt n 21 * 1099511627776 + bt n 22 * 281474976710656 + bt n 23 * 72057594037927936 = wd n 2 := by
  unfold bt wd
  simp only [Nat.reducePow]
  omega
theorem sum_bt3 (n : Nat) : bt n 24 + bt n 25 * 256 + bt n 26 * 65536 + bt n 27 * 16777216 + bt n 28 * 4294967296 + bt n 29 * 1099511627776 + bt n 30 * 281474976710656 + bt n 31 * 72057594037927936 = wd n 3 := by
  unfold bt wd
  simp only [Nat.reducePow]
  omega


theorem cell_key (w : World) (C : Array Value) (t : TypeId) (ob : Obj) (o : Array Obj) (d i : Nat) : (((w.alloc (.cells C t)).alloc ob).plus o d).cell? ⟨w.heap.size, i, none⟩ = C[i]? := by
  rw [World.cell?_plus _ _ _ _ _ (by simp; omega), World.cell?_alloc_past _ _ _ (by simp), World.cell?_alloc_at _ _ _ _ rfl]
set_option maxHeartbeats 1000000 in
set_option maxRecDepth 100000 in
theorem numberOf_N (n : Nat) (hn : n < 115792089237316195423570985008687907853269984665640564039457584007913129639936) :
    ∃ r0 r1 r2 r3, IsN (n % Fp.P) r0 r1 r2 r3 ∧ Hid (∀ w, Calls Try.prog 27 #[kv n] w fun e w' => e = .returned (nv r0 r1 r2 r3) ∧ Below w.heap.size w w') := by
  have hw := wd_V n hn
  obtain ⟨g0, g1, g2, g3, G0, G1, GC⟩ := settle_fix (h := 0) hw.1 (by decide) (by decide)
  refine ⟨g0, g1, g2, g3, red_isN ⟨G0, by rw [G1, hw.2, Int.zero_mul, Int.add_zero]⟩, fun w => ?_⟩
  clear G0 G1 hw hn
  have hcell : ∀ (d : Nat) (o : Array Obj) (i : Nat), i < 32 → (((w.alloc (.cells (keyA n) 23)).alloc (.cells #[.int .u64 0, .int .u64 0, .int .u64 0, .int .u64 0] 43)).plus o d).cell? ⟨w.heap.size, i, none⟩ = some (.int .u8 (bt n i)) :=
    fun d o i hi => by rw [cell_key, keyA_get n i hi]
  have Hcell := Lib.hid hcell
  clear hcell
  go_enter Try.func27, Try.ntmps27
  go_wp2_with fail
  generalize hW : World.alloc _ _ = W1
  refine wp_region_parts (fun w' => ∃ o d, w' = W1.plus o d) 10 0 (by kernel_rfl) (by kernel_rfl) (by intro c a d v w h; cases d <;> exact h) ⟨#[], _, rfl⟩ ?_
  subst hW
  simp only [List.take_succ_cons, List.take_zero, List.drop_succ_cons, List.drop_zero]
  refine wpHold_step ⟨_, #[], 0, rfl⟩ (by rintro K _ ⟨o, d, rfl⟩ hK; go_simp; exact hK _ ⟨o, d, rfl⟩) ?_
  refine wpHold_call (v := .int .u64 (wd n 0)) (by go_simp) (by
    rintro K _ ⟨o, d, rfl⟩ hK
    go_simp
    refine (load_any w.heap.size 0 _ (bt n 0) (bt n 1) (bt n 2) (bt n 3) (bt n 4) (bt n 5) (bt n 6) (bt n 7) (bt_byte n 0) (bt_byte n 1) (bt_byte n 2) (bt_byte n 3) (bt_byte n 4) (bt_byte n 5) (bt_byte n 6) (bt_byte n 7) _ (Hcell.out d o 0 (by decide)) (Hcell.out d o 1 (by decide)) (Hcell.out d o 2 (by decide)) (Hcell.out d o 3 (by decide)) (Hcell.out d o 4 (by decide)) (Hcell.out d o 5 (by decide)) (Hcell.out d o 6 (by decide)) (Hcell.out d o 7 (by decide))).mono ?_
    rintro e w' ⟨rfl, hb⟩
    rw [sum_bt0]
    obtain ⟨o', n', rfl⟩ := below_plus hb
    exact ⟨_, rfl, hK _ ⟨_, _, World.plus_plus _ _ _ _ _⟩⟩) ?_
  refine wpHold_step ⟨_, #[], 0, rfl⟩ (by rintro K _ ⟨o, d, rfl⟩ hK; go_simp; exact hK _ ⟨o, d, rfl⟩) ?_
  refine wpHold_call (v := .int .u64 (wd n 1)) (by go_simp) (by
    rintro K _ ⟨o, d, rfl⟩ hK
    go_simp
    refine (load_any w.heap.size 8 _ (bt n 8) (bt n 9) (bt n 10) (bt n 11) (bt n 12) (bt n 13) (bt n 14) (bt n 15) (bt_byte n 8) (bt_byte n 9) (bt_byte n 10) (bt_byte n 11) (bt_byte n 12) (bt_byte n 13) (bt_byte n 14) (bt_byte n 15) _ (Hcell.out d o 8 (by decide)) (Hcell.out d o 9 (by decide)) (Hcell.out d o 10 (by decide)) (Hcell.out d o 11 (by decide)) (Hcell.out d o 12 (by decide)) (Hcell.out d o 13 (by decide)) (Hcell.out d o 14 (by decide)) (Hcell.out d o 15 (by decide))).mono ?_
    rintro e w' ⟨rfl, hb⟩
    rw [sum_bt1]
    obtain ⟨o', n', rfl⟩ := below_plus hb
    exact ⟨_, rfl, hK _ ⟨_, _, World.plus_plus _ _ _ _ _⟩⟩) ?_
  refine wpHold_step ⟨_, #[], 0, rfl⟩ (by rintro K _ ⟨o, d, rfl⟩ hK; go_simp; exact hK _ ⟨o, d, rfl⟩) ?_
  refine wpHold_call (v := .int .u64 (wd n 2)) (by go_simp) (by
    rintro K _ ⟨o, d, rfl⟩ hK
    go_simp
    refine (load_any w.heap.size 16 _ (bt n 16) (bt n 17) (bt n 18) (bt n 19) (bt n 20) (bt n 21) (bt n 22) (bt n 23) (bt_byte n 16) (bt_byte n 17) (bt_byte n 18) (bt_byte n 19) (bt_byte n 20) (bt_byte n 21) (bt_byte n 22) (bt_byte n 23) _ (Hcell.out d o 16 (by decide)) (Hcell.out d o 17 (by decide)) (Hcell.out d o 18 (by decide)) (Hcell.out d o 19 (by decide)) (Hcell.out d o 20 (by decide)) (Hcell.out d o 21 (by decide)) (Hcell.out d o 22 (by decide)) (Hcell.out d o 23 (by decide))).mono ?_
    rintro e w' ⟨rfl, hb⟩
    rw [sum_bt2]
    obtain ⟨o', n', rfl⟩ := below_plus hb
    exact ⟨_, rfl, hK _ ⟨_, _, World.plus_plus _ _ _ _ _⟩⟩) ?_
  refine wpHold_step ⟨_, #[], 0, rfl⟩ (by rintro K _ ⟨o, d, rfl⟩ hK; go_simp; exact hK _ ⟨o, d, rfl⟩) ?_
  refine wpHold_call (v := .int .u64 (wd n 3)) (by go_simp) (by
    rintro K _ ⟨o, d, rfl⟩ hK
    go_simp
    refine (load_any w.heap.size 24 _ (bt n 24) (bt n 25) (bt n 26) (bt n 27) (bt n 28) (bt n 29) (bt n 30) (bt n 31) (bt_byte n 24) (bt_byte n 25) (bt_byte n 26) (bt_byte n 27) (bt_byte n 28) (bt_byte n 29) (bt_byte n 30) (bt_byte n 31) _ (Hcell.out d o 24 (by decide)) (Hcell.out d o 25 (by decide)) (Hcell.out d o 26 (by decide)) (Hcell.out d o 27 (by decide)) (Hcell.out d o 28 (by decide)) (Hcell.out d o 29 (by decide)) (Hcell.out d o 30 (by decide)) (Hcell.out d o 31 (by decide))).mono ?_
    rintro e w' ⟨rfl, hb⟩
    rw [sum_bt3]
    obtain ⟨o', n', rfl⟩ := below_plus hb
    exact ⟨_, rfl, hK _ ⟨_, _, World.plus_plus _ _ _ _ _⟩⟩) ?_
  refine wpHold_step ⟨_, #[], 0, rfl⟩ (by rintro K _ ⟨o, d, rfl⟩ hK; go_simp; exact hK _ ⟨o, d, rfl⟩) ?_
  refine wpHold_call (v := nv g0 g1 g2 g3) (by go_simp) (by rintro K _ ⟨o, d, rfl⟩ hK; go_simp; refine (GC.out _).mono ?_; rintro e w' ⟨rfl, hb⟩; obtain ⟨o', n', rfl⟩ := below_plus hb; exact ⟨_, rfl, hK _ ⟨_, _, World.plus_plus _ _ _ _ _⟩⟩) ?_
  refine wpHold_nil ?_
  rintro _ ⟨o2, n2, rfl⟩
  refine wpFree_nil ?_
  go_wp2_with fail
  refine bodyPost_ret (v := nv g0 g1 g2 g3) (by simp [results, Try.results27, go_sem]) rfl ⟨rfl, ?_⟩
  repeat (first | apply below_more | apply below_alloc | exact Below.refl _ _)

theorem keyA_of {n : Nat} {a b c d : Int} (h : IsN n a b c d) : #[.int .u8 (by8 a 0), .int .u8 (by8 a 1), .int .u8 (by8 a 2), .int .u8 (by8 a 3), .int .u8 (by8 a 4), .int .u8 (by8 a 5), .int .u8 (by8 a 6), .int .u8 (by8 a 7), .int .u8 (by8 b 0), .int .u8 (by8 b 1), .int .u8 (by8 b 2), .int .u8 (by8 b 3), .int .u8 (by8 b 4), .int .u8 (by8 b 5), .int .u8 (by8 b 6), .int .u8 (by8 b 7), .int .u8 (by8 c 0), .int .u8 (by8 c 1), .int .u8 (by8 c 2), .int .u8 (by8 c 3), .int .u8 (by8 c 4), .int .u8 (by8 c 5), .int .u8 (by8 c 6), .int .u8 (by8 c 7), .int .u8 (by8 d 0), .int .u8 (by8 d 1), .int .u8 (by8 d 2), .int .u8 (by8 d 3), .int .u8 (by8 d 4), .int .u8 (by8 d 5), .int .u8 (by8 d 6), .int .u8 (by8 d 7)] = keyA n := by
  have hlt := V_bd h.1
  rw [h.2] at hlt
  obtain ⟨hw0, hw1, hw2, hw3⟩ := V_inj h.1 (wd_V n (by omega)).1 (h.2.trans (wd_V n (by omega)).2.symm)
  have e0 : by8 a 0 = bt n 0 := by rw [hw0]; unfold by8 bt wd; simp only [Int.reducePow, Nat.reducePow]; omega
  have e1 : by8 a 1 = bt n 1 := by rw [hw0]; unfold by8 bt wd; simp only [Int.reducePow, Nat.reducePow]; omega
  have e2 : by8 a 2 = bt n 2 := by rw [hw0]; unfold by8 bt wd; simp only [Int.reducePow, Nat.reducePow]; omega
  have e3 : by8 a 3 = bt n 3 := by rw [hw0]; unfold by8 bt wd; simp only [Int.reducePow, Nat.reducePow]; omega
  have e4 : by8 a 4 = bt n 4 := by rw [hw0]; unfold by8 bt wd; simp only [Int.reducePow, Nat.reducePow]; omega
  have e5 : by8 a 5 = bt n 5 := by rw [hw0]; unfold by8 bt wd; simp only [Int.reducePow, Nat.reducePow]; omega
  have e6 : by8 a 6 = bt n 6 := by rw [hw0]; unfold by8 bt wd; simp only [Int.reducePow, Nat.reducePow]; omega
  have e7 : by8 a 7 = bt n 7 := by rw [hw0]; unfold by8 bt wd; simp only [Int.reducePow, Nat.reducePow]; omega
  have e8 : by8 b 0 = bt n 8 := by rw [hw1]; unfold by8 bt wd; simp only [Int.reducePow, Nat.reducePow]; omega
  have e9 : by8 b 1 = bt n 9 := by rw [hw1]; unfold by8 bt wd; simp only [Int.reducePow, Nat.reducePow]; omega
  have e10 : by8 b 2 = bt n 10 := by rw [hw1]; unfold by8 bt wd; simp only [Int.reducePow, Nat.reducePow]; omega
  have e11 : by8 b 3 = bt n 11 := by rw [hw1]; unfold by8 bt wd; simp only [Int.reducePow, Nat.reducePow]; omega
  have e12 : by8 b 4 = bt n 12 := by rw [hw1]; unfold by8 bt wd; simp only [Int.reducePow, Nat.reducePow]; omega
  have e13 : by8 b 5 = bt n 13 := by rw [hw1]; unfold by8 bt wd; simp only [Int.reducePow, Nat.reducePow]; omega
  have e14 : by8 b 6 = bt n 14 := by rw [hw1]; unfold by8 bt wd; simp only [Int.reducePow, Nat.reducePow]; omega
  have e15 : by8 b 7 = bt n 15 := by rw [hw1]; unfold by8 bt wd; simp only [Int.reducePow, Nat.reducePow]; omega
  have e16 : by8 c 0 = bt n 16 := by rw [hw2]; unfold by8 bt wd; simp only [Int.reducePow, Nat.reducePow]; omega
  have e17 : by8 c 1 = bt n 17 := by rw [hw2]; unfold by8 bt wd; simp only [Int.reducePow, Nat.reducePow]; omega
  have e18 : by8 c 2 = bt n 18 := by rw [hw2]; unfold by8 bt wd; simp only [Int.reducePow, Nat.reducePow]; omega
  have e19 : by8 c 3 = bt n 19 := by rw [hw2]; unfold by8 bt wd; simp only [Int.reducePow, Nat.reducePow]; omega
  have e20 : by8 c 4 = bt n 20 := by rw [hw2]; unfold by8 bt wd; simp only [Int.reducePow, Nat.reducePow]; omega
  have e21 : by8 c 5 = bt n 21 := by rw [hw2]; unfold by8 bt wd; simp only [Int.reducePow, Nat.reducePow]; omega
  have e22 : by8 c 6 = bt n 22 := by rw [hw2]; unfold by8 bt wd; simp only [Int.reducePow, Nat.reducePow]; omega
  have e23 : by8 c 7 = bt n 23 := by rw [hw2]; unfold by8 bt wd; simp only [Int.reducePow, Nat.reducePow]; omega
  have e24 : by8 d 0 = bt n 24 := by rw [hw3]; unfold by8 bt wd; simp only [Int.reducePow, Nat.reducePow]; omega
  have e25 : by8 d 1 = bt n 25 := by rw [hw3]; unfold by8 bt wd; simp only [Int.reducePow, Nat.reducePow]; omega
  have e26 : by8 d 2 = bt n 26 := by rw [hw3]; unfold by8 bt wd; simp only [Int.reducePow, Nat.reducePow]; omega
  have e27 : by8 d 3 = bt n 27 := by rw [hw3]; unfold by8 bt wd; simp only [Int.reducePow, Nat.reducePow]; omega
  have e28 : by8 d 4 = bt n 28 := by rw [hw3]; unfold by8 bt wd; simp only [Int.reducePow, Nat.reducePow]; omega
  have e29 : by8 d 5 = bt n 29 := by rw [hw3]; unfold by8 bt wd; simp only [Int.reducePow, Nat.reducePow]; omega
  have e30 : by8 d 6 = bt n 30 := by rw [hw3]; unfold by8 bt wd; simp only [Int.reducePow, Nat.reducePow]; omega
  have e31 : by8 d 7 = bt n 31 := by rw [hw3]; unfold by8 bt wd; simp only [Int.reducePow, Nat.reducePow]; omega
  unfold keyA
  rw [e0, e1, e2, e3, e4, e5, e6, e7, e8, e9, e10, e11, e12, e13, e14, e15, e16, e17, e18, e19, e20, e21, e22, e23, e24, e25, e26, e27, e28, e29, e30, e31]
set_option maxHeartbeats 1000000 in
set_option maxRecDepth 100000 in
theorem keyOf_N (n : Nat) (a b c d : Int) (h : IsN n a b c d) (w : World) :
    Calls Try.prog 26 #[nv a b c d] w fun e w' => e = .returned (kv n) ∧ Below w.heap.size w w' := by
  have hk := Lib.hid (keyA_of h)
  clear h
  go_enter Try.func26, Try.ntmps26
  go_wp2_with fail
  generalize hW : World.alloc _ _ = W1
  refine wp_region_hold (fun w' => ∃ o d, w' = W1.plus o d) 3 (by kernel_rfl) (by kernel_rfl) ⟨#[], _, rfl⟩ ?_
  subst hW
  simp only [List.take_succ_cons, List.take_zero, List.drop_succ_cons, List.drop_zero]
  iterate 3 (refine wpHold_step ⟨_, #[], 0, rfl⟩ (by rintro K _ ⟨o, d, rfl⟩ hK; go_simp; exact hK _ ⟨o, d, rfl⟩) ?_)
  refine wpHold_nil ?_
  rintro _ ⟨o2, n2, rfl⟩
  go_wp2_with fail
  refine (store_any _ 0 _ a _ _ _ _ _ _ _ _ _ (by go_simp; rfl) (by go_simp) (by go_simp; rfl) (by go_simp) (by go_simp; rfl) (by go_simp) (by go_simp; rfl) (by go_simp) (by go_simp; rfl) (by go_simp) (by go_simp; rfl) (by go_simp) (by go_simp; rfl) (by go_simp) (by go_simp; rfl) (by go_simp)).mono ?_
  rintro e w' ⟨rfl, rfl⟩
  go_wp2_with fail
  generalize hW : World.alloc (World.alloc _ _) _ = W1
  refine wp_region_hold (fun w' => ∃ o d, w' = W1.plus o d) 3 (by kernel_rfl) (by kernel_rfl) ⟨_, _, rfl⟩ ?_
  subst hW
  simp only [List.take_succ_cons, List.take_zero, List.drop_succ_cons, List.drop_zero]
  iterate 3 (refine wpHold_step ⟨_, #[], 0, rfl⟩ (by rintro K _ ⟨o, d, rfl⟩ hK; go_simp; exact hK _ ⟨o, d, rfl⟩) ?_)
  refine wpHold_nil ?_
  rintro _ ⟨o3, n3, rfl⟩
  go_wp2_with fail
  refine (store_any _ 8 _ b _ _ _ _ _ _ _ _ _ (by go_simp; rfl) (by go_simp) (by go_simp; rfl) (by go_simp) (by go_simp; rfl) (by go_simp) (by go_simp; rfl) (by go_simp) (by go_simp; rfl) (by go_simp) (by go_simp; rfl) (by go_simp) (by go_simp; rfl) (by go_simp) (by go_simp; rfl) (by go_simp)).mono ?_
  rintro e w' ⟨rfl, rfl⟩
  go_wp2_with fail
  generalize hW : World.alloc (World.alloc _ _) _ = W1
  refine wp_region_hold (fun w' => ∃ o d, w' = W1.plus o d) 3 (by kernel_rfl) (by kernel_rfl) ⟨_, _, rfl⟩ ?_
  subst hW
  simp only [List.take_succ_cons, List.take_zero, List.drop_succ_cons, List.drop_zero]
  iterate 3 (refine wpHold_step ⟨_, #[], 0, rfl⟩ (by rintro K _ ⟨o, d, rfl⟩ hK; go_simp; exact hK _ ⟨o, d, rfl⟩) ?_)
  refine wpHold_nil ?_
  rintro _ ⟨o4, n4, rfl⟩
  go_wp2_with fail
  refine (store_any _ 16 _ c _ _ _ _ _ _ _ _ _ (by go_simp; rfl) (by go_simp) (by go_simp; rfl) (by go_simp) (by go_simp; rfl) (by go_simp) (by go_simp; rfl) (by go_simp) (by go_simp; rfl) (by go_simp) (by go_simp; rfl) (by go_simp) (by go_simp; rfl) (by go_simp) (by go_simp; rfl) (by go_simp)).mono ?_
  rintro e w' ⟨rfl, rfl⟩
  go_wp2_with fail
  generalize hW : World.alloc (World.alloc _ _) _ = W1
  refine wp_region_hold (fun w' => ∃ o d, w' = W1.plus o d) 3 (by kernel_rfl) (by kernel_rfl) ⟨_, _, rfl⟩ ?_
  subst hW
  simp only [List.take_succ_cons, List.take_zero, List.drop_succ_cons, List.drop_zero]
  iterate 3 (refine wpHold_step ⟨_, #[], 0, rfl⟩ (by rintro K _ ⟨o, d, rfl⟩ hK; go_simp; exact hK _ ⟨o, d, rfl⟩) ?_)
  refine wpHold_nil ?_
  rintro _ ⟨o5, n5, rfl⟩
  go_wp2_with fail
  refine (store_any _ 24 _ d _ _ _ _ _ _ _ _ _ (by go_simp; rfl) (by go_simp) (by go_simp; rfl) (by go_simp) (by go_simp; rfl) (by go_simp) (by go_simp; rfl) (by go_simp) (by go_simp; rfl) (by go_simp) (by go_simp; rfl) (by go_simp) (by go_simp; rfl) (by go_simp) (by go_simp; rfl) (by go_simp)).mono ?_
  rintro e w' ⟨rfl, rfl⟩
  have hk' := hk.out
  go_wp2_with fail

  refine bodyPost_ret (v := kv n) (results_key Try.results26 _ _ _ rfl (by go_simp) (by go_simp)) rfl ⟨rfl, ?_⟩
  repeat (first | apply below_more | apply below_alloc | exact Below.refl _ _)
end Go.Proofs.Ytpilonikhokjeaa
