/-
  Package curve: the scalar of a secret, the point of a key, what is nought; Shared and Public.
-/
import Derived.Test.YtpilonikhokjeaaCurveTimes
import Derived.Test.YtpilonikhokjeaaRefInv
namespace Go.Proofs.Ytpilonikhokjeaa
open Go.RowKit Go.Shelf Go.Hold

/-! ### Bytes of a scalar, and of a point -/
theorem clamp_bt0 (k : Nat) : bt (Cv.clampN k) 0 = bt k 0 / 8 * 8 := by
  unfold bt Cv.clampN
  simp only [Nat.reducePow]
  omega
theorem clamp_bt31 (k : Nat) : bt (Cv.clampN k) 31 = bt k 31 % 64 + 64 := by
  unfold bt Cv.clampN
  simp only [Nat.reducePow]
  omega
theorem clamp_bt (k i : Nat) (h0 : i ≠ 0) (h1 : i < 31) : bt (Cv.clampN k) i = bt k i := by
  have h : i = 1 ∨ i = 2 ∨ i = 3 ∨ i = 4 ∨ i = 5 ∨ i = 6 ∨ i = 7 ∨ i = 8 ∨ i = 9 ∨ i = 10 ∨ i = 11 ∨ i = 12 ∨ i = 13 ∨ i = 14 ∨ i = 15 ∨ i = 16 ∨ i = 17 ∨ i = 18 ∨ i = 19 ∨ i = 20 ∨ i = 21 ∨ i = 22 ∨ i = 23 ∨ i = 24 ∨ i = 25 ∨ i = 26 ∨ i = 27 ∨ i = 28 ∨ i = 29 ∨ i = 30 := by omega
  unfold bt Cv.clampN
  rcases h with rfl | rfl | rfl | rfl | rfl | rfl | rfl | rfl | rfl | rfl | rfl | rfl | rfl | rfl | rfl | rfl | rfl | rfl | rfl | rfl | rfl | rfl | rfl | rfl | rfl | rfl | rfl | rfl | rfl | rfl <;> simp only [Nat.reducePow] <;> omega
/-- The point of a key: its number, but for the highest bit. -/
def ptN (u : Nat) : Nat := u % 2 ^ 255
theorem ptN_lt (u : Nat) : ptN u < 115792089237316195423570985008687907853269984665640564039457584007913129639936 := by unfold ptN; simp only [Nat.reducePow]; omega
theorem pt_bt31 (u : Nat) : bt (ptN u) 31 = bt u 31 % 128 := by
  unfold bt ptN
  simp only [Nat.reducePow]
  omega
theorem pt_bt (u i : Nat) (h1 : i < 31) : bt (ptN u) i = bt u i := by
  by_cases h0 : i = 0
  · subst h0; unfold bt ptN; simp only [Nat.reducePow]; omega
  · have h : i = 1 ∨ i = 2 ∨ i = 3 ∨ i = 4 ∨ i = 5 ∨ i = 6 ∨ i = 7 ∨ i = 8 ∨ i = 9 ∨ i = 10 ∨ i = 11 ∨ i = 12 ∨ i = 13 ∨ i = 14 ∨ i = 15 ∨ i = 16 ∨ i = 17 ∨ i = 18 ∨ i = 19 ∨ i = 20 ∨ i = 21 ∨ i = 22 ∨ i = 23 ∨ i = 24 ∨ i = 25 ∨ i = 26 ∨ i = 27 ∨ i = 28 ∨ i = 29 ∨ i = 30 := by omega
    unfold bt ptN
    rcases h with rfl | rfl | rfl | rfl | rfl | rfl | rfl | rfl | rfl | rfl | rfl | rfl | rfl | rfl | rfl | rfl | rfl | rfl | rfl | rfl | rfl | rfl | rfl | rfl | rfl | rfl | rfl | rfl | rfl | rfl <;> simp only [Nat.reducePow] <;> omega
/-- Cells that are those of n but at places 0 and 31. -/
theorem clamp_cells (k : Nat) : ((keyA k).setIfInBounds 0 (.int .u8 (bt (Cv.clampN k) 0))).setIfInBounds 31 (.int .u8 (bt (Cv.clampN k) 31)) = keyA (Cv.clampN k) := by
  refine keyA_of_ints (by simp [keyA_size]) fun i hi => ?_
  rw [Array.getElem?_setIfInBounds, Array.getElem?_setIfInBounds]
  by_cases e1 : 31 = i
  · subst e1; simp [keyA_size]
  · rw [if_neg e1]
    by_cases e0 : 0 = i
    · subst e0; simp [keyA_size]
    · rw [if_neg e0, keyA_get k i hi, clamp_bt k i (by omega) (by omega)]
theorem pt_cells (u : Nat) : (keyA u).setIfInBounds 31 (.int .u8 (bt (ptN u) 31)) = keyA (ptN u) := by
  refine keyA_of_ints (by simp [keyA_size]) fun i hi => ?_
  rw [Array.getElem?_setIfInBounds]
  by_cases e1 : 31 = i
  · subst e1; simp [keyA_size]
  · rw [if_neg e1, keyA_get u i hi, pt_bt u i (by omega)]
theorem bytes7 : ∀ b : Nat, b < 256 → bits .andNot .u8 (b : Int) 7 = ((b / 8 * 8 : Nat) : Int) := by decide +kernel
theorem bytes128 : ∀ b : Nat, b < 256 → bits .andNot .u8 (b : Int) 128 = ((b % 128 : Nat) : Int) := by decide +kernel
theorem bytes64 : ∀ b : Nat, b < 128 → bits .or .u8 (b : Int) 64 = ((b % 64 + 64 : Nat) : Int) := by decide +kernel

theorem times_V (x1 m r : Nat) (hx1 : x1 < 115792089237316195423570985008687907853269984665640564039457584007913129639936) (h : Cv.nT m x1 = r) (w : World) : Calls Try.prog 21 #[kv x1, kv m] w fun e w' => e = .returned (kv r) ∧ Below w.heap.size w w' := by
  subst h; exact times_K x1 m hx1 w
theorem clamp_b0 (k : Nat) : bits .andNot .u8 (bt k 0) 7 = bt (Cv.clampN k) 0 := by
  rw [clamp_bt0]; unfold bt
  rw [bytes7 _ (Nat.mod_lt _ (by decide)), Int.natCast_mul, Int.natCast_ediv]; rfl
theorem clamp_b31 (k : Nat) : bits .or .u8 (bits .andNot .u8 (bt k 31) 128) 64 = bt (Cv.clampN k) 31 := by
  rw [clamp_bt31]; unfold bt
  rw [bytes128 _ (Nat.mod_lt _ (by decide)), bytes64 _ (Nat.mod_lt _ (by decide))]; omega
theorem pt_b31 (k : Nat) : bits .andNot .u8 (bt k 31) 128 = bt (ptN k) 31 := by
  rw [pt_bt31]; unfold bt
  rw [bytes128 _ (Nat.mod_lt _ (by decide))]; omega
theorem set0_at31 (k : Nat) (v : Value) : ((keyA k).setIfInBounds 0 v)[31]? = some (.int .u8 (bt k 31)) := by
  rw [Array.getElem?_setIfInBounds, if_neg (by decide), keyA_get k 31 (by decide)]

set_option maxHeartbeats 2000000 in
set_option maxRecDepth 100000 in
theorem clamp_K (k c : Nat) (hc : Cv.clampN k = c) (w : World) : Calls Try.prog 12 #[kv k] w fun e w' => e = .returned (kv c) ∧ Below w.heap.size w w' := by
  have h0 := clamp_b0 k
  have h31 := clamp_b31 k
  have hs := clamp_cells k
  rw [hc] at h0 h31 hs
  have ha := set0_at31 k (.int .u8 (bt c 0))
  clear hc
  generalize hy : bits .andNot .u8 (bt k 31) 128 = y at h31
  go_enter Try.func12, Try.ntmps12
  go_wp2_with fail
  refine bodyPost_ret (v := kv c) (results_key Try.results12 _ _ _ rfl (by go_simp) (by go_simp)) rfl ⟨rfl, ?_⟩
  repeat (first | apply below_more | apply below_alloc | exact Below.refl _ _)
set_option maxHeartbeats 2000000 in
set_option maxRecDepth 100000 in
theorem pointOf_K (u p : Nat) (hp : ptN u % Fp.P = p) (w : World) : Calls Try.prog 22 #[kv u] w fun e w' => e = .returned (kv p) ∧ Below w.heap.size w w' := by
  have h31 := pt_b31 u
  have hs := pt_cells u
  have hl := ptN_lt u
  generalize ptN u = v at *
  have Hp := Lib.hid hp
  clear hp
  go_enter Try.func22, Try.ntmps22
  go_wp2_with fail
  refine (canon_K v p hl Hp.out _).mono ?_
  rintro e w' ⟨rfl, hbw⟩
  obtain ⟨o1, n1, rfl⟩ := below_plus hbw
  clear hbw
  go_wp2_with fail
  refine bodyPost_ret (v := kv p) (results_key Try.results22 _ _ _ rfl (by go_simp) (by go_simp)) rfl ⟨rfl, ?_⟩
  repeat (first | apply below_more | apply below_alloc | exact Below.refl _ _)
/-- What is told of a point: ErrZero (7), if it is nought. -/
def errOf (p : Nat) : Int := if p = 0 then 7 else 0
set_option maxHeartbeats 2000000 in
set_option maxRecDepth 100000 in
theorem unlessNought_K (p : Nat) (e : Int) (hp : p < 115792089237316195423570985008687907853269984665640564039457584007913129639936) (he : errOf p = e) (w : World) : Calls Try.prog 20 #[kv p] w fun x w' => x = .returned (.tuple #[kv p, .int .i64 e]) ∧ Below w.heap.size w w' := by
  unfold errOf at he
  by_cases h : p = 0
  · subst h
    rw [if_pos rfl] at he
    subst he
    go_enter Try.func20, Try.ntmps20
    go_wp2_with fail
    refine bodyPost_ret (v := .tuple #[kv 0, .int .i64 7]) (results_key_slot Try.results20 _ _ _ rfl (by go_simp) (by go_simp) rfl) rfl ⟨rfl, ?_⟩
    repeat (first | apply below_more | apply below_alloc | exact Below.refl _ _)
  · rw [if_neg h] at he
    subst he
    have hq := keq_false hp (show 0 < 115792089237316195423570985008687907853269984665640564039457584007913129639936 by decide) h
    clear h
    go_enter Try.func20, Try.ntmps20
    go_wp2_with fail
    refine bodyPost_ret (v := .tuple #[kv p, .int .i64 0]) (results_key_slot Try.results20 _ _ _ rfl (by go_simp) (by go_simp) rfl) rfl ⟨rfl, ?_⟩
    repeat (first | apply below_more | apply below_alloc | exact Below.refl _ _)
set_option maxHeartbeats 2000000 in
set_option maxRecDepth 100000 in
theorem public_K (k p : Nat) (hp : Cv.nT (Cv.clampN k) 9 = p) (w : World) : Calls Try.prog 14 #[kv k] w fun e w' => e = .returned (kv p) ∧ Below w.heap.size w w' := by
  obtain ⟨c, ec⟩ : ∃ y, y = Cv.clampN k := ⟨_, rfl⟩
  have Hc := Lib.hid ec.symm
  have Hp := Lib.hid (show Cv.nT c 9 = p by rw [ec]; exact hp)
  clear ec hp
  go_enter Try.func14, Try.ntmps14
  go_wp2_with fail
  refine (clamp_K k c Hc.out _).mono ?_
  rintro e w' ⟨rfl, hbw⟩
  obtain ⟨o1, n1, rfl⟩ := below_plus hbw
  clear hbw
  go_wp2_with fail
  refine (times_V 9 c p (by decide) Hp.out _).mono ?_
  rintro e w' ⟨rfl, hbw⟩
  obtain ⟨o2, n2, rfl⟩ := below_plus hbw
  clear hbw
  go_wp2_with fail
  refine bodyPost_ret (v := kv p) (results_key Try.results14 _ _ _ rfl (by go_simp) (by go_simp)) rfl ⟨rfl, ?_⟩
  repeat (first | apply below_more | apply below_alloc | exact Below.refl _ _)
end Go.Proofs.Ytpilonikhokjeaa
