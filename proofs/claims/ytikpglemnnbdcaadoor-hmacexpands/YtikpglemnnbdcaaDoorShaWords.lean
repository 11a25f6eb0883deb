/-
  Package sha, and the reference: words, turned and mixed.
-/
import Derived.Test.YtikpglemnnbdcaaDoorRows
import Derived.Test.YtikpglemnnbdcaaDoorShaNum
import Derived.Test.YtikpglemnnbdcaaDoorPick
import Derived.Test.YtikpglemnnbdcaaDoorFast
import Derived.WalkSpells
import Derived.WalkLawsBesides
import Derived.Laws.Bits64b
import Derived.Lib.Hide
namespace Go.Proofs.YtikpglemnnbdcaaDoor
open Go.RowKit Go.Hold Go.Sh

@[go_sem ↓] theorem fold_add (a b : Int) : IntKind.u32.wrap (a + b) = add32 a b := by unfold add32; rfl
@[go_sem ↓] theorem fold_xor (a b : Int) : bits .xor .u32 a b = x32 a b := by unfold x32; rfl
@[go_sem ↓ high] theorem fold_not (a : Int) : bits .xor .u32 (if IntKind.u32.signed = true then -1 else IntKind.u32.max) a = n32 a := by unfold n32; rfl
@[go_sem ↓] theorem fold_and (a b : Int) : bits .and .u32 a b = a32 a b := by unfold a32; rfl
@[go_sem ↓] theorem fold_or (a b : Int) : bits .or .u32 a b = o32 a b := by unfold o32; rfl

set_option maxHeartbeats 400000 in
theorem rotL (x : Int) (n k : Nat) (hk : n + k = 32) (hn : 0 < n) (hk' : 0 < k) (hb : bits .and .u64 (IntKind.u64.wrap (-(n : Int))) 31 = (k : Int)) (w : World) : Calls Tryd.prog 47 #[.int .u32 x, .int .i64 (-(n : Int))] w fun e w' => e = .returned (.int .u32 (rotr x n)) ∧ w' = w := by
  have hs : IntKind.u64.wrap (32 - (k : Int)) = (n : Int) := by rw [IntWalk.u64_in _ (by omega)]; omega
  have h1 : (0 : Int) ≤ (k : Int) := by omega
  have h2 : (k : Int) ≤ 32 := by omega
  have h3 : (0 : Int) ≤ (n : Int) := by omega
  have h4 : (n : Int) ≤ 32 := by omega
  have hr : o32 (x * 2 ^ k % 4294967296) (x / 2 ^ n) = rotr x n := by
    unfold o32 rotr
    rw [or_comm32, show 32 - n = k by omega]
  go_enter Tryd.func47, Tryd.ntmps47
  go_wp2_with fail
  go_ret
  exact ⟨rfl, rfl⟩
set_option maxHeartbeats 400000 in
theorem turn_c (x : Int) (n : Nat) (hk : n < 32) (w : World) : Calls Tryd.prog 40 #[.int .u32 x, .int .i64 (n : Int)] w fun e w' => e = .returned (.int .u32 (rotr x n)) ∧ w' = w := by
  have h1 : (0 : Int) ≤ (n : Int) := by omega
  have h2 : (n : Int) ≤ 32 := by omega
  have hr : o32 (x / 2 ^ n) (x * 2 ^ (32 - n) % 4294967296) = rotr x n := by unfold o32 rotr; rfl
  go_enter Tryd.func40, Tryd.ntmps40
  go_wp2_with fail
  go_ret
  exact ⟨rfl, rfl⟩
set_option maxHeartbeats 400000 in
theorem right_c (x : Int) (n k : Nat) (hk : n + k = 32) (hn : 0 < n) (hk' : 0 < k) (hb : bits .and .u64 (IntKind.u64.wrap (-(n : Int))) 31 = (k : Int)) (w : World) : Calls Tryd.prog 46 #[.int .u32 x, .int .i64 (n : Int)] w fun e w' => e = .returned (.int .u32 (rotr x n)) ∧ w' = w := by
  have R := Lib.hid (rotL x n k hk hn hk' hb)
  have hs : IntKind.i64.wrap (-(n : Int)) = -(n : Int) := by rw [IntWalk.i64_in _ (by omega)]
  go_enter Tryd.func46, Tryd.ntmps46
  go_wp2_with (go_at_call 47; refine (R.out _).mono ?_; rintro e w' ⟨rfl, rfl⟩)
  go_ret
  exact ⟨rfl, rfl⟩
theorem right_2 (x : Int) (w : World) : Calls Tryd.prog 46 #[.int .u32 x, .int .i64 2] w fun e w' => e = .returned (.int .u32 (rotr x 2)) ∧ w' = w := right_c x 2 30 rfl (by decide) (by decide) (by decide +kernel) w
theorem turn_2 (x : Int) (w : World) : Calls Tryd.prog 40 #[.int .u32 x, .int .i64 2] w fun e w' => e = .returned (.int .u32 (rotr x 2)) ∧ w' = w := turn_c x 2 (by decide) w
theorem right_6 (x : Int) (w : World) : Calls Tryd.prog 46 #[.int .u32 x, .int .i64 6] w fun e w' => e = .returned (.int .u32 (rotr x 6)) ∧ w' = w := right_c x 6 26 rfl (by decide) (by decide) (by decide +kernel) w
theorem turn_6 (x : Int) (w : World) : Calls Tryd.prog 40 #[.int .u32 x, .int .i64 6] w fun e w' => e = .returned (.int .u32 (rotr x 6)) ∧ w' = w := turn_c x 6 (by decide) w
theorem right_7 (x : Int) (w : World) : Calls Tryd.prog 46 #[.int .u32 x, .int .i64 7] w fun e w' => e = .returned (.int .u32 (rotr x 7)) ∧ w' = w := right_c x 7 25 rfl (by decide) (by decide) (by decide +kernel) w
theorem turn_7 (x : Int) (w : World) : Calls Tryd.prog 40 #[.int .u32 x, .int .i64 7] w fun e w' => e = .returned (.int .u32 (rotr x 7)) ∧ w' = w := turn_c x 7 (by decide) w
theorem right_11 (x : Int) (w : World) : Calls Tryd.prog 46 #[.int .u32 x, .int .i64 11] w fun e w' => e = .returned (.int .u32 (rotr x 11)) ∧ w' = w := right_c x 11 21 rfl (by decide) (by decide) (by decide +kernel) w
theorem turn_11 (x : Int) (w : World) : Calls Tryd.prog 40 #[.int .u32 x, .int .i64 11] w fun e w' => e = .returned (.int .u32 (rotr x 11)) ∧ w' = w := turn_c x 11 (by decide) w
theorem right_13 (x : Int) (w : World) : Calls Tryd.prog 46 #[.int .u32 x, .int .i64 13] w fun e w' => e = .returned (.int .u32 (rotr x 13)) ∧ w' = w := right_c x 13 19 rfl (by decide) (by decide) (by decide +kernel) w
theorem turn_13 (x : Int) (w : World) : Calls Tryd.prog 40 #[.int .u32 x, .int .i64 13] w fun e w' => e = .returned (.int .u32 (rotr x 13)) ∧ w' = w := turn_c x 13 (by decide) w
theorem right_17 (x : Int) (w : World) : Calls Tryd.prog 46 #[.int .u32 x, .int .i64 17] w fun e w' => e = .returned (.int .u32 (rotr x 17)) ∧ w' = w := right_c x 17 15 rfl (by decide) (by decide) (by decide +kernel) w
theorem turn_17 (x : Int) (w : World) : Calls Tryd.prog 40 #[.int .u32 x, .int .i64 17] w fun e w' => e = .returned (.int .u32 (rotr x 17)) ∧ w' = w := turn_c x 17 (by decide) w
theorem right_18 (x : Int) (w : World) : Calls Tryd.prog 46 #[.int .u32 x, .int .i64 18] w fun e w' => e = .returned (.int .u32 (rotr x 18)) ∧ w' = w := right_c x 18 14 rfl (by decide) (by decide) (by decide +kernel) w
theorem turn_18 (x : Int) (w : World) : Calls Tryd.prog 40 #[.int .u32 x, .int .i64 18] w fun e w' => e = .returned (.int .u32 (rotr x 18)) ∧ w' = w := turn_c x 18 (by decide) w
theorem right_19 (x : Int) (w : World) : Calls Tryd.prog 46 #[.int .u32 x, .int .i64 19] w fun e w' => e = .returned (.int .u32 (rotr x 19)) ∧ w' = w := right_c x 19 13 rfl (by decide) (by decide) (by decide +kernel) w
theorem turn_19 (x : Int) (w : World) : Calls Tryd.prog 40 #[.int .u32 x, .int .i64 19] w fun e w' => e = .returned (.int .u32 (rotr x 19)) ∧ w' = w := turn_c x 19 (by decide) w
theorem right_22 (x : Int) (w : World) : Calls Tryd.prog 46 #[.int .u32 x, .int .i64 22] w fun e w' => e = .returned (.int .u32 (rotr x 22)) ∧ w' = w := right_c x 22 10 rfl (by decide) (by decide) (by decide +kernel) w
theorem turn_22 (x : Int) (w : World) : Calls Tryd.prog 40 #[.int .u32 x, .int .i64 22] w fun e w' => e = .returned (.int .u32 (rotr x 22)) ∧ w' = w := turn_c x 22 (by decide) w
theorem right_25 (x : Int) (w : World) : Calls Tryd.prog 46 #[.int .u32 x, .int .i64 25] w fun e w' => e = .returned (.int .u32 (rotr x 25)) ∧ w' = w := right_c x 25 7 rfl (by decide) (by decide) (by decide +kernel) w
theorem turn_25 (x : Int) (w : World) : Calls Tryd.prog 40 #[.int .u32 x, .int .i64 25] w fun e w' => e = .returned (.int .u32 (rotr x 25)) ∧ w' = w := turn_c x 25 (by decide) w
set_option maxHeartbeats 400000 in
theorem sig_s0 (x : Int) (w : World) : Calls Tryd.prog 45 #[.int .u32 x] w fun e w' => e = .returned (.int .u32 (s0 x)) ∧ w' = w := by
  obtain ⟨y, ey⟩ : ∃ y, y = shrw x 3 := ⟨_, rfl⟩
  have hs : x / 8 = y := by rw [ey]; unfold shrw; rfl
  have Hy := Lib.hid ey
  clear ey
  go_enter Tryd.func45, Tryd.ntmps45
  go_wp2_with fail
  refine (right_7 _ _).mono ?_
  rintro e w' ⟨rfl, rfl⟩
  go_wp2_with fail
  refine (right_18 _ _).mono ?_
  rintro e w' ⟨rfl, rfl⟩
  go_wp2_with fail
  go_ret
  exact ⟨by rw [Hy.out]; rfl, rfl⟩
set_option maxHeartbeats 400000 in
theorem sig_s1 (x : Int) (w : World) : Calls Tryd.prog 44 #[.int .u32 x] w fun e w' => e = .returned (.int .u32 (s1 x)) ∧ w' = w := by
  obtain ⟨y, ey⟩ : ∃ y, y = shrw x 10 := ⟨_, rfl⟩
  have hs : x / 1024 = y := by rw [ey]; unfold shrw; rfl
  have Hy := Lib.hid ey
  clear ey
  go_enter Tryd.func44, Tryd.ntmps44
  go_wp2_with fail
  refine (right_17 _ _).mono ?_
  rintro e w' ⟨rfl, rfl⟩
  go_wp2_with fail
  refine (right_19 _ _).mono ?_
  rintro e w' ⟨rfl, rfl⟩
  go_wp2_with fail
  go_ret
  exact ⟨by rw [Hy.out]; rfl, rfl⟩
set_option maxHeartbeats 400000 in
theorem sig_S0 (x : Int) (w : World) : Calls Tryd.prog 43 #[.int .u32 x] w fun e w' => e = .returned (.int .u32 (S0 x)) ∧ w' = w := by
  go_enter Tryd.func43, Tryd.ntmps43
  go_wp2_with fail
  refine (right_2 _ _).mono ?_
  rintro e w' ⟨rfl, rfl⟩
  go_wp2_with fail
  refine (right_13 _ _).mono ?_
  rintro e w' ⟨rfl, rfl⟩
  go_wp2_with fail
  refine (right_22 _ _).mono ?_
  rintro e w' ⟨rfl, rfl⟩
  go_wp2_with fail
  go_ret
  exact ⟨rfl, rfl⟩
set_option maxHeartbeats 400000 in
theorem sig_S1 (x : Int) (w : World) : Calls Tryd.prog 42 #[.int .u32 x] w fun e w' => e = .returned (.int .u32 (S1 x)) ∧ w' = w := by
  go_enter Tryd.func42, Tryd.ntmps42
  go_wp2_with fail
  refine (right_6 _ _).mono ?_
  rintro e w' ⟨rfl, rfl⟩
  go_wp2_with fail
  refine (right_11 _ _).mono ?_
  rintro e w' ⟨rfl, rfl⟩
  go_wp2_with fail
  refine (right_25 _ _).mono ?_
  rintro e w' ⟨rfl, rfl⟩
  go_wp2_with fail
  go_ret
  exact ⟨rfl, rfl⟩
end Go.Proofs.YtikpglemnnbdcaaDoor
