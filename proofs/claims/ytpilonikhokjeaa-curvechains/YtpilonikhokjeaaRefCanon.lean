/-
  The reference's answer for layer 1: what is left of a number, digit by digit.
-/
import Derived.Test.YtpilonikhokjeaaFieldRow
import Derived.Test.YtpilonikhokjeaaFast
import Derived.LoopTactic
namespace Go.Proofs.Ytpilonikhokjeaa
open Go.RowKit Go.Shelf Go.Hold

/-! ### The digits of p -/
def pd (i : Nat) : Nat := Fp.P / 256 ^ i % 256
theorem pd_0 : pd 0 = 237 := by decide +kernel
theorem pd_31 : pd 31 = 127 := by decide +kernel
theorem pd_mid : ∀ i, i < 31 → i ≠ 0 → pd i = 255 := by decide +kernel
theorem pd_lt (i : Nat) : pd i < 256 := Nat.mod_lt _ (by decide)

set_option maxHeartbeats 1000000 in
theorem rprime_any (i : Nat) (hi : i < 32) (w : World) : Calls Try.prog 58 #[.int .i64 i] w fun e w' => e = .returned (.int .i64 (pd i)) ∧ w = w' := by
  by_cases h0 : i = 0
  · subst h0
    have hp := Lib.hid pd_0
    go_enter Try.func58, Try.ntmps58
    go_wp2
    go_ret
    exact ⟨by rw [hp.out]; rfl, rfl⟩
  · by_cases h1 : i = 31
    · subst h1
      have hp := Lib.hid pd_31
      go_enter Try.func58, Try.ntmps58
      go_wp2
      go_ret
      exact ⟨by rw [hp.out]; rfl, rfl⟩
    · have hp := Lib.hid (pd_mid i (by omega) h0)
      have e0 : ((i : Int) == 0) = false := beq_eq_false_iff_ne.2 (by omega)
      have e1 : ((i : Int) == 31) = false := beq_eq_false_iff_ne.2 (by omega)
      clear h0 h1 hi
      go_enter Try.func58, Try.ntmps58
      go_wp2
      go_ret
      exact ⟨by rw [hp.out]; rfl, rfl⟩

theorem rprime_B (i : Nat) (hi : i < 32) (w : World) : Calls Try.prog 58 #[.int .i64 i] w fun e w' => e = .returned (.int .i64 (pd i)) ∧ Below w.heap.size w w' :=
  (rprime_any i hi w).mono fun _ _ ⟨he, hw⟩ => ⟨he, hw ▸ Below.refl _ _⟩

/-! ### Is a number p, or more? -/
theorem div_step (n i : Nat) : n / 256 ^ i = 256 * (n / 256 ^ (i + 1)) + n / 256 ^ i % 256 := by
  have h : n / 256 ^ (i + 1) = n / 256 ^ i / 256 := by rw [Nat.pow_succ, Nat.div_div_eq_div_mul]
  omega
theorem lt_of_div {m n k : Nat} (h : m / k < n / k) : m < n := by
  rcases Nat.lt_or_ge m n with g | g
  · exact g
  · have := Nat.div_le_div_right (c := k) g; omega
theorem wrap_byte64 (n i : Nat) : IntKind.i64.wrap (bt n i) = bt n i := IntWalk.i64_in _ (by have := bt_byte n i; unfold Byte at this; omega)

@[go_sem] theorem keyA_at (n i : Nat) (h : i < (keyA n).size) : (keyA n)[i] = .int .u8 (bt n i) := by
  have := keyA_get n i (by rw [keyA_size] at h; exact h)
  rw [Array.getElem?_eq_getElem h] at this
  exact Option.some.inj this
set_option maxHeartbeats 2000000 in
set_option maxRecDepth 100000 in
theorem atLeast_N (n : Nat) (hn : n < 115792089237316195423570985008687907853269984665640564039457584007913129639936) (w : World) :
    Calls Try.prog 49 #[kv n] w fun e w' => e = .returned (.bool (decide (Fp.P ≤ n))) ∧ Below w.heap.size w w' := by
  go_enter Try.func49, Try.ntmps49
  go_wp2_with fail
  go_loopw [3] (fun i w' => ∃ (k : Nat) (o : Array Obj) (d : Nat), k ≤ 32 ∧ i = .int .i64 ((k : Int) - 1) ∧ n / 256 ^ k = Fp.P / 256 ^ k ∧ w' = (w.alloc (.cells (keyA n) 23)).plus o d) (fun i _ => (intOf i + 1).toNat)
  case atStart =>
    refine ⟨32, #[], _, Nat.le_refl _, rfl, ?_, rfl⟩
    rw [Nat.div_eq_of_lt (by simpa using hn), Nat.div_eq_of_lt (by decide +kernel)]
  case round =>
    obtain ⟨k, o, d, hk, rfl, hI, rfl⟩ := hrel
    rcases Nat.eq_zero_or_pos k with rfl | hpos
    · have Hd : Hid (decide (Fp.P ≤ n) = true) := by
        show _ = _
        rw [Nat.pow_zero, Nat.div_one, Nat.div_one] at hI
        exact decide_eq_true (by omega)
      clear hI hn
      go_wp2_with fail
      go_ret
      exact ⟨by rw [Hd.out]; rfl, below_more (below_alloc (Below.refl _ _) _) _ _⟩
    · obtain ⟨j, rfl⟩ : ∃ j, k = j + 1 := ⟨k - 1, by omega⟩
      rw [show (((j + 1 : Nat) : Int) - 1) = (j : Int) by omega]
      have hj0 : (0 : Int) ≤ (j : Int) := by omega
      have hj1 : (j : Int) < 32 := by omega
      have hw := wrap_byte64 n j
      have hpd := pd_lt j
      have hj : j < 32 := by omega
      have e1 := div_step n j
      have e2 := div_step Fp.P j
      have eb : bt n j = ((n / 256 ^ j % 256 : Nat) : Int) := rfl
      have ep : pd j = Fp.P / 256 ^ j % 256 := rfl
      by_cases hne : bt n j = pd j
      · have hI' : n / 256 ^ j = Fp.P / 256 ^ j := by omega
        have HI := Lib.hid hI'
        have hb : (bt n j != ((pd j : Nat) : Int)) = false := by rw [bne_eq_false_iff_eq]; exact hne
        clear hI hI' e1 e2 eb ep hne hn
        go_wp2_with fail
        generalize hW : World.alloc _ _ = W1
        refine wp_region_fast (fun w' => ∃ o d, w' = W1.plus o d) (by kernel_rfl) (by kernel_rfl) ⟨_, _, rfl⟩ ?_
        subst hW
        iterate 5 (refine wpHold_val ⟨_, #[], 0, rfl⟩ (wanted_none rfl) (by rintro K _ ⟨o, d, rfl⟩ hK; go_simp; exact hK _ ⟨o, d, rfl⟩) ?_)
        refine wpHold_call (v := (.int .i64 (pd j))) (wanted_none rfl) (by rintro K _ ⟨o, d, rfl⟩ hK; go_simp; refine (rprime_B j hj _).mono ?_; rintro e w' ⟨rfl, hbw⟩; obtain ⟨o', n', rfl⟩ := below_plus hbw; exact ⟨_, rfl, hK _ ⟨_, _, World.plus_plus _ _ _ _ _⟩⟩) ?_
        refine wpHold_val ⟨_, #[], 0, rfl⟩ (wanted_none rfl) (by rintro K _ ⟨o, d, rfl⟩ hK; go_simp; exact hK _ ⟨o, d, rfl⟩) ?_
        refine wpHold_nil ?_
        rintro _ ⟨o2, n2, rfl⟩
        go_wp2_with fail
        go_roundw
        case rel => exact ⟨j, _, _, by omega, by go_num, HI.out, rfl⟩
        case measure => simp [intOf]
      · have hcmp : decide (((pd j : Nat) : Int) < bt n j) = decide (Fp.P ≤ n) := by
          by_cases hlt : ((pd j : Nat) : Int) < bt n j
          · rw [decide_eq_true hlt, decide_eq_true (Nat.le_of_lt (lt_of_div (k := 256 ^ j) (by omega)))]
          · rw [decide_eq_false hlt, decide_eq_false (Nat.not_le.2 (lt_of_div (k := 256 ^ j) (by omega)))]
        have Hc := Lib.hid hcmp
        have hb : (bt n j != ((pd j : Nat) : Int)) = true := by rw [bne_iff_ne]; exact hne
        clear hI e1 e2 eb ep hne hn hcmp
        go_wp2_with fail
        generalize hW : World.alloc _ _ = W1
        refine wp_region_fast (fun w' => ∃ o d, w' = W1.plus o d) (by kernel_rfl) (by kernel_rfl) ⟨_, _, rfl⟩ ?_
        subst hW
        iterate 5 (refine wpHold_val ⟨_, #[], 0, rfl⟩ (wanted_none rfl) (by rintro K _ ⟨o, d, rfl⟩ hK; go_simp; exact hK _ ⟨o, d, rfl⟩) ?_)
        refine wpHold_call (v := (.int .i64 (pd j))) (wanted_none rfl) (by rintro K _ ⟨o, d, rfl⟩ hK; go_simp; refine (rprime_B j hj _).mono ?_; rintro e w' ⟨rfl, hbw⟩; obtain ⟨o', n', rfl⟩ := below_plus hbw; exact ⟨_, rfl, hK _ ⟨_, _, World.plus_plus _ _ _ _ _⟩⟩) ?_
        refine wpHold_val ⟨_, #[], 0, rfl⟩ (wanted_none rfl) (by rintro K _ ⟨o, d, rfl⟩ hK; go_simp; exact hK _ ⟨o, d, rfl⟩) ?_
        refine wpHold_nil ?_
        rintro _ ⟨o2, n2, rfl⟩
        go_wp2_with fail
        generalize hW : World.alloc _ _ = W1
        refine wp_region_fast (fun w' => ∃ o d, w' = W1.plus o d) (by kernel_rfl) (by kernel_rfl) ⟨_, _, rfl⟩ ?_
        subst hW
        iterate 5 (refine wpHold_val ⟨_, #[], 0, rfl⟩ (wanted_none rfl) (by rintro K _ ⟨o, d, rfl⟩ hK; go_simp; exact hK _ ⟨o, d, rfl⟩) ?_)
        refine wpHold_call (v := (.int .i64 (pd j))) (wanted_none rfl) (by rintro K _ ⟨o, d, rfl⟩ hK; go_simp; refine (rprime_B j hj _).mono ?_; rintro e w' ⟨rfl, hbw⟩; obtain ⟨o', n', rfl⟩ := below_plus hbw; exact ⟨_, rfl, hK _ ⟨_, _, World.plus_plus _ _ _ _ _⟩⟩) ?_
        iterate 2 (refine wpHold_val ⟨_, #[], 0, rfl⟩ (wanted_none rfl) (by rintro K _ ⟨o, d, rfl⟩ hK; go_simp; exact hK _ ⟨o, d, rfl⟩) ?_)
        refine wpHold_nil ?_
        rintro _ ⟨o3, n3, rfl⟩
        go_wp2_with fail
        go_ret
        exact ⟨congrArg (fun b => Ending.returned (.bool b)) Hc.out, below_more (below_alloc (Below.refl _ _) _) _ _⟩

/-! ### A number less p -/
/-- The borrow out of the first k digits. -/
def bw (n k : Nat) : Nat := if n % 256 ^ k < Fp.P % 256 ^ k then 1 else 0
theorem mod_step (n k : Nat) : n % 256 ^ (k + 1) = n % 256 ^ k + (n / 256 ^ k % 256) * 256 ^ k := by
  rw [Nat.pow_succ, Nat.mod_mul, Nat.mul_comm (256 ^ k)]
theorem carry_div (r p q : Nat) (hq : 0 < q) : (r + p) / q = r / q + p / q + (if (r + p) % q < p % q then 1 else 0) := by
  have e : r + p = (r % q + p % q) + q * (r / q + p / q) := by
    have := Nat.div_add_mod r q; have := Nat.div_add_mod p q
    rw [Nat.mul_add]; omega
  have lr := Nat.mod_lt r hq; have lp := Nat.mod_lt p hq
  have h1 : (r + p) / q = (r % q + p % q) / q + (r / q + p / q) := by
    conv => lhs; rw [e]
    exact Nat.add_mul_div_left _ _ hq
  have h2 : (r + p) % q = (r % q + p % q) % q := by
    conv => lhs; rw [e]
    exact Nat.add_mul_mod_self_left _ _ _
  rw [h1, h2]
  rcases Nat.lt_or_ge (r % q + p % q) q with g | g
  · rw [Nat.div_eq_of_lt g, Nat.mod_eq_of_lt g, if_neg (by omega)]; omega
  · have e1 : (r % q + p % q) / q = 1 := Nat.div_eq_of_lt_le (by omega) (by omega)
    have e2 : (r % q + p % q) % q = r % q + p % q - q := by rw [Nat.mod_eq_sub_mod g, Nat.mod_eq_of_lt (by omega)]
    rw [e1, e2, if_pos (by omega)]; omega
theorem mul_gap {a b q : Nat} (h : a < b) : a * q + q ≤ b * q := by
  have := Nat.mul_le_mul_right q (show a + 1 ≤ b from h)
  rw [Nat.add_mul, Nat.one_mul] at this; exact this
/-- A digit of the difference, and the next borrow. -/
theorem less_step (n k : Nat) (h : Fp.P ≤ n) :
    ((n / 256 ^ k % 256 : Nat) : Int) - pd k - bw n k < 0 ∧ bw n (k + 1) = 1 ∧ (((n - Fp.P) / 256 ^ k % 256 : Nat) : Int) = ((n / 256 ^ k % 256 : Nat) : Int) - pd k - bw n k + 256 ∨
    0 ≤ ((n / 256 ^ k % 256 : Nat) : Int) - pd k - bw n k ∧ bw n (k + 1) = 0 ∧ (((n - Fp.P) / 256 ^ k % 256 : Nat) : Int) = ((n / 256 ^ k % 256 : Nat) : Int) - pd k - bw n k := by
  have hq : 0 < 256 ^ k := Nat.pow_pos (by decide)
  have hc := carry_div (n - Fp.P) Fp.P (256 ^ k) hq
  rw [Nat.sub_add_cancel h] at hc
  have en := mod_step n k; have ep := mod_step Fp.P k
  have ln := Nat.mod_lt n hq; have lp := Nat.mod_lt Fp.P hq
  unfold bw pd
  rw [en, ep]
  generalize hN : n / 256 ^ k = N at *
  generalize hP : Fp.P / 256 ^ k = Q at *
  generalize hR : (n - Fp.P) / 256 ^ k = R at *
  generalize 256 ^ k = q at *
  generalize n % q = n0 at *
  generalize Fp.P % q = p0 at *
  have dn := Nat.mod_lt N (show 0 < 256 by decide); have dp := Nat.mod_lt Q (show 0 < 256 by decide)
  have g1 : N % 256 < Q % 256 → N % 256 * q + q ≤ Q % 256 * q := mul_gap
  have g2 : Q % 256 < N % 256 → Q % 256 * q + q ≤ N % 256 * q := mul_gap
  have g3 : N % 256 = Q % 256 → N % 256 * q = Q % 256 * q := fun e => by rw [e]
  generalize N % 256 * q = X at *
  generalize Q % 256 * q = Y at *
  clear hN hP hR en ep h hq
  by_cases c1 : n0 < p0
  · rw [if_pos c1] at hc ⊢
    by_cases c2 : n0 + X < p0 + Y
    · rw [if_pos c2]; omega
    · rw [if_neg c2]; omega
  · rw [if_neg c1] at hc ⊢
    by_cases c2 : n0 + X < p0 + Y
    · rw [if_pos c2]; omega
    · rw [if_neg c2]; omega

/-- The cells when k digits are done: those of r below, those of n from there on. -/
def mixA (r n k : Nat) : Array Value := ((List.range 32).map fun i => Value.int .u8 (if i < k then bt r i else bt n i)).toArray
@[go_sem] theorem mixA_size (r n k : Nat) : (mixA r n k).size = 32 := by simp [mixA]
@[go_sem] theorem mixA_one (r n k : Nat) : oneAll (mixA r n k) = true := by simp [oneAll, mixA, Value.oneCell']
theorem mixA_get (r n k i : Nat) (h : i < 32) : (mixA r n k)[i]? = some (.int .u8 (if i < k then bt r i else bt n i)) := by simp [mixA, h]
theorem mixA_0 (r n : Nat) : mixA r n 0 = keyA n := by
  apply Array.ext_getElem?
  intro i
  by_cases h : i < 32
  · rw [mixA_get _ _ _ _ h, keyA_get n i h]; simp
  · rw [Array.getElem?_eq_none (by rw [mixA_size]; omega), Array.getElem?_eq_none (by rw [keyA_size]; omega)]
theorem mixA_32 (r n : Nat) : mixA r n 32 = keyA r := by
  apply Array.ext_getElem?
  intro i
  by_cases h : i < 32
  · rw [mixA_get _ _ _ _ h, keyA_get r i h]; simp [h]
  · rw [Array.getElem?_eq_none (by rw [mixA_size]; omega), Array.getElem?_eq_none (by rw [keyA_size]; omega)]
theorem mixA_set (r n k : Nat) (hk : k < 32) : (mixA r n k).setIfInBounds k (.int .u8 (bt r k)) = mixA r n (k + 1) := by
  apply Array.ext_getElem?
  intro i
  rw [Array.getElem?_setIfInBounds]
  by_cases h : i < 32
  · rw [mixA_get _ _ _ _ h, mixA_get _ _ _ _ h]
    by_cases e : k = i
    · subst e; simp [mixA_size, h]
    · rw [if_neg e]
      by_cases h1 : i < k
      · simp [h1, show i < k + 1 by omega]
      · simp [h1, show ¬ i < k + 1 by omega]
  · rw [Array.getElem?_eq_none (by rw [mixA_size]; omega), Array.getElem?_eq_none (by rw [mixA_size]; omega), if_neg (by omega)]
theorem mixA_at (r n k : Nat) (hk : k < 32) (h : k < (mixA r n k).size) : (mixA r n k)[k] = .int .u8 (bt n k) := by
  have := mixA_get r n k k hk
  rw [Array.getElem?_eq_getElem h, if_neg (by omega)] at this
  exact Option.some.inj this

set_option maxHeartbeats 2000000 in
set_option maxRecDepth 100000 in
theorem less_N (n : Nat) (hn : Fp.P ≤ n) (w : World) :
    Calls Try.prog 50 #[kv n] w fun e w' => e = .returned (kv (n - Fp.P)) ∧ Below w.heap.size w w' := by
  obtain ⟨r, hr⟩ : ∃ r, r = n - Fp.P := ⟨_, rfl⟩
  rw [← hr]
  go_enter Try.func50, Try.ntmps50
  go_wp2_with fail
  go_loopw [3, 4] (fun b i w' => ∃ (k : Nat) (o : Array Obj) (d : Nat), k ≤ 32 ∧ i = .int .i64 k ∧ b = .int .i64 (bw n k) ∧
    w' = ((w.alloc (.cells (mixA r n k) 23)).alloc (.cells #[.int .u8 0, .int .u8 0, .int .u8 0, .int .u8 0, .int .u8 0, .int .u8 0, .int .u8 0, .int .u8 0, .int .u8 0, .int .u8 0, .int .u8 0, .int .u8 0, .int .u8 0, .int .u8 0, .int .u8 0, .int .u8 0, .int .u8 0, .int .u8 0, .int .u8 0, .int .u8 0, .int .u8 0, .int .u8 0, .int .u8 0, .int .u8 0, .int .u8 0, .int .u8 0, .int .u8 0, .int .u8 0, .int .u8 0, .int .u8 0, .int .u8 0, .int .u8 0] 23)).plus o d) (fun _ i _ => 32 - (intOf i).toNat)
  case atStart =>
    refine ⟨0, #[], w.drawn, by decide, rfl, by simp [bw, Nat.mod_one], ?_⟩
    rw [mixA_0]; rfl
  case round =>
    obtain ⟨k, o, d, hk, rfl, rfl, rfl⟩ := hrel
    by_cases hk32 : k < 32
    · have hst := less_step n k hn
      have hset := mixA_set r n k hk32
      have hat := mixA_at r n k hk32
      have hw := wrap_byte64 n k
      have hk0 : (0 : Int) ≤ (k : Int) := by omega
      have hk1 : (k : Int) < 32 := by omega
      have hpd := pd_lt k
      obtain ⟨hb0, hb1⟩ := bt_byte n k
      have hbw : bw n k ≤ 1 := by unfold bw; split <;> decide
      have ebt : bt n k = ((n / 256 ^ k % 256 : Nat) : Int) := rfl
      have ert : bt r k = (((n - Fp.P) / 256 ^ k % 256 : Nat) : Int) := by rw [← hr]; rfl
      rw [← ebt, ← ert] at hst
      obtain ⟨hrb0, hrb1⟩ := bt_byte r k
      obtain ⟨t1, ht1⟩ : ∃ t : Int, t = bt n k - pd k := ⟨_, rfl⟩
      obtain ⟨t, ht⟩ : ∃ t : Int, t = t1 - bw n k := ⟨_, rfl⟩
      have s1 : IntKind.i64.wrap (bt n k - ((pd k : Nat) : Int)) = t1 := by rw [← ht1]; exact IntWalk.i64_in _ (by omega)
      have s2 : IntKind.i64.wrap (t1 - ((bw n k : Nat) : Int)) = t := by rw [← ht]; exact IntWalk.i64_in _ (by omega)
      have tlo : -257 ≤ t := by omega
      have thi : t ≤ 255 := by omega
      rcases hst with ⟨hlt, hnb, hd⟩ | ⟨hge, hnb, hd⟩
      · have hneg : t < 0 := by omega
        have hu : IntKind.u8.wrap (t + 256) = bt r k := by rw [IntWalk.u8_in _ (by omega)]; omega
        have Hnb := Lib.hid hnb
        clear hlt hnb hd hb0 hb1 hbw ebt ert hrb0 hrb1 ht1 ht hpd hn hr
        go_wp2_with fail
        generalize hW : World.alloc _ _ = W1
        refine wp_region_fast (fun w' => ∃ o d, w' = W1.plus o d) (by kernel_rfl) (by kernel_rfl) ⟨_, _, rfl⟩ ?_
        subst hW
        iterate 5 (refine wpHold_val ⟨_, #[], 0, rfl⟩ (wanted_none rfl) (by rintro K _ ⟨o, d, rfl⟩ hK; go_simp; exact hK _ ⟨o, d, rfl⟩) ?_)
        refine wpHold_call (v := (.int .i64 (pd k))) (wanted_none rfl) (by rintro K _ ⟨o, d, rfl⟩ hK; go_simp; refine (rprime_B k hk32 _).mono ?_; rintro e w' ⟨rfl, hbw⟩; obtain ⟨o', n', rfl⟩ := below_plus hbw; exact ⟨_, rfl, hK _ ⟨_, _, World.plus_plus _ _ _ _ _⟩⟩) ?_
        iterate 4 (refine wpHold_val ⟨_, #[], 0, rfl⟩ (wanted_none rfl) (by rintro K _ ⟨o, d, rfl⟩ hK; go_simp; exact hK _ ⟨o, d, rfl⟩) ?_)
        refine wpHold_nil ?_
        rintro _ ⟨o2, n2, rfl⟩
        go_wp2_with fail
        go_roundw
        case rel => exact ⟨k + 1, _, _, by omega, by go_num, by rw [Hnb.out]; rfl, rfl⟩
        case measure => simp [intOf]; omega
      · have hpos : 0 ≤ t := by omega
        have hu : IntKind.u8.wrap t = bt r k := by rw [IntWalk.u8_in _ (by omega)]; omega
        have Hnb := Lib.hid hnb
        clear hge hnb hd hb0 hb1 hbw ebt ert hrb0 hrb1 ht1 ht hpd hn hr
        go_wp2_with fail
        generalize hW : World.alloc _ _ = W1
        refine wp_region_fast (fun w' => ∃ o d, w' = W1.plus o d) (by kernel_rfl) (by kernel_rfl) ⟨_, _, rfl⟩ ?_
        subst hW
        iterate 5 (refine wpHold_val ⟨_, #[], 0, rfl⟩ (wanted_none rfl) (by rintro K _ ⟨o, d, rfl⟩ hK; go_simp; exact hK _ ⟨o, d, rfl⟩) ?_)
        refine wpHold_call (v := (.int .i64 (pd k))) (wanted_none rfl) (by rintro K _ ⟨o, d, rfl⟩ hK; go_simp; refine (rprime_B k hk32 _).mono ?_; rintro e w' ⟨rfl, hbw⟩; obtain ⟨o', n', rfl⟩ := below_plus hbw; exact ⟨_, rfl, hK _ ⟨_, _, World.plus_plus _ _ _ _ _⟩⟩) ?_
        iterate 4 (refine wpHold_val ⟨_, #[], 0, rfl⟩ (wanted_none rfl) (by rintro K _ ⟨o, d, rfl⟩ hK; go_simp; exact hK _ ⟨o, d, rfl⟩) ?_)
        refine wpHold_nil ?_
        rintro _ ⟨o2, n2, rfl⟩
        go_wp2_with fail
        go_roundw
        case rel => exact ⟨k + 1, _, _, by omega, by go_num, by rw [Hnb.out]; rfl, rfl⟩
        case measure => simp [intOf]; omega
    · obtain rfl : k = 32 := by omega
      rw [mixA_32]
      clear hn hr
      go_wp2_with fail
      refine bodyPost_ret (v := kv r) (results_key Try.results50 _ _ _ rfl (by go_simp) (by go_simp)) rfl ⟨rfl, ?_⟩
      repeat (first | apply below_more | apply below_alloc | exact Below.refl _ _)

/-! ### What is left -/
theorem ofBytes_snoc : ∀ (l : List Nat) (b : Nat), ofBytes (l ++ [b]) = ofBytes l + 256 ^ l.length * b
  | [], b => by simp [ofBytes]
  | x :: l, b => by
    simp only [List.cons_append, ofBytes, ofBytes_snoc l b, List.length_cons, Nat.pow_succ]
    rw [Nat.mul_add, Nat.mul_comm (256 ^ l.length) 256, Nat.mul_assoc]; omega
theorem ofBytes_digits (m : Nat) : ∀ k, ofBytes ((List.range k).map fun i => m / 256 ^ i % 256) = m % 256 ^ k
  | 0 => by simp [ofBytes, Nat.mod_one]
  | k + 1 => by
    rw [List.range_succ, List.map_append, List.map_singleton, ofBytes_snoc, ofBytes_digits m k, mod_step, List.length_map, List.length_range, Nat.mul_comm]
/-- The number that cells tell. -/
def ofCells (cs : Array Value) : Nat := ofBytes (cs.toList.map fun v => (intOf v).toNat)
theorem ofCells_key (m : Nat) (h : m < 115792089237316195423570985008687907853269984665640564039457584007913129639936) : ofCells (keyA m) = m := by
  have e : (keyA m).toList.map (fun v => (intOf v).toNat) = (List.range 32).map fun i => m / 256 ^ i % 256 := by
    apply List.ext_getElem?
    intro i
    by_cases hi : i < 32
    · rw [List.getElem?_map, Array.getElem?_toList, keyA_get m i hi]
      rw [List.getElem?_map, List.getElem?_range hi]
      show some ((bt m i).toNat) = some (m / 256 ^ i % 256)
      unfold bt
      rw [Int.toNat_natCast]
    · rw [List.getElem?_eq_none (by simp [keyA_size]; omega), List.getElem?_eq_none (by simp; omega)]
  unfold ofCells
  rw [e, ofBytes_digits, Nat.mod_eq_of_lt (by simpa using h)]

set_option maxHeartbeats 2000000 in
set_option maxRecDepth 100000 in
theorem rcanon_N (n : Nat) (hn : n < 115792089237316195423570985008687907853269984665640564039457584007913129639936) (w : World) :
    Calls Try.prog 37 #[kv n] w fun e w' => e = .returned (kv (n % Fp.P)) ∧ Below w.heap.size w w' := by
  go_enter Try.func37, Try.ntmps37
  go_wp2_with fail
  go_loopw [3] (fun _ w' => ∃ (m : Nat) (o : Array Obj) (d : Nat), m < 115792089237316195423570985008687907853269984665640564039457584007913129639936 ∧ m % Fp.P = n % Fp.P ∧
    w' = ((w.alloc (.cells (keyA m) 23)).alloc (.cells #[.int .u8 0, .int .u8 0, .int .u8 0, .int .u8 0, .int .u8 0, .int .u8 0, .int .u8 0, .int .u8 0, .int .u8 0, .int .u8 0, .int .u8 0, .int .u8 0, .int .u8 0, .int .u8 0, .int .u8 0, .int .u8 0, .int .u8 0, .int .u8 0, .int .u8 0, .int .u8 0, .int .u8 0, .int .u8 0, .int .u8 0, .int .u8 0, .int .u8 0, .int .u8 0, .int .u8 0, .int .u8 0, .int .u8 0, .int .u8 0, .int .u8 0, .int .u8 0] 23)).plus o d) (fun _ w' => ofCells (w'.rowOf w.heap.size))
  case atStart => exact ⟨n, #[], w.drawn, hn, rfl, rfl⟩
  case round =>
    obtain ⟨m, o, d, hm, hI, rfl⟩ := hrel
    have Ha := Lib.hid (fun w => atLeast_N m hm w)
    by_cases hP : Fp.P ≤ m
    · have Hl := Lib.hid (fun w => less_N m hP w)
      obtain ⟨r, hr⟩ : ∃ r, r = m - Fp.P := ⟨_, rfl⟩
      have hrm : r < 115792089237316195423570985008687907853269984665640564039457584007913129639936 := by omega
      have hpos := Fp.P_pos
      have HI : Hid (r % Fp.P = n % Fp.P) := by
        show _ = _
        rw [← hI, hr, ← Nat.mod_eq_sub_mod hP]
      have Hd := Lib.hid (decide_eq_true hP)
      have HM : Hid (ofCells (keyA r) < ofCells (keyA m)) := by
        show _ < _
        rw [ofCells_key r hrm, ofCells_key m hm]; omega
      have Hr := Lib.hid hr
      clear hI hP hr hpos hn
      go_wp2_with fail
      refine (Ha.out _).mono ?_
      rintro e w' ⟨rfl, hbw⟩
      obtain ⟨o1, n1, rfl⟩ := below_plus hbw
      clear hbw
      rw [Hd.out]
      go_wp2_with fail
      refine (Hl.out _).mono ?_
      rintro e w' ⟨rfl, hbw⟩
      obtain ⟨o2, n2, rfl⟩ := below_plus hbw
      clear hbw
      rw [← Hr.out]
      go_wp2_with fail
      go_roundw
      case rel => exact ⟨r, _, _, hrm, HI.out, rfl⟩
      case measure =>
        have h1 := HM.out
        go_simp
    · have hlt : m < Fp.P := Nat.lt_of_not_le hP
      have Hv : Hid (n % Fp.P = m) := by show _ = _; rw [← hI, Nat.mod_eq_of_lt hlt]
      have Hd := Lib.hid (decide_eq_false hP)
      clear hI hP hlt hn
      go_wp2_with fail
      refine (Ha.out _).mono ?_
      rintro e w' ⟨rfl, hbw⟩
      obtain ⟨o1, n1, rfl⟩ := below_plus hbw
      clear hbw
      rw [Hd.out]
      go_wp2_with fail
      refine bodyPost_ret (v := kv m) (results_key Try.results37 _ _ _ rfl (by go_simp) (by go_simp)) rfl ⟨by rw [Hv.out], ?_⟩
      repeat (first | apply below_more | apply below_alloc | exact Below.refl _ _)
end Go.Proofs.Ytpilonikhokjeaa
