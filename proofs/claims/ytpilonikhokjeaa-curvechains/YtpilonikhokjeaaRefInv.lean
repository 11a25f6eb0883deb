/-
  The reference's Inv: a to the power p - 2, bit by bit from the highest one on.
-/
import Derived.Test.YtpilonikhokjeaaRefMul
namespace Go.Proofs.Ytpilonikhokjeaa
open Go.RowKit Go.Shelf Go.Hold

theorem bits_E : ∀ j, j < 255 → Fp.E / 2 ^ j % 2 = if j = 2 ∨ j = 4 then 0 else 1 := by decide +kernel
theorem top_E : Fp.E / 2 ^ 255 = 0 := by decide +kernel
theorem half_E (j : Nat) : Fp.E / 2 ^ j = 2 * (Fp.E / 2 ^ (j + 1)) + Fp.E / 2 ^ j % 2 := by
  have h : Fp.E / 2 ^ (j + 1) = Fp.E / 2 ^ j / 2 := by rw [Nat.pow_succ, Nat.div_div_eq_div_mul]
  omega
theorem twice (a e r : Nat) (h : r = a ^ e % Fp.P) : r * r % Fp.P = a ^ (2 * e) % Fp.P := by
  rw [h, ← Nat.mul_mod, ← Nat.pow_add, Nat.two_mul]
theorem once (a e r : Nat) (h : r = a ^ e % Fp.P) : r * a % Fp.P = a ^ (e + 1) % Fp.P := by
  rw [h, Nat.pow_succ, Nat.mul_mod, Nat.mod_mod, ← Nat.mul_mod]
theorem one_set : (keyA 0).setIfInBounds 0 (.int .u8 1) = keyA 1 := by
  have h0 : #[.int .u8 0, .int .u8 0, .int .u8 0, .int .u8 0, .int .u8 0, .int .u8 0, .int .u8 0, .int .u8 0, .int .u8 0, .int .u8 0, .int .u8 0, .int .u8 0, .int .u8 0, .int .u8 0, .int .u8 0, .int .u8 0, .int .u8 0, .int .u8 0, .int .u8 0, .int .u8 0, .int .u8 0, .int .u8 0, .int .u8 0, .int .u8 0, .int .u8 0, .int .u8 0, .int .u8 0, .int .u8 0, .int .u8 0, .int .u8 0, .int .u8 0, .int .u8 0] = keyA 0 := keyA_small 0 (by decide)
  have h1 := keyA_small 1 (by decide)
  rw [← h0, ← h1]; rfl

set_option maxHeartbeats 1000000 in
set_option maxRecDepth 100000 in
theorem rinv_K (a c : Nat) (ha : a < 115792089237316195423570985008687907853269984665640564039457584007913129639936) (hc : a ^ Fp.E % Fp.P = c) (w : World) :
    Calls Try.prog 36 #[kv a] w fun e w' => e = .returned (kv c) ∧ Below w.heap.size w w' := by
  have hz : #[.int .u8 0, .int .u8 0, .int .u8 0, .int .u8 0, .int .u8 0, .int .u8 0, .int .u8 0, .int .u8 0, .int .u8 0, .int .u8 0, .int .u8 0, .int .u8 0, .int .u8 0, .int .u8 0, .int .u8 0, .int .u8 0, .int .u8 0, .int .u8 0, .int .u8 0, .int .u8 0, .int .u8 0, .int .u8 0, .int .u8 0, .int .u8 0, .int .u8 0, .int .u8 0, .int .u8 0, .int .u8 0, .int .u8 0, .int .u8 0, .int .u8 0, .int .u8 0] = keyA 0 := keyA_small 0 (by decide)
  have hone := one_set
  have Hc := Lib.hid hc
  have HA := Lib.hid ha
  clear hc ha
  go_enter Try.func36, Try.ntmps36
  go_wp2_with fail
  go_loopw [4] (fun i w' => ∃ (k r : Nat) (o : Array Obj) (d : Nat), k ≤ 255 ∧ i = .int .i64 ((k : Int) - 1) ∧ r = a ^ (Fp.E / 2 ^ k) % Fp.P ∧ w' = (((w.alloc (.cells (keyA a) 23)).alloc (.cells (keyA 0) 23)).alloc (.cells (keyA r) 23)).plus o d) (fun i _ => (intOf i + 1).toNat)
  case atStart =>
    refine ⟨255, 1, #[], _, Nat.le_refl _, rfl, ?_, rfl⟩
    rw [top_E, Nat.pow_zero]; rfl
  case round =>
    obtain ⟨k, r, o, d, hk, rfl, hr, rfl⟩ := hrel
    rcases Nat.eq_zero_or_pos k with rfl | hpos
    · have hrc : r = c := by rw [hr, ← Hc.out, Nat.pow_zero, Nat.div_one]
      subst hrc
      clear hr
      go_wp2_with fail
      refine bodyPost_ret (v := kv r) (results_key Try.results36 _ _ _ rfl (by go_simp) (by go_simp)) rfl ⟨rfl, ?_⟩
      repeat (first | apply below_more | apply below_alloc | exact Below.refl _ _)
    · obtain ⟨j, rfl⟩ : ∃ j, k = j + 1 := ⟨k - 1, by omega⟩
      rw [show (((j + 1 : Nat) : Int) - 1) = (j : Int) by omega]
      have hj0 : (0 : Int) ≤ (j : Int) := by omega
      have hj1 : (j : Int) < 255 := by omega
      have hbit := bits_E j (by omega)
      have hhalf := half_E j
      have lr : r < 115792089237316195423570985008687907853269984665640564039457584007913129639936 := by rw [hr]; exact mod_lt _
      obtain ⟨r2, e2⟩ : ∃ x, x = r * r % Fp.P := ⟨_, rfl⟩
      have l2 : r2 < 115792089237316195423570985008687907853269984665640564039457584007913129639936 := by rw [e2]; exact mod_lt _
      have e2' := e2.trans (twice a _ r hr)
      have H2 := Lib.hid e2.symm
      by_cases hb : j = 2 ∨ j = 4
      · rw [if_pos hb] at hbit
        have HE : Hid (r2 = a ^ (Fp.E / 2 ^ j) % Fp.P) := by show _ = _; rw [hhalf, hbit, e2']; rfl
        clear hbit hhalf e2' e2 hr
        rcases hb with rfl | rfl
        · skip
          go_wp2_with fail
          refine (rmul_K r r r2 lr lr H2.out _).mono ?_
          rintro e w' ⟨rfl, hbw⟩
          obtain ⟨o1, n1, rfl⟩ := below_plus hbw
          clear hbw
          go_wp2_with fail
          go_roundw
          case rel => exact ⟨2, r2, _, _, by omega, by go_num, HE.out, rfl⟩
          case measure => simp [intOf]
        · skip
          go_wp2_with fail
          refine (rmul_K r r r2 lr lr H2.out _).mono ?_
          rintro e w' ⟨rfl, hbw⟩
          obtain ⟨o1, n1, rfl⟩ := below_plus hbw
          clear hbw
          go_wp2_with fail
          go_roundw
          case rel => exact ⟨4, r2, _, _, by omega, by go_num, HE.out, rfl⟩
          case measure => simp [intOf]
      · rw [if_neg hb] at hbit
        obtain ⟨r3, e3⟩ : ∃ x, x = r2 * a % Fp.P := ⟨_, rfl⟩
        have HE : Hid (r3 = a ^ (Fp.E / 2 ^ j) % Fp.P) := by show _ = _; rw [hhalf, hbit, e3]; exact once a _ r2 e2'
        have H3 := Lib.hid e3.symm
        have hb2 : ((j : Int) != 2) = true := by rw [bne_iff_ne]; omega
        have hb4 : ((j : Int) != 4) = true := by rw [bne_iff_ne]; omega
        clear hbit hhalf e2' e2 e3 hr hb
        go_wp2_with fail
        refine (rmul_K r r r2 lr lr H2.out _).mono ?_
        rintro e w' ⟨rfl, hbw⟩
        obtain ⟨o1, n1, rfl⟩ := below_plus hbw
        clear hbw
        go_wp2_with fail
        refine (rmul_K r2 a r3 l2 HA.out H3.out _).mono ?_
        rintro e w' ⟨rfl, hbw⟩
        obtain ⟨o2, n2, rfl⟩ := below_plus hbw
        clear hbw
        go_wp2_with fail
        go_roundw
        case rel => exact ⟨j, r3, _, _, by omega, by go_num, HE.out, rfl⟩
        case measure => simp [intOf]
end Go.Proofs.Ytpilonikhokjeaa
