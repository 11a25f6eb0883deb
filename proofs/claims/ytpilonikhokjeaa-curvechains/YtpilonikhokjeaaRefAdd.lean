/-
  The reference's Add and Sub.
-/
import Derived.Test.YtpilonikhokjeaaRefCarried
import Derived.Test.YtpilonikhokjeaaRefZero
namespace Go.Proofs.Ytpilonikhokjeaa
open Go.RowKit Go.Shelf Go.Hold

theorem carriedL (l : List Nat) (n g cap : Nat) (w : World) (hn : l.length = n) (h32 : 32 ≤ n) (h64 : n ≤ 64) (hm : Most 4194304 l) (h : Own w 0 (.slice (some ⟨g, 0, none⟩) n cap) l) :
    Calls Try.prog 48 #[.slice (some ⟨g, 0, none⟩) n cap] w fun e w' =>
      ∃ n, e = .returned (kv n) ∧ n < 115792089237316195423570985008687907853269984665640564039457584007913129639936 ∧ n % Fp.P = ofBytes l % Fp.P ∧ Below w.heap.size w w' := by
  subst hn
  exact (carried_N l g cap w h32 h64 hm h).mono fun e w' ⟨n, h1, h2, h3⟩ => ⟨n, h1, by simpa using h2, h3⟩
theorem dg_getD (n k i : Nat) (h : i < k) : (dg n k).getD i 0 = n / 256 ^ i % 256 := by rw [List.getD_eq_getElem?_getD, dg_get n k i h]; rfl
theorem dg_most (n k : Nat) (i : Nat) : (dg n k).getD i 0 ≤ 255 := by
  by_cases h : i < k
  · rw [dg_getD n k i h]; omega
  · rw [List.getD_eq_getElem?_getD, List.getElem?_eq_none (by rw [dg_length]; omega)]; simp
theorem dg_whole (n : Nat) (h : n < 115792089237316195423570985008687907853269984665640564039457584007913129639936) : ofBytes (dg n 32) = n := by rw [dg_val, Nat.mod_eq_of_lt (by simpa using h)]
theorem RowAt.cell {w : World} {n : Nat} {c : Array Value} (h : RowAt w n c) (i : Nat) : w.cell? ⟨n, i, none⟩ = c[i]? := by
  obtain ⟨t, ht⟩ := h.block
  exact cell_of_row w n i c t (0, 0) ht
/-- How great a digit may have become behind k steps, each of which adds at most s. -/
def lim2 (s k x : Nat) : Nat := 255 + if x < k then s else 0
theorem lim2_mono (s k x : Nat) : lim2 s k x ≤ lim2 s (k + 1) x := by
  unfold lim2; by_cases h : x < k <;> simp [h, show x < k → x < k + 1 by omega]
theorem lim2_at (s k : Nat) : lim2 s k k = 255 ∧ lim2 s (k + 1) k = 255 + s := by unfold lim2; simp
theorem lim2_most (s k x : Nat) : lim2 s k x ≤ 255 + s := by unfold lim2; split <;> omega
theorem add_step {m : List Nat} {s k y : Nat} (hk : k < 32) (hy : y ≤ s) (hm : m.length = 32) (hb : ∀ x, m.getD x 0 ≤ lim2 s k x) :
    (m.set k (m.getD k 0 + y)).length = 32 ∧ ofBytes (m.set k (m.getD k 0 + y)) = ofBytes m + 256 ^ k * y ∧ ∀ x, (m.set k (m.getD k 0 + y)).getD x 0 ≤ lim2 s (k + 1) x := by
  refine ⟨by rw [List.length_set, hm], ofBytes_set m k y (by omega), fun j => ?_⟩
  rw [getD_set m k _ j (by omega)]
  split
  · rename_i h; subst h
    have := hb j; rw [(lim2_at s j).1] at this; rw [(lim2_at s j).2]; omega
  · exact Nat.le_trans (hb j) (lim2_mono s k j)
theorem pow_mul_bt (b k : Nat) : 256 ^ k * (b / 256 ^ k % 256) = b % 256 ^ (k + 1) - b % 256 ^ k ∧ b % 256 ^ k ≤ b % 256 ^ (k + 1) := by
  rw [mod_step, Nat.mul_comm]; omega

set_option maxHeartbeats 600000 in
set_option maxRecDepth 100000 in
theorem radd_K (a b c : Nat) (ha : a < 115792089237316195423570985008687907853269984665640564039457584007913129639936) (hb : b < 115792089237316195423570985008687907853269984665640564039457584007913129639936) (hc : (a + b) % Fp.P = c) (w : World) :
    Calls Try.prog 46 #[kv a, kv b] w fun e w' => e = .returned (kv c) ∧ Below w.heap.size w w' := by
  have hz : #[.int .u8 0, .int .u8 0, .int .u8 0, .int .u8 0, .int .u8 0, .int .u8 0, .int .u8 0, .int .u8 0, .int .u8 0, .int .u8 0, .int .u8 0, .int .u8 0, .int .u8 0, .int .u8 0, .int .u8 0, .int .u8 0, .int .u8 0, .int .u8 0, .int .u8 0, .int .u8 0, .int .u8 0, .int .u8 0, .int .u8 0, .int .u8 0, .int .u8 0, .int .u8 0, .int .u8 0, .int .u8 0, .int .u8 0, .int .u8 0, .int .u8 0, .int .u8 0] = keyA 0 := keyA_small 0 (by decide)
  have Hc := Lib.hid hc
  have Ha := Lib.hid (dg_whole a ha)
  have HB := Lib.hid hb
  have HD := Lib.hid (fun w => digits_N a w)
  clear hc ha hb
  have Hrb : Hid (RowAt (((w.alloc (.cells (keyA a) 23)).alloc (.cells (keyA b) 23)).alloc (.cells (keyA 0) 23)) (w.heap.size + 1) (keyA b)) := ⟨by go_simp, by go_simp, by go_simp⟩
  have Hrc : Hid (RowAt (((w.alloc (.cells (keyA a) 23)).alloc (.cells (keyA b) 23)).alloc (.cells (keyA 0) 23)) (w.heap.size + 1 + 1) (keyA 0)) := ⟨by go_simp, by go_simp, by go_simp⟩
  go_enter Try.func46, Try.ntmps46
  go_wp2_with fail
  refine (HD.out _).mono ?_
  rintro e w1 ⟨v, rfl, hown, hbel⟩
  have hb1 : Below (w.heap.size + 3) (((w.alloc (.cells (keyA a) 23)).alloc (.cells (keyA b) 23)).alloc (.cells (keyA 0) 23)) w1 := hbel.mono (by simp)
  have ho1 : Own w1 (w.heap.size + 3) v (dg a 32) := hown.mono (by simp)
  have had := ho1.addr (by rw [dg_length]; decide)
  rw [dg_length] at had
  obtain ⟨gx, capx, rfl, hx1, hx2, _⟩ := had
  have Ho1 := Lib.hid ho1
  have Hb1 := Lib.hid hb1
  clear hown hbel HD hb1 ho1
  go_wp2_with fail
  go_loopw [6] (fun i wi => ∃ (k : Nat) (m : List Nat), k ≤ 32 ∧ i = .int .i64 k ∧ m.length = 32 ∧ ofBytes m = a + b % 256 ^ k ∧ (∀ x, m.getD x 0 ≤ lim2 255 k x) ∧
    Own wi (w.heap.size + 3) (.slice (some ⟨gx, 0, none⟩) 32 capx) m ∧ Below (w.heap.size + 3) (((w.alloc (.cells (keyA a) 23)).alloc (.cells (keyA b) 23)).alloc (.cells (keyA 0) 23)) wi) (fun i _ => 32 - (intOf i).toNat)
  case atStart => exact ⟨0, _, by decide, rfl, dg_length _ _, by rw [Ha.out, Nat.pow_zero, Nat.mod_one, Nat.add_zero], fun x => Nat.le_trans (dg_most a 32 x) (by unfold lim2; omega), Ho1.out, Hb1.out⟩
  case round =>
    clear Ho1 Hb1 hx2
    obtain ⟨k, m, hk, rfl, hml, hmf, hmb, hmo, hmw⟩ := hrel
    have hszi := hmw.size
    have hszi : w.heap.size + 3 ≤ wr.heap.size := by simpa using hszi
    have hx2 := (Own.lt hmo).2
    have Hml := Lib.hid hml
    have Hmf := Lib.hid hmf
    have Hmb := Lib.hid hmb
    have Hmo := Lib.hid hmo
    have Hmw := Lib.hid hmw
    clear hml hmf hmb hmo hmw
    by_cases hk32 : k < 32
    · obtain ⟨y, ey⟩ : ∃ y, y = m.getD k 0 := ⟨_, rfl⟩
      have hcy : wr.cell? ⟨gx, k, none⟩ = some (.int .i64 (y : Int)) := by rw [Own.cellOf Hmo.out Hml.out k hk32, ey]
      have hfy := Own.free Hmo.out Hml.out k
      have hy : y ≤ 510 := by rw [ey]; exact Nat.le_trans (Hmb.out k) (lim2_most _ k k)
      obtain ⟨q, eq⟩ : ∃ q, q = b / 256 ^ k % 256 := ⟨_, rfl⟩
      have hq : q ≤ 255 := by omega
      have ebt : bt b k = (q : Int) := by rw [eq]; rfl
      have hcb : wr.cell? ⟨w.heap.size + 1, k, none⟩ = some (.int .u8 (q : Int)) := by
        rw [RowAt.cell (Hrb.out.grow (Hmw.out.mono (by simp))) k, keyA_get b k hk32, ebt]
      have hB1 : w.heap.size + 1 < wr.heap.size := by omega
      have hwq : IntKind.i64.wrap (q : Int) = (q : Int) := IntWalk.i64_in _ (by omega)
      obtain ⟨s, es⟩ : ∃ s, s = y + q := ⟨_, rfl⟩
      have hs : IntKind.i64.wrap ((y : Int) + (q : Int)) = (s : Int) := by rw [IntWalk.i64_in _ (by omega)]; omega
      have hk0 : (0 : Int) ≤ (k : Int) := by omega
      have hk1 : (k : Int) < 32 := by omega
      have R := add_step (y := q) hk32 hq Hml.out Hmb.out
      rw [← ey, ← es] at R
      have hv := pow_mul_bt b k
      rw [← eq] at hv
      have HR := Lib.hid R
      have HV : Hid (ofBytes m + 256 ^ k * q = a + b % 256 ^ (k + 1)) := by
        show _ = _
        rw [Hmf.out]; omega
      clear R es ey eq ebt hv Hmb Hmf
      go_wp2_with fail
      refine wp_region_lays wr 12 [] (by kernel_rfl) (by kernel_rfl) ((Below.refl _ _).drew) ?_
      simp only [List.take_succ_cons, List.take_zero, List.drop_succ_cons, List.drop_zero, List.length_nil, Nat.reduceAdd]
      iterate 12 (refine wpHoldB_val (wanted_none rfl) (by intro K o d hK; go_simp; exact hK _ (Below.refl _ _)) ?_)
      refine wpHoldB_nil ?_
      intro w3 hb3 _
      obtain ⟨o3, d3, rfl⟩ := below_plus hb3
      clear hb3
      go_wp2_with fail
      go_roundw
      case rel => exact ⟨k + 1, _, by omega, by go_num, HR.out.1, HR.out.2.1.trans HV.out, HR.out.2.2, Own.stores Hmo.out Hml.out _ _ _ _, below_store Hmw.out hszi _ _ _ hx1 _ _⟩
      case measure => simp [intOf]; omega
    · obtain rfl : k = 32 := by omega
      have HC := Lib.hid (carriedL m 32 gx capx wr Hml.out (by decide) (by decide) (fun i => Nat.le_trans (Hmb.out i) (Nat.le_trans (lim2_most _ _ _) (by decide))) (Hmo.out.mono (Nat.zero_le _)))
      have HV : Hid (ofBytes m % Fp.P = c) := by
        show _ = _
        rw [Hmf.out, Nat.mod_eq_of_lt (a := b) (by simpa using HB.out), Hc.out]
      have HR : Hid (RowAt wr (w.heap.size + 1 + 1) (keyA 0)) := Hrc.out.grow (Hmw.out.mono (by simp))
      have HBW : Hid (Below w.heap.size w wr) := (below_alloc (below_alloc (below_alloc (Below.refl _ _) _) _) _).trans (Hmw.out.mono (by omega))
      clear Hmf Hmb Hmo Hmw
      obtain ⟨r1, r2, r3⟩ := HR.out
      go_wp2_with fail
      refine HC.out.mono ?_
      rintro e w4 ⟨n, rfl, hn, hnp, hbw⟩
      have HN := Lib.hid (hnp.trans HV.out)
      obtain ⟨o4, d4, rfl⟩ := below_plus hbw
      clear hbw hnp HC
      go_wp2_with fail
      refine (rcanon_K n c hn HN.out _).mono ?_
      rintro e w5 ⟨rfl, hbw⟩
      obtain ⟨o5, d5, rfl⟩ := below_plus hbw
      clear hbw
      go_wp2_with fail
      refine bodyPost_ret (v := kv c) (results_key Try.results46 _ _ _ rfl (by go_simp; exact (HR.out.set (keyA c)).1) (by go_simp; exact (HR.out.set (keyA c)).2.1)) rfl ⟨rfl, ?_⟩
      exact below_more (below_setRow HBW.out (by omega) _) _ _

theorem pd_ge : ∀ i, i < 32 → 127 ≤ pd i := by decide +kernel
theorem sub_val {b k q v a : Nat} (hq : q = b / 256 ^ k % 256) (hle : q ≤ 4 * pd k) (h : v + b % 256 ^ k = a + 4 * (Fp.P % 256 ^ k)) : v + 256 ^ k * (4 * pd k - q) + b % 256 ^ (k + 1) = a + 4 * (Fp.P % 256 ^ (k + 1)) := by
  have h1 := pow_mul_bt b k
  have h2 := pow_mul_bt Fp.P k
  rw [← hq] at h1
  rw [show Fp.P / 256 ^ k % 256 = pd k from rfl] at h2
  have h3 := Nat.mul_le_mul_left (256 ^ k) hle
  rw [Nat.mul_sub]
  rw [Nat.mul_left_comm] at h3 ⊢
  generalize 256 ^ k * q = u at *
  generalize 256 ^ k * pd k = t at *
  omega
theorem sub_mod {v a b : Nat} (h : v + b = a + 4 * Fp.P) : v % Fp.P = (a % Fp.P + (Fp.P - b % Fp.P)) % Fp.P := by
  have ea := Nat.mod_add_div a Fp.P
  have eb := Nat.mod_add_div b Fp.P
  have hb := Nat.mod_lt b Fp.P_pos
  have e : v + Fp.P * (b / Fp.P) = a % Fp.P + (Fp.P - b % Fp.P) + Fp.P * (a / Fp.P + 3) := by rw [Nat.mul_add]; omega
  have := congrArg (· % Fp.P) e
  simpa [Nat.add_mul_mod_self_left] using this

set_option maxHeartbeats 600000 in
set_option maxRecDepth 100000 in
theorem rsub_K (a b c : Nat) (ha : a < 115792089237316195423570985008687907853269984665640564039457584007913129639936) (hb : b < 115792089237316195423570985008687907853269984665640564039457584007913129639936) (hc : (a % Fp.P + (Fp.P - b % Fp.P)) % Fp.P = c) (w : World) :
    Calls Try.prog 47 #[kv a, kv b] w fun e w' => e = .returned (kv c) ∧ Below w.heap.size w w' := by
  have hz : #[.int .u8 0, .int .u8 0, .int .u8 0, .int .u8 0, .int .u8 0, .int .u8 0, .int .u8 0, .int .u8 0, .int .u8 0, .int .u8 0, .int .u8 0, .int .u8 0, .int .u8 0, .int .u8 0, .int .u8 0, .int .u8 0, .int .u8 0, .int .u8 0, .int .u8 0, .int .u8 0, .int .u8 0, .int .u8 0, .int .u8 0, .int .u8 0, .int .u8 0, .int .u8 0, .int .u8 0, .int .u8 0, .int .u8 0, .int .u8 0, .int .u8 0, .int .u8 0] = keyA 0 := keyA_small 0 (by decide)
  have Hc := Lib.hid hc
  have Ha := Lib.hid (dg_whole a ha)
  have HB := Lib.hid hb
  have HD := Lib.hid (fun w => digits_N a w)
  clear hc ha hb
  have Hrb : Hid (RowAt (((w.alloc (.cells (keyA a) 23)).alloc (.cells (keyA b) 23)).alloc (.cells (keyA 0) 23)) (w.heap.size + 1) (keyA b)) := ⟨by go_simp, by go_simp, by go_simp⟩
  have Hrc : Hid (RowAt (((w.alloc (.cells (keyA a) 23)).alloc (.cells (keyA b) 23)).alloc (.cells (keyA 0) 23)) (w.heap.size + 1 + 1) (keyA 0)) := ⟨by go_simp, by go_simp, by go_simp⟩
  go_enter Try.func47, Try.ntmps47
  go_wp2_with fail
  refine (HD.out _).mono ?_
  rintro e w1 ⟨v, rfl, hown, hbel⟩
  have hb1 : Below (w.heap.size + 3) (((w.alloc (.cells (keyA a) 23)).alloc (.cells (keyA b) 23)).alloc (.cells (keyA 0) 23)) w1 := hbel.mono (by simp)
  have ho1 : Own w1 (w.heap.size + 3) v (dg a 32) := hown.mono (by simp)
  have had := ho1.addr (by rw [dg_length]; decide)
  rw [dg_length] at had
  obtain ⟨gx, capx, rfl, hx1, hx2, _⟩ := had
  have Ho1 := Lib.hid ho1
  have Hb1 := Lib.hid hb1
  clear hown hbel HD hb1 ho1
  go_wp2_with fail
  go_loopw [6] (fun i wi => ∃ (k : Nat) (m : List Nat), k ≤ 32 ∧ i = .int .i64 k ∧ m.length = 32 ∧ ofBytes m + b % 256 ^ k = a + 4 * (Fp.P % 256 ^ k) ∧ (∀ x, m.getD x 0 ≤ lim2 1020 k x) ∧
    Own wi (w.heap.size + 3) (.slice (some ⟨gx, 0, none⟩) 32 capx) m ∧ Below (w.heap.size + 3) (((w.alloc (.cells (keyA a) 23)).alloc (.cells (keyA b) 23)).alloc (.cells (keyA 0) 23)) wi) (fun i _ => 32 - (intOf i).toNat)
  case atStart => exact ⟨0, _, by decide, rfl, dg_length _ _, by rw [Ha.out, Nat.pow_zero, Nat.mod_one, Nat.mod_one], fun x => Nat.le_trans (dg_most a 32 x) (by unfold lim2; omega), Ho1.out, Hb1.out⟩
  case round =>
    clear Ho1 Hb1 hx2
    obtain ⟨k, m, hk, rfl, hml, hmf, hmb, hmo, hmw⟩ := hrel
    have hszi := hmw.size
    have hszi : w.heap.size + 3 ≤ wr.heap.size := by simpa using hszi
    have hx2 := (Own.lt hmo).2
    have Hml := Lib.hid hml
    have Hmf := Lib.hid hmf
    have Hmb := Lib.hid hmb
    have Hmo := Lib.hid hmo
    have Hmw := Lib.hid hmw
    clear hml hmf hmb hmo hmw
    by_cases hk32 : k < 32
    · obtain ⟨y, ey⟩ : ∃ y, y = m.getD k 0 := ⟨_, rfl⟩
      have hcy : wr.cell? ⟨gx, k, none⟩ = some (.int .i64 (y : Int)) := by rw [Own.cellOf Hmo.out Hml.out k hk32, ey]
      have hfy := Own.free Hmo.out Hml.out k
      have hy : y ≤ 1275 := by rw [ey]; exact Nat.le_trans (Hmb.out k) (lim2_most _ k k)
      obtain ⟨q, eq⟩ : ∃ q, q = b / 256 ^ k % 256 := ⟨_, rfl⟩
      have hq : q ≤ 255 := by omega
      have ebt : bt b k = (q : Int) := by rw [eq]; rfl
      have hcb : wr.cell? ⟨w.heap.size + 1, k, none⟩ = some (.int .u8 (q : Int)) := by
        rw [RowAt.cell (Hrb.out.grow (Hmw.out.mono (by simp))) k, keyA_get b k hk32, ebt]
      have hB1 : w.heap.size + 1 < wr.heap.size := by omega
      have hwq : IntKind.i64.wrap (q : Int) = (q : Int) := IntWalk.i64_in _ (by omega)
      have hpd := pd_lt k
      have hpg := pd_ge k hk32
      obtain ⟨f, ef⟩ : ∃ f, f = 4 * pd k := ⟨_, rfl⟩
      obtain ⟨t, et⟩ : ∃ t, t = y + f := ⟨_, rfl⟩
      obtain ⟨s, es⟩ : ∃ s, s = y + (4 * pd k - q) := ⟨_, rfl⟩
      have hf : IntKind.i64.wrap (4 * ((pd k : Nat) : Int)) = (f : Int) := by rw [IntWalk.i64_in _ (by omega)]; omega
      have ht : IntKind.i64.wrap ((y : Int) + (f : Int)) = (t : Int) := by rw [IntWalk.i64_in _ (by omega)]; omega
      have hs : IntKind.i64.wrap ((t : Int) - (q : Int)) = (s : Int) := by rw [IntWalk.i64_in _ (by omega)]; omega
      have hk0 : (0 : Int) ≤ (k : Int) := by omega
      have hk1 : (k : Int) < 32 := by omega
      have R := add_step (y := 4 * pd k - q) hk32 (by omega) Hml.out Hmb.out
      rw [← ey, ← es] at R
      have HR := Lib.hid R
      have HV : Hid (ofBytes m + 256 ^ k * (4 * pd k - q) + b % 256 ^ (k + 1) = a + 4 * (Fp.P % 256 ^ (k + 1))) := sub_val eq (by omega) Hmf.out
      clear ef et hpd hpg
      clear R es ey eq ebt Hmb Hmf
      go_wp2_with fail
      refine wp_region_lays wr 16 [] (by kernel_rfl) (by kernel_rfl) ((Below.refl _ _).drew) ?_
      simp only [List.take_succ_cons, List.take_zero, List.drop_succ_cons, List.drop_zero, List.length_nil, Nat.reduceAdd]
      iterate 7 (refine wpHoldB_val (wanted_none rfl) (by intro K o d hK; go_simp; exact hK _ (Below.refl _ _)) ?_)
      refine wpHoldB_call (v := .int .i64 (pd k)) (wanted_none rfl) (by intro K o d hK; go_simp; refine (rprime_B k hk32 _).mono ?_; rintro e w' ⟨rfl, hbw⟩; exact ⟨_, rfl, hK _ hbw⟩) ?_
      iterate 8 (refine wpHoldB_val (wanted_none rfl) (by intro K o d hK; go_simp; exact hK _ (Below.refl _ _)) ?_)
      refine wpHoldB_nil ?_
      intro w3 hb3 _
      obtain ⟨o3, d3, rfl⟩ := below_plus hb3
      clear hb3
      go_wp2_with fail
      go_roundw
      case rel => exact ⟨k + 1, _, by omega, by go_num, HR.out.1, (by rw [HR.out.2.1]; exact HV.out), HR.out.2.2, Own.stores Hmo.out Hml.out _ _ _ _, below_store Hmw.out hszi _ _ _ hx1 _ _⟩
      case measure => simp [intOf]; omega
    · obtain rfl : k = 32 := by omega
      have HC := Lib.hid (carriedL m 32 gx capx wr Hml.out (by decide) (by decide) (fun i => Nat.le_trans (Hmb.out i) (Nat.le_trans (lim2_most _ _ _) (by decide))) (Hmo.out.mono (Nat.zero_le _)))
      have HV : Hid (ofBytes m % Fp.P = c) := by
        show _ = _
        have h1 := Hmf.out
        rw [Nat.mod_eq_of_lt (a := b) (by simpa using HB.out), Nat.mod_eq_of_lt (a := Fp.P) (by decide +kernel)] at h1
        rw [sub_mod h1, Hc.out]
      have HR : Hid (RowAt wr (w.heap.size + 1 + 1) (keyA 0)) := Hrc.out.grow (Hmw.out.mono (by simp))
      have HBW : Hid (Below w.heap.size w wr) := (below_alloc (below_alloc (below_alloc (Below.refl _ _) _) _) _).trans (Hmw.out.mono (by omega))
      clear Hmf Hmb Hmo Hmw
      obtain ⟨r1, r2, r3⟩ := HR.out
      go_wp2_with fail
      refine HC.out.mono ?_
      rintro e w4 ⟨n, rfl, hn, hnp, hbw⟩
      have HN := Lib.hid (hnp.trans HV.out)
      obtain ⟨o4, d4, rfl⟩ := below_plus hbw
      clear hbw hnp HC
      go_wp2_with fail
      refine (rcanon_K n c hn HN.out _).mono ?_
      rintro e w5 ⟨rfl, hbw⟩
      obtain ⟨o5, d5, rfl⟩ := below_plus hbw
      clear hbw
      go_wp2_with fail
      refine bodyPost_ret (v := kv c) (results_key Try.results47 _ _ _ rfl (by go_simp; exact (HR.out.set (keyA c)).1) (by go_simp; exact (HR.out.set (keyA c)).2.1)) rfl ⟨rfl, ?_⟩
      exact below_more (below_setRow HBW.out (by omega) _) _ _
end Go.Proofs.Ytpilonikhokjeaa
