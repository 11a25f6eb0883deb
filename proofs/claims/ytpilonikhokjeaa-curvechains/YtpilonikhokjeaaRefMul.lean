/-
  The reference's Mul.
-/
import Derived.Test.YtpilonikhokjeaaRefAdd
namespace Go.Proofs.Ytpilonikhokjeaa
open Go.RowKit Go.Shelf Go.Hold

/-- How great a digit may have become behind i rows, and the next one's first steps. -/
def lim3 (i j x : Nat) : Nat := 65025 * i + if x < j then 65025 else 0
theorem lim3_mono (i j x : Nat) : lim3 i j x ≤ lim3 i (j + 1) x := by
  unfold lim3; by_cases h : x < j <;> simp [h, show x < j → x < j + 1 by omega]
theorem lim3_at (i j : Nat) : lim3 i j j = 65025 * i ∧ lim3 i (j + 1) j = 65025 * i + 65025 := by unfold lim3; simp
theorem lim3_most (i j x : Nat) : lim3 i j x ≤ 65025 * (i + 1) := by unfold lim3; split <;> omega
theorem mul_step {m : List Nat} {i j z : Nat} (hj : j < 64) (hz : z ≤ 65025) (hm : m.length = 64) (hb : ∀ x, m.getD x 0 ≤ lim3 i j x) :
    (m.set j (m.getD j 0 + z)).length = 64 ∧ ofBytes (m.set j (m.getD j 0 + z)) = ofBytes m + 256 ^ j * z ∧ ∀ x, (m.set j (m.getD j 0 + z)).getD x 0 ≤ lim3 i (j + 1) x := by
  refine ⟨by rw [List.length_set, hm], ofBytes_set m j z (by omega), fun x => ?_⟩
  rw [getD_set m j _ x (by omega)]
  split
  · rename_i h; subst h
    have := hb x; rw [(lim3_at i x).1] at this; rw [(lim3_at i x).2]; omega
  · exact Nat.le_trans (hb x) (lim3_mono i j x)
theorem mul_val (u p q b i k : Nat) (hq : q = b / 256 ^ k % 256) : u + 256 ^ i * (p * (b % 256 ^ k)) + 256 ^ (i + k) * (p * q) = u + 256 ^ i * (p * (b % 256 ^ (k + 1))) := by
  rw [mod_step b k, ← hq, Nat.mul_add, Nat.mul_add, Nat.pow_add, Nat.add_assoc]
  congr 2
  rw [Nat.mul_assoc]
  congr 1
  rw [Nat.mul_left_comm, Nat.mul_comm (256 ^ k) q]
theorem mul_row (a b i p : Nat) (hp : p = a / 256 ^ i % 256) (hb : b < 115792089237316195423570985008687907853269984665640564039457584007913129639936) : a % 256 ^ i * b + 256 ^ i * (p * (b % 256 ^ 32)) = a % 256 ^ (i + 1) * b := by
  rw [Nat.mod_eq_of_lt (a := b) (by simpa using hb), mod_step a i, ← hp, Nat.add_mul, Nat.mul_comm p (256 ^ i), Nat.mul_assoc]
theorem zeros64 : ofBytes (List.replicate 64 0) = 0 := by decide
theorem zeros_getD (n x : Nat) : (List.replicate n 0).getD x 0 = 0 := by
  rw [List.getD_eq_getElem?_getD, List.getElem?_replicate]; split <;> simp

set_option maxHeartbeats 1000000 in
set_option maxRecDepth 100000 in
theorem rmul_K (a b c : Nat) (ha : a < 115792089237316195423570985008687907853269984665640564039457584007913129639936) (hb : b < 115792089237316195423570985008687907853269984665640564039457584007913129639936) (hc : a * b % Fp.P = c) (w : World) :
    Calls Try.prog 35 #[kv a, kv b] w fun e w' => e = .returned (kv c) ∧ Below w.heap.size w w' := by
  obtain ⟨i0, hi, hz0, hz1, hz2⟩ := info_parts info_int
  have hz : #[.int .u8 0, .int .u8 0, .int .u8 0, .int .u8 0, .int .u8 0, .int .u8 0, .int .u8 0, .int .u8 0, .int .u8 0, .int .u8 0, .int .u8 0, .int .u8 0, .int .u8 0, .int .u8 0, .int .u8 0, .int .u8 0, .int .u8 0, .int .u8 0, .int .u8 0, .int .u8 0, .int .u8 0, .int .u8 0, .int .u8 0, .int .u8 0, .int .u8 0, .int .u8 0, .int .u8 0, .int .u8 0, .int .u8 0, .int .u8 0, .int .u8 0, .int .u8 0] = keyA 0 := keyA_small 0 (by decide)
  have Hc := Lib.hid hc
  have HA := Lib.hid ha
  have HB := Lib.hid hb
  clear hc ha hb
  have Hra : Hid (RowAt (((w.alloc (.cells (keyA a) 23)).alloc (.cells (keyA b) 23)).alloc (.cells (keyA 0) 23)) w.heap.size (keyA a)) := ⟨by go_simp, by go_simp, by go_simp⟩
  have Hrb : Hid (RowAt (((w.alloc (.cells (keyA a) 23)).alloc (.cells (keyA b) 23)).alloc (.cells (keyA 0) 23)) (w.heap.size + 1) (keyA b)) := ⟨by go_simp, by go_simp, by go_simp⟩
  have Hrc : Hid (RowAt (((w.alloc (.cells (keyA a) 23)).alloc (.cells (keyA b) 23)).alloc (.cells (keyA 0) 23)) (w.heap.size + 1 + 1) (keyA 0)) := ⟨by go_simp, by go_simp, by go_simp⟩
  go_enter Try.func35, Try.ntmps35
  go_wp2_with (at_make; refine wpList_make_full _ rfl _ _ 62 rfl (w.heap.size + 3) 3 i0 (.int .i64 0) 1 Try.underlying62 hi hz0 hz1 .i64 .i64 64 64 64 rfl rfl rfl rfl (by rw [hz2]; decide) (by decide) (by simp) ?_)
  intro w2 hown2 hgrow2
  obtain ⟨gx, hgx⟩ : ∃ g, g = w.heap.size + 1 + 1 + 1 := ⟨_, rfl⟩
  rw [← hgx] at hown2 ⊢
  have hx1 : w.heap.size + 3 ≤ gx := by omega
  have Ho0 : Own w2 gx (.slice (some ⟨gx, 0, none⟩) 64 64) (List.replicate 64 0) := by
    unfold Own
    rw [ints_zeros, List.length_replicate]
    rw [toList_madeCells_one] at hown2
    exact hown2
  have Ho1 := Lib.hid (Ho0.mono hx1)
  have Hb1 : Hid (Below (w.heap.size + 3) (((w.alloc (.cells (keyA a) 23)).alloc (.cells (keyA b) 23)).alloc (.cells (keyA 0) 23)) w2) := (Below.refl _ _).grown hgrow2 (by simp) (fun k hk => by cases hk)
  clear hown2 hgrow2 hgx Ho0
  go_wp2_with fail
  go_loopw [6] (fun v wi => ∃ (i : Nat) (m : List Nat), i ≤ 32 ∧ v = .int .i64 i ∧ m.length = 64 ∧ ofBytes m = a % 256 ^ i * b ∧ (∀ x, m.getD x 0 ≤ 65025 * i) ∧
    Own wi (w.heap.size + 3) (.slice (some ⟨gx, 0, none⟩) 64 64) m ∧ Below (w.heap.size + 3) (((w.alloc (.cells (keyA a) 23)).alloc (.cells (keyA b) 23)).alloc (.cells (keyA 0) 23)) wi) (fun v _ => 32 - (intOf v).toNat)
  case atStart => exact ⟨0, _, by decide, rfl, by simp, by rw [zeros64, Nat.pow_zero, Nat.mod_one, Nat.zero_mul], fun x => by rw [zeros_getD]; exact Nat.zero_le _, Ho1.out, Hb1.out⟩
  case round =>
    clear Ho1 Hb1
    obtain ⟨i, m0, hi32, rfl, hml, hmf, hmb, hmo, hmw⟩ := hrel
    have Hml0 := Lib.hid hml
    have Hmf0 := Lib.hid hmf
    have Hmb0 := Lib.hid hmb
    have Hmo0 := Lib.hid hmo
    have Hmw0 := Lib.hid hmw
    clear hml hmf hmb hmo hmw
    by_cases hilt : i < 32
    · obtain ⟨p, ep⟩ : ∃ p, p = a / 256 ^ i % 256 := ⟨_, rfl⟩
      have hp : p ≤ 255 := by omega
      have ebp : bt a i = (p : Int) := by rw [ep]; rfl
      have hwp : IntKind.i64.wrap (p : Int) = (p : Int) := IntWalk.i64_in _ (by omega)
      have Hep := Lib.hid ep
      have Hebp := Lib.hid ebp
      clear ep ebp
      have hi0 : (0 : Int) ≤ (i : Int) := by omega
      have hi1 : (i : Int) < 32 := by omega
      go_wp2_with fail
      go_loopw [7] (fun v wi => ∃ (k : Nat) (m : List Nat), k ≤ 32 ∧ v = .int .i64 k ∧ m.length = 64 ∧ ofBytes m = a % 256 ^ i * b + 256 ^ i * (p * (b % 256 ^ k)) ∧ (∀ x, m.getD x 0 ≤ lim3 i (i + k) x) ∧
        Own wi (w.heap.size + 3) (.slice (some ⟨gx, 0, none⟩) 64 64) m ∧ Below (w.heap.size + 3) (((w.alloc (.cells (keyA a) 23)).alloc (.cells (keyA b) 23)).alloc (.cells (keyA 0) 23)) wi) (fun v _ => 32 - (intOf v).toNat)
      case atStart => exact ⟨0, _, by decide, rfl, Hml0.out, by rw [Hmf0.out, Nat.pow_zero, Nat.mod_one, Nat.mul_zero, Nat.mul_zero, Nat.add_zero], fun x => Nat.le_trans (Hmb0.out x) (by unfold lim3; omega), Hmo0.out, Hmw0.out⟩
      case round =>
        clear Hml0 Hmf0 Hmb0 Hmo0 Hmw0
        obtain ⟨k, m, hk, rfl, hml, hmf, hmb, hmo, hmw⟩ := hrel
        have hszi := hmw.size
        have hszi : w.heap.size + 3 ≤ wr.heap.size := by simpa using hszi
        have hx2 := (Own.lt hmo).2
        have Hml := Lib.hid hml
        have Hmf := Lib.hid hmf
        have Hmb := Lib.hid hmb
        have Hmo := Lib.hid hmo
        have Hmw := Lib.hid hmw
        clear hml hmf hmb hmo hmw
        by_cases hk32 : k < 32
        · obtain ⟨j, ej⟩ : ∃ j, j = i + k := ⟨_, rfl⟩
          have hj64 : j < 64 := by omega
          obtain ⟨y, ey⟩ : ∃ y, y = m.getD j 0 := ⟨_, rfl⟩
          have hcy : wr.cell? ⟨gx, j, none⟩ = some (.int .i64 (y : Int)) := by rw [Own.cellOf Hmo.out Hml.out j hj64, ey]
          have hfy := Own.free Hmo.out Hml.out j
          have hy : y ≤ 2145825 := by rw [ey]; exact Nat.le_trans (Hmb.out j) (Nat.le_trans (lim3_most _ _ _) (by omega))
          obtain ⟨q, eq⟩ : ∃ q, q = b / 256 ^ k % 256 := ⟨_, rfl⟩
          have hq : q ≤ 255 := by omega
          have ebt : bt b k = (q : Int) := by rw [eq]; rfl
          have hca : wr.cell? ⟨w.heap.size, i, none⟩ = some (.int .u8 (p : Int)) := by
            rw [RowAt.cell (Hra.out.grow (Hmw.out.mono (by simp))) i, keyA_get a i hilt, Hebp.out]
          have hcb : wr.cell? ⟨w.heap.size + 1, k, none⟩ = some (.int .u8 (q : Int)) := by
            rw [RowAt.cell (Hrb.out.grow (Hmw.out.mono (by simp))) k, keyA_get b k hk32, ebt]
          have hB0 : w.heap.size < wr.heap.size := by omega
          have hB1 : w.heap.size + 1 < wr.heap.size := by omega
          have hwq : IntKind.i64.wrap (q : Int) = (q : Int) := IntWalk.i64_in _ (by omega)
          obtain ⟨z, ez⟩ : ∃ z, z = p * q := ⟨_, rfl⟩
          have hzq : z ≤ 65025 := by rw [ez]; exact Nat.mul_le_mul hp hq
          have hzz : IntKind.i64.wrap ((p : Int) * (q : Int)) = (z : Int) := by rw [show (p : Int) * (q : Int) = (z : Int) by rw [ez, Int.natCast_mul], IntWalk.i64_in _ (by omega)]
          obtain ⟨s, es⟩ : ∃ s, s = y + z := ⟨_, rfl⟩
          have hs : IntKind.i64.wrap ((y : Int) + (z : Int)) = (s : Int) := by rw [IntWalk.i64_in _ (by omega)]; omega
          have hj1 : IntKind.i64.wrap (j : Int) = (j : Int) := IntWalk.i64_in _ (by omega)
          have hj2 : (i : Int) + (k : Int) = (j : Int) := by omega
          have hj3 : (0 : Int) ≤ (j : Int) := by omega
          have hj4 : (j : Int) < 64 := by omega
          have hk0 : (0 : Int) ≤ (k : Int) := by omega
          have hk1 : (k : Int) < 32 := by omega
          have R := mul_step (i := i) (z := z) hj64 hzq Hml.out (by rw [ej]; exact Hmb.out)
          rw [← ey, ← es] at R
          have HR := Lib.hid R
          have HV : Hid (ofBytes m + 256 ^ j * z = a % 256 ^ i * b + 256 ^ i * (p * (b % 256 ^ (k + 1)))) := by
            show _ = _
            rw [Hmf.out, ej, ez]; exact mul_val _ p q b i k eq
          have Hej : Hid (i + (k + 1) = j + 1) := by show _ = _; omega
          clear R es ey eq ebt ez ej Hmb Hmf hzq hp hq
          go_wp2_with fail
          refine wp_region_lays wr 21 [] (by kernel_rfl) (by kernel_rfl) ((Below.refl _ _).drew) ?_
          simp only [List.take_succ_cons, List.take_zero, List.drop_succ_cons, List.drop_zero, List.length_nil, Nat.reduceAdd]
          iterate 21 (refine wpHoldB_val (wanted_none rfl) (by intro K o d hK; go_simp; exact hK _ (Below.refl _ _)) ?_)
          refine wpHoldB_nil ?_
          intro w3 hb3 _
          obtain ⟨o3, d3, rfl⟩ := below_plus hb3
          clear hb3
          go_wp2_with fail
          go_roundw
          case rel => exact ⟨k + 1, _, by omega, by go_num, HR.out.1, HR.out.2.1.trans HV.out, by rw [Hej.out]; exact HR.out.2.2, Own.stores Hmo.out Hml.out _ _ _ _, below_store Hmw.out hszi _ _ _ hx1 _ _⟩
          case measure => simp [intOf]; omega
        · obtain rfl : k = 32 := by omega
          have HV : Hid (ofBytes m = a % 256 ^ (i + 1) * b) := Hmf.out.trans (mul_row a b i p Hep.out HB.out)
          clear Hmf
          go_wp2_with fail
          go_roundw
          case rel => exact ⟨i + 1, m, by omega, by go_num, Hml.out, HV.out, fun x => Nat.le_trans (Hmb.out x) (lim3_most _ _ _), Hmo.out, Hmw.out⟩
          case measure => simp [intOf]; omega
    · obtain rfl : i = 32 := by omega
      have hszi := Hmw0.out.size
      have hszi : w.heap.size + 3 ≤ wr.heap.size := by simpa using hszi
      have HC := Lib.hid (carriedL m0 64 gx 64 wr Hml0.out (by decide) (by decide) (fun x => Nat.le_trans (Hmb0.out x) (by decide)) (Hmo0.out.mono (Nat.zero_le _)))
      have HV : Hid (ofBytes m0 % Fp.P = c) := by
        show _ = _
        rw [Hmf0.out, Nat.mod_eq_of_lt (a := a) (by simpa using HA.out), Hc.out]
      have HR : Hid (RowAt wr (w.heap.size + 1 + 1) (keyA 0)) := Hrc.out.grow (Hmw0.out.mono (by simp))
      have HBW : Hid (Below w.heap.size w wr) := (below_alloc (below_alloc (below_alloc (Below.refl _ _) _) _) _).trans (Hmw0.out.mono (by omega))
      clear Hml0 Hmf0 Hmb0 Hmo0 Hmw0
      obtain ⟨r1, r2, r3⟩ := HR.out
      go_wp2_with fail
      refine HC.out.mono ?_
      rintro e w4 ⟨n, rfl, hn, hnp, hbw⟩
      have HN := Lib.hid (hnp.trans HV.out)
      obtain ⟨o4, d4, rfl⟩ := below_plus hbw
      clear hbw hnp HC
      go_wp2_with fail
      refine (rcanon_K n c hn HN.out _).mono ?_
      rintro e w5 ⟨rfl, hbw⟩
      obtain ⟨o5, d5, rfl⟩ := below_plus hbw
      clear hbw
      go_wp2_with fail
      refine bodyPost_ret (v := kv c) (results_key Try.results35 _ _ _ rfl (by go_simp; exact (HR.out.set (keyA c)).1) (by go_simp; exact (HR.out.set (keyA c)).2.1)) rfl ⟨rfl, ?_⟩
      exact below_more (below_setRow HBW.out (by omega) _) _ _
end Go.Proofs.Ytpilonikhokjeaa
