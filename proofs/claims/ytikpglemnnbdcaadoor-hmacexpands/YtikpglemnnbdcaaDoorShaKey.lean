/-
  Package sha: the words as bytes; a block's end.
-/
import Derived.Test.YtikpglemnnbdcaaDoorShaRows
namespace Go.Proofs.YtikpglemnnbdcaaDoor
open Go.RowKit Go.Hold Go.Sh

theorem cast_tmod (k : Nat) : (k : Int).tmod 4 = ((k % 4 : Nat) : Int) := rfl
set_option maxHeartbeats 1000000 in
set_option maxRecDepth 100000 in
theorem key_c (s : St) (w : World) :
    Calls Tryd.prog 37 #[.agg (stA s)] w fun e w' => e = .returned (.agg (keA s)) ∧ Below w.heap.size w w' := by
  go_enter Tryd.func37, Tryd.ntmps37
  go_wp2_with fail
  generalize hW : World.alloc _ _ = W1
  have R0 := Lib.hid (show RowAt W1 w.heap.size (stA s) by rw [← hW]; clear hW; exact ⟨by go_simp, by go_simp, by go_simp⟩)
  have Q0 := Lib.hid (show RowAt W1 (w.heap.size + 1) (byI (keyZ s 0)) by rw [← hW]; clear hW; exact ⟨by go_simp, by go_simp; rfl, by go_simp⟩)
  have K0 := Lib.hid (show RowAt W1 (w.heap.size + 1 + 1) (byI (keyZ s 0)) by rw [← hW]; clear hW; exact ⟨by go_simp, by go_simp; rfl, by go_simp⟩)
  have B0 := Lib.hid (show Below w.heap.size w W1 by rw [← hW]; repeat (first | apply below_more | apply below_alloc | apply Below.drew | exact Below.refl _ _))
  clear hW
  go_loopw [5] (fun i wr => ∃ k : Nat, k ≤ 32 ∧ i = .int .i64 k ∧ RowAt wr (w.heap.size + 1 + 1) (byI (keyZ s k)) ∧ Below (w.heap.size + 1 + 1) W1 wr) (fun i _ => 32 - (intOf i).toNat)
  case atStart => exact ⟨0, by decide, rfl, K0.out, Below.refl _ _⟩
  case round =>
    obtain ⟨k, hk, rfl, hrow, hbel⟩ := hrel
    by_cases hk32 : k < 32
    · have hk0 : (0 : Int) ≤ (k : Int) := by omega
      have hk1 : (k : Int) < 32 := by omega
      have hq : (k : Int).tdiv 4 = ((k / 4 : Nat) : Int) := rfl
      have hm := cast_tmod k
      have hc := (R0.out.keep hbel (by omega)).cellAt (k / 4) (stA_get s (k / 4) (by omega))
      have hck := hrow.cellAt k (byI_get _ _ (keyZ_get s k k hk32))
      have hfk := hrow.frozenAt k
      have Hset := Lib.hid (keyZ_set s k hk32)
      have h0 : (0 : Int) ≤ ((k / 4 : Nat) : Int) := by omega
      have h8 : ((k / 4 : Nat) : Int) < 8 := by omega
      obtain ⟨m, em⟩ : ∃ y, y = k % 4 * 8 := ⟨_, rfl⟩
      obtain ⟨y, ey⟩ : ∃ y, y = 24 - k % 4 * 8 := ⟨_, rfl⟩
      have h1 : IntKind.i64.wrap (((k % 4 : Nat) : Int) * 8) = (m : Int) := by rw [IntWalk.i64_in _ (by omega)]; omega
      have h2 : IntKind.i64.wrap (24 - (m : Int)) = (y : Int) := by rw [IntWalk.i64_in _ (by omega)]; omega
      have hy0 : (0 : Int) ≤ (y : Int) := by omega
      have hy1 : (y : Int) ≤ 32 := by omega
      obtain ⟨v, ev⟩ : ∃ v, v = sByte s k := ⟨_, rfl⟩
      rw [← ev] at Hset
      unfold sByte at ev
      rw [← ey] at ev
      have hv := ev.symm
      clear em ey ev
      generalize sWord s (k / 4) = x at hc hv
      generalize k / 4 = q at *
      generalize k % 4 = r4 at *
      have Hrow := Lib.hid hrow
      have Hbel := Lib.hid hbel
      clear hrow hbel
      go_wp2_with fail
      go_roundw
      case rel =>
        refine ⟨k + 1, by omega, by go_num, ?_, ?_⟩
        · rw [← Hset.out, ← byI_set]; exact Hrow.out.setCell _ _
        · exact Hbel.out.setCell (p := ⟨_, _, none⟩) (Nat.le_refl _) _
      case measure => simp [intOf]; omega
    · obtain rfl : k = 32 := by omega
      rw [keyZ_all] at hrow
      have hr : RowAt wr (w.heap.size + 1 + 1) (keA s) := hrow
      obtain ⟨q1, q2, q3⟩ := Q0.out.keep hbel (by omega)
      obtain ⟨r1, r2, r3⟩ := hr
      have hz : (byI (keyZ s 0)).size = 32 := by rw [byI_size, keyZ_length]
      have Hbel := Lib.hid hbel
      clear hrow hbel
      go_wp2_with fail
      refine bodyPost_ret (v := .agg (keA s)) (results_key Tryd.results37 (keA_size s) _ _ _ rfl (by go_simp) (by go_simp)) rfl ⟨rfl, ?_⟩
      exact below_setRow (B0.out.trans (Hbel.out.mono (by omega))) (by omega) _

set_option maxHeartbeats 1000000 in
set_option maxRecDepth 100000 in
theorem putLength_c (g n : Nat) (r : List Nat) (hr : r.length = 64) (hn : n < 1152921504606846976) (w : World) (h : RowAt w g (bysA r)) :
    Calls Tryd.prog 36 #[.pointer (some ⟨g, 0, none⟩), .int .i64 (n : Int)] w fun e w' => e = .returned (.tuple #[]) ∧ w' = w.setRow g (bysA (r.take 56 ++ len8 n)) := by
  have H := Lib.hid h
  have h1 : IntKind.u64.wrap (n : Int) = (n : Int) := by rw [IntWalk.u64_in _ (by omega)]
  obtain ⟨N, eN⟩ : ∃ N, N = n * 8 := ⟨_, rfl⟩
  have h2 : IntKind.u64.wrap ((n : Int) * 8) = (N : Int) := by rw [IntWalk.u64_in _ (by omega), eN]; omega
  have HN := Lib.hid eN
  clear h eN
  go_enter Tryd.func36, Tryd.ntmps36
  go_wp2_with fail
  go_loopw [4, 5] (fun x i wr => ∃ (j : Nat) (k : Nat), j ≤ 8 ∧ k + j = 63 ∧ i = .int .i64 k ∧ x = .int .u64 ((N / 256 ^ j : Nat) : Int) ∧ wr = w.setRow g (bysA (lenP r n j))) (fun _ i _ => (intOf i).toNat)
  case atStart => exact ⟨0, 63, by decide, rfl, rfl, by simp, by rw [lenP_zero r n hr]; exact (setRow_self H.out).symm⟩
  case round =>
    obtain ⟨j, k, hj, hkj, rfl, rfl, rfl⟩ := hrel
    by_cases hj8 : j < 8
    · obtain ⟨x, ex⟩ : ∃ x, x = N / 256 ^ j := ⟨_, rfl⟩
      rw [← ex]
      obtain ⟨y, ey⟩ : ∃ y, y = x % 256 := ⟨_, rfl⟩
      obtain ⟨z, ez⟩ : ∃ z, z = x / 256 := ⟨_, rfl⟩
      have hxy : (x : Int) % 256 = (y : Int) := by omega
      have hxz : (x : Int) / 256 = (z : Int) := by omega
      have hk0 : (56 : Int) ≤ (k : Int) := by omega
      have hk1 : (k : Int) < 64 := by omega
      have hk2 : (0 : Int) ≤ (k : Int) := by omega
      have RR := H.out.set (bysA (lenP r n j))
      have hck := RR.cellAt k (bysA_get _ k (by rw [lenP_length]; omega))
      have hfk := RR.frozenAt k
      have Hset := Lib.hid (show (bysA (lenP r n j)).setIfInBounds k (.int .u8 (y : Int)) = bysA (lenP r n (j + 1)) by
        rw [bysA_set, ← lenP_set r n j hj8, ey, ex, HN.out, show 63 - j = k by omega])
      have Hz := Lib.hid (show z = N / 256 ^ (j + 1) by rw [ez, ex, Nat.pow_succ, Nat.div_div_eq_div_mul])
      clear ex ey ez RR
      generalize hW : w.setRow g (bysA (lenP r n j)) = W at *
      have HW := Lib.hid hW
      clear hW
      go_wp2_with fail
      go_roundw
      case rel =>
        refine ⟨j + 1, k - 1, by omega, by omega, by congr 1; omega, by rw [Hz.out], ?_⟩
        rw [← HW.out, setCell_setRow H.out, Hset.out]
      case measure => simp [intOf]; omega
    · obtain rfl : j = 8 := by omega
      obtain rfl : k = 55 := by omega
      rw [lenP_all r n hr]
      go_wp2_with fail
      go_end0
      exact ⟨rfl, rfl⟩
end Go.Proofs.YtikpglemnnbdcaaDoor
