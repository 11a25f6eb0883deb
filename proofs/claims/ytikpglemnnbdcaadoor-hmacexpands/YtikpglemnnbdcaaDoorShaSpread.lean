/-
  Package sha: spread tells a block's words, and those that follow.
-/
import Derived.Test.YtikpglemnnbdcaaDoorShaRows
namespace Go.Proofs.YtikpglemnnbdcaaDoor
open Go.RowKit Go.Hold Go.Sh

set_option maxHeartbeats 1000000 in
set_option maxRecDepth 100000 in
theorem spread_c (b : List Nat) (hl : b.length = 64) (hb : ∀ i, b.getD i 0 < 256) (w : World) :
    Calls Tryd.prog 41 #[.agg (bysA b)] w fun e w' => e = .returned (.agg (wosA (sch b))) ∧ Below w.heap.size w w' := by
  have hs : (bysA b).size = 64 := by rw [bysA_size, hl]
  go_enter Tryd.func41, Tryd.ntmps41
  go_wp2_with fail
  generalize hW : World.alloc _ _ = W1
  have R0 := Lib.hid (show RowAt W1 (w.heap.size + 1 + 1) (wosA (wpart b 0)) by rw [← hW, wpart_zero]; clear hW; exact ⟨by go_simp, by go_simp; rfl, by go_simp⟩)
  have Q0 := Lib.hid (show RowAt W1 (w.heap.size + 1) (wosA (wpart b 0)) by rw [← hW, wpart_zero]; clear hW; exact ⟨by go_simp, by go_simp; rfl, by go_simp⟩)
  have B0 := Lib.hid (show Below w.heap.size w W1 by rw [← hW]; repeat (first | apply below_more | apply below_alloc | apply Below.drew | exact Below.refl _ _))
  have z0 := B0.out.size
  clear hW
  go_loopw [8] (fun i wr => ∃ k : Nat, k ≤ 64 ∧ i = .int .i64 k ∧ RowAt wr (w.heap.size + 1 + 1) (wosA (wpart b k)) ∧ Below (w.heap.size + 1 + 1) W1 wr) (fun i _ => 64 - (intOf i).toNat)
  case atStart => exact ⟨0, by decide, rfl, R0.out, Below.refl _ _⟩
  case round =>
    obtain ⟨k, hk, rfl, hrow, hbel⟩ := hrel
    by_cases hk64 : k < 64
    · have hx := bysA_get b k (by omega)
      have hk0 : (0 : Int) ≤ (k : Int) := by omega
      have hk1 : (k : Int) < 64 := by omega
      have hq : (k : Int).tdiv 4 = ((k / 4 : Nat) : Int) := rfl
      have hc := hrow.cellAt (k / 4) (wosA_get' _ _ (wpart_get b k (k / 4) (by omega)))
      rw [show k - 4 * (k / 4) = k % 4 by omega] at hc
      have hz := hrow.frozenAt (k / 4)
      have hst := wpart_step b hb k
      have hym : ((b.getD k 0 : Nat) : Int) % 4294967296 = ((b.getD k 0 : Nat) : Int) := by have := hb k; omega
      rw [fold_or] at hst
      have h0 : (0 : Int) ≤ ((k / 4 : Nat) : Int) := by omega
      have h4 : ((k / 4 : Nat) : Int) < 64 := by omega
      have Hset := Lib.hid (wpart_set b k hk64)
      generalize b.getD k 0 = y at hx hst hym
      generalize pkn b (k / 4) (k % 4) = p at hc hst
      generalize ((pkn b (k / 4) (k % 4 + 1) : Nat) : Int) = p' at hst Hset
      have hix := run_indexByte hk64 hx
      generalize k / 4 = q at *
      have Hrow := Lib.hid hrow
      have Hbel := Lib.hid hbel
      clear hrow hbel hx
      go_wp2_with fail
      go_roundw
      case rel =>
        refine ⟨k + 1, by omega, by go_num, ?_, ?_⟩
        · rw [← Hset.out, ← wosA_set]; exact Hrow.out.setCell _ _
        · exact Hbel.out.setCell (Nat.le_refl _) _
      case measure => simp [intOf]; omega
    · obtain rfl : k = 64 := by omega
      have Hrow := Lib.hid hrow
      have Hbel := Lib.hid hbel
      clear hrow hbel
      go_wp2_with fail
      rw [wpart_all] at Hrow
      -- the words that follow
      obtain ⟨W2, eW2⟩ : ∃ x, x = wr := ⟨_, rfl⟩
      rw [← eW2] at Hrow Hbel ⊢
      clear eW2
      go_loopw [6] (fun i wr => ∃ k : Nat, 16 ≤ k ∧ k ≤ 64 ∧ i = .int .i64 k ∧ RowAt wr (w.heap.size + 1 + 1) (wosA (wz b k)) ∧ Below (w.heap.size + 1 + 1) W2 wr) (fun i _ => 64 - (intOf i).toNat)
      case atStart => exact ⟨16, by decide, by decide, rfl, Hrow.out, Below.refl _ _⟩
      case round =>
        obtain ⟨k, hk0, hk, rfl, hrow, hbel⟩ := hrel
        by_cases hk64 : k < 64
        · have hkk : (0 : Int) ≤ (k : Int) := by omega
          have hk1 : (k : Int) < 64 := by omega
          have hg := hrow.2.2
          have Hn := Lib.hid (nxt_ws b k hk0)
          have Hset := Lib.hid (wz_set b k hk0 hk64)
          have hc2 := hrow.cellAt (k - 2) (wosA_get' _ _ (wz_get b k (k - 2) hk0 (by omega) hk))
          generalize (ws b (k - 16)).getD (k - 2) 0 = x2 at hc2 Hn
          have hc7 := hrow.cellAt (k - 7) (wosA_get' _ _ (wz_get b k (k - 7) hk0 (by omega) hk))
          generalize (ws b (k - 16)).getD (k - 7) 0 = x7 at hc7 Hn
          have hc15 := hrow.cellAt (k - 15) (wosA_get' _ _ (wz_get b k (k - 15) hk0 (by omega) hk))
          generalize (ws b (k - 16)).getD (k - 15) 0 = x15 at hc15 Hn
          have hc16 := hrow.cellAt (k - 16) (wosA_get' _ _ (wz_get b k (k - 16) hk0 (by omega) hk))
          generalize (ws b (k - 16)).getD (k - 16) 0 = x16 at hc16 Hn
          obtain ⟨k2, e2⟩ : ∃ y, y = k - 2 := ⟨_, rfl⟩
          rw [← e2] at hc2
          have hw2 : IntKind.i64.wrap ((k : Int) - 2) = (k2 : Int) := by rw [IntWalk.i64_in _ (by omega)]; omega
          have ha2 : (0 : Int) ≤ (k2 : Int) := by omega
          have hb2 : (k2 : Int) < 64 := by omega
          obtain ⟨k7, e7⟩ : ∃ y, y = k - 7 := ⟨_, rfl⟩
          rw [← e7] at hc7
          have hw7 : IntKind.i64.wrap ((k : Int) - 7) = (k7 : Int) := by rw [IntWalk.i64_in _ (by omega)]; omega
          have ha7 : (0 : Int) ≤ (k7 : Int) := by omega
          have hb7 : (k7 : Int) < 64 := by omega
          obtain ⟨k15, e15⟩ : ∃ y, y = k - 15 := ⟨_, rfl⟩
          rw [← e15] at hc15
          have hw15 : IntKind.i64.wrap ((k : Int) - 15) = (k15 : Int) := by rw [IntWalk.i64_in _ (by omega)]; omega
          have ha15 : (0 : Int) ≤ (k15 : Int) := by omega
          have hb15 : (k15 : Int) < 64 := by omega
          obtain ⟨k16, e16⟩ : ∃ y, y = k - 16 := ⟨_, rfl⟩
          rw [← e16] at hc16
          have hw16 : IntKind.i64.wrap ((k : Int) - 16) = (k16 : Int) := by rw [IntWalk.i64_in _ (by omega)]; omega
          have ha16 : (0 : Int) ≤ (k16 : Int) := by omega
          have hb16 : (k16 : Int) < 64 := by omega
          clear e2 e7 e15 e16
          have Hrow := Lib.hid hrow
          have Hbel := Lib.hid hbel
          clear hrow hbel
          go_wp2_with fail
          refine wp_region_pick wr [0, 1, 2, 3, 4, 5, 6, 7, 8, 9, 10, 11, 12, 13, 14, 15, 16, 17, 18, 19, 20, 21, 22] [false, false, false, false, false, false, false, false, false, false, false, false, false, false, false, false, false, false, false, false, false, false, false] [] [] 23 (by kernel_rfl) rfl (by kernel_rfl) (by intro c a d v w h; cases d <;> exact h) ((Below.refl _ _).drew) ?_
          simp only [pick, List.getElem?_cons_succ, List.getElem?_cons_zero, List.drop_succ_cons, List.drop_zero]
          iterate 5 (refine wpHoldF_val (wanted_none rfl) (by intro K o d hK; go_simp; exact hK _ (Below.refl _ _)) ?_)
          refine wpHoldF_call (v := .int .u32 (s1 x2)) (wanted_none rfl) (by intro K o d hK; go_simp; refine (sig_s1 _ _).mono ?_; rintro e w' ⟨rfl, rfl⟩; exact ⟨_, rfl, hK _ (Below.refl _ _)⟩) ?_
          iterate 9 (refine wpHoldF_val (wanted_none rfl) (by intro K o d hK; go_simp; exact hK _ (Below.refl _ _)) ?_)
          refine wpHoldF_call (v := .int .u32 (s0 x15)) (wanted_none rfl) (by intro K o d hK; go_simp; refine (sig_s0 _ _).mono ?_; rintro e w' ⟨rfl, rfl⟩; exact ⟨_, rfl, hK _ (Below.refl _ _)⟩) ?_
          iterate 7 (refine wpHoldF_val (wanted_none rfl) (by intro K o d hK; go_simp; exact hK _ (Below.refl _ _)) ?_)
          refine wpHoldF_nil ?_
          intro w2 hb2 _
          have Rw := Hrow.out.grow hb2
          have hck := Rw.cellAt k (wosA_get _ k (by rw [wz_length _ _ hk0 hk]; exact hk64))
          have hfk := Rw.frozenAt k
          have B2 := Lib.hid (Hbel.out.trans (hb2.mono (Nat.le_of_lt hg)))
          have HRw := Lib.hid Rw
          clear Rw hb2
          go_wp2_with fail
          go_roundw
          case rel =>
            refine ⟨_, _, _, _, _, _, _, _, _, _, _, _, _, _, _, _, _, _, _, _, _, _, _, _, _, _, _, _, ⟨k + 1, by omega, by omega, by go_num, ?_, ?_⟩, rfl⟩
            · rw [← Hset.out, ← wosA_set, Hn.out]; exact HRw.out.setCell _ _
            · exact B2.out.setCell (p := ⟨_, _, none⟩) (Nat.le_refl _) _
          case measure => simp [intOf]; omega
        · obtain rfl : k = 64 := by omega
          rw [wz_all] at hrow
          have hsz : (wosA (sch b)).size = 64 := by rw [wosA_size, sch_length]
          have B2 := Lib.hid (Hbel.out.trans hbel)
          have Q2 := RowAt.keep Q0.out B2.out (by omega)
          have hne : ¬ w.heap.size + 1 = w.heap.size + 1 + 1 := by omega
          have hz0 : (wosA (wpart b 0)).size = 64 := by rw [wosA_size, wpart_length]
          obtain ⟨q1, q2, q3⟩ := Q2
          obtain ⟨r1, r2, r3⟩ := hrow
          clear hbel
          go_wp2_with fail
          refine bodyPost_ret (v := .agg (wosA (sch b))) (results_w64 Tryd.results41 hsz _ _ _ rfl (by go_simp) (by go_simp)) rfl ⟨rfl, ?_⟩
          exact below_setRow (B0.out.trans (B2.out.mono (by omega))) (by omega) _
end Go.Proofs.YtikpglemnnbdcaaDoor
