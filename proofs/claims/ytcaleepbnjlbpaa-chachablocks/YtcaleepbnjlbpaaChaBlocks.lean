/-
  A block of any stream is the document's.
-/
import Derived.Test.YtcaleepbnjlbpaaChaAlive
import Derived.Test.YtcaleepbnjlbpaaRChaBlock
namespace Go.Proofs.Ytcaleepbnjlbpaa
open Go.RowKit Go.Hold Go.Sh Go.Ch

set_option maxHeartbeats 1000000 in
set_option maxRecDepth 100000 in
theorem blocks_any (k n : List Nat) (c : Nat) (w : World) (hk : k.length = 32) (hkb : ∀ i, k.getD i 0 < 256) (hn : n.length = 12) (hnb : ∀ i, n.getD i 0 < 256) :
    Calls Try.prog 3 #[.agg (bysA k), .agg (bysA n), .int .u32 (c : Int)] w fun e w' => e = .returned (.bool true) ∧ Below w.heap.size w w' := by
  have hks := bysA_size' hk
  have hns := bysA_size' hn
  have HC := Lib.hid (chablock_c k n c hk hkb hn hnb)
  have HR := Lib.hid (rblock_c k n c hk hkb hn hnb)
  have hbl := blk_length k n c
  generalize blk k n c = b at *
  clear hk hkb hn hnb
  go_enter Try.func3, Try.ntmps3
  go_wp2_with fail
  refine (alive5_c _).mono ?_
  rintro e W1 ⟨rfl, hb1⟩
  have hA := below_alloc (below_alloc (Below.refl w.heap.size w) (.cells (bysA k) 23)) (.cells (bysA n) 24)
  have K1 := ((RowAt.of (block_new w (.cells (bysA k) 23))).grow (below_alloc (Below.refl _ _) (.cells (bysA n) 24))).grow hb1
  have N1 := (RowAt.of (block_new (w.alloc (.cells (bysA k) 23)) (.cells (bysA n) 24))).grow hb1
  rw [World.size_alloc] at N1
  have B1 := Lib.hid (hA.trans (hb1.mono hA.size))
  clear hA hb1
  generalize w.heap.size + 1 = gn at *
  generalize eg : w.heap.size = gk at K1 ⊢
  have Eg := Lib.hid eg
  clear eg
  obtain ⟨k1, k2, k3⟩ := K1
  obtain ⟨n1, n2, n3⟩ := N1
  go_wp2_with fail
  refine wp_region_pickT W1 [0, 1, 2, 3, 4, 5, 6, 7, 8] [false, false, false, false, false, false, false, false, false] [9] (by kernel_rfl) (by kernel_rfl) (by intro c a d v w h; cases d <;> exact h) ((Below.refl _ _).drew) ?_
  simp only [pick, List.getElem?_cons_succ, List.getElem?_cons_zero]
  refine wpHoldF_val (wanted_none rfl) (by intro K o d hK; go_simp; exact hK _ (Below.refl _ _)) ?_
  refine wpHoldF_val (wanted_none rfl) (by intro K o d hK; go_simp; exact hK _ (Below.refl _ _)) ?_
  refine wpHoldF_val (wanted_none rfl) (by intro K o d hK; go_simp; exact hK _ (Below.refl _ _)) ?_
  refine wpHoldF_call (v := .agg (bysA b)) (wanted_none rfl) (by intro K o d hK; go_simp; refine (HC.out _).mono ?_; rintro e w' ⟨rfl, hbw⟩; exact ⟨_, rfl, hK _ hbw⟩) ?_
  refine wpHoldF_val (wanted_none rfl) (by intro K o d hK; go_simp; exact hK _ (Below.refl _ _)) ?_
  refine wpHoldF_val (wanted_none rfl) (by intro K o d hK; go_simp; exact hK _ (Below.refl _ _)) ?_
  refine wpHoldF_val (wanted_none rfl) (by intro K o d hK; go_simp; exact hK _ (Below.refl _ _)) ?_
  refine wpHoldF_call (v := .agg (bysA b)) (wanted_none rfl) (by intro K o d hK; go_simp; refine (HR.out _).mono ?_; rintro e w' ⟨rfl, hbw⟩; exact ⟨_, rfl, hK _ hbw⟩) ?_
  refine wpHoldF_val (v := .bool true) (wanted_none rfl) (by intro K o d hK; rw [eql64 rfl _ b hbl rfl rfl]; exact hK _ (Below.refl _ _)) ?_
  refine wpHoldF_nil ?_
  intro W6 hb6
  have B6 := Lib.hid (B1.out.trans (hb6.mono B1.out.size))
  clear hb6
  go_wp2_with fail
  go_ret
  exact ⟨rfl, B6.out⟩
end Go.Proofs.Ytcaleepbnjlbpaa
