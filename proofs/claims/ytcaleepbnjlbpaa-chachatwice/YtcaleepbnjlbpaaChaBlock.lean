/-
  Package chacha: a block's first words; a block.
-/
import Derived.Test.YtcaleepbnjlbpaaChaPut
import Derived.Test.YtcaleepbnjlbpaaChaRound
namespace Go.Proofs.Ytcaleepbnjlbpaa
open Go.RowKit Go.Hold Go.Sh Go.Ch

set_option maxHeartbeats 1000000 in
set_option maxRecDepth 100000 in
theorem firstWords_c (k n : List Nat) (c : Int) (hk : k.length = 32) (hkb : ∀ i, k.getD i 0 < 256) (hn : n.length = 12) (hnb : ∀ i, n.getD i 0 < 256) (w : World) :
    Calls Try.prog 15 #[.agg (bysA k), .agg (bysA n), .int .u32 c] w fun e w' => e = .returned (.agg (wosA (fst k n c))) ∧ Below w.heap.size w w' := by
  have hks := bysA_size' hk
  have hns := bysA_size' hn
  have hcs := wosA_size' cst0_length
  go_enter Try.func15, Try.ntmps15
  go_wp2_with fail
  generalize hW : World.alloc _ _ = W1
  have K1 := Lib.hid (show RowAt W1 w.heap.size (bysA k) by rw [← hW]; clear hW; exact ⟨by go_simp, by go_simp, by go_simp⟩)
  have N1 := Lib.hid (show RowAt W1 (w.heap.size + 1) (bysA n) by rw [← hW]; clear hW; exact ⟨by go_simp, by go_simp, by go_simp⟩)
  obtain ⟨z0, hz0, hR0⟩ : ∃ c : Array Value, c.size = 16 ∧ RowAt W1 (w.heap.size + 1 + 1) c := by rw [← hW]; clear hW; exact ⟨wosA (List.replicate 16 0), by rw [wosA_size]; rfl, by go_simp, by go_simp; rfl, by go_simp⟩
  have C1 := Lib.hid (show RowAt W1 (w.heap.size + 1 + 1 + 1) (wosA cst0) by rw [← hW]; clear hW; exact ⟨by go_simp, by go_simp, by go_simp⟩)
  have B1 := Lib.hid (show Below w.heap.size w W1 by rw [← hW]; repeat (first | apply below_more | apply below_alloc | apply Below.drew | exact Below.refl _ _))
  have R1 := Lib.hid hR0
  clear hW hR0
  have l0 : w.heap.size ≤ w.heap.size + 1 + 1 + 1 := by omega
  have l1 : w.heap.size ≤ w.heap.size + 1 + 1 := by omega
  have e0 : w.heap.size ≠ w.heap.size + 1 + 1 + 1 := by omega
  have e1 : w.heap.size + 1 ≠ w.heap.size + 1 + 1 + 1 := by omega
  have e2 : w.heap.size + 1 + 1 ≠ w.heap.size + 1 + 1 + 1 := by omega
  generalize w.heap.size + 1 + 1 + 1 = gc at *
  generalize w.heap.size + 1 + 1 = gr at *
  generalize w.heap.size + 1 = gn at *
  have HP := Lib.hid (put_c gc w.heap.size 4 32 32 cst0 k W1 hk.symm cst0_length cst0_zero (by decide) hkb C1.out (bytes_row K1.out) e0)
  refine HP.out.mono ?_
  rintro e W2 ⟨rfl, hS2⟩
  have N2 := Lib.hid (hS2.old N1.out e1)
  have R2 := Lib.hid (hS2.old R1.out e2)
  have C2 := Lib.hid (hS2.row C1.out)
  have B2 := Lib.hid (hS2.below B1.out l0 B1.out.size)
  clear hS2 HP K1 N1 R1 C1 B1
  have hc12 := wos_cell C2.out 12 (by rw [wput_length]; decide)
  have hf12 := C2.out.frozenAt 12
  have S3 := Lib.hid ((Sets.refl C2.out).cell (i := 12) (v := .int .u32 c) C2.out)
  go_wp2_with fail
  generalize hW : World.setCell _ _ _ = W3
  rw [hW] at S3
  clear hW hc12 hf12
  have hS3 := S3.out
  rw [wosA_set] at hS3
  have N3 := Lib.hid (hS3.old N2.out e1)
  have R3 := Lib.hid (hS3.old R2.out e2)
  have C3 := Lib.hid (show RowAt W3 gc (wosA (mid k c)) from hS3.row C2.out)
  have B3 := Lib.hid (hS3.below B2.out l0 B2.out.size)
  clear hS3 S3 N2 R2 C2 B2
  have HP := Lib.hid (put_c gc gn 13 12 12 (mid k c) n W3 hn.symm (mid_length k c) (mid_zero k c) (by decide) hnb C3.out (bytes_row N3.out) e1)
  rw [nonce_in] at HP
  refine HP.out.mono ?_
  rintro e W4 ⟨rfl, hS4⟩
  obtain ⟨r1, r2, r3⟩ := hS4.old R3.out e2
  obtain ⟨c1, c2, c3⟩ := hS4.row C3.out
  have B4 := Lib.hid (hS4.below B3.out l0 B3.out.size)
  have hfz := wosA_size' (fst_length k n c)
  clear hS4 HP N3 R3 C3 B3
  go_wp2_with fail
  refine bodyPost_ret (v := .agg (wosA (fst k n c))) (results_cw Try.results15 hfz _ _ _ rfl (by go_simp) (by go_simp)) rfl ⟨rfl, ?_⟩
  exact below_setRow B4.out l1 _

set_option maxHeartbeats 1000000 in
set_option maxRecDepth 100000 in
theorem chablock_c (k n : List Nat) (c : Nat) (hk : k.length = 32) (hkb : ∀ i, k.getD i 0 < 256) (hn : n.length = 12) (hnb : ∀ i, n.getD i 0 < 256) (w : World) :
    Calls Try.prog 9 #[.agg (bysA k), .agg (bysA n), .int .u32 (c : Int)] w fun e w' => e = .returned (.agg (bysA (blk k n c))) ∧ Below w.heap.size w w' := by
  have hks := bysA_size' hk
  have hns := bysA_size' hn
  have HF := Lib.hid (firstWords_c k n (c : Int) hk hkb hn hnb)
  have Hb := Lib.hid (blk_eq k n c)
  have hlf := fst_length k n (c : Int)
  generalize fst k n (c : Int) = F at *
  have hFs := wosA_size' hlf
  have Hlf := Lib.hid hlf
  clear hlf hk hkb hn hnb
  go_enter Try.func9, Try.ntmps9
  go_wp2_with fail
  generalize hW : World.alloc _ _ = W1
  obtain ⟨z0, hz0, hR0⟩ : ∃ c : Array Value, c.size = 64 ∧ RowAt W1 (w.heap.size + 1 + 1) c := by rw [← hW]; clear hW; exact ⟨bysA (zs 64), by rw [bysA_size]; rfl, by go_simp, by go_simp; rfl, by go_simp⟩
  have R1 := Lib.hid hR0
  have B1 := Lib.hid (show Below w.heap.size w W1 by rw [← hW]; repeat (first | apply below_more | apply below_alloc | apply Below.drew | exact Below.refl _ _))
  clear hW hR0
  have l1 : w.heap.size ≤ w.heap.size + 1 + 1 := by omega
  generalize w.heap.size + 1 + 1 = gr at *
  refine (HF.out _).mono ?_
  rintro e W2 ⟨rfl, hb2⟩
  have R2 := Lib.hid (R1.out.grow hb2)
  have B2 := Lib.hid (B1.out.trans (hb2.mono B1.out.size))
  clear hb2 R1 B1 HF
  have l2 : w.heap.size ≤ W2.heap.size := B2.out.size
  have l3 : gr < W2.heap.size := R2.out.2.2
  go_wp2_with fail
  generalize hW : World.alloc _ _ = W3
  have F3 := Lib.hid (show RowAt W3 W2.heap.size (wosA F) by rw [← hW]; clear hW; exact ⟨by go_simp, by go_simp, by go_simp⟩)
  have C3 := Lib.hid (show RowAt W3 (W2.heap.size + 1) (wosA F) by rw [← hW]; clear hW; exact ⟨by go_simp, by go_simp, by go_simp⟩)
  have R3 := Lib.hid (show RowAt W3 gr z0 by rw [← hW]; exact R2.out.grow (below_alloc (below_alloc (Below.refl _ _) _) _))
  have B3 := Lib.hid (show Below w.heap.size w W3 by rw [← hW]; exact below_alloc (below_alloc B2.out _) _)
  clear hW R2 B2
  have e1 : gr ≠ W2.heap.size + 1 := by omega
  have e2 : W2.heap.size ≠ W2.heap.size + 1 := by omega
  have l4 : w.heap.size ≤ W2.heap.size + 1 := by omega
  generalize W2.heap.size + 1 = gc at *
  generalize W2.heap.size = gf at *
  go_loopw [15] (fun i wr => ∃ m : Nat, m ≤ 10 ∧ i = .int .i64 m ∧ Sets W3 gc (wosA (drnds F m)) wr) (fun i _ => 10 - (intOf i).toNat)
  case atStart => exact ⟨0, by decide, rfl, Sets.refl C3.out⟩
  case round =>
    obtain ⟨m, hm, rfl, hset⟩ := hrel
    by_cases hm10 : m < 10
    · have hm0 : (m : Int) < 10 := by omega
      have HQ := Lib.hid (doubleRound_c gc (drnds F m) wr (by rw [drnds_length, Hlf.out]) (hset.row C3.out))
      have HS := Lib.hid hset
      clear hset
      go_wp2_with fail
      refine HQ.out.mono ?_
      rintro e W ⟨rfl, hW⟩
      have HW := Lib.hid (HS.out.trans C3.out hW)
      clear hW
      go_wp2_with fail
      go_roundw
      case rel => exact ⟨m + 1, by omega, by go_num, HW.out⟩
      case measure => simp [intOf]; omega
    · obtain rfl : m = 10 := by omega
      have hlD : (drnds F 10).length = 16 := by rw [drnds_length, Hlf.out]
      have HlD := Lib.hid hlD
      generalize drnds F 10 = D at *
      have HS := Lib.hid hset
      clear hset hlD
      rw [show ((10 : Nat) : Int) = 10 from rfl]
      go_wp2_with fail
      have S4 := Lib.hid (show Sets W3 gc (wosA (sumW D F 0)) wr by rw [sumW_zero D F HlD.out]; exact HS.out)
      obtain ⟨W4, eW4⟩ : ∃ x, x = wr := ⟨_, rfl⟩
      rw [← eW4] at S4 ⊢
      clear eW4 HS
      go_loopw [19] (fun i wr => ∃ m : Nat, m ≤ 16 ∧ i = .int .i64 m ∧ Sets W3 gc (wosA (sumW D F m)) wr) (fun i _ => 16 - (intOf i).toNat)
      case atStart => exact ⟨0, by decide, rfl, S4.out⟩
      case round =>
        obtain ⟨m, hm, rfl, hset⟩ := hrel
        by_cases hm16 : m < 16
        · have hm0 : (m : Int) < 16 := by omega
          have hm1 : (0 : Int) ≤ (m : Int) := by omega
          have hrow := hset.row C3.out
          have hca := hrow.cellAt m (wosA_get' _ _ (sumW_get D F m m hm16))
          rw [if_neg (by omega)] at hca
          have hcb := wos_cell (hset.old F3.out e2) m (by rw [Hlf.out]; exact hm16)
          have Hset := Lib.hid (sumW_set D F m hm16)
          generalize D.getD m 0 = xd at hca Hset
          generalize F.getD m 0 = xf at hcb Hset
          have hgl := hrow.2.2
          have hgf := (hset.old F3.out e2).2.2
          have HS := Lib.hid hset
          clear hset hrow
          go_wp2_with fail
          refine wp_region_pick wr [0, 1, 2, 3, 4, 5, 6, 7] [false, false, false, false, false, false, false, false] [] [] 8 (by kernel_rfl) rfl (by kernel_rfl) (by intro c a d v w h; cases d <;> exact h) ((Below.refl _ _).drew) ?_
          simp only [pick, List.getElem?_cons_succ, List.getElem?_cons_zero, List.drop_succ_cons, List.drop_zero]
          iterate 8 (refine wpHoldF_val (wanted_none rfl) (by intro K o d hK; go_simp; exact hK _ (Below.refl _ _)) ?_)
          refine wpHoldF_nil ?_
          intro w2 hb2 _
          have S2 := Lib.hid (HS.out.grow hb2)
          have hc2 : w2.cell? ⟨gc, m, none⟩ = some (.int .u32 xd) := by rw [hb2.cell hgl]; exact hca
          have hf2 := (S2.out.row C3.out).frozenAt m
          clear hb2 hca hcb HS
          go_wp2_with fail
          go_roundw
          case rel =>
            refine ⟨m + 1, by omega, by go_num, ?_⟩
            rw [← Hset.out, ← wosA_set]; exact S2.out.cell C3.out
          case measure => simp [intOf]; omega
        · obtain rfl : m = 16 := by omega
          rw [sumW_all] at hset
          obtain ⟨c1, c2, c3⟩ := hset.row C3.out
          have hz := wosA_size' (sum16_length D F)
          have HQ := Lib.hid (wblock_c (sum16 D F) (sum16_length D F) wr)
          have R5 := Lib.hid (hset.old R3.out e1)
          have B5 := Lib.hid (hset.below B3.out l4 B3.out.size)
          clear hset
          go_wp2_with fail
          refine HQ.out.mono ?_
          rintro e W6 ⟨rfl, hb6⟩
          obtain ⟨r1, r2, r3⟩ := R5.out.grow hb6
          have B6 := Lib.hid (B5.out.trans (hb6.mono B5.out.size))
          have hy := bysA_size' (outB_length (sum16 D F))
          clear hb6
          go_wp2_with fail
          refine bodyPost_ret (v := .agg (bysA (outB (sum16 D F)))) (results_b64 Try.results9 hy _ _ _ rfl (by go_simp) (by go_simp)) rfl ⟨by rw [Hb.out], ?_⟩
          exact below_setRow B6.out l1 _
end Go.Proofs.Ytcaleepbnjlbpaa
