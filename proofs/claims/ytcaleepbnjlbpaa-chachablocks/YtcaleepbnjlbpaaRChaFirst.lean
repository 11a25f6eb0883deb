/-
  The reference of layer 5: a block's first words.
-/
import Derived.Test.YtcaleepbnjlbpaaRChaWords
namespace Go.Proofs.Ytcaleepbnjlbpaa
open Go.RowKit Go.Hold Go.Sh Go.Ch

set_option maxRecDepth 100000 in
@[go_sem] theorem run_bldB4 (w : World) (a b c d : Nat) : (bldB 4 #[(0, .int .u8 (a : Int)), (1, .int .u8 (b : Int)), (2, .int .u8 (c : Int)), (3, .int .u8 (d : Int))]).run Try.prog w = .ok (.slice (some ⟨w.heap.size, 0, none⟩) 4 4) (w.alloc (.cells (bysA [a, b, c, d]) 5)) := by
  obtain ⟨ie, h1, h2, h3, _⟩ := info_parts info_u8
  refine run_buildSlice w _ _ 4 _ (bysA [a, b, c, d]) ie _ Try.underlying31 h1 h2 (by rw [h3]; decide) (by rw [h3]; decide) ?_
  rw [h3]; kernel_rfl
@[go_sem ↓] theorem fold_bldC (ps : Array (Nat × Value)) : Instr.buildSlice 50 4 ps = bldS 50 4 ps := rfl
set_option maxRecDepth 100000 in
@[go_sem] theorem run_bldC (w : World) : (bldS 50 4 #[(0, .int .u32 1634760805), (1, .int .u32 857760878), (2, .int .u32 2036477234), (3, .int .u32 1797285236)]).run Try.prog w = .ok (.slice (some ⟨w.heap.size, 0, none⟩) 4 4) (w.alloc (.cells (wosA cst) 25)) := by
  obtain ⟨ie, h1, h2, h3, _⟩ := info_parts info_u32
  refine run_buildSlice w _ _ 4 _ (wosA cst) ie _ Try.underlying50 h1 h2 (by rw [h3]; decide) (by rw [h3]; decide) ?_
  rw [h3]; kernel_rfl
theorem snoc_range (p : List Int) (f : Nat → Int) (j : Nat) : p ++ (List.range j).map f ++ [f j] = p ++ (List.range (j + 1)).map f := by rw [List.range_succ, List.map_append, List.map_singleton, ← List.append_assoc]
theorem ownW_new (w : World) (l : List Int) (hl : l.length ≤ 16777216) : OwnW (w.alloc (.cells (wosA l) 25)) w.heap.size (.slice (some ⟨w.heap.size, 0, none⟩) l.length l.length) l := by
  refine ⟨by rw [wos_length, Nat.mul_one], .inr ⟨w.heap.size, l.length, wosA l, rfl, Nat.le_refl _, block_new w _, Nat.le_refl _, maxLen_small hl, by rw [wosA_size, Nat.mul_one], ?_⟩⟩
  rw [Nat.mul_one]
  show List.take l.length (wos l) = wos l
  rw [List.take_of_length_le (by rw [wos_length]; exact Nat.le_refl _)]
set_option maxHeartbeats 2000000 in
set_option maxRecDepth 100000 in
theorem rfirst_c (k n : List Nat) (c : Int) (hk : k.length = 32) (hkb : ∀ i, k.getD i 0 < 256) (hn : n.length = 12) (hnb : ∀ i, n.getD i 0 < 256) (w : World) :
    Calls Try.prog 18 #[.agg (bysA k), .agg (bysA n), .int .u32 c] w fun e w' => ∃ g cp, e = .returned (.slice (some ⟨g, 0, none⟩) 16 cp) ∧ WordsAt w' g (fst k n c) ∧ Below w.heap.size w w' := by
  have hks := bysA_size' hk
  have hns := bysA_size' hn
  have Hkl := Lib.hid hk
  have Hnl := Lib.hid hn
  clear hk hn
  go_enter Try.func18, Try.ntmps18
  go_wp2_with fail
  have K1 := Lib.hid (show RowAt ((w.alloc (.cells (bysA k) 23)).alloc (.cells (bysA n) 24)) w.heap.size (bysA k) from (RowAt.of (block_new w _)).grow (below_alloc (Below.refl _ _) _))
  have N1 := Lib.hid (show RowAt ((w.alloc (.cells (bysA k) 23)).alloc (.cells (bysA n) 24)) (w.heap.size + 1) (bysA n) by have h := RowAt.of (block_new (w.alloc (.cells (bysA k) 23)) (.cells (bysA n) 24)); simpa using h)
  have B1 := Lib.hid (below_alloc (below_alloc (Below.refl w.heap.size w) (.cells (bysA k) 23)) (.cells (bysA n) 24))
  have O0 := Lib.hid (ownW_new ((w.alloc (.cells (bysA k) 23)).alloc (.cells (bysA n) 24)) cst (by decide))
  have B0 := Lib.hid (below_alloc (Below.refl _ ((w.alloc (.cells (bysA k) 23)).alloc (.cells (bysA n) 24))) (.cells (wosA cst) 25))
  have hsz1 : ((w.alloc (.cells (bysA k) 23)).alloc (.cells (bysA n) 24)).heap.size = w.heap.size + 1 + 1 := by simp
  rw [← hsz1]
  generalize (w.alloc (.cells (bysA k) 23)).alloc (.cells (bysA n) 24) = W1 at *
  clear hsz1
  generalize w.heap.size + 1 = gn at *
  go_loopw [7, 8] (fun v t wr => ∃ j : Nat, j ≤ 8 ∧ t = .int .i64 j ∧ OwnW wr W1.heap.size v (cst ++ (List.range j).map (wd k)) ∧ Below W1.heap.size W1 wr) (fun _ t _ => 8 - (intOf t).toNat)
  case atStart => exact ⟨0, Nat.zero_le _, rfl, by rw [List.range_zero, List.map_nil, List.append_nil]; exact O0.out, B0.out⟩
  case round =>
    obtain ⟨j, hj, rfl, hown, hbel⟩ := hrel
    have hj0 : (0 : Int) ≤ (j : Int) := by omega
    by_cases hjn : j < 8
    · have hj1 : (j : Int) < 8 := by omega
      have hrow := K1.out.grow hbel
      have hgl := hrow.2.2
      obtain ⟨i0, e0⟩ : ∃ y, y = 4 * j + 0 := ⟨_, rfl⟩
      have hc0 := hrow.cellAt i0 (bysA_get k i0 (by rw [Hkl.out]; omega))
      have hb0 := hkb i0
      obtain ⟨i1, e1⟩ : ∃ y, y = 4 * j + 1 := ⟨_, rfl⟩
      have hc1 := hrow.cellAt i1 (bysA_get k i1 (by rw [Hkl.out]; omega))
      have hb1 := hkb i1
      obtain ⟨i2, e2⟩ : ∃ y, y = 4 * j + 2 := ⟨_, rfl⟩
      have hc2 := hrow.cellAt i2 (bysA_get k i2 (by rw [Hkl.out]; omega))
      have hq2 := hkb i2
      obtain ⟨i3, e3⟩ : ∃ y, y = 4 * j + 3 := ⟨_, rfl⟩
      have hc3 := hrow.cellAt i3 (bysA_get k i3 (by rw [Hkl.out]; omega))
      have hb3 := hkb i3
      have Hw := Lib.hid (show (((k.getD i0 0 + k.getD i1 0 * 256 + k.getD i2 0 * 65536 + k.getD i3 0 * 16777216 : Nat)) : Int) = wd k j by unfold wd; rw [wd_eq, e0, e1, e2, e3]; rfl)
      generalize k.getD i0 0 = x0 at *
      have ha0 : (0 : Int) ≤ (i0 : Int) := by omega
      have hd0 : (i0 : Int) < 32 := by omega
      generalize k.getD i1 0 = x1 at *
      have ha1 : (0 : Int) ≤ (i1 : Int) := by omega
      have hd1 : (i1 : Int) < 32 := by omega
      generalize k.getD i2 0 = x2 at *
      have ha2 : (0 : Int) ≤ (i2 : Int) := by omega
      have hd2 : (i2 : Int) < 32 := by omega
      generalize k.getD i3 0 = x3 at *
      have ha3 : (0 : Int) ≤ (i3 : Int) := by omega
      have hd3 : (i3 : Int) < 32 := by omega
      have hw0 : IntKind.i64.wrap (4 * (j : Int)) = (i0 : Int) := by rw [IntWalk.i64_in _ (by omega)]; omega
      have hw1 : IntKind.i64.wrap ((i0 : Int) + 1) = (i1 : Int) := by rw [IntWalk.i64_in _ (by omega)]; omega
      have hw2 : IntKind.i64.wrap ((i0 : Int) + 2) = (i2 : Int) := by rw [IntWalk.i64_in _ (by omega)]; omega
      have hw3 : IntKind.i64.wrap ((i0 : Int) + 3) = (i3 : Int) := by rw [IntWalk.i64_in _ (by omega)]; omega
      have hlen : (cst ++ (List.range j).map (wd k)).length ≤ 16 := by simp [cst]; omega
      have HL := Lib.hid (show cst ++ (List.range j).map (wd k) ++ [wd k j] = cst ++ (List.range (j + 1)).map (wd k) from snoc_range _ _ _)
      generalize cst ++ (List.range j).map (wd k) = L at *
      have Hlen := Lib.hid hlen
      have Hown := Lib.hid hown
      have Hbel := Lib.hid hbel
      clear e0 e1 e2 e3 hlen hown hbel hrow
      go_wp2_with fail
      refine wp_region_pick wr [0, 1, 2, 3, 4, 5, 6, 7, 8, 9, 10, 11, 12, 13, 14, 15, 16, 17, 18, 19] [true, false, false, false, false, false, false, false, false, false, false, false, false, false, false, false, false, false, false, false] [] [] 20 (by kernel_rfl) rfl (by kernel_rfl) (by intro c a d v w h; cases d <;> exact h) ((Below.refl _ _).drew) ?_
      simp only [pick, List.getElem?_cons_succ, List.getElem?_cons_zero, List.drop_succ_cons, List.drop_zero]
      refine wpHoldF_late (wanted_none rfl) (fun w => by go_simp; rfl) ?_
      iterate 19 (refine wpHoldF_val (wanted_none rfl) (by intro K o d hK; go_simp; exact hK _ (Below.refl _ _)) ?_)
      refine wpHoldF_nil ?_
      intro w2 hb2 _
      have Ho2 := Lib.hid (Hown.out.below hb2)
      have Hb2 := Lib.hid (Hbel.out.trans (hb2.mono Hbel.out.size))
      clear hb2 hc0 hc1 hc2 hc3 Hown Hbel
      go_wp2_with fail
      refine (word_c _ 4 x0 x1 x2 x3 hb0 hb1 hq2 hb3 _ (bytes_new w2 [x0, x1, x2, x3] 5 (0, 0))).mono ?_
      rintro e w3 ⟨rfl, hb3'⟩
      rw [Hw.out]
      have hbA := below_alloc (Below.refl w2.heap.size w2) (.cells (bysA [x0, x1, x2, x3]) 5)
      have hb23 : Below w2.heap.size w2 w3 := hbA.trans (hb3'.mono hbA.size)
      have Ho3 := Lib.hid (Ho2.out.below hb23)
      have Hb3 := Lib.hid (Hb2.out.trans (hb23.mono Hb2.out.size))
      clear hbA hb23 hb3' Ho2 Hb2
      generalize wd k j = x at *
      have hbB := below_alloc (Below.refl w3.heap.size w3) (.cells (wosA [x]) 25)
      have hsz3 := Hb3.out.size
      obtain ⟨v4, w4, hr4, hO4, hg4⟩ := app_ownW (k := 1) (cap := 1) (Ho3.out.below hbB) (words_new w3 [x] 25) rfl (by simp; omega) (by have := Hlen.out; simp only [List.length_cons, List.length_nil]; omega)
      have Hb4 := Lib.hid (ownW_below (Hb3.out.alloc hsz3 (.cells (wosA [x]) 25)) (Ho3.out.below hbB) (by simp; omega) hg4)
      have Ho4 := Lib.hid hO4
      rw [HL.out] at Ho4
      have hr5 : (Builtin.append_ #[50, 50] 50 #[u7, .slice (some ⟨w3.heap.size, 0, none⟩) 1 1]).run Try.prog (w3.alloc (.cells #[.int .u32 x] 25)) = .ok v4 w4 := hr4
      clear hbB hO4 hg4 Ho3 Hb3 hsz3 hr4
      go_wp2_with (at_builtin; refine Lib.wpList_append_run _ rfl _ _ _ _ rfl _ _ rfl rfl _ _ hr5 ?_)
      go_wp2_with fail
      go_roundw
      case rel => exact ⟨j + 1, by omega, by go_num, Ho4.out, Hb4.out⟩
      case measure => simp [intOf]; omega
    · obtain rfl : j = 8 := by omega
      rw [show ((8 : Nat) : Int) = 8 from rfl]
      have hlen8 : (cst ++ (List.range 8).map (wd k)).length = 12 := by simp [cst]
      have hbB := below_alloc (Below.refl wr.heap.size wr) (.cells (wosA [c]) 25)
      have hsz3 := hbel.size
      obtain ⟨v4, w4, hr4, hO4, hg4⟩ := app_ownW (k := 1) (cap := 1) (hown.below hbB) (words_new wr [c] 25) rfl (by simp; omega) (by rw [hlen8]; show 13 ≤ 16777216; decide)
      have B2 := Lib.hid (ownW_below (hbel.alloc hsz3 (.cells (wosA [c]) 25)) (hown.below hbB) (by simp; omega) hg4)
      have O2 := Lib.hid hO4
      have hr5 : (Builtin.append_ #[50, 50] 50 #[u7, .slice (some ⟨wr.heap.size, 0, none⟩) 1 1]).run Try.prog (wr.alloc (.cells #[.int .u32 c] 25)) = .ok v4 w4 := hr4
      clear hbB hO4 hg4 hsz3 hr4 hown hbel hlen8
      go_wp2_with (at_builtin; refine Lib.wpList_append_run _ rfl _ _ _ _ rfl _ _ rfl rfl _ _ hr5 ?_)
      go_wp2_with fail
      clear O0 B0
      have O0 := O2
      have B0 := B2
      go_loopw [7, 9] (fun v t wr => ∃ j : Nat, j ≤ 3 ∧ t = .int .i64 j ∧ OwnW wr W1.heap.size v ((cst ++ (List.range 8).map (wd k) ++ [c]) ++ (List.range j).map (wd n)) ∧ Below W1.heap.size W1 wr) (fun _ t _ => 3 - (intOf t).toNat)
      case atStart => exact ⟨0, Nat.zero_le _, rfl, by rw [List.range_zero, List.map_nil, List.append_nil]; exact O0.out, B0.out⟩
      case round =>
        obtain ⟨j, hj, rfl, hown, hbel⟩ := hrel
        have hj0 : (0 : Int) ≤ (j : Int) := by omega
        by_cases hjn : j < 3
        · have hj1 : (j : Int) < 3 := by omega
          have hrow := N1.out.grow hbel
          have hgl := hrow.2.2
          obtain ⟨i0, e0⟩ : ∃ y, y = 4 * j + 0 := ⟨_, rfl⟩
          have hc0 := hrow.cellAt i0 (bysA_get n i0 (by rw [Hnl.out]; omega))
          have hb0 := hnb i0
          obtain ⟨i1, e1⟩ : ∃ y, y = 4 * j + 1 := ⟨_, rfl⟩
          have hc1 := hrow.cellAt i1 (bysA_get n i1 (by rw [Hnl.out]; omega))
          have hb1 := hnb i1
          obtain ⟨i2, e2⟩ : ∃ y, y = 4 * j + 2 := ⟨_, rfl⟩
          have hc2 := hrow.cellAt i2 (bysA_get n i2 (by rw [Hnl.out]; omega))
          have hq2 := hnb i2
          obtain ⟨i3, e3⟩ : ∃ y, y = 4 * j + 3 := ⟨_, rfl⟩
          have hc3 := hrow.cellAt i3 (bysA_get n i3 (by rw [Hnl.out]; omega))
          have hb3 := hnb i3
          have Hw := Lib.hid (show (((n.getD i0 0 + n.getD i1 0 * 256 + n.getD i2 0 * 65536 + n.getD i3 0 * 16777216 : Nat)) : Int) = wd n j by unfold wd; rw [wd_eq, e0, e1, e2, e3]; rfl)
          generalize n.getD i0 0 = x0 at *
          have ha0 : (0 : Int) ≤ (i0 : Int) := by omega
          have hd0 : (i0 : Int) < 12 := by omega
          generalize n.getD i1 0 = x1 at *
          have ha1 : (0 : Int) ≤ (i1 : Int) := by omega
          have hd1 : (i1 : Int) < 12 := by omega
          generalize n.getD i2 0 = x2 at *
          have ha2 : (0 : Int) ≤ (i2 : Int) := by omega
          have hd2 : (i2 : Int) < 12 := by omega
          generalize n.getD i3 0 = x3 at *
          have ha3 : (0 : Int) ≤ (i3 : Int) := by omega
          have hd3 : (i3 : Int) < 12 := by omega
          have hw0 : IntKind.i64.wrap (4 * (j : Int)) = (i0 : Int) := by rw [IntWalk.i64_in _ (by omega)]; omega
          have hw1 : IntKind.i64.wrap ((i0 : Int) + 1) = (i1 : Int) := by rw [IntWalk.i64_in _ (by omega)]; omega
          have hw2 : IntKind.i64.wrap ((i0 : Int) + 2) = (i2 : Int) := by rw [IntWalk.i64_in _ (by omega)]; omega
          have hw3 : IntKind.i64.wrap ((i0 : Int) + 3) = (i3 : Int) := by rw [IntWalk.i64_in _ (by omega)]; omega
          have hlen : ((cst ++ (List.range 8).map (wd k) ++ [c]) ++ (List.range j).map (wd n)).length ≤ 16 := by simp [cst]; omega
          have HL := Lib.hid (show (cst ++ (List.range 8).map (wd k) ++ [c]) ++ (List.range j).map (wd n) ++ [wd n j] = (cst ++ (List.range 8).map (wd k) ++ [c]) ++ (List.range (j + 1)).map (wd n) from snoc_range _ _ _)
          generalize (cst ++ (List.range 8).map (wd k) ++ [c]) ++ (List.range j).map (wd n) = L at *
          have Hlen := Lib.hid hlen
          have Hown := Lib.hid hown
          have Hbel := Lib.hid hbel
          clear e0 e1 e2 e3 hlen hown hbel hrow
          go_wp2_with fail
          refine wp_region_pick wr [0, 1, 2, 3, 4, 5, 6, 7, 8, 9, 10, 11, 12, 13, 14, 15, 16, 17, 18, 19] [true, false, false, false, false, false, false, false, false, false, false, false, false, false, false, false, false, false, false, false] [] [] 20 (by kernel_rfl) rfl (by kernel_rfl) (by intro c a d v w h; cases d <;> exact h) ((Below.refl _ _).drew) ?_
          simp only [pick, List.getElem?_cons_succ, List.getElem?_cons_zero, List.drop_succ_cons, List.drop_zero]
          refine wpHoldF_late (wanted_none rfl) (fun w => by go_simp; rfl) ?_
          iterate 19 (refine wpHoldF_val (wanted_none rfl) (by intro K o d hK; go_simp; exact hK _ (Below.refl _ _)) ?_)
          refine wpHoldF_nil ?_
          intro w2 hb2 _
          have Ho2 := Lib.hid (Hown.out.below hb2)
          have Hb2 := Lib.hid (Hbel.out.trans (hb2.mono Hbel.out.size))
          clear hb2 hc0 hc1 hc2 hc3 Hown Hbel
          go_wp2_with fail
          refine (word_c _ 4 x0 x1 x2 x3 hb0 hb1 hq2 hb3 _ (bytes_new w2 [x0, x1, x2, x3] 5 (0, 0))).mono ?_
          rintro e w3 ⟨rfl, hb3'⟩
          rw [Hw.out]
          have hbA := below_alloc (Below.refl w2.heap.size w2) (.cells (bysA [x0, x1, x2, x3]) 5)
          have hb23 : Below w2.heap.size w2 w3 := hbA.trans (hb3'.mono hbA.size)
          have Ho3 := Lib.hid (Ho2.out.below hb23)
          have Hb3 := Lib.hid (Hb2.out.trans (hb23.mono Hb2.out.size))
          clear hbA hb23 hb3' Ho2 Hb2
          generalize wd n j = x at *
          have hbB := below_alloc (Below.refl w3.heap.size w3) (.cells (wosA [x]) 25)
          have hsz3 := Hb3.out.size
          obtain ⟨v4, w4, hr4, hO4, hg4⟩ := app_ownW (k := 1) (cap := 1) (Ho3.out.below hbB) (words_new w3 [x] 25) rfl (by simp; omega) (by have := Hlen.out; simp only [List.length_cons, List.length_nil]; omega)
          have Hb4 := Lib.hid (ownW_below (Hb3.out.alloc hsz3 (.cells (wosA [x]) 25)) (Ho3.out.below hbB) (by simp; omega) hg4)
          have Ho4 := Lib.hid hO4
          rw [HL.out] at Ho4
          have hr5 : (Builtin.append_ #[50, 50] 50 #[u7, .slice (some ⟨w3.heap.size, 0, none⟩) 1 1]).run Try.prog (w3.alloc (.cells #[.int .u32 x] 25)) = .ok v4 w4 := hr4
          clear hbB hO4 hg4 Ho3 Hb3 hsz3 hr4
          go_wp2_with (at_builtin; refine Lib.wpList_append_run _ rfl _ _ _ _ rfl _ _ rfl rfl _ _ hr5 ?_)
          go_wp2_with fail
          go_roundw
          case rel => exact ⟨j + 1, by omega, by go_num, Ho4.out, Hb4.out⟩
          case measure => simp [intOf]; omega
        · obtain rfl : j = 3 := by omega
          obtain ⟨g, cp, ev, hg, hgl, hc⟩ := OwnW.addr (k := 16) hown (by simp [cst]) (by decide)
          subst ev
          have HW := Lib.hid (show WordsAt wr g (fst k n c) from hown.words hgl)
          have HB := Lib.hid (B1.out.trans (hbel.mono B1.out.size))
          clear hown hbel
          go_wp2_with fail
          go_ret
          exact ⟨_, _, rfl, HW.out, HB.out⟩
end Go.Proofs.Ytcaleepbnjlbpaa
