/-
  Part 5 of the texts behind the theorem.
-/
import Derived.Test.YtnkfiljmgbnbkaaDoorPart4
import Derived.Laws.BitsAllLaws
import Derived.Test.YtnkfiljmgbnbkaaDoorPart2
import Derived.Test.YtnkfiljmgbnbkaaDoorPart3
/-
  The reference of layer 5: a block's first words.
-/
namespace Go.Proofs.YtnkfiljmgbnbkaaDoor
open Go.RowKit Go.Hold Go.Sh Go.Ch

set_option maxRecDepth 100000 in
@[go_sem] theorem run_bldB4 (w : World) (a b c d : Nat) : (bldB 4 #[(0, .int .u8 (a : Int)), (1, .int .u8 (b : Int)), (2, .int .u8 (c : Int)), (3, .int .u8 (d : Int))]).run Tryd.prog w = .ok (.slice (some ⟨w.heap.size, 0, none⟩) 4 4) (w.alloc (.cells (bysA [a, b, c, d]) 5)) := by
  obtain ⟨ie, h1, h2, h3, _⟩ := info_parts info_u8
  refine run_buildSlice w _ _ 4 _ (bysA [a, b, c, d]) ie _ Tryd.underlying24 h1 h2 (by rw [h3]; decide) (by rw [h3]; decide) ?_
  rw [h3]; kernel_rfl
@[go_sem ↓] theorem fold_bldC (ps : Array (Nat × Value)) : Instr.buildSlice 93 4 ps = bldS 93 4 ps := rfl
set_option maxRecDepth 100000 in
@[go_sem] theorem run_bldC (w : World) : (bldS 93 4 #[(0, .int .u32 1634760805), (1, .int .u32 857760878), (2, .int .u32 2036477234), (3, .int .u32 1797285236)]).run Tryd.prog w = .ok (.slice (some ⟨w.heap.size, 0, none⟩) 4 4) (w.alloc (.cells (wosA cst) 61)) := by
  obtain ⟨ie, h1, h2, h3, _⟩ := info_parts info_u32
  refine run_buildSlice w _ _ 4 _ (wosA cst) ie _ Tryd.underlying93 h1 h2 (by rw [h3]; decide) (by rw [h3]; decide) ?_
  rw [h3]; kernel_rfl
theorem snoc_range (p : List Int) (f : Nat → Int) (j : Nat) : p ++ (List.range j).map f ++ [f j] = p ++ (List.range (j + 1)).map f := by rw [List.range_succ, List.map_append, List.map_singleton, ← List.append_assoc]
theorem ownW_new (w : World) (l : List Int) (hl : l.length ≤ 16777216) : OwnW (w.alloc (.cells (wosA l) 61)) w.heap.size (.slice (some ⟨w.heap.size, 0, none⟩) l.length l.length) l := by
  refine ⟨by rw [wos_length, Nat.mul_one], .inr ⟨w.heap.size, l.length, wosA l, rfl, Nat.le_refl _, block_new w _, Nat.le_refl _, maxLen_small hl, by rw [wosA_size, Nat.mul_one], ?_⟩⟩
  rw [Nat.mul_one]
  show List.take l.length (wos l) = wos l
  rw [List.take_of_length_le (by rw [wos_length]; exact Nat.le_refl _)]
set_option maxHeartbeats 2000000 in
set_option maxRecDepth 100000 in
theorem rfirst_c (k n : List Nat) (c : Int) (hk : k.length = 32) (hkb : ∀ i, k.getD i 0 < 256) (hn : n.length = 12) (hnb : ∀ i, n.getD i 0 < 256) (w : World) :
    Calls Tryd.prog 69 #[.agg (bysA k), .agg (bysA n), .int .u32 c] w fun e w' => ∃ g cp, e = .returned (.slice (some ⟨g, 0, none⟩) 16 cp) ∧ WordsAt w' g (fst k n c) ∧ Below w.heap.size w w' := by
  have hks := bysA_size' hk
  have hns := bysA_size' hn
  have Hkl := Lib.hid hk
  have Hnl := Lib.hid hn
  clear hk hn
  go_enter Tryd.func69, Tryd.ntmps69
  go_wp2_with fail
  have K1 := Lib.hid (show RowAt ((w.alloc (.cells (bysA k) 23)).alloc (.cells (bysA n) 34)) w.heap.size (bysA k) from (RowAt.of (block_new w _)).grow (below_alloc (Below.refl _ _) _))
  have N1 := Lib.hid (show RowAt ((w.alloc (.cells (bysA k) 23)).alloc (.cells (bysA n) 34)) (w.heap.size + 1) (bysA n) by have h := RowAt.of (block_new (w.alloc (.cells (bysA k) 23)) (.cells (bysA n) 34)); simpa using h)
  have B1 := Lib.hid (below_alloc (below_alloc (Below.refl w.heap.size w) (.cells (bysA k) 23)) (.cells (bysA n) 34))
  have O0 := Lib.hid (ownW_new ((w.alloc (.cells (bysA k) 23)).alloc (.cells (bysA n) 34)) cst (by decide))
  have B0 := Lib.hid (below_alloc (Below.refl _ ((w.alloc (.cells (bysA k) 23)).alloc (.cells (bysA n) 34))) (.cells (wosA cst) 61))
  have hsz1 : ((w.alloc (.cells (bysA k) 23)).alloc (.cells (bysA n) 34)).heap.size = w.heap.size + 1 + 1 := by simp
  rw [← hsz1]
  generalize (w.alloc (.cells (bysA k) 23)).alloc (.cells (bysA n) 34) = W1 at *
  clear hsz1
  generalize w.heap.size + 1 = gn at *
  go_loopw [7, 8] (fun v t wr => ∃ j : Nat, j ≤ 8 ∧ t = .int .i64 j ∧ OwnW wr W1.heap.size v (cst ++ (List.range j).map (wd k)) ∧ Below W1.heap.size W1 wr) (fun _ t _ => 8 - (intOf t).toNat)
  case atStart => exact ⟨0, Nat.zero_le _, rfl, by rw [List.range_zero, List.map_nil, List.append_nil]; exact O0.out, B0.out⟩
  case round =>
    obtain ⟨j, hj, rfl, hown, hbel⟩ := hrel
    have hj0 : (0 : Int) ≤ (j : Int) := by omega
    by_cases hjn : j < 8
    · have hj1 : (j : Int) < 8 := by omega
      have hrow := K1.out.grow hbel
      have hgl := hrow.2.2
      obtain ⟨i0, e0⟩ : ∃ y, y = 4 * j + 0 := ⟨_, rfl⟩
      have hc0 := hrow.cellAt i0 (bysA_get k i0 (by rw [Hkl.out]; omega))
      have hb0 := hkb i0
      obtain ⟨i1, e1⟩ : ∃ y, y = 4 * j + 1 := ⟨_, rfl⟩
      have hc1 := hrow.cellAt i1 (bysA_get k i1 (by rw [Hkl.out]; omega))
      have hb1 := hkb i1
      obtain ⟨i2, e2⟩ : ∃ y, y = 4 * j + 2 := ⟨_, rfl⟩
      have hc2 := hrow.cellAt i2 (bysA_get k i2 (by rw [Hkl.out]; omega))
      have hq2 := hkb i2
      obtain ⟨i3, e3⟩ : ∃ y, y = 4 * j + 3 := ⟨_, rfl⟩
      have hc3 := hrow.cellAt i3 (bysA_get k i3 (by rw [Hkl.out]; omega))
      have hb3 := hkb i3
      have Hw := Lib.hid (show (((k.getD i0 0 + k.getD i1 0 * 256 + k.getD i2 0 * 65536 + k.getD i3 0 * 16777216 : Nat)) : Int) = wd k j by unfold wd; rw [wd_eq, e0, e1, e2, e3]; rfl)
      generalize k.getD i0 0 = x0 at *
      have ha0 : (0 : Int) ≤ (i0 : Int) := by omega
      have hd0 : (i0 : Int) < 32 := by omega
      generalize k.getD i1 0 = x1 at *
      have ha1 : (0 : Int) ≤ (i1 : Int) := by omega
      have hd1 : (i1 : Int) < 32 := by omega
      generalize k.getD i2 0 = x2 at *
      have ha2 : (0 : Int) ≤ (i2 : Int) := by omega
      have hd2 : (i2 : Int) < 32 := by omega
      generalize k.getD i3 0 = x3 at *
      have ha3 : (0 : Int) ≤ (i3 : Int) := by omega
      have hd3 : (i3 : Int) < 32 := by omega
      have hw0 : IntKind.i64.wrap (4 * (j : Int)) = (i0 : Int) := by rw [IntWalk.i64_in _ (by omega)]; omega
      have hw1 : IntKind.i64.wrap ((i0 : Int) + 1) = (i1 : Int) := by rw [IntWalk.i64_in _ (by omega)]; omega
      have hw2 : IntKind.i64.wrap ((i0 : Int) + 2) = (i2 : Int) := by rw [IntWalk.i64_in _ (by omega)]; omega
      have hw3 : IntKind.i64.wrap ((i0 : Int) + 3) = (i3 : Int) := by rw [IntWalk.i64_in _ (by omega)]; omega
      have hlen : (cst ++ (List.range j).map (wd k)).length ≤ 16 := by simp [cst]; omega
      have HL := Lib.hid (show cst ++ (List.range j).map (wd k) ++ [wd k j] = cst ++ (List.range (j + 1)).map (wd k) from snoc_range _ _ _)
      generalize cst ++ (List.range j).map (wd k) = L at *
      have Hlen := Lib.hid hlen
      have Hown := Lib.hid hown
      have Hbel := Lib.hid hbel
      clear e0 e1 e2 e3 hlen hown hbel hrow
      go_wp2_with fail
      refine wp_region_pick wr [0, 1, 2, 3, 4, 5, 6, 7, 8, 9, 10, 11, 12, 13, 14, 15, 16, 17, 18, 19] [true, false, false, false, false, false, false, false, false, false, false, false, false, false, false, false, false, false, false, false] [] [] 20 (by kernel_rfl) rfl (by kernel_rfl) (by intro c a d v w h; cases d <;> exact h) ((Below.refl _ _).drew) ?_
      simp only [pick, List.getElem?_cons_succ, List.getElem?_cons_zero, List.drop_succ_cons, List.drop_zero]
      refine wpHoldF_late (wanted_none rfl) (fun w => by go_simp; rfl) ?_
      iterate 19 (refine wpHoldF_val (wanted_none rfl) (by intro K o d hK; go_simp; exact hK _ (Below.refl _ _)) ?_)
      refine wpHoldF_nil ?_
      intro w2 hb2 _
      have Ho2 := Lib.hid (Hown.out.below hb2)
      have Hb2 := Lib.hid (Hbel.out.trans (hb2.mono Hbel.out.size))
      clear hb2 hc0 hc1 hc2 hc3 Hown Hbel
      go_wp2_with fail
      refine (word_c _ 4 x0 x1 x2 x3 hb0 hb1 hq2 hb3 _ (bytes_new w2 [x0, x1, x2, x3] 5 (0, 0))).mono ?_
      rintro e w3 ⟨rfl, hb3'⟩
      rw [Hw.out]
      have hbA := below_alloc (Below.refl w2.heap.size w2) (.cells (bysA [x0, x1, x2, x3]) 5)
      have hb23 : Below w2.heap.size w2 w3 := hbA.trans (hb3'.mono hbA.size)
      have Ho3 := Lib.hid (Ho2.out.below hb23)
      have Hb3 := Lib.hid (Hb2.out.trans (hb23.mono Hb2.out.size))
      clear hbA hb23 hb3' Ho2 Hb2
      generalize wd k j = x at *
      have hbB := below_alloc (Below.refl w3.heap.size w3) (.cells (wosA [x]) 61)
      have hsz3 := Hb3.out.size
      obtain ⟨v4, w4, hr4, hO4, hg4⟩ := app_ownW (k := 1) (cap := 1) (Ho3.out.below hbB) (words_new w3 [x] 61) rfl (by simp; omega) (by have := Hlen.out; simp only [List.length_cons, List.length_nil]; omega)
      have Hb4 := Lib.hid (ownW_below (Hb3.out.alloc hsz3 (.cells (wosA [x]) 61)) (Ho3.out.below hbB) (by simp; omega) hg4)
      have Ho4 := Lib.hid hO4
      rw [HL.out] at Ho4
      have hr5 : (Builtin.append_ #[93, 93] 93 #[u7, .slice (some ⟨w3.heap.size, 0, none⟩) 1 1]).run Tryd.prog (w3.alloc (.cells #[.int .u32 x] 61)) = .ok v4 w4 := hr4
      clear hbB hO4 hg4 Ho3 Hb3 hsz3 hr4
      go_wp2_with (at_builtin; refine Lib.wpList_append_run _ rfl _ _ _ _ rfl _ _ rfl rfl _ _ hr5 ?_)
      go_wp2_with fail
      go_roundw
      case rel => exact ⟨j + 1, by omega, by go_num, Ho4.out, Hb4.out⟩
      case measure => simp [intOf]; omega
    · obtain rfl : j = 8 := by omega
      rw [show ((8 : Nat) : Int) = 8 from rfl]
      have hlen8 : (cst ++ (List.range 8).map (wd k)).length = 12 := by simp [cst]
      have hbB := below_alloc (Below.refl wr.heap.size wr) (.cells (wosA [c]) 61)
      have hsz3 := hbel.size
      obtain ⟨v4, w4, hr4, hO4, hg4⟩ := app_ownW (k := 1) (cap := 1) (hown.below hbB) (words_new wr [c] 61) rfl (by simp; omega) (by rw [hlen8]; show 13 ≤ 16777216; decide)
      have B2 := Lib.hid (ownW_below (hbel.alloc hsz3 (.cells (wosA [c]) 61)) (hown.below hbB) (by simp; omega) hg4)
      have O2 := Lib.hid hO4
      have hr5 : (Builtin.append_ #[93, 93] 93 #[u7, .slice (some ⟨wr.heap.size, 0, none⟩) 1 1]).run Tryd.prog (wr.alloc (.cells #[.int .u32 c] 61)) = .ok v4 w4 := hr4
      clear hbB hO4 hg4 hsz3 hr4 hown hbel hlen8
      go_wp2_with (at_builtin; refine Lib.wpList_append_run _ rfl _ _ _ _ rfl _ _ rfl rfl _ _ hr5 ?_)
      go_wp2_with fail
      clear O0 B0
      have O0 := O2
      have B0 := B2
      go_loopw [7, 9] (fun v t wr => ∃ j : Nat, j ≤ 3 ∧ t = .int .i64 j ∧ OwnW wr W1.heap.size v ((cst ++ (List.range 8).map (wd k) ++ [c]) ++ (List.range j).map (wd n)) ∧ Below W1.heap.size W1 wr) (fun _ t _ => 3 - (intOf t).toNat)
      case atStart => exact ⟨0, Nat.zero_le _, rfl, by rw [List.range_zero, List.map_nil, List.append_nil]; exact O0.out, B0.out⟩
      case round =>
        obtain ⟨j, hj, rfl, hown, hbel⟩ := hrel
        have hj0 : (0 : Int) ≤ (j : Int) := by omega
        by_cases hjn : j < 3
        · have hj1 : (j : Int) < 3 := by omega
          have hrow := N1.out.grow hbel
          have hgl := hrow.2.2
          obtain ⟨i0, e0⟩ : ∃ y, y = 4 * j + 0 := ⟨_, rfl⟩
          have hc0 := hrow.cellAt i0 (bysA_get n i0 (by rw [Hnl.out]; omega))
          have hb0 := hnb i0
          obtain ⟨i1, e1⟩ : ∃ y, y = 4 * j + 1 := ⟨_, rfl⟩
          have hc1 := hrow.cellAt i1 (bysA_get n i1 (by rw [Hnl.out]; omega))
          have hb1 := hnb i1
          obtain ⟨i2, e2⟩ : ∃ y, y = 4 * j + 2 := ⟨_, rfl⟩
          have hc2 := hrow.cellAt i2 (bysA_get n i2 (by rw [Hnl.out]; omega))
          have hq2 := hnb i2
          obtain ⟨i3, e3⟩ : ∃ y, y = 4 * j + 3 := ⟨_, rfl⟩
          have hc3 := hrow.cellAt i3 (bysA_get n i3 (by rw [Hnl.out]; omega))
          have hb3 := hnb i3
          have Hw := Lib.hid (show (((n.getD i0 0 + n.getD i1 0 * 256 + n.getD i2 0 * 65536 + n.getD i3 0 * 16777216 : Nat)) : Int) = wd n j by unfold wd; rw [wd_eq, e0, e1, e2, e3]; rfl)
          generalize n.getD i0 0 = x0 at *
          have ha0 : (0 : Int) ≤ (i0 : Int) := by omega
          have hd0 : (i0 : Int) < 12 := by omega
          generalize n.getD i1 0 = x1 at *
          have ha1 : (0 : Int) ≤ (i1 : Int) := by omega
          have hd1 : (i1 : Int) < 12 := by omega
          generalize n.getD i2 0 = x2 at *
          have ha2 : (0 : Int) ≤ (i2 : Int) := by omega
          have hd2 : (i2 : Int) < 12 := by omega
          generalize n.getD i3 0 = x3 at *
          have ha3 : (0 : Int) ≤ (i3 : Int) := by omega
          have hd3 : (i3 : Int) < 12 := by omega
          have hw0 : IntKind.i64.wrap (4 * (j : Int)) = (i0 : Int) := by rw [IntWalk.i64_in _ (by omega)]; omega
          have hw1 : IntKind.i64.wrap ((i0 : Int) + 1) = (i1 : Int) := by rw [IntWalk.i64_in _ (by omega)]; omega
          have hw2 : IntKind.i64.wrap ((i0 : Int) + 2) = (i2 : Int) := by rw [IntWalk.i64_in _ (by omega)]; omega
          have hw3 : IntKind.i64.wrap ((i0 : Int) + 3) = (i3 : Int) := by rw [IntWalk.i64_in _ (by omega)]; omega
          have hlen : ((cst ++ (List.range 8).map (wd k) ++ [c]) ++ (List.range j).map (wd n)).length ≤ 16 := by simp [cst]; omega
          have HL := Lib.hid (show (cst ++ (List.range 8).map (wd k) ++ [c]) ++ (List.range j).map (wd n) ++ [wd n j] = (cst ++ (List.range 8).map (wd k) ++ [c]) ++ (List.range (j + 1)).map (wd n) from snoc_range _ _ _)
          generalize (cst ++ (List.range 8).map (wd k) ++ [c]) ++ (List.range j).map (wd n) = L at *
          have Hlen := Lib.hid hlen
          have Hown := Lib.hid hown
          have Hbel := Lib.hid hbel
          clear e0 e1 e2 e3 hlen hown hbel hrow
          go_wp2_with fail
          refine wp_region_pick wr [0, 1, 2, 3, 4, 5, 6, 7, 8, 9, 10, 11, 12, 13, 14, 15, 16, 17, 18, 19] [true, false, false, false, false, false, false, false, false, false, false, false, false, false, false, false, false, false, false, false] [] [] 20 (by kernel_rfl) rfl (by kernel_rfl) (by intro c a d v w h; cases d <;> exact h) ((Below.refl _ _).drew) ?_
          simp only [pick, List.getElem?_cons_succ, List.getElem?_cons_zero, List.drop_succ_cons, List.drop_zero]
          refine wpHoldF_late (wanted_none rfl) (fun w => by go_simp; rfl) ?_
          iterate 19 (refine wpHoldF_val (wanted_none rfl) (by intro K o d hK; go_simp; exact hK _ (Below.refl _ _)) ?_)
          refine wpHoldF_nil ?_
          intro w2 hb2 _
          have Ho2 := Lib.hid (Hown.out.below hb2)
          have Hb2 := Lib.hid (Hbel.out.trans (hb2.mono Hbel.out.size))
          clear hb2 hc0 hc1 hc2 hc3 Hown Hbel
          go_wp2_with fail
          refine (word_c _ 4 x0 x1 x2 x3 hb0 hb1 hq2 hb3 _ (bytes_new w2 [x0, x1, x2, x3] 5 (0, 0))).mono ?_
          rintro e w3 ⟨rfl, hb3'⟩
          rw [Hw.out]
          have hbA := below_alloc (Below.refl w2.heap.size w2) (.cells (bysA [x0, x1, x2, x3]) 5)
          have hb23 : Below w2.heap.size w2 w3 := hbA.trans (hb3'.mono hbA.size)
          have Ho3 := Lib.hid (Ho2.out.below hb23)
          have Hb3 := Lib.hid (Hb2.out.trans (hb23.mono Hb2.out.size))
          clear hbA hb23 hb3' Ho2 Hb2
          generalize wd n j = x at *
          have hbB := below_alloc (Below.refl w3.heap.size w3) (.cells (wosA [x]) 61)
          have hsz3 := Hb3.out.size
          obtain ⟨v4, w4, hr4, hO4, hg4⟩ := app_ownW (k := 1) (cap := 1) (Ho3.out.below hbB) (words_new w3 [x] 61) rfl (by simp; omega) (by have := Hlen.out; simp only [List.length_cons, List.length_nil]; omega)
          have Hb4 := Lib.hid (ownW_below (Hb3.out.alloc hsz3 (.cells (wosA [x]) 61)) (Ho3.out.below hbB) (by simp; omega) hg4)
          have Ho4 := Lib.hid hO4
          rw [HL.out] at Ho4
          have hr5 : (Builtin.append_ #[93, 93] 93 #[u7, .slice (some ⟨w3.heap.size, 0, none⟩) 1 1]).run Tryd.prog (w3.alloc (.cells #[.int .u32 x] 61)) = .ok v4 w4 := hr4
          clear hbB hO4 hg4 Ho3 Hb3 hsz3 hr4
          go_wp2_with (at_builtin; refine Lib.wpList_append_run _ rfl _ _ _ _ rfl _ _ rfl rfl _ _ hr5 ?_)
          go_wp2_with fail
          go_roundw
          case rel => exact ⟨j + 1, by omega, by go_num, Ho4.out, Hb4.out⟩
          case measure => simp [intOf]; omega
        · obtain rfl : j = 3 := by omega
          obtain ⟨g, cp, ev, hg, hgl, hc⟩ := OwnW.addr (k := 16) hown (by simp [cst]) (by decide)
          subst ev
          have HW := Lib.hid (show WordsAt wr g (fst k n c) from hown.words hgl)
          have HB := Lib.hid (B1.out.trans (hbel.mono B1.out.size))
          clear hown hbel
          go_wp2_with fail
          go_ret
          exact ⟨_, _, rfl, HW.out, HB.out⟩
end Go.Proofs.YtnkfiljmgbnbkaaDoor

/-
  The reference of layer 5: a block.
-/
namespace Go.Proofs.YtnkfiljmgbnbkaaDoor
open Go.RowKit Go.Hold Go.Sh Go.Ch

theorem Sets.words {w w' : World} {g b : Nat} {c : Array Value} {l : List Int} (s : Sets w g c w') (h : WordsAt w b l) (hn : b ≠ g) : WordsAt w' b l := by
  obtain ⟨os, d, rfl⟩ := s
  have h1 : WordsAt (w.setRow g c) b l := ⟨by rw [size_setRow]; exact h.1, fun i hi => by rw [World.cell?_of_block (w := w) (setRow_other w g b c hn)]; exact h.2 i hi⟩
  exact h1.grow (below_more (Below.refl _ _) os d)
set_option maxHeartbeats 2000000 in
set_option maxRecDepth 100000 in
theorem rblock_c (k n : List Nat) (c : Nat) (hk : k.length = 32) (hkb : ∀ i, k.getD i 0 < 256) (hn : n.length = 12) (hnb : ∀ i, n.getD i 0 < 256) (w : World) :
    Calls Tryd.prog 59 #[.agg (bysA k), .agg (bysA n), .int .u32 (c : Int)] w fun e w' => e = .returned (.agg (bysA (blk k n c))) ∧ Below w.heap.size w w' := by
  have hks := bysA_size' hk
  have hns := bysA_size' hn
  have HF := Lib.hid (rfirst_c k n (c : Int) hk hkb hn hnb)
  have Hb := Lib.hid (blk_eq k n c)
  have hlf := fst_length k n (c : Int)
  generalize fst k n (c : Int) = F at *
  have Hlf := Lib.hid hlf
  clear hlf hk hkb hn hnb
  go_enter Tryd.func59, Tryd.ntmps59
  go_wp2_with fail
  generalize hW : World.alloc _ _ = W1
  obtain ⟨z0, hz0, hR0⟩ : ∃ c : Array Value, c.size = 64 ∧ RowAt W1 (w.heap.size + 1 + 1) c := by rw [← hW]; clear hW; exact ⟨bysA (zs 64), by rw [bysA_size]; rfl, by go_simp, by go_simp; rfl, by go_simp⟩
  have R1 := Lib.hid hR0
  have B1 := Lib.hid (show Below w.heap.size w W1 by rw [← hW]; repeat (first | apply below_more | apply below_alloc | apply Below.drew | exact Below.refl _ _))
  clear hW hR0
  have l1 : w.heap.size ≤ w.heap.size + 1 + 1 := by omega
  generalize w.heap.size + 1 + 1 = gr at *
  refine (HF.out _).mono ?_
  rintro e W2 ⟨gw, cw, rfl, hw2, hb2⟩
  have R2 := Lib.hid (R1.out.grow hb2)
  have B2 := Lib.hid (B1.out.trans (hb2.mono B1.out.size))
  have F2 := Lib.hid hw2
  clear hb2 hw2 R1 B1 HF
  go_wp2_with fail
  go_loopw [8, 9] (fun v t wr => ∃ (m g cg : Nat), m ≤ 10 ∧ t = .int .i64 m ∧ v = .slice (some ⟨g, 0, none⟩) 16 cg ∧ WordsAt wr g (drnds F m) ∧ Below W2.heap.size W2 wr) (fun _ t _ => 10 - (intOf t).toNat)
  case atStart => exact ⟨0, gw, cw, Nat.zero_le _, rfl, rfl, F2.out, Below.refl _ _⟩
  case round =>
    obtain ⟨m, g, cg, hm, rfl, rfl, hwd, hbel⟩ := hrel
    by_cases hm10 : m < 10
    · have hm1 : (m : Int) < 10 := by omega
      have HE := Lib.hid (show drnds F (m + 1) = dias (cols (drnds F m) 4) 4 from rfl)
      have hlD : (drnds F m).length = 16 := by rw [drnds_length, Hlf.out]
      have HlD := Lib.hid hlD
      generalize drnds F m = D at *
      have HW := Lib.hid hwd
      have HB := Lib.hid hbel
      clear hwd hbel hlD
      obtain ⟨W3, eW3⟩ : ∃ x, x = wr := ⟨_, rfl⟩
      rw [← eW3] at HW HB ⊢
      clear eW3
      go_wp2_with fail
      go_loopw [8, 10] (fun v t wr => ∃ (i g cg : Nat), i ≤ 4 ∧ t = .int .i64 i ∧ v = .slice (some ⟨g, 0, none⟩) 16 cg ∧ WordsAt wr g (cols D i) ∧ Below W2.heap.size W2 wr) (fun _ t _ => 4 - (intOf t).toNat)
      case atStart => exact ⟨0, g, cg, Nat.zero_le _, rfl, rfl, HW.out, HB.out⟩
      case round =>
        obtain ⟨i, g, cg, hi, rfl, rfl, hwd, hbel⟩ := hrel
        by_cases hi4 : i < 4
        · have hi0 : (i : Int) < 4 := by omega
          have h1 : IntKind.i64.wrap ((i : Int) + 4) = ((4 + i : Nat) : Int) := by rw [IntWalk.i64_in _ (by omega)]; omega
          have h2 : IntKind.i64.wrap ((i : Int) + 8) = ((8 + i : Nat) : Int) := by rw [IntWalk.i64_in _ (by omega)]; omega
          have h3 : IntKind.i64.wrap ((i : Int) + 12) = ((12 + i : Nat) : Int) := by rw [IntWalk.i64_in _ (by omega)]; omega
          have HQ := Lib.hid (rquarter_c g cg i (4 + i) (8 + i) (12 + i) (cols D i) wr (by rw [cols_length, HlD.out]) (by omega) (by omega) (by omega) (by omega) hwd)
          have HE2 := Lib.hid (show cols D (i + 1) = quart (cols D i) i (4 + i) (8 + i) (12 + i) from rfl)
          generalize ((4 + i : Nat) : Int) = x1 at *
          generalize ((8 + i : Nat) : Int) = x2 at *
          generalize ((12 + i : Nat) : Int) = x3 at *
          have HB3 := Lib.hid hbel
          clear hbel hwd
          go_wp2_with fail
          refine HQ.out.mono ?_
          rintro e W ⟨g2, c2, rfl, hw3, hb3⟩
          have HW4 := Lib.hid hw3
          have HB4 := Lib.hid (HB3.out.trans (hb3.mono HB3.out.size))
          clear hw3 hb3
          go_wp2_with fail
          go_roundw
          case rel => exact ⟨i + 1, g2, c2, by omega, by go_num, rfl, by rw [HE2.out]; exact HW4.out, HB4.out⟩
          case measure => simp [intOf]; omega
        · obtain rfl : i = 4 := by omega
          rw [show ((4 : Nat) : Int) = 4 from rfl]
          have HW4 := Lib.hid hwd
          have HB4 := Lib.hid hbel
          clear hwd hbel
          obtain ⟨W4, eW4⟩ : ∃ x, x = wr := ⟨_, rfl⟩
          rw [← eW4] at HW4 HB4 ⊢
          clear eW4
          go_wp2_with fail
          go_loopw [8, 11] (fun v t wr => ∃ (i g cg : Nat), i ≤ 4 ∧ t = .int .i64 i ∧ v = .slice (some ⟨g, 0, none⟩) 16 cg ∧ WordsAt wr g (dias (cols D 4) i) ∧ Below W2.heap.size W2 wr) (fun _ t _ => 4 - (intOf t).toNat)
          case atStart => exact ⟨0, g, cg, Nat.zero_le _, rfl, rfl, HW4.out, HB4.out⟩
          case round =>
            obtain ⟨i, g, cg, hi, rfl, rfl, hwd, hbel⟩ := hrel
            by_cases hi4 : i < 4
            · have hn0 : (i : Int) < 4 := by omega
              have h1 : IntKind.i64.wrap ((i : Int) + 1) = ((i + 1 : Nat) : Int) := by rw [IntWalk.i64_in _ (by omega)]; omega
              have h2 : IntKind.i64.wrap ((i : Int) + 2) = ((i + 2 : Nat) : Int) := by rw [IntWalk.i64_in _ (by omega)]; omega
              have h3 : IntKind.i64.wrap ((i : Int) + 3) = ((i + 3 : Nat) : Int) := by rw [IntWalk.i64_in _ (by omega)]; omega
              have t1 : ((i + 1 : Nat) : Int).tmod 4 = (((i + 1) % 4 : Nat) : Int) := rfl
              have t2 : ((i + 2 : Nat) : Int).tmod 4 = (((i + 2) % 4 : Nat) : Int) := rfl
              have t3 : ((i + 3 : Nat) : Int).tmod 4 = (((i + 3) % 4 : Nat) : Int) := rfl
              have m1 : IntKind.i64.wrap (4 + (((i + 1) % 4 : Nat) : Int)) = ((4 + (i + 1) % 4 : Nat) : Int) := by rw [IntWalk.i64_in _ (by omega)]; omega
              have m2 : IntKind.i64.wrap (8 + (((i + 2) % 4 : Nat) : Int)) = ((8 + (i + 2) % 4 : Nat) : Int) := by rw [IntWalk.i64_in _ (by omega)]; omega
              have m3 : IntKind.i64.wrap (12 + (((i + 3) % 4 : Nat) : Int)) = ((12 + (i + 3) % 4 : Nat) : Int) := by rw [IntWalk.i64_in _ (by omega)]; omega
              have HQ := Lib.hid (rquarter_c g cg i (4 + (i + 1) % 4) (8 + (i + 2) % 4) (12 + (i + 3) % 4) (dias (cols D 4) i) wr (by rw [dias_length, cols_length, HlD.out]) (by omega) (by omega) (by omega) (by omega) hwd)
              have HE2 := Lib.hid (show dias (cols D 4) (i + 1) = quart (dias (cols D 4) i) i (4 + (i + 1) % 4) (8 + (i + 2) % 4) (12 + (i + 3) % 4) from rfl)
              generalize ((4 + (i + 1) % 4 : Nat) : Int) = x1 at *
              generalize ((8 + (i + 2) % 4 : Nat) : Int) = x2 at *
              generalize ((12 + (i + 3) % 4 : Nat) : Int) = x3 at *
              generalize (((i + 1) % 4 : Nat) : Int) = y1 at *
              generalize (((i + 2) % 4 : Nat) : Int) = y2 at *
              generalize (((i + 3) % 4 : Nat) : Int) = y3 at *
              generalize ez1 : ((i + 1 : Nat) : Int) = z1 at *
              have Ez1 := Lib.hid ez1
              clear ez1
              generalize ((i + 2 : Nat) : Int) = z2 at *
              generalize ((i + 3 : Nat) : Int) = z3 at *
              have HB5 := Lib.hid hbel
              clear hwd hbel
              go_wp2_with fail
              refine HQ.out.mono ?_
              rintro e W ⟨g2, c2, rfl, hw3, hb3⟩
              have HW6 := Lib.hid hw3
              have HB6 := Lib.hid (HB5.out.trans (hb3.mono HB5.out.size))
              clear hw3 hb3
              go_wp2_with fail
              go_roundw
              case rel => exact ⟨i + 1, g2, c2, by omega, by rw [Ez1.out], rfl, by rw [HE2.out]; exact HW6.out, HB6.out⟩
              case measure => have := Ez1.out; simp [intOf]; omega
            · obtain rfl : i = 4 := by omega
              have HW5 := Lib.hid hwd
              have HB5 := Lib.hid hbel
              clear hwd hbel
              go_wp2_with fail
              go_roundw
              case rel => exact ⟨m + 1, g, cg, by omega, by go_num, rfl, by rw [HE.out]; exact HW5.out, HB5.out⟩
              case measure => simp [intOf]; omega
    · obtain rfl : m = 10 := by omega
      rw [show ((10 : Nat) : Int) = 10 from rfl]
      have hlD : (drnds F 10).length = 16 := by rw [drnds_length, Hlf.out]
      have HlD := Lib.hid hlD
      generalize drnds F 10 = D at *
      have HW := Lib.hid hwd
      have HB := Lib.hid hbel
      clear hwd hbel hlD
      obtain ⟨W3, eW3⟩ : ∃ x, x = wr := ⟨_, rfl⟩
      rw [← eW3] at HW HB ⊢
      clear eW3
      go_wp2_with fail
      generalize hW : World.alloc _ _ = W4
      have O4 := Lib.hid (show RowAt W4 W3.heap.size (bysA (outP (sum16 D F) 0)) by rw [← hW, outP_zero]; clear hW; exact ⟨by go_simp, by go_simp; rfl, by go_simp⟩)
      have hbA : Below W3.heap.size W3 W4 := by rw [← hW]; exact below_alloc (Below.refl _ _) _
      have D4 := Lib.hid (HW.out.grow hbA)
      have F4 := Lib.hid ((F2.out.grow HB.out).grow hbA)
      have R4 := Lib.hid ((R2.out.grow HB.out).grow hbA)
      have B4 := Lib.hid ((B2.out.trans (HB.out.mono B2.out.size)).trans (hbA.mono (Nat.le_trans B2.out.size HB.out.size)))
      have q1 : g ≠ W3.heap.size := by have := HW.out.1; omega
      have q2 : gw ≠ W3.heap.size := by have := (F2.out.grow HB.out).1; omega
      have q3 : gr ≠ W3.heap.size := by have := (R2.out.grow HB.out).2.2; omega
      have q4 : w.heap.size ≤ W3.heap.size := by have := B2.out.size; have := HB.out.size; omega
      clear hW hbA HW HB
      generalize W3.heap.size = go at *
      go_loopw [13] (fun t wr => ∃ i : Nat, i ≤ 64 ∧ t = .int .i64 i ∧ Sets W4 go (bysA (outP (sum16 D F) i)) wr) (fun t _ => 64 - (intOf t).toNat)
      case atStart => exact ⟨0, Nat.zero_le _, rfl, Sets.refl O4.out⟩
      case round =>
        obtain ⟨i, hi, rfl, hset⟩ := hrel
        by_cases hi64 : i < 64
        · have hi0 : (0 : Int) ≤ (i : Int) := by omega
          have hi1 : (i : Int) < 64 := by omega
          have hq : (i : Int).tdiv 4 = ((i / 4 : Nat) : Int) := rfl
          have hm : (i : Int).tmod 4 = ((i % 4 : Nat) : Int) := rfl
          have hrow := hset.row O4.out
          have hcd := (hset.words D4.out q1).2 (i / 4) (by rw [HlD.out]; omega)
          have hcf := (hset.words F4.out q2).2 (i / 4) (by rw [Hlf.out]; omega)
          have hgd := (hset.words D4.out q1).1
          have hgf := (hset.words F4.out q2).1
          have hck := hrow.cellAt i (bysA_get _ i (by rw [outP_length]; exact hi64))
          have hgo := hrow.2.2
          have Hset := Lib.hid (outP_set (sum16 D F) i hi64)
          have h0 : (0 : Int) ≤ ((i / 4 : Nat) : Int) := by omega
          have h8 : ((i / 4 : Nat) : Int) < 16 := by omega
          obtain ⟨x, ex⟩ : ∃ y, y = i % 4 * 8 := ⟨_, rfl⟩
          have h1 : IntKind.i64.wrap (8 * ((i % 4 : Nat) : Int)) = (x : Int) := by rw [IntWalk.i64_in _ (by omega)]; omega
          have h2 : IntKind.u64.wrap (x : Int) = (x : Int) := IntWalk.u64_in _ (by omega)
          have hm0 : (0 : Int) ≤ (x : Int) := by omega
          have hm1 : (x : Int) ≤ 32 := by omega
          obtain ⟨v, ev⟩ : ∃ v, v = oB (sum16 D F) i := ⟨_, rfl⟩
          rw [← ev] at Hset
          have hv : add32 (D.getD (i / 4) 0) (F.getD (i / 4) 0) / 2 ^ x % 256 = (v : Int) := by rw [ev, oI_nat, ex, ← sum16_get D F (i / 4) (by omega)]; rfl
          clear ex ev
          generalize D.getD (i / 4) 0 = xd at hcd hv
          generalize F.getD (i / 4) 0 = xf at hcf hv
          have hqw : IntKind.i64.wrap ((i / 4 : Nat) : Int) = ((i / 4 : Nat) : Int) := IntWalk.i64_in _ (by omega)
          generalize i / 4 = q at *
          generalize i % 4 = r4 at *
          have HS := Lib.hid hset
          clear hset hrow
          go_wp2_with fail
          refine wp_region_pick wr [0, 1, 2, 3, 4, 5, 6, 7, 8, 9, 10, 11, 12, 13, 14, 15, 16, 17, 18] [false, false, false, false, false, false, false, false, false, false, false, false, false, false, false, false, false, false, false] [] [] 19 (by kernel_rfl) rfl (by kernel_rfl) (by intro c a d v w h; cases d <;> exact h) ((Below.refl _ _).drew) ?_
          simp only [pick, List.getElem?_cons_succ, List.getElem?_cons_zero, List.drop_succ_cons, List.drop_zero]
          iterate 19 (refine wpHoldF_val (wanted_none rfl) (by intro K o d hK; go_simp; exact hK _ (Below.refl _ _)) ?_)
          refine wpHoldF_nil ?_
          intro w2 hb2 _
          have S2 := Lib.hid (HS.out.grow hb2)
          have hc2 := (S2.out.row O4.out).cellAt i (bysA_get _ i (by rw [outP_length]; exact hi64))
          have hf2 := (S2.out.row O4.out).frozenAt i
          clear hb2 hck hcd hcf HS
          go_wp2_with fail
          go_roundw
          case rel =>
            refine ⟨i + 1, by omega, by go_num, ?_⟩
            rw [← Hset.out, ← bysA_set]; exact S2.out.cell O4.out
          case measure => simp [intOf]; omega
        · obtain rfl : i = 64 := by omega
          rw [outP_all] at hset
          obtain ⟨c1, c2, c3⟩ := hset.row O4.out
          obtain ⟨r1, r2, r3⟩ := hset.old R4.out q3
          have B5 := Lib.hid (hset.below B4.out q4 B4.out.size)
          have hy := bysA_size' (outB_length (sum16 D F))
          clear hset
          go_wp2_with fail
          refine bodyPost_ret (v := .agg (bysA (outB (sum16 D F)))) (results_b64 Tryd.results59 hy _ _ _ rfl (by go_simp) (by go_simp)) rfl ⟨by rw [Hb.out], ?_⟩
          exact below_setRow B5.out l1 _
end Go.Proofs.YtnkfiljmgbnbkaaDoor

/-
  The reference of layer 5: so many bytes of a stream, bytes that are turned.
-/
namespace Go.Ch
open Go Go.Sh
theorem strm_pre (k n : List Nat) (c a b : Nat) (h : b ≤ a) : (strm k n c a).take b = strm k n c b := by
  unfold strm
  rw [← List.map_take, List.take_range, Nat.min_eq_left h]
theorem strm_next (k n : List Nat) (c j : Nat) : strm k n c (64 * j) ++ blk k n (c + j) = strm k n c (64 * (j + 1)) := by
  have hb := blk_length k n (c + j)
  apply List.ext_getElem?
  intro i
  by_cases h : i < 64 * j
  · rw [List.getElem?_append_left (by rw [strm_length]; exact h)]
    simp only [strm, List.getElem?_map, List.getElem?_range h, List.getElem?_range (show i < 64 * (j + 1) by omega)]
  · rw [List.getElem?_append_right (by rw [strm_length]; omega), strm_length]
    by_cases h2 : i < 64 * (j + 1)
    · rw [List.getElem?_eq_getElem (show i - 64 * j < (blk k n (c + j)).length by omega)]
      simp only [strm, List.getElem?_map, List.getElem?_range h2, Option.map_some]
      unfold stB
      rw [show c + i / 64 = c + j by omega, show i % 64 = i - 64 * j by omega]
      simp [List.getD, hb, show i - 64 * j < 64 by omega]
    · rw [List.getElem?_eq_none (by omega), List.getElem?_eq_none (by rw [strm_length]; omega)]
theorem mixd_snoc (a b : List Nat) (j : Nat) (h : j < b.length) : (mixd a b).take j ++ [a.getD j 0 ^^^ b.getD j 0] = (mixd a b).take (j + 1) := by
  rw [List.take_add_one, List.getElem?_eq_getElem (by rw [mixd_length]; exact h)]
  simp [mixd]
end Go.Ch
namespace Go.Proofs.YtnkfiljmgbnbkaaDoor
open Go.RowKit Go.Hold Go.Sh Go.Ch

theorem rowAt_grown {w w' : World} {g : Nat} {c : Array Value} {r : Option Nat} (h : RowAt w g c) (hg : w.grownBy w' r) (hn : r ≠ some g) : RowAt w' g c := by
  obtain ⟨t, ht⟩ := h.block
  exact RowAt.of (t := t) (by rw [hg.block g h.2.2 (by intro e; exact hn (by rw [e]))]; exact ht)
set_option maxHeartbeats 400000 in
set_option maxRecDepth 100000 in
/-- What is refused. -/
theorem rstream_bad (k n : List Nat) (c : Nat) (z er : Int) (hc : c < 4294967296) (w : World)
    (h : z < 0 ∧ er = 2 ∨ 65536 < z ∧ er = 3 ∨ 0 ≤ z ∧ z ≤ 65536 ∧ 4294967296 < c + (z.toNat + 63) / 64 ∧ er = 3) :
    Calls Tryd.prog 52 #[.agg (bysA k), .agg (bysA n), .int .u32 (c : Int), .int .i64 z] w fun e w' => e = .returned (.tuple #[.slice none 0 0, .int .i64 er]) ∧ Below w.heap.size w w' := by
  rcases h with ⟨h1, rfl⟩ | ⟨h1, rfl⟩ | ⟨h0, h1, h2, rfl⟩
  · go_enter Tryd.func52, Tryd.ntmps52
    go_wp2_with fail
    refine bodyPost_ret (v := .tuple #[.slice none 0 0, .int .i64 2]) (results_tmp2 Tryd.results52 _ _ _) rfl ⟨rfl, by repeat (first | apply below_alloc | exact Below.refl _ _)⟩
  · have h0 : ¬ z < 0 := by omega
    go_enter Tryd.func52, Tryd.ntmps52
    go_wp2_with fail
    refine bodyPost_ret (v := .tuple #[.slice none 0 0, .int .i64 3]) (results_tmp2 Tryd.results52 _ _ _) rfl ⟨rfl, by repeat (first | apply below_alloc | exact Below.refl _ _)⟩
  · obtain ⟨m, rfl⟩ : ∃ m : Nat, z = (m : Int) := ⟨z.toNat, by omega⟩
    rw [Int.toNat_natCast] at h2
    have h3 : ¬ (m : Int) < 0 := by omega
    have h4 : ¬ (65536 : Int) < (m : Int) := by omega
    have k1 : IntKind.i64.wrap ((m : Int) + 63) = ((m + 63 : Nat) : Int) := by rw [IntWalk.i64_in _ (by omega)]; omega
    have k2 : ((m + 63 : Nat) : Int).tdiv 64 = (((m + 63) / 64 : Nat) : Int) := rfl
    obtain ⟨x, ex⟩ : ∃ x, x = (m + 63) / 64 := ⟨_, rfl⟩
    rw [← ex] at h2 k2
    generalize ((m + 63 : Nat) : Int) = y1 at *
    have h5 : IntKind.u64.wrap (c : Int) = (c : Int) := IntWalk.u64_in _ (by omega)
    have h6 : IntKind.u64.wrap (x : Int) = (x : Int) := IntWalk.u64_in _ (by omega)
    have h6i : IntKind.i64.wrap (x : Int) = (x : Int) := IntWalk.i64_in _ (by omega)
    have h7 : IntKind.u64.wrap ((c : Int) + (x : Int)) = ((c + x : Nat) : Int) := by rw [IntWalk.u64_in _ (by omega)]; omega
    have h8 : (4294967296 : Int) < ((c + x : Nat) : Int) := by omega
    generalize ((c + x : Nat) : Int) = y at *
    clear ex
    go_enter Tryd.func52, Tryd.ntmps52
    go_wp2_with fail
    refine bodyPost_ret (v := .tuple #[.slice none 0 0, .int .i64 3]) (results_tmp2 Tryd.results52 _ _ _) rfl ⟨rfl, by repeat (first | apply below_alloc | exact Below.refl _ _)⟩

set_option maxHeartbeats 2000000 in
set_option maxRecDepth 100000 in
theorem rstream_c (k n : List Nat) (c m : Nat) (hk : k.length = 32) (hkb : ∀ i, k.getD i 0 < 256) (hn : n.length = 12) (hnb : ∀ i, n.getD i 0 < 256) (hm : m ≤ 65536) (hc : c + (m + 63) / 64 ≤ 4294967296) (hc' : c < 4294967296) (w : World) :
    Calls Tryd.prog 52 #[.agg (bysA k), .agg (bysA n), .int .u32 (c : Int), .int .i64 (m : Int)] w fun e w' => ∃ p cp, e = .returned (.tuple #[.slice p m cp, .int .i64 0]) ∧ Bs0 w' p (strm k n c m) ∧ Below w.heap.size w w' := by
  have hks := bysA_size' hk
  have hns := bysA_size' hn
  have h3 : ¬ (m : Int) < 0 := by omega
  have h4 : ¬ (65536 : Int) < (m : Int) := by omega
  have k1 : IntKind.i64.wrap ((m : Int) + 63) = ((m + 63 : Nat) : Int) := by rw [IntWalk.i64_in _ (by omega)]; omega
  have k2 : ((m + 63 : Nat) : Int).tdiv 64 = (((m + 63) / 64 : Nat) : Int) := rfl
  obtain ⟨x, ex⟩ : ∃ x, x = (m + 63) / 64 := ⟨_, rfl⟩
  rw [← ex] at hc k2
  generalize ((m + 63 : Nat) : Int) = y1 at *
  have h5 : IntKind.u64.wrap (c : Int) = (c : Int) := IntWalk.u64_in _ (by omega)
  have h6 : IntKind.u64.wrap (x : Int) = (x : Int) := IntWalk.u64_in _ (by omega)
  have h6i : IntKind.i64.wrap (x : Int) = (x : Int) := IntWalk.i64_in _ (by omega)
  have h7 : IntKind.u64.wrap ((c : Int) + (x : Int)) = ((c + x : Nat) : Int) := by rw [IntWalk.u64_in _ (by omega)]; omega
  have h8 : ¬ (4294967296 : Int) < ((c + x : Nat) : Int) := by omega
  generalize ((c + x : Nat) : Int) = y at *
  have Ex := Lib.hid ex
  have Hc := Lib.hid hc
  have Hm := Lib.hid hm
  have hxb : (x : Int) ≤ 2000 := by omega
  clear ex hc hm
  have HBl := Lib.hid (fun c' => rblock_c k n c' hk hkb hn hnb)
  clear hk hkb hn hnb
  go_enter Tryd.func52, Tryd.ntmps52
  go_wp2_with fail
  generalize hW : World.alloc _ _ = W1
  have K1 := Lib.hid (show RowAt W1 w.heap.size (bysA k) by rw [← hW]; clear hW; exact ⟨by go_simp, by go_simp, by go_simp⟩)
  have N1 := Lib.hid (show RowAt W1 (w.heap.size + 1) (bysA n) by rw [← hW]; clear hW; exact ⟨by go_simp, by go_simp, by go_simp⟩)
  have B1 := Lib.hid (show Below w.heap.size w W1 by rw [← hW]; repeat (first | apply below_more | apply below_alloc | apply Below.drew | exact Below.refl _ _))
  clear hW
  generalize w.heap.size + 1 = gn at *
  go_loopw [10, 11] (fun v t wr => ∃ j : Nat, j ≤ x ∧ t = .int .i64 ((64 * j : Nat) : Int) ∧ OwnB wr W1.heap.size v (strm k n c (64 * j)) ∧ Below W1.heap.size W1 wr) (fun _ t _ => 64 * x - (intOf t).toNat)
  case atStart => exact ⟨0, Nat.zero_le _, rfl, own_nil W1 _, Below.refl _ _⟩
  case round =>
    obtain ⟨j, hj, rfl, hown, hbel⟩ := hrel
    obtain ⟨u, eu⟩ : ∃ u, u = 64 * j := ⟨_, rfl⟩
    by_cases hjx : j < x
    · have hju : (u : Int) < (m : Int) := by have := Ex.out; omega
      have hqu : (u : Int).tdiv 64 = (j : Int) := by rw [eu]; show (((64 * j) / 64 : Nat) : Int) = _; rw [Nat.mul_div_cancel_left _ (by decide)]
      have hjw : IntKind.u32.wrap (j : Int) = (j : Int) := IntWalk.u32_in _ (by omega)
      have hjw2 : IntKind.i64.wrap (j : Int) = (j : Int) := IntWalk.i64_in _ (by omega)
      obtain ⟨cj, ecj⟩ : ∃ y, y = c + j := ⟨_, rfl⟩
      have hcj : add32 (c : Int) (j : Int) = (cj : Int) := by unfold add32; rw [IntWalk.u32_in _ (by have := Hc.out; omega), ecj]; omega
      obtain ⟨a1, a2, a3⟩ := K1.out.grow hbel
      obtain ⟨b1, b2, b3⟩ := N1.out.grow hbel
      have HN := Lib.hid (strm_next k n c j)
      rw [← ecj, ← eu] at HN
      rw [← eu] at hown ⊢
      have hlT := strm_length k n c u
      have hbl := blk_length k n cj
      have hbz := bysA_size' hbl
      have HBj := Lib.hid (HBl.out cj wr)
      generalize blk k n cj = b at *
      generalize strm k n c u = T at *
      have HlT := Lib.hid hlT
      have Hbl := Lib.hid hbl
      have Eu := Lib.hid eu
      have hu : (u : Int) ≤ 65536 := by have := Hm.out; omega
      have Ho := Lib.hid hown
      have Hb := Lib.hid hbel
      obtain ⟨W2, eW2⟩ : ∃ x, x = wr := ⟨_, rfl⟩
      clear ecj eu hlT hbl hown hbel eW2
      go_wp2_with fail
      refine HBj.out.mono ?_
      rintro e W3 ⟨rfl, hb3⟩
      have Ho3 := Lib.hid (Ho.out.below hb3)
      have Hb3 := Lib.hid (Hb.out.trans (hb3.mono Hb.out.size))
      clear hb3 a1 a2 a3 b1 b2 b3 Ho Hb HBj
      go_wp2_with fail
      generalize hW : World.alloc _ _ = W4
      have R4 := Lib.hid (show RowAt W4 W3.heap.size (bysA b) by rw [← hW]; clear hW; exact ⟨by go_simp, by go_simp, by go_simp⟩)
      have hbA : Below W3.heap.size W3 W4 := by rw [← hW]; exact below_alloc (Below.refl _ _) _
      have Ho4 := Lib.hid (Ho3.out.below hbA)
      have Hb4 := Lib.hid (Hb3.out.trans (hbA.mono Hb3.out.size))
      have hgb : W1.heap.size ≤ W3.heap.size := Hb3.out.size
      clear hW hbA Hb3
      have hne : u10.ownBlock ≠ some W3.heap.size := fun h => by have := (Ho3.out.ltb _ h).2; omega
      clear Ho3
      generalize W3.heap.size = gb at *
      go_loopw [10, 13] (fun v t wr => ∃ i : Nat, i ≤ 64 ∧ t = .int .i64 i ∧ OwnB wr W1.heap.size v (T ++ b.take i) ∧ v.ownBlock ≠ some gb ∧ RowAt wr gb (bysA b) ∧ Below W1.heap.size W1 wr) (fun _ t _ => 64 - (intOf t).toNat)
      case atStart => exact ⟨0, Nat.zero_le _, rfl, by rw [List.take_zero, List.append_nil]; exact Ho4.out, hne, R4.out, Hb4.out⟩
      case round =>
        obtain ⟨i, hi, rfl, hown, hne, hrow, hbel⟩ := hrel
        by_cases hi64 : i < 64
        · have hi0 : (0 : Int) ≤ (i : Int) := by omega
          have hi1 : (i : Int) < 64 := by omega
          have hib : i < b.length := by rw [Hbl.out]; exact hi64
          have hc := hrow.cellAt i (bysA_get b i hib)
          have ht := take_one b i hib
          have hgl := hrow.2.2
          generalize b.getD i 0 = y at *
          have BA := below_alloc (Below.refl wr.heap.size wr) (.cells #[.int .u8 (y : Int)] 5)
          obtain ⟨v2, w2, hr2, hown2, hgr2, hd2⟩ := app_at (hown.below BA) (bytes_new wr [y] 5 (0, 0)) (Nat.le_trans hbel.size BA.size) (by rw [List.length_append, List.length_take, HlT.out, Hbl.out]; omega)
          have Hb5 := Lib.hid (own_below (hbel.alloc hbel.size (.cells #[.int .u8 (y : Int)] 5)) (hown.below BA) (Nat.le_trans hbel.size BA.size) hgr2)
          have Ho5 := Lib.hid (show OwnB w2 W1.heap.size v2 (T ++ b.take (i + 1)) by rw [← ht, ← List.append_assoc]; exact hown2)
          have hne5 : v2.ownBlock ≠ some gb := by
            rcases hd2 with h | h
            · rw [h]; exact hne
            · rw [h]
              intro h'
              cases h'
              rw [World.size_alloc] at hgl
              omega
          have R5 := Lib.hid (rowAt_grown (hrow.grow BA) hgr2 hne)
          clear hown2 hgr2 BA hown hbel ht hib hd2 hrow
          go_wp2_with (at_builtin; refine Lib.wpList_append_run _ rfl _ _ _ _ rfl _ _ rfl rfl _ _ hr2 ?_)
          go_wp2_with fail
          go_roundw
          case rel => exact ⟨i + 1, by omega, by go_num, Ho5.out, hne5, R5.out, Hb5.out⟩
          case measure => simp [intOf]; omega
        · obtain rfl : i = 64 := by omega
          have Ho5 := Lib.hid (show OwnB wr W1.heap.size u10 (T ++ b) by rw [List.take_of_length_le (by rw [Hbl.out]; exact Nat.le_refl _)] at hown; exact hown)
          rw [HN.out] at Ho5
          have Hb5 := Lib.hid hbel
          clear hown hbel hrow
          go_wp2_with fail
          go_roundw
          case rel => exact ⟨j + 1, by omega, by rw [Eu.out]; go_num, Ho5.out, Hb5.out⟩
          case measure => have := Eu.out; simp [intOf]; omega
    · obtain rfl : j = x := by omega
      have hju : ¬ (u : Int) < (m : Int) := by have := Ex.out; omega
      have Hpre := Lib.hid (strm_pre k n c u m (by omega))
      rw [← eu] at hown ⊢
      have hlT := strm_length k n c u
      generalize strm k n c u = T at *
      obtain ⟨p, cp, rfl, hbs, hcp, hpn⟩ := hown.bs
      have hsl := slB_h p T.length cp m (by omega)
      rw [hlT] at hsl ⊢
      have Hbs := Lib.hid (hbs.take m)
      rw [Hpre.out] at Hbs
      have Hb := Lib.hid (B1.out.trans (hbel.mono B1.out.size))
      clear hown hbel hbs hcp hpn hlT eu
      go_wp2_with fail
      refine bodyPost_ret (v := .tuple #[.slice p m cp, .int .i64 0]) (results_tmp2 Tryd.results52 _ _ _) rfl ⟨p, ⟨cp, rfl⟩, Hbs.out, Hb.out⟩

set_option maxHeartbeats 1000000 in
set_option maxRecDepth 100000 in
theorem rmixed_c (ac bc m : Nat) (ap bp : Option Addr) (a b : List Nat) (w : World) (ha : m = a.length) (hb : m = b.length) (hab : ∀ i, a.getD i 0 < 256) (hbb : ∀ i, b.getD i 0 < 256) (haB : Bs0 w ap a) (hbB : Bs0 w bp b) (hm : m ≤ 65536) :
    Calls Tryd.prog 43 #[.slice ap m ac, .slice bp m bc] w fun e w' => ∃ v, e = .returned v ∧ OwnB w' w.heap.size v (mixd a b) ∧ Below w.heap.size w w' := by
  have Ha := Lib.hid ha
  have Hb := Lib.hid hb
  have HA := Lib.hid haB
  have HB := Lib.hid hbB
  have hmi : (m : Int) ≤ 65536 := by omega
  clear ha hb haB hbB
  go_enter Tryd.func43, Tryd.ntmps43
  go_wp2_with fail
  go_loopw [5, 6] (fun v t wr => ∃ j : Nat, j ≤ m ∧ t = .int .i64 j ∧ OwnB wr w.heap.size v ((mixd a b).take j) ∧ Below w.heap.size w wr) (fun _ t _ => m - (intOf t).toNat)
  case atStart => exact ⟨0, Nat.zero_le _, rfl, own_nil w _, Below.refl _ _⟩
  case round =>
    obtain ⟨j, hj, rfl, hown, hbel⟩ := hrel
    by_cases hjm : j < m
    · have hj0 : (j : Int) < (m : Int) := by omega
      have hj1 : (0 : Int) ≤ (j : Int) := by omega
      have hja : j < a.length := by rw [← Ha.out]; exact hjm
      have hjb : j < b.length := by rw [← Hb.out]; exact hjm
      obtain ⟨g1, o1, rfl, hA⟩ : ∃ b o, ap = some ⟨b, o, none⟩ ∧ BytesAt w b o a := by
        rcases HA.out with h | h
        · rw [h] at hja; simp at hja
        · exact h
      obtain ⟨g2, o2, rfl, hB⟩ : ∃ x o, bp = some ⟨x, o, none⟩ ∧ BytesAt w x o b := by
        rcases HB.out with h | h
        · rw [h] at hjb; simp at hjb
        · exact h
      have hca := (hA.grow hbel).2 j hja
      have hcb := (hB.grow hbel).2 j hjb
      have hga := (hA.grow hbel).1
      have hgb := (hB.grow hbel).1
      have hx := u8_xor_nat (a.getD j 0) (b.getD j 0) (hab j) (hbb j)
      have Hsn := Lib.hid (mixd_snoc a b j hjb)
      generalize a.getD j 0 = y at *
      generalize b.getD j 0 = z at *
      generalize y ^^^ z = v at *
      have hlen : ((mixd a b).take j).length ≤ 65536 := by rw [List.length_take]; omega
      have Hlen := Lib.hid hlen
      have Hown := Lib.hid hown
      have Hbel := Lib.hid hbel
      clear hA hB hja hjb hown hbel hlen
      go_wp2_with fail
      refine wp_region_pick wr [0, 1, 2, 3, 4, 5, 6, 7, 8, 9] [true, false, false, false, false, false, false, false, false, false] [] [] 10 (by kernel_rfl) rfl (by kernel_rfl) (by intro c a d v w h; cases d <;> exact h) ((Below.refl _ _).drew) ?_
      simp only [pick, List.getElem?_cons_succ, List.getElem?_cons_zero, List.drop_succ_cons, List.drop_zero]
      refine wpHoldF_late (wanted_none rfl) (fun w => by go_simp; rfl) ?_
      iterate 9 (refine wpHoldF_val (wanted_none rfl) (by intro K o d hK; go_simp; exact hK _ (Below.refl _ _)) ?_)
      refine wpHoldF_nil ?_
      intro w2 hb2 _
      have BA := below_alloc (Below.refl w2.heap.size w2) (.cells #[.int .u8 (v : Int)] 5)
      have hb3 := Hbel.out.trans (hb2.mono Hbel.out.size)
      have ho3 := Hown.out.below hb2
      obtain ⟨v4, w4, hr4, hown4, hgr4⟩ := app_own (k := 1) (cap := 1) (ho3.below BA) (Bs0.some (bytes_new w2 [v] 5 (0, 0))) rfl (fun h => by cases h) (Nat.le_trans hb3.size BA.size) (by have := Hlen.out; simp only [List.length_cons, List.length_nil]; omega)
      have Hb4 := Lib.hid (own_below (hb3.alloc hb3.size (.cells #[.int .u8 (v : Int)] 5)) (ho3.below BA) (Nat.le_trans hb3.size BA.size) hgr4)
      have Ho4 := Lib.hid hown4
      rw [Hsn.out] at Ho4
      clear hown4 hgr4 BA hb3 ho3 hb2 hca hcb
      go_wp2_with (at_builtin; refine Lib.wpList_append_run _ rfl _ _ _ _ rfl _ _ rfl rfl _ _ hr4 ?_)
      go_wp2_with fail
      go_roundw
      case rel => exact ⟨j + 1, by omega, by go_num, Ho4.out, Hb4.out⟩
      case measure => simp [intOf]; omega
    · obtain rfl : j = m := by omega
      have Ho := Lib.hid hown
      have Hbe := Lib.hid hbel
      clear hown hbel
      go_wp2_with fail
      go_ret
      refine ⟨_, rfl, ?_, Hbe.out⟩
      have h1 := Ho.out
      rw [List.take_of_length_le (by rw [mixd_length, ← Hb.out]; exact Nat.le_refl _)] at h1
      exact h1

set_option maxHeartbeats 400000 in
set_option maxRecDepth 100000 in
/-- What is refused. -/
theorem rxor_bad (k n : List Nat) (c m cap : Nat) (p : Option Addr) (hk : k.length = 32) (hn : n.length = 12) (hc : c < 4294967296) (w : World) (h : 65536 < m ∨ m ≤ 65536 ∧ 4294967296 < c + (m + 63) / 64) :
    Calls Tryd.prog 39 #[.agg (bysA k), .agg (bysA n), .int .u32 (c : Int), .slice p m cap] w fun e w' => e = .returned (.tuple #[.slice none 0 0, .int .i64 3]) ∧ Below w.heap.size w w' := by
  have hks := bysA_size' hk
  have hns := bysA_size' hn
  have HS := Lib.hid (fun W => rstream_bad k n c (m : Int) 3 hc W (by omega))
  go_enter Tryd.func39, Tryd.ntmps39
  go_wp2_with fail
  refine (HS.out _).mono ?_
  rintro e W2 ⟨rfl, hb2⟩
  have B2 := Lib.hid ((below_alloc (below_alloc (Below.refl w.heap.size w) (.cells (bysA k) 23)) (.cells (bysA n) 34)).trans (hb2.mono (by simp; omega)))
  clear hb2
  go_wp2_with fail
  refine bodyPost_ret (v := .tuple #[.slice none 0 0, .int .i64 3]) (results_tmp2 Tryd.results39 _ _ _) rfl ⟨rfl, B2.out⟩

set_option maxHeartbeats 1000000 in
set_option maxRecDepth 100000 in
theorem rxor_own (k n l : List Nat) (c m cap : Nat) (p : Option Addr) (hk : k.length = 32) (hkb : ∀ i, k.getD i 0 < 256) (hn : n.length = 12) (hnb : ∀ i, n.getD i 0 < 256) (hl : m = l.length) (hlb : ∀ i, l.getD i 0 < 256)
    (hm : m ≤ 65536) (hc : c + (m + 63) / 64 ≤ 4294967296) (hc' : c < 4294967296) (w : World) (hB : Bs0 w p l) :
    Calls Tryd.prog 39 #[.agg (bysA k), .agg (bysA n), .int .u32 (c : Int), .slice p m cap] w fun e w' => ∃ v, e = .returned (.tuple #[v, .int .i64 0]) ∧ OwnB w' w.heap.size v (mixd (strm k n c m) l) ∧ Below w.heap.size w w' := by
  have hks := bysA_size' hk
  have hns := bysA_size' hn
  have HS := Lib.hid (fun W => rstream_c k n c m hk hkb hn hnb hm hc hc' W)
  have hTl := strm_length k n c m
  have hTb := strm_bts k n c m
  generalize strm k n c m = T at *
  have HB := Lib.hid hB
  have Hl := Lib.hid hl
  have HTl := Lib.hid hTl
  have HTb := Lib.hid hTb
  have Hlb := Lib.hid hlb
  have Hm := Lib.hid hm
  clear hk hkb hn hnb hc hc' hB hl hTl hTb hlb hm
  go_enter Tryd.func39, Tryd.ntmps39
  go_wp2_with fail
  refine (HS.out _).mono ?_
  rintro e W2 ⟨q, cq, rfl, hbs, hb2⟩
  have B2 := Lib.hid ((below_alloc (below_alloc (Below.refl w.heap.size w) (.cells (bysA k) 23)) (.cells (bysA n) 34)).trans (hb2.mono (by simp; omega)))
  have HM := Lib.hid (rmixed_c cq cap m q p T l W2 HTl.out.symm Hl.out HTb.out Hlb.out hbs (HB.out.grow B2.out) Hm.out)
  clear hb2 hbs HS
  go_wp2_with fail
  refine HM.out.mono ?_
  rintro e W3 ⟨v, rfl, hown, hb3⟩
  have HX := Lib.hid (hown.base B2.out.size)
  have B3 := Lib.hid (B2.out.trans (hb3.mono B2.out.size))
  clear hown hb3
  go_wp2_with fail
  refine bodyPost_ret (v := .tuple #[v, .int .i64 0]) (results_tmp2 Tryd.results39 _ _ _) rfl ⟨v, rfl, HX.out, B3.out⟩
theorem rxor_c (k n l : List Nat) (c m cap : Nat) (p : Option Addr) (hk : k.length = 32) (hkb : ∀ i, k.getD i 0 < 256) (hn : n.length = 12) (hnb : ∀ i, n.getD i 0 < 256) (hl : m = l.length) (hlb : ∀ i, l.getD i 0 < 256)
    (hm : m ≤ 65536) (hc : c + (m + 63) / 64 ≤ 4294967296) (hc' : c < 4294967296) (w : World) (hB : Bs0 w p l) :
    Calls Tryd.prog 39 #[.agg (bysA k), .agg (bysA n), .int .u32 (c : Int), .slice p m cap] w fun e w' => ∃ q cq, e = .returned (.tuple #[.slice q m cq, .int .i64 0]) ∧ Bs0 w' q (mixd (strm k n c m) l) ∧ Below w.heap.size w w' := by
  refine (rxor_own k n l c m cap p hk hkb hn hnb hl hlb hm hc hc' w hB).mono ?_
  rintro e w' ⟨v, rfl, hown, hb⟩
  obtain ⟨q, cq, rfl, hbs, _⟩ := hown.bs
  exact ⟨q, cq, by rw [mixd_length, ← hl], hbs, hb⟩
end Go.Proofs.YtnkfiljmgbnbkaaDoor

/-
  The reference of layer 8: a stream round.
-/
namespace Go.Proofs.YtnkfiljmgbnbkaaDoor
open Go.RowKit Go.Hold Go.Sh Go.Ch Go.Li

theorem mixP_at (k b : List Nat) (n j : Nat) (h : j < n) : (k.getD j 0 ^^^ b.getD j 0) = (k.getD j 0 ^^^ (b.take n).getD j 0) := by
  simp [List.getD, h]
set_option maxHeartbeats 1500000 in
set_option maxRecDepth 100000 in
theorem rstream8_c (k l : List Nat) (b o m cap : Nat) (hk : k.length = 32) (hkb : ∀ i, k.getD i 0 < 256) (hlb : ∀ i, l.getD i 0 < 256) (hm : m = l.length) (h33 : 33 ≤ m) (h4k : m ≤ 4096) (hmc : m ≤ cap) (w : World) (hB : BytesAt w b o l) :
    Calls Tryd.prog 29 #[.agg (bysA k), .slice (some ⟨b, o, none⟩) m cap] w fun e w' => ∃ v, e = .returned v ∧ OwnB w' w.heap.size v (jn (sRd k (prt l))) ∧ Below w.heap.size w w' := by
  have hks := bysA_size' hk
  have hl32 : (l.take 32).length = 32 := by rw [List.length_take]; omega
  have hlt := hB.1
  have HB := Lib.hid hB
  have Hl := Lib.hid (show 33 ≤ l.length by omega)
  have Hl32 := Lib.hid hl32
  have Hk := Lib.hid hk
  have hlb32 := bts_take hlb 32
  have hs1 := fun W => slB_lo32 b o m cap (by omega) W
  have hs2 := fun W => slB_h32 (some ⟨b, o, none⟩) m cap (by omega) W
  have HR := Lib.hid (fun (W : World) (hW : BytesAt W b o l) => hW.adv (n := 32) (cap := cap) (by omega))
  have HX := Lib.hid (fun (W : World) (hW : BytesAt W b o l) => rxor_own (mixd k (l.take 32)) (zs 12) (l.drop 32) 0 (m - 32) (cap - 32) (some ⟨b, adv o 32 cap, none⟩) (by rw [mixd_length, hl32]) (mixd_bts hkb hlb32) (zs_length 12) (bts_zs 12) (by rw [List.length_drop, hm]) (bts_drop hlb 32) (by omega) (by omega) (by decide) W (Bs0.some (hW.adv (n := 32) (cap := cap) (by omega))))
  have Hse := Lib.hid (show jn (sRd k (prt l)) = l.take 32 ++ mixd (strm (mixd k (l.take 32)) (zs 12) 0 (m - 32)) (l.drop 32) by unfold jn sRd prt; simp only [List.length_drop, ← hm])
  have Hml := Lib.hid (show (mixd (strm (mixd k (l.take 32)) (zs 12) 0 (m - 32)) (l.drop 32)).length = m - 32 by rw [mixd_length, List.length_drop, hm])
  have Hall := Lib.hid (show mixP k (l.take 32) 32 = mixd k (l.take 32) by have := mixP_all k (l.take 32); rwa [hl32] at this)
  have Hml2 := bysA_size' (show (mixd k (l.take 32)).length = 32 by rw [mixd_length, hl32])
  generalize mixd (strm (mixd k (l.take 32)) (zs 12) 0 (m - 32)) (l.drop 32) = H at *
  generalize ekl : mixd k (l.take 32) = kl at *
  clear ekl hB hm hk
  go_enter Tryd.func29, Tryd.ntmps29
  go_wp2_with fail
  generalize hW : World.alloc _ _ = W0
  have K0 := Lib.hid (show RowAt W0 w.heap.size (bysA (mixP k (l.take 32) 0)) by rw [mixP_zero k (l.take 32) (by rw [Hk.out, Hl32.out]), ← hW]; exact RowAt.of (block_new w _))
  have B0 := Lib.hid (show Below w.heap.size w W0 by rw [← hW]; exact below_alloc (Below.refl _ _) _)
  clear hW
  obtain ⟨z, ez⟩ : ∃ z, z = w.heap.size := ⟨_, rfl⟩
  have Ez := Lib.hid ez
  have hbz : b ≠ z := by omega
  rw [← ez] at K0 ⊢
  clear ez
  go_loopw [5] (fun i wr => ∃ j : Nat, j ≤ 32 ∧ i = .int .i64 j ∧ Sets W0 z (bysA (mixP k (l.take 32) j)) wr) (fun i _ => 32 - (intOf i).toNat)
  case atStart => exact ⟨0, by decide, rfl, Sets.refl K0.out⟩
  case round =>
    obtain ⟨j, hj, rfl, hset⟩ := hrel
    by_cases hj32 : j < 32
    · have hj0 : (0 : Int) ≤ (j : Int) := by omega
      have hj1 : (j : Int) < 32 := by omega
      have hjm : (j : Int) < (m : Int) := by omega
      have hjl : j < (l.take 32).length := by rw [Hl32.out]; exact hj32
      have hrow := hset.row K0.out
      have hck := hrow.cellAt j (bysA_get _ j (by rw [mixP_length]; exact hjl))
      rw [mix_step k (l.take 32) j hjl] at hck
      have hcb := (hset.bytes (HB.out.grow B0.out) hbz).2 j (by have := Hl.out; omega)
      have hfk := hrow.frozenAt j
      have hx := u8_xor_nat (k.getD j 0) (l.getD j 0) (hkb j) (hlb j)
      rw [mixP_at k l 32 j hj32] at hx
      have Hset := Lib.hid (mixP_set k (l.take 32) j hjl)
      generalize k.getD j 0 ^^^ (l.take 32).getD j 0 = v at *
      generalize k.getD j 0 = x at *
      generalize l.getD j 0 = y at *
      have HS := Lib.hid hset
      have Hrow := Lib.hid hrow
      have hck' : ∀ os d, (wr.plus os d).cell? ⟨z, j, none⟩ = some (.int .u8 (x : Int)) := fun os d => by rw [(below_more (Below.refl wr.heap.size wr) os d).cell hrow.2.2]; exact hck
      have hcb' : ∀ os d, (wr.plus os d).cell? ⟨b, o + j, none⟩ = some (.int .u8 (y : Int)) := fun os d => by rw [(below_more (Below.refl wr.heap.size wr) os d).cell (Nat.lt_of_lt_of_le hlt (Nat.le_trans B0.out.size hset.size))]; exact hcb
      clear hset hrow
      go_wp2_with fail
      refine wp_region_pickT wr [0, 1, 2, 3, 4, 5, 6, 7, 8] [false, false, false, false, false, false, false, false, false] [9, 10] (by kernel_rfl) (by kernel_rfl) (by intro c a d v w h; cases d <;> exact h) ((Below.refl _ _).drew) ?_
      simp only [pick, List.getElem?_cons_succ, List.getElem?_cons_zero]
      iterate 9 (refine wpHoldF_val (wanted_none rfl) (by intro K o d hK; go_simp; exact hK _ (Below.refl _ _)) ?_)
      refine wpHoldF_nil ?_
      intro w1 hb1
      have HS1 := Lib.hid (HS.out.grow hb1)
      have hR1 := Hrow.out.grow hb1
      have hck1 := hR1.cellAt j (bysA_get _ j (by rw [mixP_length]; exact hjl))
      have hfk1 := hR1.frozenAt j
      clear hb1 hR1 hck' hcb' hck hcb hfk
      go_wp2_with fail
      go_roundw
      case rel =>
        refine ⟨j + 1, by omega, by go_num, ?_⟩
        rw [← Hset.out, ← bysA_set]; exact HS1.out.cell K0.out
      case measure => simp [intOf]; omega
    · obtain rfl : j = 32 := by omega
      rw [Hall.out] at hset
      have K1 := Lib.hid (hset.row K0.out)
      have B1 := Lib.hid (hset.below B0.out (by have := Ez.out; omega) B0.out.size)
      clear hset K0 B0
      go_wp2_with fail
      have hA := below_alloc (Below.refl wr.heap.size wr) (.cells (bysA (zs 12)) 34)
      have N2 := Lib.hid (RowAt.of (block_new wr (.cells (bysA (zs 12)) 34)))
      have K2 := Lib.hid (K1.out.grow hA)
      have B2 := Lib.hid (B1.out.trans (hA.mono B1.out.size))
      have hz12 := bysA_size' (zs_length 12)
      clear hA K1 B1
      generalize hW : World.alloc wr _ = W2
      rw [show wr.alloc (.cells (bysA (zs 12)) 34) = W2 from hW] at N2 K2 B2
      generalize wr.heap.size = gn at *
      clear hW
      refine wp_region_growsL W2 7 (fun w w' => Below w.heap.size w w') (listR [fixV (.agg (bysA kl)), fixV (.agg (bysA (zs 12))), fixV (.slice (some ⟨b, o, none⟩) m cap), fixV (.slice (some ⟨b, adv o 32 cap, none⟩) (m - 32) (cap - 32)), ownT W2.heap.size H, ownT W2.heap.size H, ownV W2.heap.size H, fixV (.int .i64 0)]) 8 [9] [0, 1, 2, 3, 4, 5, 6, 7] [0, 1, 2, 3, 4, 5, 6] [some 24, some 25, some 26, some 27, some 28, some 23, some 29, some 30] [some 24, some 25, some 26, some 27, some 28, some 23, some 29] (by kernel_rfl) (by kernel_rfl) (by kernel_rfl) (by kernel_rfl) (by kernel_rfl) (by kernel_rfl) ((Below.refl _ _).drew) (fun w w' h h' => h.trans (h'.mono h.size)) (listR_mono ⟨stays_fix _, stays_fix _, stays_fix _, stays_fix _, stays_ownT _ _, stays_ownT _ _, stays_own _ _, stays_fix _, trivial⟩) ?_
      intro vals
      simp only [List.take_succ_cons, List.take_zero]
      refine ⟨grow_val [] [] (by kernel_rfl) rfl (fun K w hb hd hK => ?_), ?_⟩
      · obtain ⟨k1, k2, k3⟩ := K2.out.grow hb
        simp only [putZ]
        refine ⟨wanted_none rfl, ?_⟩
        go_simp
        exact hK _ _ _ (Below.refl _ _) rfl
      refine ⟨grow_val [] [] (by kernel_rfl) rfl (fun K w hb hd hK => ?_), ?_⟩
      · obtain ⟨k1, k2, k3⟩ := N2.out.grow hb
        simp only [putZ]
        refine ⟨wanted_none rfl, ?_⟩
        go_simp
        exact hK _ _ _ (Below.refl _ _) rfl
      refine ⟨grow_val [] [] (by kernel_rfl) rfl (fun K w hb hd hK => ?_), ?_⟩
      · simp only [putZ]
        refine ⟨wanted_none rfl, ?_⟩
        go_simp
        exact hK _ _ _ (Below.refl _ _) rfl
      refine ⟨grow_val [2] [some 26] (by kernel_rfl) (by kernel_rfl) (fun K w hb hd hK => ?_), ?_⟩
      · have d2 : vals 2 = .slice (some ⟨b, o, none⟩) m cap := hd 2 (by simp)
        simp only [List.map_cons, List.map_nil, putZ, d2]
        refine ⟨wanted_none rfl, ?_⟩
        go_simp
        exact hK _ _ _ (Below.refl _ _) rfl
      refine ⟨grow_call [0, 1, 3] [some 24, some 25, some 27] (by kernel_rfl) (by kernel_rfl) (fun K w hb hd hK => ?_), ?_⟩
      · have d0 : vals 0 = .agg (bysA kl) := hd 0 (by simp)
        have d1 : vals 1 = .agg (bysA (zs 12)) := hd 1 (by simp)
        have d3 : vals 3 = .slice (some ⟨b, adv o 32 cap, none⟩) (m - 32) (cap - 32) := hd 3 (by simp)
        simp only [List.map_cons, List.map_nil, putZ, d0, d1, d3]
        refine ⟨wanted_none rfl, ?_⟩
        go_simp
        refine (HX.out w (HB.out.grow (B2.out.trans (hb.mono B2.out.size)))).mono ?_
        rintro e w' ⟨u, rfl, ho, hb'⟩
        exact ⟨_, rfl, hK _ _ hb' ⟨u, rfl, ho.base hb.size⟩⟩
      refine ⟨grow_val [4] [some 28] (by kernel_rfl) (by kernel_rfl) (fun K w hb hd hK => ?_), ?_⟩
      · obtain ⟨u4, d4, o4⟩ : ∃ u, vals 4 = .tuple #[u, .int .i64 0] ∧ OwnB w W2.heap.size u H := hd 4 (by simp)
        simp only [List.map_cons, List.map_nil, putZ, d4]
        refine ⟨wanted_none rfl, ?_⟩
        go_simp
        exact hK _ _ _ (Below.refl _ _) ⟨_, rfl, o4⟩
      refine ⟨grow_val [5] [some 23] (by kernel_rfl) (by kernel_rfl) (fun K w hb hd hK => ?_), ?_⟩
      · obtain ⟨u5, d5, o5⟩ : ∃ u, vals 5 = .tuple #[u, .int .i64 0] ∧ OwnB w W2.heap.size u H := hd 5 (by simp)
        simp only [List.map_cons, List.map_nil, putZ, d5]
        refine ⟨wanted_none rfl, ?_⟩
        go_simp
        exact hK _ _ _ (Below.refl _ _) o5
      refine ⟨grow_val [5] [some 23] (by kernel_rfl) (by kernel_rfl) (fun K w hb hd hK => ?_), ?_⟩
      · obtain ⟨u5, d5, o5⟩ : ∃ u, vals 5 = .tuple #[u, .int .i64 0] ∧ OwnB w W2.heap.size u H := hd 5 (by simp)
        simp only [List.map_cons, List.map_nil, putZ, d5]
        refine ⟨wanted_none rfl, ?_⟩
        go_simp
        exact hK _ _ _ (Below.refl _ _) rfl
      constructor
      · intro W3 hbg hR
        obtain ⟨u5, d5, _⟩ : ∃ u, vals 5 = .tuple #[u, .int .i64 0] ∧ OwnB W3 W2.heap.size u H := hR 5 (by simp)
        obtain ⟨p6, c6, e6, y6, q6, z6⟩ := OwnB.bs (show OwnB W3 W2.heap.size (vals 6) H from hR 6 (by simp))
        have d7 : vals 7 = .int .i64 0 := hR 7 (by simp)
        simp only [List.map_cons, List.map_nil, putZ, d5, e6, d7, pick, List.getElem?_cons_succ, List.getElem?_cons_zero]
        rw [Hml.out] at q6 ⊢
        generalize vals 0 = e0
        generalize vals 1 = e1
        generalize vals 2 = e2
        generalize vals 3 = e3
        generalize vals 4 = e4
        clear hR d5 e6 d7
        clear vals
        have Y3 := HB.out.grow (B2.out.trans (hbg.mono B2.out.size))
        have B3 := Lib.hid (B2.out.trans (hbg.mono B2.out.size))
        have HJ := Lib.hid (rjoin_c cap c6 32 (m - 32) (some ⟨b, o, none⟩) p6 (l.take 32) H W3 Hl32.out.symm Hml.out.symm ((Bs0.some Y3).take 32) (fun h => by cases h) y6 z6 (by rw [Hl32.out, Hml.out]; omega))
        clear hbg Y3 y6 z6 N2 K2 B2
        go_wp2_with fail
        refine HJ.out.mono ?_
        rintro e W4 ⟨u, rfl, hown, hb4⟩
        have O4 := Lib.hid (hown.base B3.out.size)
        have B4 := Lib.hid (B3.out.trans (hb4.mono B3.out.size))
        rw [← Hse.out] at O4
        clear hown hb4 HJ
        go_wp2_with fail
        go_ret
        exact ⟨u, rfl, O4.out, B4.out⟩
      · intro W3 hbg hR
        obtain ⟨u5, d5, _⟩ : ∃ u, vals 5 = .tuple #[u, .int .i64 0] ∧ OwnB W3 W2.heap.size u H := hR 5 (by simp)
        obtain ⟨p6, c6, e6, y6, q6, z6⟩ := OwnB.bs (show OwnB W3 W2.heap.size (vals 6) H from hR 6 (by simp))
        simp only [List.map_cons, List.map_nil, putZ, d5, e6, pick, List.getElem?_cons_succ, List.getElem?_cons_zero]
        rw [Hml.out] at q6 ⊢
        generalize vals 0 = e0
        generalize vals 1 = e1
        generalize vals 2 = e2
        generalize vals 3 = e3
        generalize vals 4 = e4
        clear hR d5 e6
        clear vals
        have Y3 := HB.out.grow (B2.out.trans (hbg.mono B2.out.size))
        have B3 := Lib.hid (B2.out.trans (hbg.mono B2.out.size))
        have HJ := Lib.hid (rjoin_c cap c6 32 (m - 32) (some ⟨b, o, none⟩) p6 (l.take 32) H W3 Hl32.out.symm Hml.out.symm ((Bs0.some Y3).take 32) (fun h => by cases h) y6 z6 (by rw [Hl32.out, Hml.out]; omega))
        clear hbg Y3 y6 z6 N2 K2 B2
        go_wp2_with fail
        refine HJ.out.mono ?_
        rintro e W4 ⟨u, rfl, hown, hb4⟩
        have O4 := Lib.hid (hown.base B3.out.size)
        have B4 := Lib.hid (B3.out.trans (hb4.mono B3.out.size))
        rw [← Hse.out] at O4
        clear hown hb4 HJ
        go_wp2_with fail
        go_ret
        exact ⟨u, rfl, O4.out, B4.out⟩
end Go.Proofs.YtnkfiljmgbnbkaaDoor

/-
  The reference of layer 8: a tag round.
-/
namespace Go.Proofs.YtnkfiljmgbnbkaaDoor
open Go.RowKit Go.Hold Go.Sh Go.Ch Go.Li

set_option maxHeartbeats 1500000 in
set_option maxRecDepth 100000 in
theorem rtag8_c (k l : List Nat) (b o m cap : Nat) (hk : k.length = 32) (hkb : ∀ i, k.getD i 0 < 256) (hlb : ∀ i, l.getD i 0 < 256) (hm : m = l.length) (h33 : 33 ≤ m) (h4k : m ≤ 4096) (hmc : m ≤ cap) (w : World) (hB : BytesAt w b o l) :
    Calls Tryd.prog 30 #[.agg (bysA k), .slice (some ⟨b, o, none⟩) m cap] w fun e w' => ∃ v, e = .returned v ∧ OwnB w' w.heap.size v (jn (tRd k (prt l))) ∧ Below w.heap.size w w' := by
  have hks := bysA_size' hk
  have hl32 : (l.take 32).length = 32 := by rw [List.length_take]; omega
  have hd32 : (l.drop 32).length = m - 32 := by rw [List.length_drop, hm]
  have HB := Lib.hid hB
  have Hl := Lib.hid (show 33 ≤ l.length by omega)
  have Hl32 := Lib.hid hl32
  have Hk := Lib.hid hk
  have hs1 := fun W => slB_lo32 b o m cap (by omega) W
  have hs2 := fun W => slB_h32 (some ⟨b, o, none⟩) m cap (by omega) W
  have HR := Lib.hid (fun (W : World) (hW : BytesAt W b o l) => hW.adv (n := 32) (cap := cap) (by omega))
  have HC := Lib.hid (fun (W : World) => rbytes_c k hk W)
  have HM := Lib.hid (fun (W : World) (p : Option Addr) (c : Nat) (hp : Bs0 W p k) (hz : p = none → c = 0) (hW : BytesAt W b o l) => rmac_c c (cap - 32) 32 (m - 32) p (some ⟨b, adv o 32 cap, none⟩) k (l.drop 32) W hk.symm hd32.symm (by omega) hkb hp hz (by omega) (bts_drop hlb 32) (Bs0.some (hW.adv (n := 32) (cap := cap) (by omega))) (fun h => by cases h))
  obtain ⟨T, eT⟩ : ∃ T, T = keyN (mac k (l.drop 32)) := ⟨_, rfl⟩
  rw [keA_bys, ← eT] at HM
  have hTl : T.length = 32 := by rw [eT]; exact keyN_length _
  have HCT := Lib.hid (fun (W : World) => rbytes_c T hTl W)
  have HX := Lib.hid (fun (W : World) (p : Option Addr) (c : Nat) (hp : Bs0 W p T) (hW : BytesAt W b o l) => rmixed_c c cap 32 p (some ⟨b, o, none⟩) T (l.take 32) W hTl.symm hl32.symm (by rw [eT]; exact keyN_bts _) (bts_take hlb 32) hp ((Bs0.some hW).take 32) (by decide))
  have Hse := Lib.hid (show jn (tRd k (prt l)) = mixd T (l.take 32) ++ l.drop 32 by unfold jn tRd prt; rw [eT])
  have Hml := Lib.hid (show (mixd T (l.take 32)).length = 32 by rw [mixd_length, hl32])
  have Hd32 := Lib.hid hd32
  have hts := bysA_size' hTl
  have Htl := Lib.hid hTl
  generalize mixd T (l.take 32) = H at *
  clear eT hB hm hk hl32 hd32 hTl hkb hlb
  go_enter Tryd.func30, Tryd.ntmps30
  go_wp2_with fail
  generalize hW : World.alloc _ _ = W0
  have K0 := Lib.hid (show RowAt W0 w.heap.size (bysA k) by rw [← hW]; exact RowAt.of (block_new w _))
  have B0 := Lib.hid (show Below w.heap.size w W0 by rw [← hW]; exact below_alloc (Below.refl _ _) _)
  clear hW
  obtain ⟨z, ez⟩ : ∃ z, z = w.heap.size := ⟨_, rfl⟩
  have Ez := Lib.hid ez
  rw [← ez] at K0 ⊢
  clear ez
  refine wp_region_grows W0 6 (fun w w' => Below w.heap.size w w') (listR [fixV (.agg (bysA k)), ownV W0.heap.size k, fixV (.slice (some ⟨b, o, none⟩) m cap), fixV (.slice (some ⟨b, adv o 32 cap, none⟩) (m - 32) (cap - 32)), fixV (.agg (bysA T)), rowV W0.heap.size (fun g => .pointer (some ⟨g, 0, none⟩)) (bysA (zs 32))]) [6] [0, 1, 2, 3, 4, 5] [some 7, some 8, some 9, some 10, some 11, some 5] (by kernel_rfl) (by kernel_rfl) (by kernel_rfl) (by kernel_rfl) ((Below.refl _ _).drew) (fun w w' h h' => h.trans (h'.mono h.size)) (listR_mono ⟨stays_fix _, stays_own _ _, stays_fix _, stays_fix _, stays_fix _, stays_row _ _ _, trivial⟩) ?_
  intro vals
  simp only [List.take_succ_cons, List.take_zero]
  refine ⟨grow_val [] [] (by kernel_rfl) rfl (fun K w hb hd hK => ?_), ?_⟩
  · obtain ⟨k1, k2, k3⟩ := K0.out.grow hb
    simp only [putZ]
    refine ⟨wanted_none rfl, ?_⟩
    go_simp
    exact hK _ _ _ (Below.refl _ _) rfl
  refine ⟨grow_call [0] [some 7] (by kernel_rfl) (by kernel_rfl) (fun K w hb hd hK => ?_), ?_⟩
  · have d0 : vals 0 = .agg (bysA k) := hd 0 (by simp)
    simp only [List.map_cons, List.map_nil, putZ, d0]
    refine ⟨wanted_none rfl, ?_⟩
    go_simp
    refine (HC.out w).mono ?_
    rintro e w' ⟨u, rfl, ho, hb'⟩
    exact ⟨_, rfl, hK _ _ hb' (ho.base hb.size)⟩
  refine ⟨grow_val [] [] (by kernel_rfl) rfl (fun K w hb hd hK => ?_), ?_⟩
  · simp only [putZ]
    refine ⟨wanted_none rfl, ?_⟩
    go_simp
    exact hK _ _ _ (Below.refl _ _) rfl
  refine ⟨grow_val [2] [some 9] (by kernel_rfl) (by kernel_rfl) (fun K w hb hd hK => ?_), ?_⟩
  · have d2 : vals 2 = .slice (some ⟨b, o, none⟩) m cap := hd 2 (by simp)
    simp only [List.map_cons, List.map_nil, putZ, d2]
    refine ⟨wanted_none rfl, ?_⟩
    go_simp
    exact hK _ _ _ (Below.refl _ _) rfl
  refine ⟨grow_call [1, 3] [some 8, some 10] (by kernel_rfl) (by kernel_rfl) (fun K w hb hd hK => ?_), ?_⟩
  · obtain ⟨p1, c1, d1, y1, q1, z1⟩ := OwnB.bs (show OwnB w W0.heap.size (vals 1) k from hd 1 (by simp))
    have d3 : vals 3 = .slice (some ⟨b, adv o 32 cap, none⟩) (m - 32) (cap - 32) := hd 3 (by simp)
    rw [Hk.out] at d1
    simp only [List.map_cons, List.map_nil, putZ, d1, d3]
    refine ⟨wanted_none rfl, ?_⟩
    go_simp
    refine (HM.out w p1 c1 y1 z1 (HB.out.grow (B0.out.trans (hb.mono B0.out.size)))).mono ?_
    rintro e w' ⟨rfl, hb'⟩
    exact ⟨_, rfl, hK _ _ hb' rfl⟩
  refine ⟨grow_val [] [] (by kernel_rfl) rfl (fun K w hb hd hK => ?_), ?_⟩
  · simp only [putZ]
    refine ⟨wanted_none rfl, ?_⟩
    go_simp
    exact hK _ _ _ (below_alloc (Below.refl _ _) _) ⟨_, rfl, RowAt.of (block_new _ _), hb.size⟩
  intro W1 hbg hR
  have d4 : vals 4 = .agg (bysA T) := hR 4 (by simp)
  obtain ⟨g, d5, r5, g5⟩ : ∃ g, vals 5 = .pointer (some ⟨g, 0, none⟩) ∧ RowAt W1 g (bysA (zs 32)) ∧ W0.heap.size ≤ g := hR 5 (by simp)
  simp only [List.map_cons, List.map_nil, putZ, d4, d5, pick, List.getElem?_cons_succ, List.getElem?_cons_zero]
  generalize vals 0 = e0
  generalize vals 1 = e1
  generalize vals 2 = e2
  generalize vals 3 = e3
  clear hR d4 d5
  clear vals
  have hgz : w.heap.size ≤ g := Nat.le_trans B0.out.size g5
  have T1 := Lib.hid (r5.set (bysA T))
  have B1 := Lib.hid (below_setRow (B0.out.trans (hbg.mono B0.out.size)) hgz (bysA T))
  have hz32 := bysA_size' (zs_length 32)
  obtain ⟨t1, t2, t3⟩ := r5
  generalize hW1 : W1.setRow g (bysA T) = W2 at *
  clear hbg K0 B0
  go_wp2_with fail
  refine wp_region_grows W2 5 (fun w w' => Below w.heap.size w w') (listR [fixV (.agg (bysA T)), ownV W2.heap.size T, fixV (.slice (some ⟨b, o, none⟩) m cap), fixV (.slice (some ⟨b, o, none⟩) 32 cap), ownV W2.heap.size H]) [5] [0, 1, 2, 3, 4] [some 12, some 13, some 14, some 15, some 16] (by kernel_rfl) (by kernel_rfl) (by kernel_rfl) (by kernel_rfl) ((Below.refl _ _).drew) (fun w w' h h' => h.trans (h'.mono h.size)) (listR_mono ⟨stays_fix _, stays_own _ _, stays_fix _, stays_fix _, stays_own _ _, trivial⟩) ?_
  intro vals
  simp only [List.take_succ_cons, List.take_zero]
  refine ⟨grow_val [] [] (by kernel_rfl) rfl (fun K w hb hd hK => ?_), ?_⟩
  · obtain ⟨k1, k2, k3⟩ := T1.out.grow hb
    simp only [putZ]
    refine ⟨wanted_none rfl, ?_⟩
    go_simp
    exact hK _ _ _ (Below.refl _ _) rfl
  refine ⟨grow_call [0] [some 12] (by kernel_rfl) (by kernel_rfl) (fun K w hb hd hK => ?_), ?_⟩
  · have d0 : vals 0 = .agg (bysA T) := hd 0 (by simp)
    simp only [List.map_cons, List.map_nil, putZ, d0]
    refine ⟨wanted_none rfl, ?_⟩
    go_simp
    refine (HCT.out w).mono ?_
    rintro e w' ⟨u, rfl, ho, hb'⟩
    exact ⟨_, rfl, hK _ _ hb' (ho.base hb.size)⟩
  refine ⟨grow_val [] [] (by kernel_rfl) rfl (fun K w hb hd hK => ?_), ?_⟩
  · simp only [putZ]
    refine ⟨wanted_none rfl, ?_⟩
    go_simp
    exact hK _ _ _ (Below.refl _ _) rfl
  refine ⟨grow_val [2] [some 14] (by kernel_rfl) (by kernel_rfl) (fun K w hb hd hK => ?_), ?_⟩
  · have d2 : vals 2 = .slice (some ⟨b, o, none⟩) m cap := hd 2 (by simp)
    simp only [List.map_cons, List.map_nil, putZ, d2]
    refine ⟨wanted_none rfl, ?_⟩
    go_simp
    exact hK _ _ _ (Below.refl _ _) rfl
  refine ⟨grow_call [1, 3] [some 13, some 15] (by kernel_rfl) (by kernel_rfl) (fun K w hb hd hK => ?_), ?_⟩
  · obtain ⟨p1, c1, d1, y1, q1, z1⟩ := OwnB.bs (show OwnB w W2.heap.size (vals 1) T from hd 1 (by simp))
    have d3 : vals 3 = .slice (some ⟨b, o, none⟩) 32 cap := hd 3 (by simp)
    rw [Htl.out] at d1
    simp only [List.map_cons, List.map_nil, putZ, d1, d3]
    refine ⟨wanted_none rfl, ?_⟩
    go_simp
    refine (HX.out w p1 c1 y1 (HB.out.grow (B1.out.trans (hb.mono B1.out.size)))).mono ?_
    rintro e w' ⟨u, rfl, ho, hb'⟩
    exact ⟨_, rfl, hK _ _ hb' (ho.base hb.size)⟩
  intro W3 hbg hR
  obtain ⟨p4, c4, e4, y4, q4, z4⟩ := OwnB.bs (show OwnB W3 W2.heap.size (vals 4) H from hR 4 (by simp))
  simp only [List.map_cons, List.map_nil, putZ, e4, pick, List.getElem?_cons_succ, List.getElem?_cons_zero]
  rw [Hml.out] at q4 ⊢
  generalize vals 0 = f0
  generalize vals 1 = f1
  generalize vals 2 = f2
  generalize vals 3 = f3
  clear hR e4
  clear vals
  have Y3 := HB.out.grow (B1.out.trans (hbg.mono B1.out.size))
  have B3 := Lib.hid (B1.out.trans (hbg.mono B1.out.size))
  have HJ := Lib.hid (rjoin_c c4 (cap - 32) 32 (m - 32) p4 (some ⟨b, adv o 32 cap, none⟩) H (l.drop 32) W3 Hml.out.symm Hd32.out.symm y4 z4 (Bs0.some (HR.out W3 Y3)) (fun h => by cases h) (by rw [Hd32.out, Hml.out]; omega))
  clear hbg Y3 y4 z4 B1
  go_wp2_with fail
  refine HJ.out.mono ?_
  rintro e W4 ⟨u, rfl, hown, hb4⟩
  have O4 := Lib.hid (hown.base B3.out.size)
  have B4 := Lib.hid (B3.out.trans (hb4.mono B3.out.size))
  rw [← Hse.out] at O4
  clear hown hb4 HJ
  go_wp2_with fail
  go_ret
  exact ⟨u, rfl, O4.out, B4.out⟩
end Go.Proofs.YtnkfiljmgbnbkaaDoor

/-
  The reference of layer 8: a round of a number; a block locked, unlocked, refused.
-/
namespace Go.Proofs.YtnkfiljmgbnbkaaDoor
open Go.RowKit Go.Hold Go.Sh Go.Ch Go.Li

/-- The error of a size. -/
def mayE (m : Nat) : Nat := if m < 33 then 4 else if 4096 < m then 3 else 0
set_option maxRecDepth 100000 in
theorem rmay_c (p : Option Addr) (m cap : Nat) (w : World) :
    Calls Tryd.prog 17 #[.slice p m cap] w fun e w' => e = .returned (.int .i64 (mayE m : Nat)) ∧ Below w.heap.size w w' := by
  by_cases h1 : m < 33
  · have h1' : (m : Int) < 33 := by omega
    have he : mayE m = 4 := by unfold mayE; rw [if_pos h1]
    rw [he]
    go_enter Tryd.func17, Tryd.ntmps17
    go_wp2_with fail
    go_ret
    exact ⟨rfl, Below.refl _ _⟩
  · have h1' : ¬ (m : Int) < 33 := by omega
    by_cases h2 : 4096 < m
    · have h2' : (4096 : Int) < (m : Int) := by omega
      have he : mayE m = 3 := by unfold mayE; rw [if_neg h1, if_pos h2]
      rw [he]
      go_enter Tryd.func17, Tryd.ntmps17
      go_wp2_with fail
      go_ret
      exact ⟨rfl, Below.refl _ _⟩
    · have h2' : ¬ (4096 : Int) < (m : Int) := by omega
      have he : mayE m = 0 := by unfold mayE; rw [if_neg h1, if_neg h2]
      rw [he]
      go_enter Tryd.func17, Tryd.ntmps17
      go_wp2_with fail
      go_ret
      exact ⟨rfl, Below.refl _ _⟩
theorem rem_two (i : Nat) : (i : Int).tmod 2 = ((i % 2 : Nat) : Int) := rfl
set_option maxHeartbeats 600000 in
set_option maxRecDepth 100000 in
theorem rround_c (i : Nat) (hi : i = 1 ∨ i = 2 ∨ i = 3 ∨ i = 4) (k l : List Nat) (b o m cap : Nat) (hk : k.length = 32) (hkb : ∀ i, k.getD i 0 < 256) (hlb : ∀ i, l.getD i 0 < 256) (hm : m = l.length) (h33 : 33 ≤ m) (h4k : m ≤ 4096) (hmc : m ≤ cap) (w : World) (hB : BytesAt w b o l) :
    Calls Tryd.prog 18 #[.agg (bysA k), .int .i64 (i : Int), .slice (some ⟨b, o, none⟩) m cap] w fun e w' => ∃ v, e = .returned v ∧ OwnB w' w.heap.size v (jn (rnd k i (prt l))) ∧ Below w.heap.size w w' := by
  have hks := bysA_size' hk
  have HK := Lib.hid (fun (W : World) => rroundKey_c i hi k hk hkb W)
  have hrs := bysA_size' (rkey_length k i)
  have HS := Lib.hid (fun (W : World) (hW : BytesAt W b o l) => rstream8_c (rkey k i) l b o m cap (rkey_length k i) (rkey_bts k i) hlb hm h33 h4k hmc W hW)
  have HT := Lib.hid (fun (W : World) (hW : BytesAt W b o l) => rtag8_c (rkey k i) l b o m cap (rkey_length k i) (rkey_bts k i) hlb hm h33 h4k hmc W hW)
  have Hr := Lib.hid (show rnd k i (prt l) = if (i % 2 == 0) = true then tRd (rkey k i) (prt l) else sRd (rkey k i) (prt l) from rfl)
  generalize rkey k i = R at *
  have HB := Lib.hid hB
  have hrem := rem_two i
  clear hk hkb hlb hm hB hmc h4k
  go_enter Tryd.func18, Tryd.ntmps18
  go_wp2_with fail
  have K0 := Lib.hid (RowAt.of (block_new w (.cells (bysA k) 23)))
  have B0 := Lib.hid (below_alloc (Below.refl w.heap.size w) (.cells (bysA k) 23))
  refine (HK.out _).mono ?_
  rintro e W1 ⟨rfl, hb1⟩
  have B1 := Lib.hid (B0.out.trans (hb1.mono B0.out.size))
  clear hb1 HK K0 B0
  have hA := below_alloc (Below.refl W1.heap.size W1) (.cells (bysA R) 23)
  have R2 := Lib.hid (RowAt.of (block_new W1 (.cells (bysA R) 23)))
  have B2 := Lib.hid (B1.out.trans (hA.mono B1.out.size))
  have Y2 := Lib.hid (HB.out.grow B2.out)
  clear hA
  by_cases e : i % 2 = 0
  · have e2 : ((i % 2 : Nat) : Int) = 0 := by omega
    rw [e2] at hrem
    have Hr' := Lib.hid (show rnd k i (prt l) = tRd R (prt l) by rw [Hr.out, if_pos (by simpa using e)])
    clear Hr e2
    go_wp2_with fail
    refine (HT.out _ Y2.out).mono ?_
    rintro e W4 ⟨u, rfl, hown, hb4⟩
    have O4 := Lib.hid (hown.base B2.out.size)
    have B4 := Lib.hid (B2.out.trans (hb4.mono B2.out.size))
    clear hown hb4
    go_wp2_with fail
    go_ret
    exact ⟨u, rfl, by rw [Hr'.out]; exact O4.out, B4.out⟩
  · have e2 : ((i % 2 : Nat) : Int) = 1 := by omega
    rw [e2] at hrem
    have Hr' := Lib.hid (show rnd k i (prt l) = sRd R (prt l) by rw [Hr.out, if_neg (by simpa using e)])
    clear Hr e2
    go_wp2_with fail
    refine (HS.out _ Y2.out).mono ?_
    rintro e W4 ⟨u, rfl, hown, hb4⟩
    have O4 := Lib.hid (hown.base B2.out.size)
    have B4 := Lib.hid (B2.out.trans (hb4.mono B2.out.size))
    clear hown hb4
    go_wp2_with fail
    go_ret
    exact ⟨u, rfl, by rw [Hr'.out]; exact O4.out, B4.out⟩
set_option maxHeartbeats 1000000 in
set_option maxRecDepth 100000 in
theorem rlock_c (k l : List Nat) (p : Option Addr) (m cap : Nat) (hk : k.length = 32) (hkb : ∀ i, k.getD i 0 < 256) (hlb : ∀ i, l.getD i 0 < 256) (hm : m = l.length) (h33 : 33 ≤ m) (h4k : m ≤ 4096) (hmc : m ≤ cap) (w : World) (hB : Bs0 w p l) :
    Calls Tryd.prog 10 #[.agg (bysA k), .slice p m cap] w fun e w' => ∃ q c, e = .returned (.tuple #[.slice q m c, .int .i64 0]) ∧ Bs0 w' q (lockL k l) ∧ Below w.heap.size w w' := by
  obtain ⟨b, o, rfl, hY⟩ : ∃ b o, p = some ⟨b, o, none⟩ ∧ BytesAt w b o l := by
    rcases hB with h | h
    · rw [h] at hm; simp at hm; omega
    · exact h
  have hks := bysA_size' hk
  have hmay : mayE m = 0 := by unfold mayE; rw [if_neg (by omega), if_neg (by omega)]
  have HM := Lib.hid (fun (W : World) => rmay_c (some ⟨b, o, none⟩) m cap W)
  rw [hmay] at HM
  have h32 : 32 ≤ l.length := by omega
  have hx0 : OkB (prt l) := prt_ok h32 hlb
  have Hx0 := Lib.hid hx0
  have Hm := Lib.hid hm
  have Y0 := Lib.hid hY
  clear hB hY hm hmay hx0
  go_enter Tryd.func10, Tryd.ntmps10
  go_wp2_with fail
  have K0 := Lib.hid (RowAt.of (block_new w (.cells (bysA k) 23)))
  have B0 := Lib.hid (below_alloc (Below.refl w.heap.size w) (.cells (bysA k) 23))
  refine (HM.out _).mono ?_
  rintro e W1 ⟨rfl, hb1⟩
  have K1 := Lib.hid (K0.out.grow hb1)
  have B1 := Lib.hid (B0.out.trans (hb1.mono B0.out.size))
  clear hb1 K0 B0 HM
  go_wp2_with fail
  go_loopw [1, 7] (fun v x wr => ∃ (j : Nat) (g o c : Nat), j ≤ 4 ∧ x = .int .i64 ((j : Int) + 1) ∧ v = .slice (some ⟨g, o, none⟩) m c ∧ m ≤ c ∧ BytesAt wr g o (jn (rnds k (fwd.take j) (prt l))) ∧ RowAt wr w.heap.size (bysA k) ∧ Below w.heap.size w wr) (fun _ x _ => 5 - (intOf x).toNat)
  case atStart => exact ⟨0, b, o, cap, by decide, rfl, rfl, hmc, by rw [show jn (rnds k (fwd.take 0) (prt l)) = l from jn_prt l]; exact Y0.out.grow B1.out, K1.out, B1.out⟩
  case round =>
    obtain ⟨j, g, o', c, hj, rfl, rfl, hc, hy, hK, hbel⟩ := hrel
    by_cases hj4 : j < 4
    · have hj0 : (1 : Int) ≤ (j : Int) + 1 := by omega
      obtain ⟨i, ei⟩ : ∃ i : Nat, (i : Int) = (j : Int) + 1 := ⟨j + 1, by omega⟩
      have hi : i = 1 ∨ i = 2 ∨ i = 3 ∨ i = 4 := by omega
      have hok := OkB.rnds (k := k) (fwd.take j) Hx0.out
      have hjl : (jn (rnds k (fwd.take j) (prt l))).length = m := by
        rw [jn_length hok, rnds_right, Hm.out]; simp only [prt, List.length_drop]; omega
      have HC := Lib.hid (fun (W : World) (hW : BytesAt W g o' (jn (rnds k (fwd.take j) (prt l)))) => rround_c i hi k (jn (rnds k (fwd.take j) (prt l))) g o' m c hk hkb (jn_bts hok) hjl.symm h33 h4k hc W hW)
      rw [prt_jn hok] at HC
      have hnx : rnds k (fwd.take (j + 1)) (prt l) = rnd k i (rnds k (fwd.take j) (prt l)) := by
        have h1 : fwd.take (j + 1) = fwd.take j ++ [i] := by
          have h4 : j = 0 ∨ j = 1 ∨ j = 2 ∨ j = 3 := by omega
          rcases h4 with rfl | rfl | rfl | rfl
          · obtain rfl : i = 1 := by omega
            rfl
          · obtain rfl : i = 2 := by omega
            rfl
          · obtain rfl : i = 3 := by omega
            rfl
          · obtain rfl : i = 4 := by omega
            rfl
        rw [h1, rnds_snoc]
      have Hnx := Lib.hid hnx
      have hnl : (jn (rnds k (fwd.take (j + 1)) (prt l))).length = m := by
        rw [jn_length (OkB.rnds (k := k) (fwd.take (j + 1)) Hx0.out), rnds_right, Hm.out]; simp only [prt, List.length_drop]; omega
      have Hnl := Lib.hid hnl
      have HY := Lib.hid hy
      have HK2 := Lib.hid hK
      have HBel := Lib.hid hbel
      obtain ⟨k1, k2, k3⟩ := hK
      rw [← ei]
      have Ei := Lib.hid ei
      have hii : (1 : Int) ≤ (i : Int) := by omega
      have hi4 : (i : Int) ≤ 4 := by omega
      clear hy hbel hnx hnl hok hjl ei
      go_wp2_with fail
      refine (HC.out wr HY.out).mono ?_
      rintro e W3 ⟨u, rfl, hown, hb3⟩
      rw [← Hnx.out] at hown
      obtain ⟨g3, c3, rfl, _, hg3, hc3⟩ := hown.addr Hnl.out (by omega)
      have Y3 := Lib.hid (hown.bytes hg3)
      have K3 := Lib.hid (HK2.out.grow hb3)
      have B3 := Lib.hid (HBel.out.trans (hb3.mono HBel.out.size))
      clear hown hb3 k1 k2 k3 HC
      go_wp2_with fail
      go_roundw
      case rel => exact ⟨j + 1, g3, 0, c3, by omega, by congr 1; have := Ei.out; omega, rfl, hc3, Y3.out, K3.out, B3.out⟩
      case measure => have := Ei.out; simp [intOf]; omega
    · obtain rfl : j = 4 := by omega
      have HY := Lib.hid (show BytesAt wr g o' (lockL k l) from hy)
      have HBel := Lib.hid hbel
      clear hy hK hbel
      go_wp2_with fail
      refine bodyPost_ret (v := .tuple #[.slice (some ⟨g, o', none⟩) m c, .int .i64 0]) (results_tmp2 Tryd.results10 _ _ _) rfl ⟨_, c, rfl, Bs0.some HY.out, HBel.out⟩
set_option maxRecDepth 100000 in
theorem rlock_bad (k : List Nat) (p : Option Addr) (m cap : Nat) (hk : k.length = 32) (er : Int) (h : m < 33 ∧ er = 4 ∨ 4096 < m ∧ er = 3) (w : World) :
    Calls Tryd.prog 10 #[.agg (bysA k), .slice p m cap] w fun e w' => e = .returned (.tuple #[.slice none 0 0, .int .i64 er]) ∧ Below w.heap.size w w' := by
  have hmay : ((mayE m : Nat) : Int) = er := by
    unfold mayE
    rcases h with ⟨h1, rfl⟩ | ⟨h1, rfl⟩
    · rw [if_pos h1]; rfl
    · rw [if_neg (by omega), if_pos h1]; rfl
  have hne : ¬ er = 0 := by omega
  have hne' : (er != 0) = true := by simpa using hne
  have HM := Lib.hid (fun (W : World) => rmay_c p m cap W)
  rw [hmay] at HM
  have hks := bysA_size' hk
  clear h hmay hk
  go_enter Tryd.func10, Tryd.ntmps10
  go_wp2_with fail
  have B0 := Lib.hid (below_alloc (Below.refl w.heap.size w) (.cells (bysA k) 23))
  refine (HM.out _).mono ?_
  rintro e W1 ⟨rfl, hb1⟩
  have B1 := Lib.hid (B0.out.trans (hb1.mono B0.out.size))
  clear hb1 B0 HM
  go_wp2_with fail
  refine bodyPost_ret (v := .tuple #[.slice none 0 0, .int .i64 er]) (results_tmp2 Tryd.results10 _ _ _) rfl ⟨rfl, B1.out⟩
set_option maxHeartbeats 1000000 in
set_option maxRecDepth 100000 in
theorem runlock_c (k l : List Nat) (p : Option Addr) (m cap : Nat) (hk : k.length = 32) (hkb : ∀ i, k.getD i 0 < 256) (hlb : ∀ i, l.getD i 0 < 256) (hm : m = l.length) (h33 : 33 ≤ m) (h4k : m ≤ 4096) (hmc : m ≤ cap) (w : World) (hB : Bs0 w p l) :
    Calls Tryd.prog 12 #[.agg (bysA k), .slice p m cap] w fun e w' => ∃ q c, e = .returned (.tuple #[.slice q m c, .int .i64 0]) ∧ Bs0 w' q (unlockL k l) ∧ Below w.heap.size w w' := by
  obtain ⟨b, o, rfl, hY⟩ : ∃ b o, p = some ⟨b, o, none⟩ ∧ BytesAt w b o l := by
    rcases hB with h | h
    · rw [h] at hm; simp at hm; omega
    · exact h
  have hks := bysA_size' hk
  have hmay : mayE m = 0 := by unfold mayE; rw [if_neg (by omega), if_neg (by omega)]
  have HM := Lib.hid (fun (W : World) => rmay_c (some ⟨b, o, none⟩) m cap W)
  rw [hmay] at HM
  have h32 : 32 ≤ l.length := by omega
  have hx0 : OkB (prt l) := prt_ok h32 hlb
  have Hx0 := Lib.hid hx0
  have Hm := Lib.hid hm
  have Y0 := Lib.hid hY
  clear hB hY hm hmay hx0
  go_enter Tryd.func12, Tryd.ntmps12
  go_wp2_with fail
  have K0 := Lib.hid (RowAt.of (block_new w (.cells (bysA k) 23)))
  have B0 := Lib.hid (below_alloc (Below.refl w.heap.size w) (.cells (bysA k) 23))
  refine (HM.out _).mono ?_
  rintro e W1 ⟨rfl, hb1⟩
  have K1 := Lib.hid (K0.out.grow hb1)
  have B1 := Lib.hid (B0.out.trans (hb1.mono B0.out.size))
  clear hb1 K0 B0 HM
  go_wp2_with fail
  go_loopw [1, 7] (fun v x wr => ∃ (j : Nat) (g o c : Nat), j ≤ 4 ∧ x = .int .i64 (4 - (j : Int)) ∧ v = .slice (some ⟨g, o, none⟩) m c ∧ m ≤ c ∧ BytesAt wr g o (jn (rnds k (bwd.take j) (prt l))) ∧ RowAt wr w.heap.size (bysA k) ∧ Below w.heap.size w wr) (fun _ x _ => (intOf x).toNat)
  case atStart => exact ⟨0, b, o, cap, by decide, rfl, rfl, hmc, by rw [show jn (rnds k (bwd.take 0) (prt l)) = l from jn_prt l]; exact Y0.out.grow B1.out, K1.out, B1.out⟩
  case round =>
    obtain ⟨j, g, o', c, hj, rfl, rfl, hc, hy, hK, hbel⟩ := hrel
    by_cases hj4 : j < 4
    · have hj0 : (1 : Int) ≤ 4 - (j : Int) := by omega
      obtain ⟨i, ei⟩ : ∃ i : Nat, (i : Int) = 4 - (j : Int) := ⟨4 - j, by omega⟩
      have hi : i = 1 ∨ i = 2 ∨ i = 3 ∨ i = 4 := by omega
      have hok := OkB.rnds (k := k) (bwd.take j) Hx0.out
      have hjl : (jn (rnds k (bwd.take j) (prt l))).length = m := by
        rw [jn_length hok, rnds_right, Hm.out]; simp only [prt, List.length_drop]; omega
      have HC := Lib.hid (fun (W : World) (hW : BytesAt W g o' (jn (rnds k (bwd.take j) (prt l)))) => rround_c i hi k (jn (rnds k (bwd.take j) (prt l))) g o' m c hk hkb (jn_bts hok) hjl.symm h33 h4k hc W hW)
      rw [prt_jn hok] at HC
      have hnx : rnds k (bwd.take (j + 1)) (prt l) = rnd k i (rnds k (bwd.take j) (prt l)) := by
        have h1 : bwd.take (j + 1) = bwd.take j ++ [i] := by
          have h4 : j = 0 ∨ j = 1 ∨ j = 2 ∨ j = 3 := by omega
          rcases h4 with rfl | rfl | rfl | rfl
          · obtain rfl : i = 4 := by omega
            rfl
          · obtain rfl : i = 3 := by omega
            rfl
          · obtain rfl : i = 2 := by omega
            rfl
          · obtain rfl : i = 1 := by omega
            rfl
        rw [h1, rnds_snoc]
      have Hnx := Lib.hid hnx
      have hnl : (jn (rnds k (bwd.take (j + 1)) (prt l))).length = m := by
        rw [jn_length (OkB.rnds (k := k) (bwd.take (j + 1)) Hx0.out), rnds_right, Hm.out]; simp only [prt, List.length_drop]; omega
      have Hnl := Lib.hid hnl
      have HY := Lib.hid hy
      have HK2 := Lib.hid hK
      have HBel := Lib.hid hbel
      obtain ⟨k1, k2, k3⟩ := hK
      rw [← ei]
      have Ei := Lib.hid ei
      have hii : (1 : Int) ≤ (i : Int) := by omega
      have hi4 : (i : Int) ≤ 4 := by omega
      clear hy hbel hnx hnl hok hjl ei
      go_wp2_with fail
      refine (HC.out wr HY.out).mono ?_
      rintro e W3 ⟨u, rfl, hown, hb3⟩
      rw [← Hnx.out] at hown
      obtain ⟨g3, c3, rfl, _, hg3, hc3⟩ := hown.addr Hnl.out (by omega)
      have Y3 := Lib.hid (hown.bytes hg3)
      have K3 := Lib.hid (HK2.out.grow hb3)
      have B3 := Lib.hid (HBel.out.trans (hb3.mono HBel.out.size))
      clear hown hb3 k1 k2 k3 HC
      go_wp2_with fail
      go_roundw
      case rel => exact ⟨j + 1, g3, 0, c3, by omega, by congr 1; have := Ei.out; omega, rfl, hc3, Y3.out, K3.out, B3.out⟩
      case measure => have := Ei.out; simp [intOf]; omega
    · obtain rfl : j = 4 := by omega
      have HY := Lib.hid (show BytesAt wr g o' (unlockL k l) from hy)
      have HBel := Lib.hid hbel
      clear hy hK hbel
      go_wp2_with fail
      refine bodyPost_ret (v := .tuple #[.slice (some ⟨g, o', none⟩) m c, .int .i64 0]) (results_tmp2 Tryd.results12 _ _ _) rfl ⟨_, c, rfl, Bs0.some HY.out, HBel.out⟩
set_option maxRecDepth 100000 in
theorem runlock_bad (k : List Nat) (p : Option Addr) (m cap : Nat) (hk : k.length = 32) (er : Int) (h : m < 33 ∧ er = 4 ∨ 4096 < m ∧ er = 3) (w : World) :
    Calls Tryd.prog 12 #[.agg (bysA k), .slice p m cap] w fun e w' => e = .returned (.tuple #[.slice none 0 0, .int .i64 er]) ∧ Below w.heap.size w w' := by
  have hmay : ((mayE m : Nat) : Int) = er := by
    unfold mayE
    rcases h with ⟨h1, rfl⟩ | ⟨h1, rfl⟩
    · rw [if_pos h1]; rfl
    · rw [if_neg (by omega), if_pos h1]; rfl
  have hne : ¬ er = 0 := by omega
  have hne' : (er != 0) = true := by simpa using hne
  have HM := Lib.hid (fun (W : World) => rmay_c p m cap W)
  rw [hmay] at HM
  have hks := bysA_size' hk
  clear h hmay hk
  go_enter Tryd.func12, Tryd.ntmps12
  go_wp2_with fail
  have B0 := Lib.hid (below_alloc (Below.refl w.heap.size w) (.cells (bysA k) 23))
  refine (HM.out _).mono ?_
  rintro e W1 ⟨rfl, hb1⟩
  have B1 := Lib.hid (B0.out.trans (hb1.mono B0.out.size))
  clear hb1 B0 HM
  go_wp2_with fail
  refine bodyPost_ret (v := .tuple #[.slice none 0 0, .int .i64 er]) (results_tmp2 Tryd.results12 _ _ _) rfl ⟨rfl, B1.out⟩
end Go.Proofs.YtnkfiljmgbnbkaaDoor

/-
  What any block is mixed to, and what any block was, is the document's, or refused.
-/
namespace Go.Proofs.YtnkfiljmgbnbkaaDoor
open Go.RowKit Go.Hold Go.Sh Go.Ch Go.Li

/-- A call that answers these bytes, with this error. -/
def Says (f : Nat) (us : Array Value) (X : List Nat) (er : Int) (w : World) : Prop := ∀ W, Below w.heap.size w W → Calls Tryd.prog f us W fun e w' => ∃ p c, e = .returned (.tuple #[.slice p X.length c, .int .i64 er]) ∧ Bs0 w' p X ∧ Below W.heap.size W w'
theorem says_ok {f : Nat} {us : Array Value} {X : List Nat} {w : World} (h : ∀ W, Below w.heap.size w W → Calls Tryd.prog f us W fun e w' => ∃ u, e = .returned (.tuple #[u, .int .i64 0]) ∧ OwnB w' W.heap.size u X ∧ Below W.heap.size W w') : Says f us X 0 w := fun W hW => (h W hW).mono fun e w' ⟨u, he, ho, hb⟩ => by
  obtain ⟨p, c, rfl, hs, _⟩ := ho.bs
  exact ⟨p, c, he, hs, hb⟩
theorem says_bad {f : Nat} {us : Array Value} {er : Int} {w : World} (h : ∀ W, Calls Tryd.prog f us W fun e w' => e = .returned (.tuple #[.slice none 0 0, .int .i64 er]) ∧ Below W.heap.size W w') : Says f us [] er w := fun W _ => (h W).mono fun _ _ ⟨he, hb⟩ => ⟨none, 0, he, .inl rfl, hb⟩
set_option maxHeartbeats 1000000 in
set_option maxRecDepth 100000 in
theorem locks_any (bc : Nat) (bp : Option Addr) (k b : List Nat) (w : World) (hT : Tabs w) (hk : k.length = 32) (hkb : ∀ i, k.getD i 0 < 256) (hbb : ∀ i, b.getD i 0 < 256) (hbB : Bs0 w bp b) (hbc : b.length ≤ bc) :
    Calls Tryd.prog 3 #[.agg (bysA k), .slice bp b.length bc] w fun e w' => e = .returned (.bool true) ∧ Below w.heap.size w w' := by
  have hks := bysA_size' hk
  obtain ⟨n, en⟩ : ∃ m, m = b.length := ⟨_, rfl⟩
  rw [← en] at hbc ⊢
  have En := Lib.hid en
  have HT := Lib.hid hT
  have HB := Lib.hid hbB
  clear en
  go_enter Tryd.func3, Tryd.ntmps3
  go_wp2_with fail
  have hA := below_alloc (Below.refl w.heap.size w) (.cells (bysA k) 23)
  refine (alive8_c _ (HT.out.grow hA)).mono ?_
  rintro e W1 ⟨rfl, hb1⟩
  have K1 := Lib.hid ((RowAt.of (block_new w (.cells (bysA k) 23))).grow hb1)
  have B1 := Lib.hid (hA.trans (hb1.mono hA.size))
  clear hA hb1
  by_cases l2 : 700 < n ∧ n ≤ 4096
  · have l2' : (700 : Int) < (n : Int) := by omega
    have l3' : (n : Int) ≤ 4096 := by omega
    go_wp2_with fail
    go_ret
    exact ⟨rfl, B1.out⟩
  obtain ⟨X, U, er, hL, hRL, hU, hRU⟩ : ∃ (X U : List Nat) (er : Int), Says 9 #[.agg (bysA k), .slice bp n bc] X er w ∧ Says 10 #[.agg (bysA k), .slice bp n bc] X er w ∧ Says 11 #[.agg (bysA k), .slice bp n bc] U er w ∧ Says 12 #[.agg (bysA k), .slice bp n bc] U er w := by
    have bad : ∀ er : Int, n < 33 ∧ er = 4 ∨ 4096 < n ∧ er = 3 → ∃ (X U : List Nat) (er : Int), Says 9 #[.agg (bysA k), .slice bp n bc] X er w ∧ Says 10 #[.agg (bysA k), .slice bp n bc] X er w ∧ Says 11 #[.agg (bysA k), .slice bp n bc] U er w ∧ Says 12 #[.agg (bysA k), .slice bp n bc] U er w := fun er h =>
      ⟨[], [], er, says_bad fun W => lock_bad k bp n bc er h hk W, says_bad fun W => rlock_bad k bp n bc hk er h W, says_bad fun W => unlock_bad k bp n bc er h hk W, says_bad fun W => runlock_bad k bp n bc hk er h W⟩
    by_cases h1 : n < 33
    · exact bad 4 (.inl ⟨h1, rfl⟩)
    by_cases h2 : 4096 < n
    · exact bad 3 (.inr ⟨h2, rfl⟩)
    have h32 : 32 ≤ b.length := by rw [← En.out]; omega
    have hx : (lockL k b).length = n := by unfold lockL; rw [mixL_length _ _ h32 hbb]; exact En.out.symm
    have hu : (unlockL k b).length = n := by unfold unlockL; rw [mixL_length _ _ h32 hbb]; exact En.out.symm
    refine ⟨lockL k b, unlockL k b, 0, says_ok fun W hW => lock_c k b bp n bc hk hkb hbb En.out (by omega) (by omega) hbc W (hT.grow hW) (hbB.grow hW), fun W hW => ?_, says_ok fun W hW => unlock_c k b bp n bc hk hkb hbb En.out (by omega) (by omega) hbc W (hT.grow hW) (hbB.grow hW), fun W hW => ?_⟩
    · have h := rlock_c k b bp n bc hk hkb hbb En.out (by omega) (by omega) hbc W (hbB.grow hW)
      rw [hx]; exact h
    · have h := runlock_c k b bp n bc hk hkb hbb En.out (by omega) (by omega) hbc W (hbB.grow hW)
      rw [hu]; exact h
  have HL := Lib.hid hL
  have HRL := Lib.hid hRL
  have HU := Lib.hid hU
  have HRU := Lib.hid hRU
  obtain ⟨nx, ex⟩ : ∃ m, m = X.length := ⟨_, rfl⟩
  obtain ⟨nu, eu⟩ : ∃ m, m = U.length := ⟨_, rfl⟩
  unfold Says at HL HRL HU HRU
  rw [← ex] at HL HRL
  rw [← eu] at HU HRU
  have Ex := Lib.hid ex
  have Eu := Lib.hid eu
  clear hL hRL hU hRU ex eu hk hkb hbb hbB hbc hT
  obtain ⟨z, ez⟩ : ∃ z, z = w.heap.size := ⟨_, rfl⟩
  rw [← ez] at K1 ⊢
  clear ez
  obtain ⟨k1, k2, k3⟩ := K1.out
  by_cases l3 : 700 < n
  · have l3' : (700 : Int) < (n : Int) := by omega
    have l4' : ¬ (n : Int) ≤ 4096 := by omega
    go_wp2_with fail
    refine (HL.out W1 B1.out).mono ?_
    rintro e W2 ⟨p2, c2, rfl, hs2, hb2⟩
    have S2 := Lib.hid hs2
    have K2 := Lib.hid (K1.out.grow hb2)
    have B2 := Lib.hid (B1.out.trans (hb2.mono B1.out.size))
    clear hb2 hs2 K1 B1 k1 k2 k3 HL
    obtain ⟨k1, k2, k3⟩ := K2.out
    go_wp2_with fail
    refine (HRL.out W2 B2.out).mono ?_
    rintro e W3 ⟨p3, c3, rfl, hs3, hb3⟩
    have R3 := Lib.hid hs3
    have S3 := Lib.hid (S2.out.grow hb3)
    have K3 := Lib.hid (K2.out.grow hb3)
    have B3 := Lib.hid (B2.out.trans (hb3.mono B2.out.size))
    clear hb3 hs3 K2 B2 k1 k2 k3 HRL S2
    obtain ⟨k1, k2, k3⟩ := K3.out
    go_wp2_with fail
    refine (HU.out W3 B3.out).mono ?_
    rintro e W4 ⟨p4, c4, rfl, hs4, hb4⟩
    have U4 := Lib.hid hs4
    have S4 := Lib.hid (S3.out.grow hb4)
    have R4 := Lib.hid (R3.out.grow hb4)
    have K4 := Lib.hid (K3.out.grow hb4)
    have B4 := Lib.hid (B3.out.trans (hb4.mono B3.out.size))
    clear hb4 hs4 K3 B3 k1 k2 k3 HU S3 R3
    obtain ⟨k1, k2, k3⟩ := K4.out
    go_wp2_with fail
    refine (HRU.out W4 B4.out).mono ?_
    rintro e W5 ⟨p5, c5, rfl, hs5, hb5⟩
    have B5 := Lib.hid (B4.out.trans (hb5.mono B4.out.size))
    have hcv1 := run_cvBS (c := c2) (S4.out.grow hb5) Ex.out
    have hcv2 := run_cvBS (c := c3) (R4.out.grow hb5) Ex.out
    have hcv3 := run_cvBS (c := c4) (U4.out.grow hb5) Eu.out
    have hcv4 := run_cvBS (c := c5) hs5 Eu.out
    generalize toS X = Q0 at *
    generalize toS U = Q1 at *
    clear hb5 hs5 K4 B4 k1 k2 k3 HRU S4 R4 U4
    go_wp2_with fail
    go_ret
    exact ⟨rfl, B5.out⟩
  · have l3' : ¬ (700 : Int) < (n : Int) := by omega
    go_wp2_with fail
    refine (HL.out W1 B1.out).mono ?_
    rintro e W2 ⟨p2, c2, rfl, hs2, hb2⟩
    have S2 := Lib.hid hs2
    have K2 := Lib.hid (K1.out.grow hb2)
    have B2 := Lib.hid (B1.out.trans (hb2.mono B1.out.size))
    clear hb2 hs2 K1 B1 k1 k2 k3 HL
    obtain ⟨k1, k2, k3⟩ := K2.out
    go_wp2_with fail
    refine (HRL.out W2 B2.out).mono ?_
    rintro e W3 ⟨p3, c3, rfl, hs3, hb3⟩
    have R3 := Lib.hid hs3
    have S3 := Lib.hid (S2.out.grow hb3)
    have K3 := Lib.hid (K2.out.grow hb3)
    have B3 := Lib.hid (B2.out.trans (hb3.mono B2.out.size))
    clear hb3 hs3 K2 B2 k1 k2 k3 HRL S2
    obtain ⟨k1, k2, k3⟩ := K3.out
    go_wp2_with fail
    refine (HU.out W3 B3.out).mono ?_
    rintro e W4 ⟨p4, c4, rfl, hs4, hb4⟩
    have U4 := Lib.hid hs4
    have S4 := Lib.hid (S3.out.grow hb4)
    have R4 := Lib.hid (R3.out.grow hb4)
    have K4 := Lib.hid (K3.out.grow hb4)
    have B4 := Lib.hid (B3.out.trans (hb4.mono B3.out.size))
    clear hb4 hs4 K3 B3 k1 k2 k3 HU S3 R3
    obtain ⟨k1, k2, k3⟩ := K4.out
    go_wp2_with fail
    refine (HRU.out W4 B4.out).mono ?_
    rintro e W5 ⟨p5, c5, rfl, hs5, hb5⟩
    have B5 := Lib.hid (B4.out.trans (hb5.mono B4.out.size))
    have hcv1 := run_cvBS (c := c2) (S4.out.grow hb5) Ex.out
    have hcv2 := run_cvBS (c := c3) (R4.out.grow hb5) Ex.out
    have hcv3 := run_cvBS (c := c4) (U4.out.grow hb5) Eu.out
    have hcv4 := run_cvBS (c := c5) hs5 Eu.out
    generalize toS X = Q0 at *
    generalize toS U = Q1 at *
    clear hb5 hs5 K4 B4 k1 k2 k3 HRU S4 R4 U4
    go_wp2_with fail
    go_ret
    exact ⟨rfl, B5.out⟩
end Go.Proofs.YtnkfiljmgbnbkaaDoor
