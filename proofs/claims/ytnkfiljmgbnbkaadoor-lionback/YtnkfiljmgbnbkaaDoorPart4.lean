/-
  Part 4 of the texts behind the theorem.
-/
import Derived.Test.YtnkfiljmgbnbkaaDoorPart3
/-
  The law's own question: is the package there?
-/
namespace Go.Proofs.YtnkfiljmgbnbkaaDoor
open Go.RowKit Go.Hold Go.Sh Go.Ch Go.Li

def key5 : List Nat := [5, 0, 0, 0, 0, 0, 0, 0, 0, 0, 0, 0, 0, 0, 0, 0, 0, 0, 0, 0, 0, 0, 0, 0, 0, 0, 0, 0, 0, 0, 0, 0]
theorem key5_bts : ∀ i, key5.getD i 0 < 256 := getD_lt fun x hx => by
  have h : (key5.all fun y => decide (y < 256)) = true := by decide
  simpa using List.all_eq_true.1 h x hx
theorem run_bldKey5 (w : World) : (bldA 23 #[(0, .int .u8 5)]).run Tryd.prog w = .ok (.agg (bysA key5)) w := run_build w _ _ _ (by kernel_rfl)
/-- An answer of bytes of one's own, with no error. -/
def ansR (B : Nat) (l : List Nat) : Value → World → Prop := fun v w => ∃ u, v = .tuple #[u, .int .i64 0] ∧ OwnB w B u l
theorem stays_ans (B : Nat) (l : List Nat) : Stays (ansR B l) := fun _ _ _ ⟨u, e, h⟩ hb => ⟨u, e, h.below hb⟩
theorem run_mk40 (w : World) : (mkS (.int .i64 40) (.int .i64 40)).run Tryd.prog w = .ok (.slice (some ⟨w.heap.size, 0, none⟩) 40 40) (w.alloc (.cells (bysA (zs 40)) 5)) := run_mkS w 40 (by decide)
theorem run_mk32 (w : World) : (mkS (.int .i64 32) (.int .i64 32)).run Tryd.prog w = .ok (.slice (some ⟨w.heap.size, 0, none⟩) 32 32) (w.alloc (.cells (bysA (zs 32)) 5)) := run_mkS w 32 (by decide)
set_option maxHeartbeats 2000000 in
set_option maxRecDepth 100000 in
theorem alive8_c (w : World) (hT : Tabs w) : Calls Tryd.prog 8 #[] w fun e w' => e = .returned (.bool true) ∧ Below w.heap.size w w' := by
  have HT := Lib.hid hT
  have hkl : key5.length = 32 := rfl
  have hkb := key5_bts
  have HL := Lib.hid (fun (W : World) (hW : Below w.heap.size w W) (p : Option Addr) (hp : Bs0 W p (zs 40)) => lock_c key5 (zs 40) p 40 40 hkl hkb (bts_zs 40) (zs_length 40).symm (by decide) (by decide) (by decide) W (hT.grow hW) hp)
  have HU := Lib.hid (fun (W : World) (hW : Below w.heap.size w W) (p : Option Addr) (c : Nat) (hc : 40 ≤ c) (hp : Bs0 W p (lockL key5 (zs 40))) => unlock_c key5 (lockL key5 (zs 40)) p 40 c hkl hkb (mixL_bts key5 fwd (by decide) (bts_zs 40)) (by unfold lockL; rw [mixL_length _ _ (by decide) (bts_zs 40), zs_length]) (by decide) (by decide) hc W (hT.grow hW) hp)
  rw [unlock_lock key5 (show 32 ≤ (zs 40).length by decide) (bts_zs 40)] at HU
  have HLl := Lib.hid (show (lockL key5 (zs 40)).length = 40 by unfold lockL; rw [mixL_length _ _ (by decide) (bts_zs 40), zs_length])
  generalize lockL key5 (zs 40) = LL at *
  have HS := Lib.hid (fun (W : World) (p : Option Addr) => lock_bad key5 p 32 32 4 (.inl ⟨by decide, rfl⟩) hkl W)
  have hks := bysA_size' hkl
  obtain ⟨k5, ek⟩ : ∃ k, k = key5 := ⟨_, rfl⟩
  have hbk : ∀ W, (bldA 23 #[(0, .int .u8 5)]).run Tryd.prog W = .ok (.agg (bysA k5)) W := fun W => by rw [ek]; exact run_bldKey5 W
  have hm40 := run_mk40
  have hm32 := run_mk32
  rw [← ek] at HL HU HS hks
  clear ek hkl hkb hT
  go_enter Tryd.func8, Tryd.ntmps8
  go_wp2_with fail
  have K1 := Lib.hid (RowAt.of (block_new w (.cells (bysA k5) 23)))
  have B1 := Lib.hid (below_alloc (Below.refl w.heap.size w) (.cells (bysA k5) 23))
  generalize w.alloc (.cells (bysA k5) 23) = W1 at *
  obtain ⟨z, ez⟩ : ∃ z, z = w.heap.size := ⟨_, rfl⟩
  rw [← ez] at K1 ⊢
  clear ez
  refine wp_region_growsL W1 5 (fun w w' => Below w.heap.size w w') (listR [fixV (.agg (bysA k5)), rowV W1.heap.size (fun g => .slice (some ⟨g, 0, none⟩) 40 40) (bysA (zs 40)), ansR W1.heap.size LL, ansR W1.heap.size LL, ownV W1.heap.size LL, fixV (.int .i64 0)]) 6 [7] [0, 1, 2, 3, 4, 5] [0, 1, 2, 3, 4] [some 10, some 11, some 12, some 9, some 13, some 14] [some 10, some 11, some 12, some 9, some 13] (by kernel_rfl) (by kernel_rfl) (by kernel_rfl) (by kernel_rfl) (by kernel_rfl) (by kernel_rfl) ((Below.refl _ _).drew) (fun w w' h h' => h.trans (h'.mono h.size)) (listR_mono ⟨stays_fix _, stays_row _ _ _, stays_ans _ _, stays_ans _ _, stays_own _ _, stays_fix _, trivial⟩) ?_
  intro vals
  simp only [List.take_succ_cons, List.take_zero]
  refine ⟨grow_val [] [] (by kernel_rfl) rfl (fun K w hb hd hK => ?_), ?_⟩
  · obtain ⟨k1, k2, k3⟩ := K1.out.grow hb
    simp only [putZ]
    refine ⟨wanted_none rfl, ?_⟩
    go_simp
    exact hK _ _ _ (Below.refl _ _) rfl
  refine ⟨grow_val [] [] (by kernel_rfl) rfl (fun K w hb hd hK => ?_), ?_⟩
  · simp only [putZ]
    refine ⟨wanted_none rfl, ?_⟩
    go_simp
    exact hK _ _ _ (below_alloc (Below.refl _ _) _) ⟨_, rfl, RowAt.of (block_new _ _), hb.size⟩
  refine ⟨grow_call [0, 1] [some 10, some 11] (by kernel_rfl) (by kernel_rfl) (fun K w hb hd hK => ?_), ?_⟩
  · have d0 : vals 0 = .agg (bysA k5) := hd 0 (by simp)
    obtain ⟨g1, d1, r1, _⟩ : ∃ g, vals 1 = .slice (some ⟨g, 0, none⟩) 40 40 ∧ RowAt w g (bysA (zs 40)) ∧ W1.heap.size ≤ g := hd 1 (by simp)
    simp only [List.map_cons, List.map_nil, putZ, d0, d1]
    refine ⟨wanted_none rfl, ?_⟩
    go_simp
    refine (HL.out w (B1.out.trans (hb.mono B1.out.size)) _ (Bs0.some (bytes_row r1))).mono ?_
    rintro e w' ⟨u, rfl, ho, hb'⟩
    exact ⟨_, rfl, hK _ _ hb' ⟨u, rfl, ho.base hb.size⟩⟩
  refine ⟨grow_val [2] [some 12] (by kernel_rfl) (by kernel_rfl) (fun K w hb hd hK => ?_), ?_⟩
  · obtain ⟨u2, d2, o2⟩ : ∃ u, vals 2 = .tuple #[u, .int .i64 0] ∧ OwnB w W1.heap.size u LL := hd 2 (by simp)
    simp only [List.map_cons, List.map_nil, putZ, d2]
    refine ⟨wanted_none rfl, ?_⟩
    go_simp
    exact hK _ _ _ (Below.refl _ _) ⟨_, rfl, o2⟩
  refine ⟨grow_val [3] [some 9] (by kernel_rfl) (by kernel_rfl) (fun K w hb hd hK => ?_), ?_⟩
  · obtain ⟨u3, d3, o3⟩ : ∃ u, vals 3 = .tuple #[u, .int .i64 0] ∧ OwnB w W1.heap.size u LL := hd 3 (by simp)
    simp only [List.map_cons, List.map_nil, putZ, d3]
    refine ⟨wanted_none rfl, ?_⟩
    go_simp
    exact hK _ _ _ (Below.refl _ _) o3
  refine ⟨grow_val [3] [some 9] (by kernel_rfl) (by kernel_rfl) (fun K w hb hd hK => ?_), ?_⟩
  · obtain ⟨u3, d3, o3⟩ : ∃ u, vals 3 = .tuple #[u, .int .i64 0] ∧ OwnB w W1.heap.size u LL := hd 3 (by simp)
    simp only [List.map_cons, List.map_nil, putZ, d3]
    refine ⟨wanted_none rfl, ?_⟩
    go_simp
    exact hK _ _ _ (Below.refl _ _) rfl
  constructor
  · intro W2 hbg hR
    obtain ⟨u3, d3, o3⟩ : ∃ u, vals 3 = .tuple #[u, .int .i64 0] ∧ OwnB W2 W1.heap.size u LL := hR 3 (by simp)
    have o4 : OwnB W2 W1.heap.size (vals 4) LL := hR 4 (by simp)
    have d5 : vals 5 = .int .i64 0 := hR 5 (by simp)
    simp only [List.map_cons, List.map_nil, putZ, d3, pick, List.getElem?_cons_succ, List.getElem?_cons_zero]
    simp only [d5]
    obtain ⟨p2, c2, e4, hs2, hc2, _⟩ := o4.bs
    rw [HLl.out] at e4 hc2
    rw [e4]
    generalize vals 0 = e0
    generalize vals 1 = e1
    generalize vals 2 = e2
    clear hR d3 o3 e4 o4
    clear d5
    clear vals
    have K2 := Lib.hid (K1.out.grow hbg)
    have B2 := Lib.hid (B1.out.trans (hbg.mono B1.out.size))
    have S2 := Lib.hid hs2
    clear hbg hs2
    obtain ⟨k1, k2, k3⟩ := K2.out
    go_wp2_with fail
    refine (HU.out W2 B2.out p2 c2 hc2 S2.out).mono ?_
    rintro e W3 ⟨u, rfl, hown, hb3⟩
    obtain ⟨p3, c3, rfl, hs3, hc3, _⟩ := hown.bs
    rw [zs_length]
    have K3 := Lib.hid (K2.out.grow hb3)
    have B3 := Lib.hid (B2.out.trans (hb3.mono B2.out.size))
    have S3 := Lib.hid hs3
    clear hb3 hs3 hown hc3 k1 k2 k3 K2 S2 B2
    go_wp2_with fail
    refine wp_region_growsL W3 5 (fun w w' => Below w.heap.size w w') (listR [fixV (.agg (bysA k5)), rowV W3.heap.size (fun g => .slice (some ⟨g, 0, none⟩) 32 32) (bysA (zs 32)), fixV (.tuple #[.slice none 0 0, .int .i64 4]), fixV (.tuple #[.slice none 0 0, .int .i64 4]), fixV (.slice none 0 0), fixV (.int .i64 4)]) 6 [7] [0, 1, 2, 3, 4, 5] [0, 1, 2, 3, 4] [some 22, some 23, some 24, some 21, some 25, some 26] [some 22, some 23, some 24, some 21, some 25] (by kernel_rfl) (by kernel_rfl) (by kernel_rfl) (by kernel_rfl) (by kernel_rfl) (by kernel_rfl) ((Below.refl _ _).drew) (fun w w' h h' => h.trans (h'.mono h.size)) (listR_mono ⟨stays_fix _, stays_row _ _ _, stays_fix _, stays_fix _, stays_fix _, stays_fix _, trivial⟩) ?_
    intro vals
    simp only [List.take_succ_cons, List.take_zero]
    refine ⟨grow_val [] [] (by kernel_rfl) rfl (fun K w hb hd hK => ?_), ?_⟩
    · obtain ⟨k1, k2, k3⟩ := K3.out.grow hb
      simp only [putZ]
      refine ⟨wanted_none rfl, ?_⟩
      go_simp
      exact hK _ _ _ (Below.refl _ _) rfl
    refine ⟨grow_val [] [] (by kernel_rfl) rfl (fun K w hb hd hK => ?_), ?_⟩
    · simp only [putZ]
      refine ⟨wanted_none rfl, ?_⟩
      go_simp
      exact hK _ _ _ (below_alloc (Below.refl _ _) _) ⟨_, rfl, RowAt.of (block_new _ _), hb.size⟩
    refine ⟨grow_call [0, 1] [some 22, some 23] (by kernel_rfl) (by kernel_rfl) (fun K w hb hd hK => ?_), ?_⟩
    · have d0 : vals 0 = .agg (bysA k5) := hd 0 (by simp)
      obtain ⟨g1, d1, r1, _⟩ : ∃ g, vals 1 = .slice (some ⟨g, 0, none⟩) 32 32 ∧ RowAt w g (bysA (zs 32)) ∧ W3.heap.size ≤ g := hd 1 (by simp)
      simp only [List.map_cons, List.map_nil, putZ, d0, d1]
      refine ⟨wanted_none rfl, ?_⟩
      go_simp
      refine (HS.out w _).mono ?_
      rintro e w' ⟨rfl, hb'⟩
      exact ⟨_, rfl, hK _ _ hb' rfl⟩
    refine ⟨grow_val [2] [some 24] (by kernel_rfl) (by kernel_rfl) (fun K w hb hd hK => ?_), ?_⟩
    · have d2 : vals 2 = .tuple #[.slice none 0 0, .int .i64 4] := hd 2 (by simp)
      simp only [List.map_cons, List.map_nil, putZ, d2]
      refine ⟨wanted_none rfl, ?_⟩
      go_simp
      exact hK _ _ _ (Below.refl _ _) rfl
    refine ⟨grow_val [3] [some 21] (by kernel_rfl) (by kernel_rfl) (fun K w hb hd hK => ?_), ?_⟩
    · have d3 : vals 3 = .tuple #[.slice none 0 0, .int .i64 4] := hd 3 (by simp)
      simp only [List.map_cons, List.map_nil, putZ, d3]
      refine ⟨wanted_none rfl, ?_⟩
      go_simp
      exact hK _ _ _ (Below.refl _ _) rfl
    refine ⟨grow_val [3] [some 21] (by kernel_rfl) (by kernel_rfl) (fun K w hb hd hK => ?_), ?_⟩
    · have d3 : vals 3 = .tuple #[.slice none 0 0, .int .i64 4] := hd 3 (by simp)
      simp only [List.map_cons, List.map_nil, putZ, d3]
      refine ⟨wanted_none rfl, ?_⟩
      go_simp
      exact hK _ _ _ (Below.refl _ _) rfl
    constructor
    · intro W4 hbg hR
      have d3 : vals 3 = .tuple #[.slice none 0 0, .int .i64 4] := hR 3 (by simp)
      have d4 : vals 4 = .slice none 0 0 := hR 4 (by simp)
      have d5 : vals 5 = .int .i64 4 := hR 5 (by simp)
      simp only [List.map_cons, List.map_nil, putZ, d3, d4, pick, List.getElem?_cons_succ, List.getElem?_cons_zero]
      simp only [d5]
      generalize vals 0 = e0
      generalize vals 1 = e1
      generalize vals 2 = e2
      clear hR d3 d4
      clear d5
      clear vals
      have S4 := Lib.hid (S3.out.grow hbg)
      have B4 := Lib.hid (B3.out.trans (hbg.mono B3.out.size))
      clear hbg K3 S3 B3
      go_wp2_with fail
      have HC3 := Lib.hid (fun (w : World) (hb : Below W4.heap.size W4 w) => run_cvBS (c := c3) (S4.out.grow hb) (show 40 = (zs 40).length from (zs_length 40).symm))
      have HQ := Lib.hid (fun (w : World) (g c : Nat) (h : RowAt w g (bysA (zs 40))) => run_cvBS (c := c) (Bs0.some (bytes_row h)) (show 40 = (zs 40).length from (zs_length 40).symm))
      generalize toS (zs 40) = Q0 at *
      refine wp_region_grows W4 22 (fun w w' => Below w.heap.size w w') (listR [fixV (.int .i64 0), fixV (.bool true), fixV (.bool true), fixV (.slice p2 40 c2), fixV (.int .i64 40), fixV (.bool true), fixV (.bool true), fixV (.bool true), fixV (.int .i64 0), fixV (.bool true), fixV (.bool true), fixV (.bool true), fixV (.slice p3 40 c3), fixV (.string Q0), rowV W4.heap.size (fun g => .slice (some ⟨g, 0, none⟩) 40 40) (bysA (zs 40)), fixV (.string Q0), fixV (.bool true), fixV (.bool true), fixV (.bool true), fixV (.int .i64 4), fixV (.bool true), fixV (.bool true)]) [22] [0, 1, 2, 3, 4, 5, 6, 7, 8, 9, 10, 11, 12, 13, 14, 15, 16, 17, 18, 19, 20, 21] [some 27, some 28, some 29, some 30, some 31, some 32, some 33, some 34, some 35, some 36, some 37, some 38, some 39, some 40, some 41, some 42, some 43, some 44, some 45, some 46, some 47, some 48] (by kernel_rfl) (by kernel_rfl) (by kernel_rfl) (by kernel_rfl) ((Below.refl _ _).drew) (fun w w' h h' => h.trans (h'.mono h.size)) (listR_mono ⟨stays_fix _, stays_fix _, stays_fix _, stays_fix _, stays_fix _, stays_fix _, stays_fix _, stays_fix _, stays_fix _, stays_fix _, stays_fix _, stays_fix _, stays_fix _, stays_fix _, stays_row _ _ _, stays_fix _, stays_fix _, stays_fix _, stays_fix _, stays_fix _, stays_fix _, stays_fix _, trivial⟩) ?_
      intro vals
      simp only [List.take_succ_cons, List.take_zero]
      refine ⟨grow_val [] [] (by kernel_rfl) rfl (fun K w hb hd hK => ?_), ?_⟩
      · simp only [putZ]
        refine ⟨wanted_none rfl, ?_⟩
        go_simp
        exact hK _ _ _ (Below.refl _ _) rfl
      refine ⟨grow_val [0] [some 27] (by kernel_rfl) (by kernel_rfl) (fun K w hb hd hK => ?_), ?_⟩
      · have d0 : vals 0 = .int .i64 0 := hd 0 (by simp)
        simp only [List.map_cons, List.map_nil, putZ, d0]
        refine ⟨wanted_none rfl, ?_⟩
        go_simp
        exact hK _ _ _ (Below.refl _ _) rfl
      refine ⟨grow_val [1] [some 28] (by kernel_rfl) (by kernel_rfl) (fun K w hb hd hK => ?_), ?_⟩
      · have d1 : vals 1 = .bool true := hd 1 (by simp)
        simp only [List.map_cons, List.map_nil, putZ, d1]
        refine ⟨wanted_none rfl, ?_⟩
        go_simp
        exact hK _ _ _ (Below.refl _ _) rfl
      refine ⟨grow_val [2] [some 29] (by kernel_rfl) (by kernel_rfl) (fun K w hb hd hK => ?_), ?_⟩
      · have d2 : vals 2 = .bool true := hd 2 (by simp)
        simp only [List.map_cons, List.map_nil, putZ, d2]
        refine ⟨wanted_some rfl rfl rfl, ?_⟩
        go_simp
        exact hK _ _ _ (Below.refl _ _) rfl
      refine ⟨grow_val [2, 3] [some 29, some 30] (by kernel_rfl) (by kernel_rfl) (fun K w hb hd hK => ?_), ?_⟩
      · have d2 : vals 2 = .bool true := hd 2 (by simp)
        have d3 : vals 3 = .slice p2 40 c2 := hd 3 (by simp)
        simp only [List.map_cons, List.map_nil, putZ, d2, d3]
        refine ⟨wanted_some rfl rfl rfl, ?_⟩
        go_simp
        exact hK _ _ _ (Below.refl _ _) rfl
      refine ⟨grow_val [2, 4] [some 29, some 31] (by kernel_rfl) (by kernel_rfl) (fun K w hb hd hK => ?_), ?_⟩
      · have d2 : vals 2 = .bool true := hd 2 (by simp)
        have d4 : vals 4 = .int .i64 40 := hd 4 (by simp)
        simp only [List.map_cons, List.map_nil, putZ, d2, d4]
        refine ⟨wanted_some rfl rfl rfl, ?_⟩
        go_simp
        exact hK _ _ _ (Below.refl _ _) rfl
      refine ⟨grow_val [2, 5] [some 29, some 32] (by kernel_rfl) (by kernel_rfl) (fun K w hb hd hK => ?_), ?_⟩
      · have d2 : vals 2 = .bool true := hd 2 (by simp)
        have d5 : vals 5 = .bool true := hd 5 (by simp)
        simp only [List.map_cons, List.map_nil, putZ, d2, d5]
        refine ⟨wanted_none rfl, ?_⟩
        go_simp
        exact hK _ _ _ (Below.refl _ _) rfl
      refine ⟨grow_val [6] [some 33] (by kernel_rfl) (by kernel_rfl) (fun K w hb hd hK => ?_), ?_⟩
      · have d6 : vals 6 = .bool true := hd 6 (by simp)
        simp only [List.map_cons, List.map_nil, putZ, d6]
        refine ⟨wanted_none rfl, ?_⟩
        go_simp
        exact hK _ _ _ (Below.refl _ _) rfl
      refine ⟨grow_val [7] [some 34] (by kernel_rfl) (by kernel_rfl) (fun K w hb hd hK => ?_), ?_⟩
      · have d7 : vals 7 = .bool true := hd 7 (by simp)
        simp only [List.map_cons, List.map_nil, putZ, d7]
        refine ⟨wanted_some rfl rfl rfl, ?_⟩
        go_simp
        exact hK _ _ _ (Below.refl _ _) rfl
      refine ⟨grow_val [7, 8] [some 34, some 35] (by kernel_rfl) (by kernel_rfl) (fun K w hb hd hK => ?_), ?_⟩
      · have d7 : vals 7 = .bool true := hd 7 (by simp)
        have d8 : vals 8 = .int .i64 0 := hd 8 (by simp)
        simp only [List.map_cons, List.map_nil, putZ, d7, d8]
        refine ⟨wanted_some rfl rfl rfl, ?_⟩
        go_simp
        exact hK _ _ _ (Below.refl _ _) rfl
      refine ⟨grow_val [7, 9] [some 34, some 36] (by kernel_rfl) (by kernel_rfl) (fun K w hb hd hK => ?_), ?_⟩
      · have d7 : vals 7 = .bool true := hd 7 (by simp)
        have d9 : vals 9 = .bool true := hd 9 (by simp)
        simp only [List.map_cons, List.map_nil, putZ, d7, d9]
        refine ⟨wanted_none rfl, ?_⟩
        go_simp
        exact hK _ _ _ (Below.refl _ _) rfl
      refine ⟨grow_val [10] [some 37] (by kernel_rfl) (by kernel_rfl) (fun K w hb hd hK => ?_), ?_⟩
      · have d10 : vals 10 = .bool true := hd 10 (by simp)
        simp only [List.map_cons, List.map_nil, putZ, d10]
        refine ⟨wanted_none rfl, ?_⟩
        go_simp
        exact hK _ _ _ (Below.refl _ _) rfl
      refine ⟨grow_val [11] [some 38] (by kernel_rfl) (by kernel_rfl) (fun K w hb hd hK => ?_), ?_⟩
      · have d11 : vals 11 = .bool true := hd 11 (by simp)
        simp only [List.map_cons, List.map_nil, putZ, d11]
        refine ⟨wanted_some rfl rfl rfl, ?_⟩
        go_simp
        exact hK _ _ _ (Below.refl _ _) rfl
      refine ⟨grow_val [11, 12] [some 38, some 39] (by kernel_rfl) (by kernel_rfl) (fun K w hb hd hK => ?_), ?_⟩
      · have d11 : vals 11 = .bool true := hd 11 (by simp)
        have d12 : vals 12 = .slice p3 40 c3 := hd 12 (by simp)
        have hcv := HC3.out w hb
        simp only [List.map_cons, List.map_nil, putZ, d11, d12]
        refine ⟨wanted_some rfl rfl rfl, ?_⟩
        go_simp
        exact hK _ _ _ (Below.refl _ _) rfl
      refine ⟨grow_val [11] [some 38] (by kernel_rfl) (by kernel_rfl) (fun K w hb hd hK => ?_), ?_⟩
      · have d11 : vals 11 = .bool true := hd 11 (by simp)
        simp only [List.map_cons, List.map_nil, putZ, d11]
        refine ⟨wanted_some rfl rfl rfl, ?_⟩
        go_simp
        exact hK _ _ _ (below_alloc (Below.refl _ _) _) ⟨_, rfl, RowAt.of (block_new _ _), hb.size⟩
      refine ⟨grow_val [11, 14] [some 38, some 41] (by kernel_rfl) (by kernel_rfl) (fun K w hb hd hK => ?_), ?_⟩
      · have d11 : vals 11 = .bool true := hd 11 (by simp)
        obtain ⟨g14, d14, r14, _⟩ : ∃ g, vals 14 = .slice (some ⟨g, 0, none⟩) 40 40 ∧ RowAt w g (bysA (zs 40)) ∧ W4.heap.size ≤ g := hd 14 (by simp)
        have hcv := HQ.out w g14 40 r14
        simp only [List.map_cons, List.map_nil, putZ, d11, d14]
        refine ⟨wanted_some rfl rfl rfl, ?_⟩
        go_simp
        exact hK _ _ _ (Below.refl _ _) rfl
      refine ⟨grow_val [11, 13, 15] [some 38, some 40, some 42] (by kernel_rfl) (by kernel_rfl) (fun K w hb hd hK => ?_), ?_⟩
      · have d11 : vals 11 = .bool true := hd 11 (by simp)
        have d13 : vals 13 = .string Q0 := hd 13 (by simp)
        have d15 : vals 15 = .string Q0 := hd 15 (by simp)
        simp only [List.map_cons, List.map_nil, putZ, d11, d13, d15]
        refine ⟨wanted_some rfl rfl rfl, ?_⟩
        go_simp
        exact hK _ _ _ (Below.refl _ _) rfl
      refine ⟨grow_val [11, 16] [some 38, some 43] (by kernel_rfl) (by kernel_rfl) (fun K w hb hd hK => ?_), ?_⟩
      · have d11 : vals 11 = .bool true := hd 11 (by simp)
        have d16 : vals 16 = .bool true := hd 16 (by simp)
        simp only [List.map_cons, List.map_nil, putZ, d11, d16]
        refine ⟨wanted_none rfl, ?_⟩
        go_simp
        exact hK _ _ _ (Below.refl _ _) rfl
      refine ⟨grow_val [17] [some 44] (by kernel_rfl) (by kernel_rfl) (fun K w hb hd hK => ?_), ?_⟩
      · have d17 : vals 17 = .bool true := hd 17 (by simp)
        simp only [List.map_cons, List.map_nil, putZ, d17]
        refine ⟨wanted_none rfl, ?_⟩
        go_simp
        exact hK _ _ _ (Below.refl _ _) rfl
      refine ⟨grow_val [18] [some 45] (by kernel_rfl) (by kernel_rfl) (fun K w hb hd hK => ?_), ?_⟩
      · have d18 : vals 18 = .bool true := hd 18 (by simp)
        simp only [List.map_cons, List.map_nil, putZ, d18]
        refine ⟨wanted_some rfl rfl rfl, ?_⟩
        go_simp
        exact hK _ _ _ (Below.refl _ _) rfl
      refine ⟨grow_val [18, 19] [some 45, some 46] (by kernel_rfl) (by kernel_rfl) (fun K w hb hd hK => ?_), ?_⟩
      · have d18 : vals 18 = .bool true := hd 18 (by simp)
        have d19 : vals 19 = .int .i64 4 := hd 19 (by simp)
        simp only [List.map_cons, List.map_nil, putZ, d18, d19]
        refine ⟨wanted_some rfl rfl rfl, ?_⟩
        go_simp
        exact hK _ _ _ (Below.refl _ _) rfl
      refine ⟨grow_val [18, 20] [some 45, some 47] (by kernel_rfl) (by kernel_rfl) (fun K w hb hd hK => ?_), ?_⟩
      · have d18 : vals 18 = .bool true := hd 18 (by simp)
        have d20 : vals 20 = .bool true := hd 20 (by simp)
        simp only [List.map_cons, List.map_nil, putZ, d18, d20]
        refine ⟨wanted_none rfl, ?_⟩
        go_simp
        exact hK _ _ _ (Below.refl _ _) rfl
      intro W5 hbg hR
      have d21 : vals 21 = .bool true := hR 21 (by simp)
      clear hR
      simp only [List.map_cons, List.map_nil, putZ, d21, pick, List.getElem?_cons_succ, List.getElem?_cons_zero]
      generalize vals 0 = e0
      generalize vals 1 = e1
      generalize vals 2 = e2
      generalize vals 3 = e3
      generalize vals 4 = e4
      generalize vals 5 = e5
      generalize vals 6 = e6
      generalize vals 7 = e7
      generalize vals 8 = e8
      generalize vals 9 = e9
      generalize vals 10 = e10
      generalize vals 11 = e11
      generalize vals 12 = e12
      generalize vals 13 = e13
      generalize vals 14 = e14
      generalize vals 15 = e15
      generalize vals 16 = e16
      generalize vals 17 = e17
      generalize vals 18 = e18
      generalize vals 19 = e19
      generalize vals 20 = e20
      clear d21
      have B5 := Lib.hid (B4.out.trans (hbg.mono B4.out.size))
      clear hbg
      go_wp2_with fail
      go_ret
      exact ⟨rfl, B5.out⟩
    · intro W4 hbg hR
      have d3 : vals 3 = .tuple #[.slice none 0 0, .int .i64 4] := hR 3 (by simp)
      have d4 : vals 4 = .slice none 0 0 := hR 4 (by simp)
      simp only [List.map_cons, List.map_nil, putZ, d3, d4, pick, List.getElem?_cons_succ, List.getElem?_cons_zero]
      generalize vals 0 = e0
      generalize vals 1 = e1
      generalize vals 2 = e2
      clear hR d3 d4
      clear vals
      have S4 := Lib.hid (S3.out.grow hbg)
      have B4 := Lib.hid (B3.out.trans (hbg.mono B3.out.size))
      clear hbg K3 S3 B3
      go_wp2_with fail
      have HC3 := Lib.hid (fun (w : World) (hb : Below W4.heap.size W4 w) => run_cvBS (c := c3) (S4.out.grow hb) (show 40 = (zs 40).length from (zs_length 40).symm))
      have HQ := Lib.hid (fun (w : World) (g c : Nat) (h : RowAt w g (bysA (zs 40))) => run_cvBS (c := c) (Bs0.some (bytes_row h)) (show 40 = (zs 40).length from (zs_length 40).symm))
      generalize toS (zs 40) = Q0 at *
      refine wp_region_grows W4 22 (fun w w' => Below w.heap.size w w') (listR [fixV (.int .i64 0), fixV (.bool true), fixV (.bool true), fixV (.slice p2 40 c2), fixV (.int .i64 40), fixV (.bool true), fixV (.bool true), fixV (.bool true), fixV (.int .i64 0), fixV (.bool true), fixV (.bool true), fixV (.bool true), fixV (.slice p3 40 c3), fixV (.string Q0), rowV W4.heap.size (fun g => .slice (some ⟨g, 0, none⟩) 40 40) (bysA (zs 40)), fixV (.string Q0), fixV (.bool true), fixV (.bool true), fixV (.bool true), fixV (.int .i64 4), fixV (.bool true), fixV (.bool true)]) [22] [0, 1, 2, 3, 4, 5, 6, 7, 8, 9, 10, 11, 12, 13, 14, 15, 16, 17, 18, 19, 20, 21] [some 27, some 28, some 29, some 30, some 31, some 32, some 33, some 34, some 35, some 36, some 37, some 38, some 39, some 40, some 41, some 42, some 43, some 44, some 45, some 46, some 47, some 48] (by kernel_rfl) (by kernel_rfl) (by kernel_rfl) (by kernel_rfl) ((Below.refl _ _).drew) (fun w w' h h' => h.trans (h'.mono h.size)) (listR_mono ⟨stays_fix _, stays_fix _, stays_fix _, stays_fix _, stays_fix _, stays_fix _, stays_fix _, stays_fix _, stays_fix _, stays_fix _, stays_fix _, stays_fix _, stays_fix _, stays_fix _, stays_row _ _ _, stays_fix _, stays_fix _, stays_fix _, stays_fix _, stays_fix _, stays_fix _, stays_fix _, trivial⟩) ?_
      intro vals
      simp only [List.take_succ_cons, List.take_zero]
      refine ⟨grow_val [] [] (by kernel_rfl) rfl (fun K w hb hd hK => ?_), ?_⟩
      · simp only [putZ]
        refine ⟨wanted_none rfl, ?_⟩
        go_simp
        exact hK _ _ _ (Below.refl _ _) rfl
      refine ⟨grow_val [0] [some 27] (by kernel_rfl) (by kernel_rfl) (fun K w hb hd hK => ?_), ?_⟩
      · have d0 : vals 0 = .int .i64 0 := hd 0 (by simp)
        simp only [List.map_cons, List.map_nil, putZ, d0]
        refine ⟨wanted_none rfl, ?_⟩
        go_simp
        exact hK _ _ _ (Below.refl _ _) rfl
      refine ⟨grow_val [1] [some 28] (by kernel_rfl) (by kernel_rfl) (fun K w hb hd hK => ?_), ?_⟩
      · have d1 : vals 1 = .bool true := hd 1 (by simp)
        simp only [List.map_cons, List.map_nil, putZ, d1]
        refine ⟨wanted_none rfl, ?_⟩
        go_simp
        exact hK _ _ _ (Below.refl _ _) rfl
      refine ⟨grow_val [2] [some 29] (by kernel_rfl) (by kernel_rfl) (fun K w hb hd hK => ?_), ?_⟩
      · have d2 : vals 2 = .bool true := hd 2 (by simp)
        simp only [List.map_cons, List.map_nil, putZ, d2]
        refine ⟨wanted_some rfl rfl rfl, ?_⟩
        go_simp
        exact hK _ _ _ (Below.refl _ _) rfl
      refine ⟨grow_val [2, 3] [some 29, some 30] (by kernel_rfl) (by kernel_rfl) (fun K w hb hd hK => ?_), ?_⟩
      · have d2 : vals 2 = .bool true := hd 2 (by simp)
        have d3 : vals 3 = .slice p2 40 c2 := hd 3 (by simp)
        simp only [List.map_cons, List.map_nil, putZ, d2, d3]
        refine ⟨wanted_some rfl rfl rfl, ?_⟩
        go_simp
        exact hK _ _ _ (Below.refl _ _) rfl
      refine ⟨grow_val [2, 4] [some 29, some 31] (by kernel_rfl) (by kernel_rfl) (fun K w hb hd hK => ?_), ?_⟩
      · have d2 : vals 2 = .bool true := hd 2 (by simp)
        have d4 : vals 4 = .int .i64 40 := hd 4 (by simp)
        simp only [List.map_cons, List.map_nil, putZ, d2, d4]
        refine ⟨wanted_some rfl rfl rfl, ?_⟩
        go_simp
        exact hK _ _ _ (Below.refl _ _) rfl
      refine ⟨grow_val [2, 5] [some 29, some 32] (by kernel_rfl) (by kernel_rfl) (fun K w hb hd hK => ?_), ?_⟩
      · have d2 : vals 2 = .bool true := hd 2 (by simp)
        have d5 : vals 5 = .bool true := hd 5 (by simp)
        simp only [List.map_cons, List.map_nil, putZ, d2, d5]
        refine ⟨wanted_none rfl, ?_⟩
        go_simp
        exact hK _ _ _ (Below.refl _ _) rfl
      refine ⟨grow_val [6] [some 33] (by kernel_rfl) (by kernel_rfl) (fun K w hb hd hK => ?_), ?_⟩
      · have d6 : vals 6 = .bool true := hd 6 (by simp)
        simp only [List.map_cons, List.map_nil, putZ, d6]
        refine ⟨wanted_none rfl, ?_⟩
        go_simp
        exact hK _ _ _ (Below.refl _ _) rfl
      refine ⟨grow_val [7] [some 34] (by kernel_rfl) (by kernel_rfl) (fun K w hb hd hK => ?_), ?_⟩
      · have d7 : vals 7 = .bool true := hd 7 (by simp)
        simp only [List.map_cons, List.map_nil, putZ, d7]
        refine ⟨wanted_some rfl rfl rfl, ?_⟩
        go_simp
        exact hK _ _ _ (Below.refl _ _) rfl
      refine ⟨grow_val [7, 8] [some 34, some 35] (by kernel_rfl) (by kernel_rfl) (fun K w hb hd hK => ?_), ?_⟩
      · have d7 : vals 7 = .bool true := hd 7 (by simp)
        have d8 : vals 8 = .int .i64 0 := hd 8 (by simp)
        simp only [List.map_cons, List.map_nil, putZ, d7, d8]
        refine ⟨wanted_some rfl rfl rfl, ?_⟩
        go_simp
        exact hK _ _ _ (Below.refl _ _) rfl
      refine ⟨grow_val [7, 9] [some 34, some 36] (by kernel_rfl) (by kernel_rfl) (fun K w hb hd hK => ?_), ?_⟩
      · have d7 : vals 7 = .bool true := hd 7 (by simp)
        have d9 : vals 9 = .bool true := hd 9 (by simp)
        simp only [List.map_cons, List.map_nil, putZ, d7, d9]
        refine ⟨wanted_none rfl, ?_⟩
        go_simp
        exact hK _ _ _ (Below.refl _ _) rfl
      refine ⟨grow_val [10] [some 37] (by kernel_rfl) (by kernel_rfl) (fun K w hb hd hK => ?_), ?_⟩
      · have d10 : vals 10 = .bool true := hd 10 (by simp)
        simp only [List.map_cons, List.map_nil, putZ, d10]
        refine ⟨wanted_none rfl, ?_⟩
        go_simp
        exact hK _ _ _ (Below.refl _ _) rfl
      refine ⟨grow_val [11] [some 38] (by kernel_rfl) (by kernel_rfl) (fun K w hb hd hK => ?_), ?_⟩
      · have d11 : vals 11 = .bool true := hd 11 (by simp)
        simp only [List.map_cons, List.map_nil, putZ, d11]
        refine ⟨wanted_some rfl rfl rfl, ?_⟩
        go_simp
        exact hK _ _ _ (Below.refl _ _) rfl
      refine ⟨grow_val [11, 12] [some 38, some 39] (by kernel_rfl) (by kernel_rfl) (fun K w hb hd hK => ?_), ?_⟩
      · have d11 : vals 11 = .bool true := hd 11 (by simp)
        have d12 : vals 12 = .slice p3 40 c3 := hd 12 (by simp)
        have hcv := HC3.out w hb
        simp only [List.map_cons, List.map_nil, putZ, d11, d12]
        refine ⟨wanted_some rfl rfl rfl, ?_⟩
        go_simp
        exact hK _ _ _ (Below.refl _ _) rfl
      refine ⟨grow_val [11] [some 38] (by kernel_rfl) (by kernel_rfl) (fun K w hb hd hK => ?_), ?_⟩
      · have d11 : vals 11 = .bool true := hd 11 (by simp)
        simp only [List.map_cons, List.map_nil, putZ, d11]
        refine ⟨wanted_some rfl rfl rfl, ?_⟩
        go_simp
        exact hK _ _ _ (below_alloc (Below.refl _ _) _) ⟨_, rfl, RowAt.of (block_new _ _), hb.size⟩
      refine ⟨grow_val [11, 14] [some 38, some 41] (by kernel_rfl) (by kernel_rfl) (fun K w hb hd hK => ?_), ?_⟩
      · have d11 : vals 11 = .bool true := hd 11 (by simp)
        obtain ⟨g14, d14, r14, _⟩ : ∃ g, vals 14 = .slice (some ⟨g, 0, none⟩) 40 40 ∧ RowAt w g (bysA (zs 40)) ∧ W4.heap.size ≤ g := hd 14 (by simp)
        have hcv := HQ.out w g14 40 r14
        simp only [List.map_cons, List.map_nil, putZ, d11, d14]
        refine ⟨wanted_some rfl rfl rfl, ?_⟩
        go_simp
        exact hK _ _ _ (Below.refl _ _) rfl
      refine ⟨grow_val [11, 13, 15] [some 38, some 40, some 42] (by kernel_rfl) (by kernel_rfl) (fun K w hb hd hK => ?_), ?_⟩
      · have d11 : vals 11 = .bool true := hd 11 (by simp)
        have d13 : vals 13 = .string Q0 := hd 13 (by simp)
        have d15 : vals 15 = .string Q0 := hd 15 (by simp)
        simp only [List.map_cons, List.map_nil, putZ, d11, d13, d15]
        refine ⟨wanted_some rfl rfl rfl, ?_⟩
        go_simp
        exact hK _ _ _ (Below.refl _ _) rfl
      refine ⟨grow_val [11, 16] [some 38, some 43] (by kernel_rfl) (by kernel_rfl) (fun K w hb hd hK => ?_), ?_⟩
      · have d11 : vals 11 = .bool true := hd 11 (by simp)
        have d16 : vals 16 = .bool true := hd 16 (by simp)
        simp only [List.map_cons, List.map_nil, putZ, d11, d16]
        refine ⟨wanted_none rfl, ?_⟩
        go_simp
        exact hK _ _ _ (Below.refl _ _) rfl
      refine ⟨grow_val [17] [some 44] (by kernel_rfl) (by kernel_rfl) (fun K w hb hd hK => ?_), ?_⟩
      · have d17 : vals 17 = .bool true := hd 17 (by simp)
        simp only [List.map_cons, List.map_nil, putZ, d17]
        refine ⟨wanted_none rfl, ?_⟩
        go_simp
        exact hK _ _ _ (Below.refl _ _) rfl
      refine ⟨grow_val [18] [some 45] (by kernel_rfl) (by kernel_rfl) (fun K w hb hd hK => ?_), ?_⟩
      · have d18 : vals 18 = .bool true := hd 18 (by simp)
        simp only [List.map_cons, List.map_nil, putZ, d18]
        refine ⟨wanted_some rfl rfl rfl, ?_⟩
        go_simp
        exact hK _ _ _ (Below.refl _ _) rfl
      refine ⟨grow_val [18, 19] [some 45, some 46] (by kernel_rfl) (by kernel_rfl) (fun K w hb hd hK => ?_), ?_⟩
      · have d18 : vals 18 = .bool true := hd 18 (by simp)
        have d19 : vals 19 = .int .i64 4 := hd 19 (by simp)
        simp only [List.map_cons, List.map_nil, putZ, d18, d19]
        refine ⟨wanted_some rfl rfl rfl, ?_⟩
        go_simp
        exact hK _ _ _ (Below.refl _ _) rfl
      refine ⟨grow_val [18, 20] [some 45, some 47] (by kernel_rfl) (by kernel_rfl) (fun K w hb hd hK => ?_), ?_⟩
      · have d18 : vals 18 = .bool true := hd 18 (by simp)
        have d20 : vals 20 = .bool true := hd 20 (by simp)
        simp only [List.map_cons, List.map_nil, putZ, d18, d20]
        refine ⟨wanted_none rfl, ?_⟩
        go_simp
        exact hK _ _ _ (Below.refl _ _) rfl
      intro W5 hbg hR
      have d21 : vals 21 = .bool true := hR 21 (by simp)
      clear hR
      simp only [List.map_cons, List.map_nil, putZ, d21, pick, List.getElem?_cons_succ, List.getElem?_cons_zero]
      generalize vals 0 = e0
      generalize vals 1 = e1
      generalize vals 2 = e2
      generalize vals 3 = e3
      generalize vals 4 = e4
      generalize vals 5 = e5
      generalize vals 6 = e6
      generalize vals 7 = e7
      generalize vals 8 = e8
      generalize vals 9 = e9
      generalize vals 10 = e10
      generalize vals 11 = e11
      generalize vals 12 = e12
      generalize vals 13 = e13
      generalize vals 14 = e14
      generalize vals 15 = e15
      generalize vals 16 = e16
      generalize vals 17 = e17
      generalize vals 18 = e18
      generalize vals 19 = e19
      generalize vals 20 = e20
      clear d21
      have B5 := Lib.hid (B4.out.trans (hbg.mono B4.out.size))
      clear hbg
      go_wp2_with fail
      go_ret
      exact ⟨rfl, B5.out⟩
  · intro W2 hbg hR
    obtain ⟨u3, d3, o3⟩ : ∃ u, vals 3 = .tuple #[u, .int .i64 0] ∧ OwnB W2 W1.heap.size u LL := hR 3 (by simp)
    have o4 : OwnB W2 W1.heap.size (vals 4) LL := hR 4 (by simp)
    simp only [List.map_cons, List.map_nil, putZ, d3, pick, List.getElem?_cons_succ, List.getElem?_cons_zero]
    obtain ⟨p2, c2, e4, hs2, hc2, _⟩ := o4.bs
    rw [HLl.out] at e4 hc2
    rw [e4]
    generalize vals 0 = e0
    generalize vals 1 = e1
    generalize vals 2 = e2
    clear hR d3 o3 e4 o4
    clear vals
    have K2 := Lib.hid (K1.out.grow hbg)
    have B2 := Lib.hid (B1.out.trans (hbg.mono B1.out.size))
    have S2 := Lib.hid hs2
    clear hbg hs2
    obtain ⟨k1, k2, k3⟩ := K2.out
    go_wp2_with fail
    refine (HU.out W2 B2.out p2 c2 hc2 S2.out).mono ?_
    rintro e W3 ⟨u, rfl, hown, hb3⟩
    obtain ⟨p3, c3, rfl, hs3, hc3, _⟩ := hown.bs
    rw [zs_length]
    have K3 := Lib.hid (K2.out.grow hb3)
    have B3 := Lib.hid (B2.out.trans (hb3.mono B2.out.size))
    have S3 := Lib.hid hs3
    clear hb3 hs3 hown hc3 k1 k2 k3 K2 S2 B2
    go_wp2_with fail
    refine wp_region_growsL W3 5 (fun w w' => Below w.heap.size w w') (listR [fixV (.agg (bysA k5)), rowV W3.heap.size (fun g => .slice (some ⟨g, 0, none⟩) 32 32) (bysA (zs 32)), fixV (.tuple #[.slice none 0 0, .int .i64 4]), fixV (.tuple #[.slice none 0 0, .int .i64 4]), fixV (.slice none 0 0), fixV (.int .i64 4)]) 6 [7] [0, 1, 2, 3, 4, 5] [0, 1, 2, 3, 4] [some 22, some 23, some 24, some 21, some 25, some 26] [some 22, some 23, some 24, some 21, some 25] (by kernel_rfl) (by kernel_rfl) (by kernel_rfl) (by kernel_rfl) (by kernel_rfl) (by kernel_rfl) ((Below.refl _ _).drew) (fun w w' h h' => h.trans (h'.mono h.size)) (listR_mono ⟨stays_fix _, stays_row _ _ _, stays_fix _, stays_fix _, stays_fix _, stays_fix _, trivial⟩) ?_
    intro vals
    simp only [List.take_succ_cons, List.take_zero]
    refine ⟨grow_val [] [] (by kernel_rfl) rfl (fun K w hb hd hK => ?_), ?_⟩
    · obtain ⟨k1, k2, k3⟩ := K3.out.grow hb
      simp only [putZ]
      refine ⟨wanted_none rfl, ?_⟩
      go_simp
      exact hK _ _ _ (Below.refl _ _) rfl
    refine ⟨grow_val [] [] (by kernel_rfl) rfl (fun K w hb hd hK => ?_), ?_⟩
    · simp only [putZ]
      refine ⟨wanted_none rfl, ?_⟩
      go_simp
      exact hK _ _ _ (below_alloc (Below.refl _ _) _) ⟨_, rfl, RowAt.of (block_new _ _), hb.size⟩
    refine ⟨grow_call [0, 1] [some 22, some 23] (by kernel_rfl) (by kernel_rfl) (fun K w hb hd hK => ?_), ?_⟩
    · have d0 : vals 0 = .agg (bysA k5) := hd 0 (by simp)
      obtain ⟨g1, d1, r1, _⟩ : ∃ g, vals 1 = .slice (some ⟨g, 0, none⟩) 32 32 ∧ RowAt w g (bysA (zs 32)) ∧ W3.heap.size ≤ g := hd 1 (by simp)
      simp only [List.map_cons, List.map_nil, putZ, d0, d1]
      refine ⟨wanted_none rfl, ?_⟩
      go_simp
      refine (HS.out w _).mono ?_
      rintro e w' ⟨rfl, hb'⟩
      exact ⟨_, rfl, hK _ _ hb' rfl⟩
    refine ⟨grow_val [2] [some 24] (by kernel_rfl) (by kernel_rfl) (fun K w hb hd hK => ?_), ?_⟩
    · have d2 : vals 2 = .tuple #[.slice none 0 0, .int .i64 4] := hd 2 (by simp)
      simp only [List.map_cons, List.map_nil, putZ, d2]
      refine ⟨wanted_none rfl, ?_⟩
      go_simp
      exact hK _ _ _ (Below.refl _ _) rfl
    refine ⟨grow_val [3] [some 21] (by kernel_rfl) (by kernel_rfl) (fun K w hb hd hK => ?_), ?_⟩
    · have d3 : vals 3 = .tuple #[.slice none 0 0, .int .i64 4] := hd 3 (by simp)
      simp only [List.map_cons, List.map_nil, putZ, d3]
      refine ⟨wanted_none rfl, ?_⟩
      go_simp
      exact hK _ _ _ (Below.refl _ _) rfl
    refine ⟨grow_val [3] [some 21] (by kernel_rfl) (by kernel_rfl) (fun K w hb hd hK => ?_), ?_⟩
    · have d3 : vals 3 = .tuple #[.slice none 0 0, .int .i64 4] := hd 3 (by simp)
      simp only [List.map_cons, List.map_nil, putZ, d3]
      refine ⟨wanted_none rfl, ?_⟩
      go_simp
      exact hK _ _ _ (Below.refl _ _) rfl
    constructor
    · intro W4 hbg hR
      have d3 : vals 3 = .tuple #[.slice none 0 0, .int .i64 4] := hR 3 (by simp)
      have d4 : vals 4 = .slice none 0 0 := hR 4 (by simp)
      have d5 : vals 5 = .int .i64 4 := hR 5 (by simp)
      simp only [List.map_cons, List.map_nil, putZ, d3, d4, pick, List.getElem?_cons_succ, List.getElem?_cons_zero]
      simp only [d5]
      generalize vals 0 = e0
      generalize vals 1 = e1
      generalize vals 2 = e2
      clear hR d3 d4
      clear d5
      clear vals
      have S4 := Lib.hid (S3.out.grow hbg)
      have B4 := Lib.hid (B3.out.trans (hbg.mono B3.out.size))
      clear hbg K3 S3 B3
      go_wp2_with fail
      have HC3 := Lib.hid (fun (w : World) (hb : Below W4.heap.size W4 w) => run_cvBS (c := c3) (S4.out.grow hb) (show 40 = (zs 40).length from (zs_length 40).symm))
      have HQ := Lib.hid (fun (w : World) (g c : Nat) (h : RowAt w g (bysA (zs 40))) => run_cvBS (c := c) (Bs0.some (bytes_row h)) (show 40 = (zs 40).length from (zs_length 40).symm))
      generalize toS (zs 40) = Q0 at *
      refine wp_region_grows W4 22 (fun w w' => Below w.heap.size w w') (listR [fixV (.int .i64 0), fixV (.bool true), fixV (.bool true), fixV (.slice p2 40 c2), fixV (.int .i64 40), fixV (.bool true), fixV (.bool true), fixV (.bool true), fixV (.int .i64 0), fixV (.bool true), fixV (.bool true), fixV (.bool true), fixV (.slice p3 40 c3), fixV (.string Q0), rowV W4.heap.size (fun g => .slice (some ⟨g, 0, none⟩) 40 40) (bysA (zs 40)), fixV (.string Q0), fixV (.bool true), fixV (.bool true), fixV (.bool true), fixV (.int .i64 4), fixV (.bool true), fixV (.bool true)]) [22] [0, 1, 2, 3, 4, 5, 6, 7, 8, 9, 10, 11, 12, 13, 14, 15, 16, 17, 18, 19, 20, 21] [some 27, some 28, some 29, some 30, some 31, some 32, some 33, some 34, some 35, some 36, some 37, some 38, some 39, some 40, some 41, some 42, some 43, some 44, some 45, some 46, some 47, some 48] (by kernel_rfl) (by kernel_rfl) (by kernel_rfl) (by kernel_rfl) ((Below.refl _ _).drew) (fun w w' h h' => h.trans (h'.mono h.size)) (listR_mono ⟨stays_fix _, stays_fix _, stays_fix _, stays_fix _, stays_fix _, stays_fix _, stays_fix _, stays_fix _, stays_fix _, stays_fix _, stays_fix _, stays_fix _, stays_fix _, stays_fix _, stays_row _ _ _, stays_fix _, stays_fix _, stays_fix _, stays_fix _, stays_fix _, stays_fix _, stays_fix _, trivial⟩) ?_
      intro vals
      simp only [List.take_succ_cons, List.take_zero]
      refine ⟨grow_val [] [] (by kernel_rfl) rfl (fun K w hb hd hK => ?_), ?_⟩
      · simp only [putZ]
        refine ⟨wanted_none rfl, ?_⟩
        go_simp
        exact hK _ _ _ (Below.refl _ _) rfl
      refine ⟨grow_val [0] [some 27] (by kernel_rfl) (by kernel_rfl) (fun K w hb hd hK => ?_), ?_⟩
      · have d0 : vals 0 = .int .i64 0 := hd 0 (by simp)
        simp only [List.map_cons, List.map_nil, putZ, d0]
        refine ⟨wanted_none rfl, ?_⟩
        go_simp
        exact hK _ _ _ (Below.refl _ _) rfl
      refine ⟨grow_val [1] [some 28] (by kernel_rfl) (by kernel_rfl) (fun K w hb hd hK => ?_), ?_⟩
      · have d1 : vals 1 = .bool true := hd 1 (by simp)
        simp only [List.map_cons, List.map_nil, putZ, d1]
        refine ⟨wanted_none rfl, ?_⟩
        go_simp
        exact hK _ _ _ (Below.refl _ _) rfl
      refine ⟨grow_val [2] [some 29] (by kernel_rfl) (by kernel_rfl) (fun K w hb hd hK => ?_), ?_⟩
      · have d2 : vals 2 = .bool true := hd 2 (by simp)
        simp only [List.map_cons, List.map_nil, putZ, d2]
        refine ⟨wanted_some rfl rfl rfl, ?_⟩
        go_simp
        exact hK _ _ _ (Below.refl _ _) rfl
      refine ⟨grow_val [2, 3] [some 29, some 30] (by kernel_rfl) (by kernel_rfl) (fun K w hb hd hK => ?_), ?_⟩
      · have d2 : vals 2 = .bool true := hd 2 (by simp)
        have d3 : vals 3 = .slice p2 40 c2 := hd 3 (by simp)
        simp only [List.map_cons, List.map_nil, putZ, d2, d3]
        refine ⟨wanted_some rfl rfl rfl, ?_⟩
        go_simp
        exact hK _ _ _ (Below.refl _ _) rfl
      refine ⟨grow_val [2, 4] [some 29, some 31] (by kernel_rfl) (by kernel_rfl) (fun K w hb hd hK => ?_), ?_⟩
      · have d2 : vals 2 = .bool true := hd 2 (by simp)
        have d4 : vals 4 = .int .i64 40 := hd 4 (by simp)
        simp only [List.map_cons, List.map_nil, putZ, d2, d4]
        refine ⟨wanted_some rfl rfl rfl, ?_⟩
        go_simp
        exact hK _ _ _ (Below.refl _ _) rfl
      refine ⟨grow_val [2, 5] [some 29, some 32] (by kernel_rfl) (by kernel_rfl) (fun K w hb hd hK => ?_), ?_⟩
      · have d2 : vals 2 = .bool true := hd 2 (by simp)
        have d5 : vals 5 = .bool true := hd 5 (by simp)
        simp only [List.map_cons, List.map_nil, putZ, d2, d5]
        refine ⟨wanted_none rfl, ?_⟩
        go_simp
        exact hK _ _ _ (Below.refl _ _) rfl
      refine ⟨grow_val [6] [some 33] (by kernel_rfl) (by kernel_rfl) (fun K w hb hd hK => ?_), ?_⟩
      · have d6 : vals 6 = .bool true := hd 6 (by simp)
        simp only [List.map_cons, List.map_nil, putZ, d6]
        refine ⟨wanted_none rfl, ?_⟩
        go_simp
        exact hK _ _ _ (Below.refl _ _) rfl
      refine ⟨grow_val [7] [some 34] (by kernel_rfl) (by kernel_rfl) (fun K w hb hd hK => ?_), ?_⟩
      · have d7 : vals 7 = .bool true := hd 7 (by simp)
        simp only [List.map_cons, List.map_nil, putZ, d7]
        refine ⟨wanted_some rfl rfl rfl, ?_⟩
        go_simp
        exact hK _ _ _ (Below.refl _ _) rfl
      refine ⟨grow_val [7, 8] [some 34, some 35] (by kernel_rfl) (by kernel_rfl) (fun K w hb hd hK => ?_), ?_⟩
      · have d7 : vals 7 = .bool true := hd 7 (by simp)
        have d8 : vals 8 = .int .i64 0 := hd 8 (by simp)
        simp only [List.map_cons, List.map_nil, putZ, d7, d8]
        refine ⟨wanted_some rfl rfl rfl, ?_⟩
        go_simp
        exact hK _ _ _ (Below.refl _ _) rfl
      refine ⟨grow_val [7, 9] [some 34, some 36] (by kernel_rfl) (by kernel_rfl) (fun K w hb hd hK => ?_), ?_⟩
      · have d7 : vals 7 = .bool true := hd 7 (by simp)
        have d9 : vals 9 = .bool true := hd 9 (by simp)
        simp only [List.map_cons, List.map_nil, putZ, d7, d9]
        refine ⟨wanted_none rfl, ?_⟩
        go_simp
        exact hK _ _ _ (Below.refl _ _) rfl
      refine ⟨grow_val [10] [some 37] (by kernel_rfl) (by kernel_rfl) (fun K w hb hd hK => ?_), ?_⟩
      · have d10 : vals 10 = .bool true := hd 10 (by simp)
        simp only [List.map_cons, List.map_nil, putZ, d10]
        refine ⟨wanted_none rfl, ?_⟩
        go_simp
        exact hK _ _ _ (Below.refl _ _) rfl
      refine ⟨grow_val [11] [some 38] (by kernel_rfl) (by kernel_rfl) (fun K w hb hd hK => ?_), ?_⟩
      · have d11 : vals 11 = .bool true := hd 11 (by simp)
        simp only [List.map_cons, List.map_nil, putZ, d11]
        refine ⟨wanted_some rfl rfl rfl, ?_⟩
        go_simp
        exact hK _ _ _ (Below.refl _ _) rfl
      refine ⟨grow_val [11, 12] [some 38, some 39] (by kernel_rfl) (by kernel_rfl) (fun K w hb hd hK => ?_), ?_⟩
      · have d11 : vals 11 = .bool true := hd 11 (by simp)
        have d12 : vals 12 = .slice p3 40 c3 := hd 12 (by simp)
        have hcv := HC3.out w hb
        simp only [List.map_cons, List.map_nil, putZ, d11, d12]
        refine ⟨wanted_some rfl rfl rfl, ?_⟩
        go_simp
        exact hK _ _ _ (Below.refl _ _) rfl
      refine ⟨grow_val [11] [some 38] (by kernel_rfl) (by kernel_rfl) (fun K w hb hd hK => ?_), ?_⟩
      · have d11 : vals 11 = .bool true := hd 11 (by simp)
        simp only [List.map_cons, List.map_nil, putZ, d11]
        refine ⟨wanted_some rfl rfl rfl, ?_⟩
        go_simp
        exact hK _ _ _ (below_alloc (Below.refl _ _) _) ⟨_, rfl, RowAt.of (block_new _ _), hb.size⟩
      refine ⟨grow_val [11, 14] [some 38, some 41] (by kernel_rfl) (by kernel_rfl) (fun K w hb hd hK => ?_), ?_⟩
      · have d11 : vals 11 = .bool true := hd 11 (by simp)
        obtain ⟨g14, d14, r14, _⟩ : ∃ g, vals 14 = .slice (some ⟨g, 0, none⟩) 40 40 ∧ RowAt w g (bysA (zs 40)) ∧ W4.heap.size ≤ g := hd 14 (by simp)
        have hcv := HQ.out w g14 40 r14
        simp only [List.map_cons, List.map_nil, putZ, d11, d14]
        refine ⟨wanted_some rfl rfl rfl, ?_⟩
        go_simp
        exact hK _ _ _ (Below.refl _ _) rfl
      refine ⟨grow_val [11, 13, 15] [some 38, some 40, some 42] (by kernel_rfl) (by kernel_rfl) (fun K w hb hd hK => ?_), ?_⟩
      · have d11 : vals 11 = .bool true := hd 11 (by simp)
        have d13 : vals 13 = .string Q0 := hd 13 (by simp)
        have d15 : vals 15 = .string Q0 := hd 15 (by simp)
        simp only [List.map_cons, List.map_nil, putZ, d11, d13, d15]
        refine ⟨wanted_some rfl rfl rfl, ?_⟩
        go_simp
        exact hK _ _ _ (Below.refl _ _) rfl
      refine ⟨grow_val [11, 16] [some 38, some 43] (by kernel_rfl) (by kernel_rfl) (fun K w hb hd hK => ?_), ?_⟩
      · have d11 : vals 11 = .bool true := hd 11 (by simp)
        have d16 : vals 16 = .bool true := hd 16 (by simp)
        simp only [List.map_cons, List.map_nil, putZ, d11, d16]
        refine ⟨wanted_none rfl, ?_⟩
        go_simp
        exact hK _ _ _ (Below.refl _ _) rfl
      refine ⟨grow_val [17] [some 44] (by kernel_rfl) (by kernel_rfl) (fun K w hb hd hK => ?_), ?_⟩
      · have d17 : vals 17 = .bool true := hd 17 (by simp)
        simp only [List.map_cons, List.map_nil, putZ, d17]
        refine ⟨wanted_none rfl, ?_⟩
        go_simp
        exact hK _ _ _ (Below.refl _ _) rfl
      refine ⟨grow_val [18] [some 45] (by kernel_rfl) (by kernel_rfl) (fun K w hb hd hK => ?_), ?_⟩
      · have d18 : vals 18 = .bool true := hd 18 (by simp)
        simp only [List.map_cons, List.map_nil, putZ, d18]
        refine ⟨wanted_some rfl rfl rfl, ?_⟩
        go_simp
        exact hK _ _ _ (Below.refl _ _) rfl
      refine ⟨grow_val [18, 19] [some 45, some 46] (by kernel_rfl) (by kernel_rfl) (fun K w hb hd hK => ?_), ?_⟩
      · have d18 : vals 18 = .bool true := hd 18 (by simp)
        have d19 : vals 19 = .int .i64 4 := hd 19 (by simp)
        simp only [List.map_cons, List.map_nil, putZ, d18, d19]
        refine ⟨wanted_some rfl rfl rfl, ?_⟩
        go_simp
        exact hK _ _ _ (Below.refl _ _) rfl
      refine ⟨grow_val [18, 20] [some 45, some 47] (by kernel_rfl) (by kernel_rfl) (fun K w hb hd hK => ?_), ?_⟩
      · have d18 : vals 18 = .bool true := hd 18 (by simp)
        have d20 : vals 20 = .bool true := hd 20 (by simp)
        simp only [List.map_cons, List.map_nil, putZ, d18, d20]
        refine ⟨wanted_none rfl, ?_⟩
        go_simp
        exact hK _ _ _ (Below.refl _ _) rfl
      intro W5 hbg hR
      have d21 : vals 21 = .bool true := hR 21 (by simp)
      clear hR
      simp only [List.map_cons, List.map_nil, putZ, d21, pick, List.getElem?_cons_succ, List.getElem?_cons_zero]
      generalize vals 0 = e0
      generalize vals 1 = e1
      generalize vals 2 = e2
      generalize vals 3 = e3
      generalize vals 4 = e4
      generalize vals 5 = e5
      generalize vals 6 = e6
      generalize vals 7 = e7
      generalize vals 8 = e8
      generalize vals 9 = e9
      generalize vals 10 = e10
      generalize vals 11 = e11
      generalize vals 12 = e12
      generalize vals 13 = e13
      generalize vals 14 = e14
      generalize vals 15 = e15
      generalize vals 16 = e16
      generalize vals 17 = e17
      generalize vals 18 = e18
      generalize vals 19 = e19
      generalize vals 20 = e20
      clear d21
      have B5 := Lib.hid (B4.out.trans (hbg.mono B4.out.size))
      clear hbg
      go_wp2_with fail
      go_ret
      exact ⟨rfl, B5.out⟩
    · intro W4 hbg hR
      have d3 : vals 3 = .tuple #[.slice none 0 0, .int .i64 4] := hR 3 (by simp)
      have d4 : vals 4 = .slice none 0 0 := hR 4 (by simp)
      simp only [List.map_cons, List.map_nil, putZ, d3, d4, pick, List.getElem?_cons_succ, List.getElem?_cons_zero]
      generalize vals 0 = e0
      generalize vals 1 = e1
      generalize vals 2 = e2
      clear hR d3 d4
      clear vals
      have S4 := Lib.hid (S3.out.grow hbg)
      have B4 := Lib.hid (B3.out.trans (hbg.mono B3.out.size))
      clear hbg K3 S3 B3
      go_wp2_with fail
      have HC3 := Lib.hid (fun (w : World) (hb : Below W4.heap.size W4 w) => run_cvBS (c := c3) (S4.out.grow hb) (show 40 = (zs 40).length from (zs_length 40).symm))
      have HQ := Lib.hid (fun (w : World) (g c : Nat) (h : RowAt w g (bysA (zs 40))) => run_cvBS (c := c) (Bs0.some (bytes_row h)) (show 40 = (zs 40).length from (zs_length 40).symm))
      generalize toS (zs 40) = Q0 at *
      refine wp_region_grows W4 22 (fun w w' => Below w.heap.size w w') (listR [fixV (.int .i64 0), fixV (.bool true), fixV (.bool true), fixV (.slice p2 40 c2), fixV (.int .i64 40), fixV (.bool true), fixV (.bool true), fixV (.bool true), fixV (.int .i64 0), fixV (.bool true), fixV (.bool true), fixV (.bool true), fixV (.slice p3 40 c3), fixV (.string Q0), rowV W4.heap.size (fun g => .slice (some ⟨g, 0, none⟩) 40 40) (bysA (zs 40)), fixV (.string Q0), fixV (.bool true), fixV (.bool true), fixV (.bool true), fixV (.int .i64 4), fixV (.bool true), fixV (.bool true)]) [22] [0, 1, 2, 3, 4, 5, 6, 7, 8, 9, 10, 11, 12, 13, 14, 15, 16, 17, 18, 19, 20, 21] [some 27, some 28, some 29, some 30, some 31, some 32, some 33, some 34, some 35, some 36, some 37, some 38, some 39, some 40, some 41, some 42, some 43, some 44, some 45, some 46, some 47, some 48] (by kernel_rfl) (by kernel_rfl) (by kernel_rfl) (by kernel_rfl) ((Below.refl _ _).drew) (fun w w' h h' => h.trans (h'.mono h.size)) (listR_mono ⟨stays_fix _, stays_fix _, stays_fix _, stays_fix _, stays_fix _, stays_fix _, stays_fix _, stays_fix _, stays_fix _, stays_fix _, stays_fix _, stays_fix _, stays_fix _, stays_fix _, stays_row _ _ _, stays_fix _, stays_fix _, stays_fix _, stays_fix _, stays_fix _, stays_fix _, stays_fix _, trivial⟩) ?_
      intro vals
      simp only [List.take_succ_cons, List.take_zero]
      refine ⟨grow_val [] [] (by kernel_rfl) rfl (fun K w hb hd hK => ?_), ?_⟩
      · simp only [putZ]
        refine ⟨wanted_none rfl, ?_⟩
        go_simp
        exact hK _ _ _ (Below.refl _ _) rfl
      refine ⟨grow_val [0] [some 27] (by kernel_rfl) (by kernel_rfl) (fun K w hb hd hK => ?_), ?_⟩
      · have d0 : vals 0 = .int .i64 0 := hd 0 (by simp)
        simp only [List.map_cons, List.map_nil, putZ, d0]
        refine ⟨wanted_none rfl, ?_⟩
        go_simp
        exact hK _ _ _ (Below.refl _ _) rfl
      refine ⟨grow_val [1] [some 28] (by kernel_rfl) (by kernel_rfl) (fun K w hb hd hK => ?_), ?_⟩
      · have d1 : vals 1 = .bool true := hd 1 (by simp)
        simp only [List.map_cons, List.map_nil, putZ, d1]
        refine ⟨wanted_none rfl, ?_⟩
        go_simp
        exact hK _ _ _ (Below.refl _ _) rfl
      refine ⟨grow_val [2] [some 29] (by kernel_rfl) (by kernel_rfl) (fun K w hb hd hK => ?_), ?_⟩
      · have d2 : vals 2 = .bool true := hd 2 (by simp)
        simp only [List.map_cons, List.map_nil, putZ, d2]
        refine ⟨wanted_some rfl rfl rfl, ?_⟩
        go_simp
        exact hK _ _ _ (Below.refl _ _) rfl
      refine ⟨grow_val [2, 3] [some 29, some 30] (by kernel_rfl) (by kernel_rfl) (fun K w hb hd hK => ?_), ?_⟩
      · have d2 : vals 2 = .bool true := hd 2 (by simp)
        have d3 : vals 3 = .slice p2 40 c2 := hd 3 (by simp)
        simp only [List.map_cons, List.map_nil, putZ, d2, d3]
        refine ⟨wanted_some rfl rfl rfl, ?_⟩
        go_simp
        exact hK _ _ _ (Below.refl _ _) rfl
      refine ⟨grow_val [2, 4] [some 29, some 31] (by kernel_rfl) (by kernel_rfl) (fun K w hb hd hK => ?_), ?_⟩
      · have d2 : vals 2 = .bool true := hd 2 (by simp)
        have d4 : vals 4 = .int .i64 40 := hd 4 (by simp)
        simp only [List.map_cons, List.map_nil, putZ, d2, d4]
        refine ⟨wanted_some rfl rfl rfl, ?_⟩
        go_simp
        exact hK _ _ _ (Below.refl _ _) rfl
      refine ⟨grow_val [2, 5] [some 29, some 32] (by kernel_rfl) (by kernel_rfl) (fun K w hb hd hK => ?_), ?_⟩
      · have d2 : vals 2 = .bool true := hd 2 (by simp)
        have d5 : vals 5 = .bool true := hd 5 (by simp)
        simp only [List.map_cons, List.map_nil, putZ, d2, d5]
        refine ⟨wanted_none rfl, ?_⟩
        go_simp
        exact hK _ _ _ (Below.refl _ _) rfl
      refine ⟨grow_val [6] [some 33] (by kernel_rfl) (by kernel_rfl) (fun K w hb hd hK => ?_), ?_⟩
      · have d6 : vals 6 = .bool true := hd 6 (by simp)
        simp only [List.map_cons, List.map_nil, putZ, d6]
        refine ⟨wanted_none rfl, ?_⟩
        go_simp
        exact hK _ _ _ (Below.refl _ _) rfl
      refine ⟨grow_val [7] [some 34] (by kernel_rfl) (by kernel_rfl) (fun K w hb hd hK => ?_), ?_⟩
      · have d7 : vals 7 = .bool true := hd 7 (by simp)
        simp only [List.map_cons, List.map_nil, putZ, d7]
        refine ⟨wanted_some rfl rfl rfl, ?_⟩
        go_simp
        exact hK _ _ _ (Below.refl _ _) rfl
      refine ⟨grow_val [7, 8] [some 34, some 35] (by kernel_rfl) (by kernel_rfl) (fun K w hb hd hK => ?_), ?_⟩
      · have d7 : vals 7 = .bool true := hd 7 (by simp)
        have d8 : vals 8 = .int .i64 0 := hd 8 (by simp)
        simp only [List.map_cons, List.map_nil, putZ, d7, d8]
        refine ⟨wanted_some rfl rfl rfl, ?_⟩
        go_simp
        exact hK _ _ _ (Below.refl _ _) rfl
      refine ⟨grow_val [7, 9] [some 34, some 36] (by kernel_rfl) (by kernel_rfl) (fun K w hb hd hK => ?_), ?_⟩
      · have d7 : vals 7 = .bool true := hd 7 (by simp)
        have d9 : vals 9 = .bool true := hd 9 (by simp)
        simp only [List.map_cons, List.map_nil, putZ, d7, d9]
        refine ⟨wanted_none rfl, ?_⟩
        go_simp
        exact hK _ _ _ (Below.refl _ _) rfl
      refine ⟨grow_val [10] [some 37] (by kernel_rfl) (by kernel_rfl) (fun K w hb hd hK => ?_), ?_⟩
      · have d10 : vals 10 = .bool true := hd 10 (by simp)
        simp only [List.map_cons, List.map_nil, putZ, d10]
        refine ⟨wanted_none rfl, ?_⟩
        go_simp
        exact hK _ _ _ (Below.refl _ _) rfl
      refine ⟨grow_val [11] [some 38] (by kernel_rfl) (by kernel_rfl) (fun K w hb hd hK => ?_), ?_⟩
      · have d11 : vals 11 = .bool true := hd 11 (by simp)
        simp only [List.map_cons, List.map_nil, putZ, d11]
        refine ⟨wanted_some rfl rfl rfl, ?_⟩
        go_simp
        exact hK _ _ _ (Below.refl _ _) rfl
      refine ⟨grow_val [11, 12] [some 38, some 39] (by kernel_rfl) (by kernel_rfl) (fun K w hb hd hK => ?_), ?_⟩
      · have d11 : vals 11 = .bool true := hd 11 (by simp)
        have d12 : vals 12 = .slice p3 40 c3 := hd 12 (by simp)
        have hcv := HC3.out w hb
        simp only [List.map_cons, List.map_nil, putZ, d11, d12]
        refine ⟨wanted_some rfl rfl rfl, ?_⟩
        go_simp
        exact hK _ _ _ (Below.refl _ _) rfl
      refine ⟨grow_val [11] [some 38] (by kernel_rfl) (by kernel_rfl) (fun K w hb hd hK => ?_), ?_⟩
      · have d11 : vals 11 = .bool true := hd 11 (by simp)
        simp only [List.map_cons, List.map_nil, putZ, d11]
        refine ⟨wanted_some rfl rfl rfl, ?_⟩
        go_simp
        exact hK _ _ _ (below_alloc (Below.refl _ _) _) ⟨_, rfl, RowAt.of (block_new _ _), hb.size⟩
      refine ⟨grow_val [11, 14] [some 38, some 41] (by kernel_rfl) (by kernel_rfl) (fun K w hb hd hK => ?_), ?_⟩
      · have d11 : vals 11 = .bool true := hd 11 (by simp)
        obtain ⟨g14, d14, r14, _⟩ : ∃ g, vals 14 = .slice (some ⟨g, 0, none⟩) 40 40 ∧ RowAt w g (bysA (zs 40)) ∧ W4.heap.size ≤ g := hd 14 (by simp)
        have hcv := HQ.out w g14 40 r14
        simp only [List.map_cons, List.map_nil, putZ, d11, d14]
        refine ⟨wanted_some rfl rfl rfl, ?_⟩
        go_simp
        exact hK _ _ _ (Below.refl _ _) rfl
      refine ⟨grow_val [11, 13, 15] [some 38, some 40, some 42] (by kernel_rfl) (by kernel_rfl) (fun K w hb hd hK => ?_), ?_⟩
      · have d11 : vals 11 = .bool true := hd 11 (by simp)
        have d13 : vals 13 = .string Q0 := hd 13 (by simp)
        have d15 : vals 15 = .string Q0 := hd 15 (by simp)
        simp only [List.map_cons, List.map_nil, putZ, d11, d13, d15]
        refine ⟨wanted_some rfl rfl rfl, ?_⟩
        go_simp
        exact hK _ _ _ (Below.refl _ _) rfl
      refine ⟨grow_val [11, 16] [some 38, some 43] (by kernel_rfl) (by kernel_rfl) (fun K w hb hd hK => ?_), ?_⟩
      · have d11 : vals 11 = .bool true := hd 11 (by simp)
        have d16 : vals 16 = .bool true := hd 16 (by simp)
        simp only [List.map_cons, List.map_nil, putZ, d11, d16]
        refine ⟨wanted_none rfl, ?_⟩
        go_simp
        exact hK _ _ _ (Below.refl _ _) rfl
      refine ⟨grow_val [17] [some 44] (by kernel_rfl) (by kernel_rfl) (fun K w hb hd hK => ?_), ?_⟩
      · have d17 : vals 17 = .bool true := hd 17 (by simp)
        simp only [List.map_cons, List.map_nil, putZ, d17]
        refine ⟨wanted_none rfl, ?_⟩
        go_simp
        exact hK _ _ _ (Below.refl _ _) rfl
      refine ⟨grow_val [18] [some 45] (by kernel_rfl) (by kernel_rfl) (fun K w hb hd hK => ?_), ?_⟩
      · have d18 : vals 18 = .bool true := hd 18 (by simp)
        simp only [List.map_cons, List.map_nil, putZ, d18]
        refine ⟨wanted_some rfl rfl rfl, ?_⟩
        go_simp
        exact hK _ _ _ (Below.refl _ _) rfl
      refine ⟨grow_val [18, 19] [some 45, some 46] (by kernel_rfl) (by kernel_rfl) (fun K w hb hd hK => ?_), ?_⟩
      · have d18 : vals 18 = .bool true := hd 18 (by simp)
        have d19 : vals 19 = .int .i64 4 := hd 19 (by simp)
        simp only [List.map_cons, List.map_nil, putZ, d18, d19]
        refine ⟨wanted_some rfl rfl rfl, ?_⟩
        go_simp
        exact hK _ _ _ (Below.refl _ _) rfl
      refine ⟨grow_val [18, 20] [some 45, some 47] (by kernel_rfl) (by kernel_rfl) (fun K w hb hd hK => ?_), ?_⟩
      · have d18 : vals 18 = .bool true := hd 18 (by simp)
        have d20 : vals 20 = .bool true := hd 20 (by simp)
        simp only [List.map_cons, List.map_nil, putZ, d18, d20]
        refine ⟨wanted_none rfl, ?_⟩
        go_simp
        exact hK _ _ _ (Below.refl _ _) rfl
      intro W5 hbg hR
      have d21 : vals 21 = .bool true := hR 21 (by simp)
      clear hR
      simp only [List.map_cons, List.map_nil, putZ, d21, pick, List.getElem?_cons_succ, List.getElem?_cons_zero]
      generalize vals 0 = e0
      generalize vals 1 = e1
      generalize vals 2 = e2
      generalize vals 3 = e3
      generalize vals 4 = e4
      generalize vals 5 = e5
      generalize vals 6 = e6
      generalize vals 7 = e7
      generalize vals 8 = e8
      generalize vals 9 = e9
      generalize vals 10 = e10
      generalize vals 11 = e11
      generalize vals 12 = e12
      generalize vals 13 = e13
      generalize vals 14 = e14
      generalize vals 15 = e15
      generalize vals 16 = e16
      generalize vals 17 = e17
      generalize vals 18 = e18
      generalize vals 19 = e19
      generalize vals 20 = e20
      clear d21
      have B5 := Lib.hid (B4.out.trans (hbg.mono B4.out.size))
      clear hbg
      go_wp2_with fail
      go_ret
      exact ⟨rfl, B5.out⟩
end Go.Proofs.YtnkfiljmgbnbkaaDoor

/-
  Mixing and what undoes it undo each other; a block keeps its size.
-/
namespace Go.Proofs.YtnkfiljmgbnbkaaDoor
open Go.RowKit Go.Hold Go.Sh Go.Ch Go.Li

set_option maxHeartbeats 1000000 in
set_option maxRecDepth 100000 in
theorem lback_any (bc : Nat) (bp : Option Addr) (k b : List Nat) (w : World) (hT : Tabs w) (hk : k.length = 32) (hkb : ∀ i, k.getD i 0 < 256) (hbb : ∀ i, b.getD i 0 < 256) (hbB : Bs0 w bp b) (hbc : b.length ≤ bc) :
    Calls Tryd.prog 4 #[.agg (bysA k), .slice bp b.length bc] w fun e w' => e = .returned (.bool true) ∧ Below w.heap.size w w' := by
  have hks := bysA_size' hk
  obtain ⟨n, en⟩ : ∃ m, m = b.length := ⟨_, rfl⟩
  rw [← en] at hbc ⊢
  have En := Lib.hid en
  have HT := Lib.hid hT
  have HB := Lib.hid hbB
  clear en
  go_enter Tryd.func4, Tryd.ntmps4
  go_wp2_with fail
  have hA := below_alloc (Below.refl w.heap.size w) (.cells (bysA k) 23)
  refine (alive8_c _ (HT.out.grow hA)).mono ?_
  rintro e W1 ⟨rfl, hb1⟩
  have K1 := Lib.hid ((RowAt.of (block_new w (.cells (bysA k) 23))).grow hb1)
  have B1 := Lib.hid (hA.trans (hb1.mono hA.size))
  clear hA hb1
  by_cases l1 : n < 33
  · have l1' : (n : Int) < 33 := by omega
    go_wp2_with fail
    go_ret
    exact ⟨rfl, B1.out⟩
  have l1' : ¬ (n : Int) < 33 := by omega
  by_cases l2 : 700 < n
  · have l2' : (700 : Int) < (n : Int) := by omega
    go_wp2_with fail
    go_ret
    exact ⟨rfl, B1.out⟩
  have l2' : ¬ (700 : Int) < (n : Int) := by omega
  have h32 : 32 ≤ b.length := by rw [← En.out]; omega
  have HL := Lib.hid (fun (W : World) (hW : Below w.heap.size w W) => lock_c k b bp n bc hk hkb hbb En.out (by omega) (by omega) hbc W (hT.grow hW) (hbB.grow hW))
  have HU := Lib.hid (fun (W : World) (hW : Below w.heap.size w W) => unlock_c k b bp n bc hk hkb hbb En.out (by omega) (by omega) hbc W (hT.grow hW) (hbB.grow hW))
  have HLU := Lib.hid (fun (W : World) (hW : Below w.heap.size w W) (p : Option Addr) (c : Nat) (hc : n ≤ c) (hp : Bs0 W p (lockL k b)) => unlock_c k (lockL k b) p n c hk hkb (mixL_bts k fwd h32 hbb) (by unfold lockL; rw [mixL_length _ _ h32 hbb]; exact En.out) (by omega) (by omega) hc W (hT.grow hW) hp)
  have HUL := Lib.hid (fun (W : World) (hW : Below w.heap.size w W) (p : Option Addr) (c : Nat) (hc : n ≤ c) (hp : Bs0 W p (unlockL k b)) => lock_c k (unlockL k b) p n c hk hkb (mixL_bts k bwd h32 hbb) (by unfold unlockL; rw [mixL_length _ _ h32 hbb]; exact En.out) (by omega) (by omega) hc W (hT.grow hW) hp)
  have Hx := Lib.hid (show (lockL k b).length = n by unfold lockL; rw [mixL_length _ _ h32 hbb]; exact En.out.symm)
  have Hu := Lib.hid (show (unlockL k b).length = n by unfold unlockL; rw [mixL_length _ _ h32 hbb]; exact En.out.symm)
  rw [unlock_lock k h32 hbb] at HLU
  rw [lock_unlock k h32 hbb] at HUL
  generalize lockL k b = X at *
  generalize unlockL k b = U at *
  clear hk hkb hbb hbB hbc hT l1 l2 h32
  obtain ⟨z, ez⟩ : ∃ z, z = w.heap.size := ⟨_, rfl⟩
  rw [← ez] at K1 ⊢
  clear ez
  obtain ⟨k1, k2, k3⟩ := K1.out
  go_wp2_with fail
  refine (HL.out W1 B1.out).mono ?_
  rintro e W2 ⟨u, rfl, hown, hb2⟩
  obtain ⟨p2, c2, rfl, hs2, hc2, _⟩ := hown.bs
  rw [Hx.out] at hc2 ⊢
  have S2 := Lib.hid hs2
  have K2 := Lib.hid (K1.out.grow hb2)
  have B2 := Lib.hid (B1.out.trans (hb2.mono B1.out.size))
  clear hb2 hs2 hown K1 B1 k1 k2 k3 HL
  obtain ⟨k1, k2, k3⟩ := K2.out
  go_wp2_with fail
  refine (HLU.out W2 B2.out p2 c2 hc2 S2.out).mono ?_
  rintro e W3 ⟨u, rfl, hown, hb3⟩
  obtain ⟨p3, c3, rfl, hs3, hc3, _⟩ := hown.bs
  rw [← En.out]
  have S3 := Lib.hid hs3
  have K3 := Lib.hid (K2.out.grow hb3)
  have B3 := Lib.hid (B2.out.trans (hb3.mono B2.out.size))
  clear hb3 hs3 hown K2 B2 k1 k2 k3 HLU hc3 S2
  obtain ⟨k1, k2, k3⟩ := K3.out
  go_wp2_with fail
  refine (HU.out W3 B3.out).mono ?_
  rintro e W4 ⟨u, rfl, hown, hb4⟩
  obtain ⟨p4, c4, rfl, hs4, hc4, _⟩ := hown.bs
  rw [Hu.out] at hc4 ⊢
  have S4 := Lib.hid hs4
  have X4 := Lib.hid (S3.out.grow hb4)
  have K4 := Lib.hid (K3.out.grow hb4)
  have B4 := Lib.hid (B3.out.trans (hb4.mono B3.out.size))
  clear hb4 hs4 hown K3 B3 k1 k2 k3 HU S3
  obtain ⟨k1, k2, k3⟩ := K4.out
  go_wp2_with fail
  refine (HUL.out W4 B4.out p4 c4 hc4 S4.out).mono ?_
  rintro e W5 ⟨u, rfl, hown, hb5⟩
  obtain ⟨p5, c5, rfl, hs5, hc5, _⟩ := hown.bs
  rw [← En.out]
  have B5 := Lib.hid (B4.out.trans (hb5.mono B4.out.size))
  have hcv1 := run_cvBS (c := c3) (X4.out.grow hb5) En.out
  have hcv2 := run_cvBS (c := bc) (HB.out.grow B5.out) En.out
  have hcv3 := run_cvBS (c := c5) hs5 En.out
  generalize toS b = Q0 at *
  clear hb5 hs5 hown K4 B4 k1 k2 k3 HUL hc5 S4 X4
  go_wp2_with fail
  go_ret
  exact ⟨rfl, B5.out⟩
end Go.Proofs.YtnkfiljmgbnbkaaDoor
