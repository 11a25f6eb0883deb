/-
  Part 4 of the texts behind the theorem.
-/
import Derived.Test.YtnkfiljmgbnbkaaDoorPart3
/-
  The law's own question: is the package there?
-/
namespace Go.Proofs.YtnkfiljmgbnbkaaDoor
open Go.RowKit Go.Hold Go.Sh Go.Ch Go.Li

def key5 : List Nat := [5, 0, 0, 0, 0, 0, 0, 0, 0, 0, 0, 0, 0, 0, 0, 0, 0, 0, 0, 0, 0, 0, 0, 0, 0, 0, 0, 0, 0, 0, 0, 0]
theorem key5_bts : ∀ i, key5.getD i 0 < 256 := getD_lt fun x hx => by
  have h : (key5.all fun y => decide (y < 256)) = true := by decide
  simpa using List.all_eq_true.1 h x hx
theorem run_bldKey5 (w : World) : (bldA 23 #[(0, .int .u8 5)]).run Tryd.prog w = .ok (.agg (bysA key5)) w := run_build w _ _ _ (by kernel_rfl)
/-- An answer of bytes of one's own, with no error. -/
def ansR (B : Nat) (l : List Nat) : Value → World → Prop := fun v w => ∃ u, v = .tuple #[u, .int .i64 0] ∧ OwnB w B u l
theorem stays_ans (B : Nat) (l : List Nat) : Stays (ansR B l) := fun _ _ _ ⟨u, e, h⟩ hb => ⟨u, e, h.below hb⟩
theorem run_mk40 (w : World) : (mkS (.int .i64 40) (.int .i64 40)).run Tryd.prog w = .ok (.slice (some ⟨w.heap.size, 0, none⟩) 40 40) (w.alloc (.cells (bysA (zs 40)) 5)) := run_mkS w 40 (by decide)
theorem run_mk32 (w : World) : (mkS (.int .i64 32) (.int .i64 32)).run Tryd.prog w = .ok (.slice (some ⟨w.heap.size, 0, none⟩) 32 32) (w.alloc (.cells (bysA (zs 32)) 5)) := run_mkS w 32 (by decide)
set_option maxHeartbeats 2000000 in
set_option maxRecDepth 100000 in
theorem alive8_c (w : World) (hT : Tabs w) : Calls Tryd.prog 8 #[] w fun e w' => e = .returned (.bool true) ∧ Below w.heap.size w w' := by
  have HT := Lib.hid hT
  have hkl : key5.length = 32 := rfl
  have hkb := key5_bts
  have HL := Lib.hid (fun (W : World) (hW : Below w.heap.size w W) (p : Option Addr) (hp : Bs0 W p (zs 40)) => lock_c key5 (zs 40) p 40 40 hkl hkb (bts_zs 40) (zs_length 40).symm (by decide) (by decide) (by decide) W (hT.grow hW) hp)
  have HU := Lib.hid (fun (W : World) (hW : Below w.heap.size w W) (p : Option Addr) (c : Nat) (hc : 40 ≤ c) (hp : Bs0 W p (lockL key5 (zs 40))) => unlock_c key5 (lockL key5 (zs 40)) p 40 c hkl hkb (mixL_bts key5 fwd (by decide) (bts_zs 40)) (by unfold lockL; rw [mixL_length _ _ (by decide) (bts_zs 40), zs_length]) (by decide) (by decide) hc W (hT.grow hW) hp)
  rw [unlock_lock key5 (show 32 ≤ (zs 40).length by decide) (bts_zs 40)] at HU
  have HLl := Lib.hid (show (lockL key5 (zs 40)).length = 40 by unfold lockL; rw [mixL_length _ _ (by decide) (bts_zs 40), zs_length])
  generalize lockL key5 (zs 40) = LL at *
  have HS := Lib.hid (fun (W : World) (p : Option Addr) => lock_bad key5 p 32 32 4 (.inl ⟨by decide, rfl⟩) hkl W)
  have hks := bysA_size' hkl
  obtain ⟨k5, ek⟩ : ∃ k, k = key5 := ⟨_, rfl⟩
  have hbk : ∀ W, (bldA 23 #[(0, .int .u8 5)]).run Tryd.prog W = .ok (.agg (bysA k5)) W := fun W => by rw [ek]; exact run_bldKey5 W
  have hm40 := run_mk40
  have hm32 := run_mk32
  rw [← ek] at HL HU HS hks
  clear ek hkl hkb hT
  go_enter Tryd.func8, Tryd.ntmps8
  go_wp2_with fail
  have K1 := Lib.hid (RowAt.of (block_new w (.cells (bysA k5) 23)))
  have B1 := Lib.hid (below_alloc (Below.refl w.heap.size w) (.cells (bysA k5) 23))
  generalize w.alloc (.cells (bysA k5) 23) = W1 at *
  obtain ⟨z, ez⟩ : ∃ z, z = w.heap.size := ⟨_, rfl⟩
  rw [← ez] at K1 ⊢
  clear ez
  refine wp_region_growsL W1 5 (fun w w' => Below w.heap.size w w') (listR [fixV (.agg (bysA k5)), rowV W1.heap.size (fun g => .slice (some ⟨g, 0, none⟩) 40 40) (bysA (zs 40)), ansR W1.heap.size LL, ansR W1.heap.size LL, ownV W1.heap.size LL, fixV (.int .i64 0)]) 6 [7] [0, 1, 2, 3, 4, 5] [0, 1, 2, 3, 4] [some 10, some 11, some 12, some 9, some 13, some 14] [some 10, some 11, some 12, some 9, some 13] (by kernel_rfl) (by kernel_rfl) (by kernel_rfl) (by kernel_rfl) (by kernel_rfl) (by kernel_rfl) ((Below.refl _ _).drew) (fun w w' h h' => h.trans (h'.mono h.size)) (listR_mono ⟨stays_fix _, stays_row _ _ _, stays_ans _ _, stays_ans _ _, stays_own _ _, stays_fix _, trivial⟩) ?_
  intro vals
  simp only [List.take_succ_cons, List.take_zero]
  refine ⟨grow_val [] [] (by kernel_rfl) rfl (fun K w hb hd hK => ?_), ?_⟩
  · obtain ⟨k1, k2, k3⟩ := K1.out.grow hb
    simp only [putZ]
    refine ⟨wanted_none rfl, ?_⟩
    go_simp
    exact hK _ _ _ (Below.refl _ _) rfl
  refine ⟨grow_val [] [] (by kernel_rfl) rfl (fun K w hb hd hK => ?_), ?_⟩
  · simp only [putZ]
    refine ⟨wanted_none rfl, ?_⟩
    go_simp
    exact hK _ _ _ (below_alloc (Below.refl _ _) _) ⟨_, rfl, RowAt.of (block_new _ _), hb.size⟩
  refine ⟨grow_call [0, 1] [some 10, some 11] (by kernel_rfl) (by kernel_rfl) (fun K w hb hd hK => ?_), ?_⟩
  · have d0 : vals 0 = .agg (bysA k5) := hd 0 (by simp)
    obtain ⟨g1, d1, r1, _⟩ : ∃ g, vals 1 = .slice (some ⟨g, 0, none⟩) 40 40 ∧ RowAt w g (bysA (zs 40)) ∧ W1.heap.size ≤ g := hd 1 (by simp)
    simp only [List.map_cons, List.map_nil, putZ, d0, d1]
    refine ⟨wanted_none rfl, ?_⟩
    go_simp
    refine (HL.out w (B1.out.trans (hb.mono B1.out.size)) _ (Bs0.some (bytes_row r1))).mono ?_
    rintro e w' ⟨u, rfl, ho, hb'⟩
    exact ⟨_, rfl, hK _ _ hb' ⟨u, rfl, ho.base hb.size⟩⟩
  refine ⟨grow_val [2] [some 12] (by kernel_rfl) (by kernel_rfl) (fun K w hb hd hK => ?_), ?_⟩
  · obtain ⟨u2, d2, o2⟩ : ∃ u, vals 2 = .tuple #[u, .int .i64 0] ∧ OwnB w W1.heap.size u LL := hd 2 (by simp)
    simp only [List.map_cons, List.map_nil, putZ, d2]
    refine ⟨wanted_none rfl, ?_⟩
    go_simp
    exact hK _ _ _ (Below.refl _ _) ⟨_, rfl, o2⟩
  refine ⟨grow_val [3] [some 9] (by kernel_rfl) (by kernel_rfl) (fun K w hb hd hK => ?_), ?_⟩
  · obtain ⟨u3, d3, o3⟩ : ∃ u, vals 3 = .tuple #[u, .int .i64 0] ∧ OwnB w W1.heap.size u LL := hd 3 (by simp)
    simp only [List.map_cons, List.map_nil, putZ, d3]
    refine ⟨wanted_none rfl, ?_⟩
    go_simp
    exact hK _ _ _ (Below.refl _ _) o3
  refine ⟨grow_val [3] [some 9] (by kernel_rfl) (by kernel_rfl) (fun K w hb hd hK => ?_), ?_⟩
  · obtain ⟨u3, d3, o3⟩ : ∃ u, vals 3 = .tuple #[u, .int .i64 0] ∧ OwnB w W1.heap.size u LL := hd 3 (by simp)
    simp only [List.map_cons, List.map_nil, putZ, d3]
    refine ⟨wanted_none rfl, ?_⟩
    go_simp
    exact hK _ _ _ (Below.refl _ _) rfl
  constructor
  · intro W2 hbg hR
    obtain ⟨u3, d3, o3⟩ : ∃ u, vals 3 = .tuple #[u, .int .i64 0] ∧ OwnB W2 W1.heap.size u LL := hR 3 (by simp)
    have o4 : OwnB W2 W1.heap.size (vals 4) LL := hR 4 (by simp)
    have d5 : vals 5 = .int .i64 0 := hR 5 (by simp)
    simp only [List.map_cons, List.map_nil, putZ, d3, pick, List.getElem?_cons_succ, List.getElem?_cons_zero]
    simp only [d5]
    obtain ⟨p2, c2, e4, hs2, hc2, _⟩ := o4.bs
    rw [HLl.out] at e4 hc2
    rw [e4]
    generalize vals 0 = e0
    generalize vals 1 = e1
    generalize vals 2 = e2
    clear hR d3 o3 e4 o4
    clear d5
    clear vals
    have K2 := Lib.hid (K1.out.grow hbg)
    have B2 := Lib.hid (B1.out.trans (hbg.mono B1.out.size))
    have S2 := Lib.hid hs2
    clear hbg hs2
    obtain ⟨k1, k2, k3⟩ := K2.out
    go_wp2_with fail
    refine (HU.out W2 B2.out p2 c2 hc2 S2.out).mono ?_
    rintro e W3 ⟨u, rfl, hown, hb3⟩
    obtain ⟨p3, c3, rfl, hs3, hc3, _⟩ := hown.bs
    rw [zs_length]
    have K3 := Lib.hid (K2.out.grow hb3)
    have B3 := Lib.hid (B2.out.trans (hb3.mono B2.out.size))
    have S3 := Lib.hid hs3
    clear hb3 hs3 hown hc3 k1 k2 k3 K2 S2 B2
    go_wp2_with fail
    refine wp_region_growsL W3 5 (fun w w' => Below w.heap.size w w') (listR [fixV (.agg (bysA k5)), rowV W3.heap.size (fun g => .slice (some ⟨g, 0, none⟩) 32 32) (bysA (zs 32)), fixV (.tuple #[.slice none 0 0, .int .i64 4]), fixV (.tuple #[.slice none 0 0, .int .i64 4]), fixV (.slice none 0 0), fixV (.int .i64 4)]) 6 [7] [0, 1, 2, 3, 4, 5] [0, 1, 2, 3, 4] [some 22, some 23, some 24, some 21, some 25, some 26] [some 22, some 23, some 24, some 21, some 25] (by kernel_rfl) (by kernel_rfl) (by kernel_rfl) (by kernel_rfl) (by kernel_rfl) (by kernel_rfl) ((Below.refl _ _).drew) (fun w w' h h' => h.trans (h'.mono h.size)) (listR_mono ⟨stays_fix _, stays_row _ _ _, stays_fix _, stays_fix _, stays_fix _, stays_fix _, trivial⟩) ?_
    intro vals
    simp only [List.take_succ_cons, List.take_zero]
    refine ⟨grow_val [] [] (by kernel_rfl) rfl (fun K w hb hd hK => ?_), ?_⟩
    · obtain ⟨k1, k2, k3⟩ := K3.out.grow hb
      simp only [putZ]
      refine ⟨wanted_none rfl, ?_⟩
      go_simp
      exact hK _ _ _ (Below.refl _ _) rfl
    refine ⟨grow_val [] [] (by kernel_rfl) rfl (fun K w hb hd hK => ?_), ?_⟩
    · simp only [putZ]
      refine ⟨wanted_none rfl, ?_⟩
      go_simp
      exact hK _ _ _ (below_alloc (Below.refl _ _) _) ⟨_, rfl, RowAt.of (block_new _ _), hb.size⟩
    refine ⟨grow_call [0, 1] [some 22, some 23] (by kernel_rfl) (by kernel_rfl) (fun K w hb hd hK => ?_), ?_⟩
    · have d0 : vals 0 = .agg (bysA k5) := hd 0 (by simp)
      obtain ⟨g1, d1, r1, _⟩ : ∃ g, vals 1 = .slice (some ⟨g, 0, none⟩) 32 32 ∧ RowAt w g (bysA (zs 32)) ∧ W3.heap.size ≤ g := hd 1 (by simp)
      simp only [List.map_cons, List.map_nil, putZ, d0, d1]
      refine ⟨wanted_none rfl, ?_⟩
      go_simp
      refine (HS.out w _).mono ?_
      rintro e w' ⟨rfl, hb'⟩
      exact ⟨_, rfl, hK _ _ hb' rfl⟩
    refine ⟨grow_val [2] [some 24] (by kernel_rfl) (by kernel_rfl) (fun K w hb hd hK => ?_), ?_⟩
    · have d2 : vals 2 = .tuple #[.slice none 0 0, .int .i64 4] := hd 2 (by simp)
      simp only [List.map_cons, List.map_nil, putZ, d2]
      refine ⟨wanted_none rfl, ?_⟩
      go_simp
      exact hK _ _ _ (Below.refl _ _) rfl
    refine ⟨grow_val [3] [some 21] (by kernel_rfl) (by kernel_rfl) (fun K w hb hd hK => ?_), ?_⟩
    · have d3 : vals 3 = .tuple #[.slice none 0 0, .int .i64 4] := hd 3 (by simp)
      simp only [List.map_cons, List.map_nil, putZ, d3]
      refine ⟨wanted_none rfl, ?_⟩
      go_simp
      exact hK _ _ _ (Below.refl _ _) rfl
    refine ⟨grow_val [3] [some 21] (by kernel_rfl) (by kernel_rfl) (fun K w hb hd hK => ?_), ?_⟩
    · have d3 : vals 3 = .tuple #[.slice none 0 0, .int .i64 4] := hd 3 (by simp)
      simp only [List.map_cons, List.map_nil, putZ, d3]
      refine ⟨wanted_none rfl, ?_⟩
      go_simp
      exact hK _ _ _ (Below.refl _ _) rfl
    constructor
    · intro W4 hbg hR
      have d3 : vals 3 = .tuple #[.slice none 0 0, .int .i64 4] := hR 3 (by simp)
      have d4 : vals 4 = .slice none 0 0 := hR 4 (by simp)
      have d5 : vals 5 = .int .i64 4 := hR 5 (by simp)
      simp only [List.map_cons, List.map_nil, putZ, d3, d4, pick, List.getElem?_cons_succ, List.getElem?_cons_zero]
      simp only [d5]
      generalize vals 0 = e0
      generalize vals 1 = e1
      generalize vals 2 = e2
      clear hR d3 d4
      clear d5
      clear vals
      have S4 := Lib.hid (S3.out.grow hbg)
      have B4 := Lib.hid (B3.out.trans (hbg.mono B3.out.size))
      clear hbg K3 S3 B3
      go_wp2_with fail
      have HC3 := Lib.hid (fun (w : World) (hb : Below W4.heap.size W4 w) => run_cvBS (c := c3) (S4.out.grow hb) (show 40 = (zs 40).length from (zs_length 40).symm))
      have HQ := Lib.hid (fun (w : World) (g c : Nat) (h : RowAt w g (bysA (zs 40))) => run_cvBS (c := c) (Bs0.some (bytes_row h)) (show 40 = (zs 40).length from (zs_length 40).symm))
      generalize toS (zs 40) = Q0 at *
      refine wp_region_grows W4 22 (fun w w' => Below w.heap.size w w') (listR [fixV (.int .i64 0), fixV (.bool true), fixV (.bool true), fixV (.slice p2 40 c2), fixV (.int .i64 40), fixV (.bool true), fixV (.bool true), fixV (.bool true), fixV (.int .i64 0), fixV (.bool true), fixV (.bool true), fixV (.bool true), fixV (.slice p3 40 c3), fixV (.string Q0), rowV W4.heap.size (fun g => .slice (some ⟨g, 0, none⟩) 40 40) (bysA (zs 40)), fixV (.string Q0), fixV (.bool true), fixV (.bool true), fixV (.bool true), fixV (.int .i64 4), fixV (.bool true), fixV (.bool true)]) [22] [0, 1, 2, 3, 4, 5, 6, 7, 8, 9, 10, 11, 12, 13, 14, 15, 16, 17, 18, 19, 20, 21] [some 27, some 28, some 29, some 30, some 31, some 32, some 33, some 34, some 35, some 36, some 37, some 38, some 39, some 40, some 41, some 42, some 43, some 44, some 45, some 46, some 47, some 48] (by kernel_rfl) (by kernel_rfl) (by kernel_rfl) (by kernel_rfl) ((Below.refl _ _).drew) (fun w w' h h' => h.trans (h'.mono h.size)) (listR_mono ⟨stays_fix _, stays_fix _, stays_fix _, stays_fix _, stays_fix _, stays_fix _, stays_fix _, stays_fix _, stays_fix _, stays_fix _, stays_fix _, stays_fix _, stays_fix _, stays_fix _, stays_row _ _ _, stays_fix _, stays_fix _, stays_fix _, stays_fix _, stays_fix _, stays_fix _, stays_fix _, trivial⟩) ?_
      intro vals
      simp only [List.take_succ_cons, List.take_zero]
      refine ⟨grow_val [] [] (by kernel_rfl) rfl (fun K w hb hd hK => ?_), ?_⟩
      · simp only [putZ]
        refine ⟨wanted_none rfl, ?_⟩
        go_simp
        exact hK _ _ _ (Below.refl _ _) rfl
      refine ⟨grow_val [0] [some 27] (by kernel_rfl) (by kernel_rfl) (fun K w hb hd hK => ?_), ?_⟩
      · have d0 : vals 0 = .int .i64 0 := hd 0 (by simp)
        simp only [List.map_cons, List.map_nil, putZ, d0]
        refine ⟨wanted_none rfl, ?_⟩
        go_simp
        exact hK _ _ _ (Below.refl _ _) rfl
      refine ⟨grow_val [1] [some 28] (by kernel_rfl) (by kernel_rfl) (fun K w hb hd hK => ?_), ?_⟩
      · have d1 : vals 1 = .bool true := hd 1 (by simp)
        simp only [List.map_cons, List.map_nil, putZ, d1]
        refine ⟨wanted_none rfl, ?_⟩
        go_simp
        exact hK _ _ _ (Below.refl _ _) rfl
      refine ⟨grow_val [2] [some 29] (by kernel_rfl) (by kernel_rfl) (fun K w hb hd hK => ?_), ?_⟩
      · have d2 : vals 2 = .bool true := hd 2 (by simp)
        simp only [List.map_cons, List.map_nil, putZ, d2]
        refine ⟨wanted_some rfl rfl rfl, ?_⟩
        go_simp
        exact hK _ _ _ (Below.refl _ _) rfl
      refine ⟨grow_val [2, 3] [some 29, some 30] (by kernel_rfl) (by kernel_rfl) (fun K w hb hd hK => ?_), ?_⟩
      · have d2 : vals 2 = .bool true := hd 2 (by simp)
        have d3 : vals 3 = .slice p2 40 c2 := hd 3 (by simp)
        simp only [List.map_cons, List.map_nil, putZ, d2, d3]
        refine ⟨wanted_some rfl rfl rfl, ?_⟩
        go_simp
        exact hK _ _ _ (Below.refl _ _) rfl
      refine ⟨grow_val [2, 4] [some 29, some 31] (by kernel_rfl) (by kernel_rfl) (fun K w hb hd hK => ?_), ?_⟩
      · have d2 : vals 2 = .bool true := hd 2 (by simp)
        have d4 : vals 4 = .int .i64 40 := hd 4 (by simp)
        simp only [List.map_cons, List.map_nil, putZ, d2, d4]
        refine ⟨wanted_some rfl rfl rfl, ?_⟩
        go_simp
        exact hK _ _ _ (Below.refl _ _) rfl
      refine ⟨grow_val [2, 5] [some 29, some 32] (by kernel_rfl) (by kernel_rfl) (fun K w hb hd hK => ?_), ?_⟩
      · have d2 : vals 2 = .bool true := hd 2 (by simp)
        have d5 : vals 5 = .bool true := hd 5 (by simp)
        simp only [List.map_cons, List.map_nil, putZ, d2, d5]
        refine ⟨wanted_none rfl, ?_⟩
        go_simp
        exact hK _ _ _ (Below.refl _ _) rfl
      refine ⟨grow_val [6] [some 33] (by kernel_rfl) (by kernel_rfl) (fun K w hb hd hK => ?_), ?_⟩
      · have d6 : vals 6 = .bool true := hd 6 (by simp)
        simp only [List.map_cons, List.map_nil, putZ, d6]
        refine ⟨wanted_none rfl, ?_⟩
        go_simp
        exact hK _ _ _ (Below.refl _ _) rfl
      refine ⟨grow_val [7] [some 34] (by kernel_rfl) (by kernel_rfl) (fun K w hb hd hK => ?_), ?_⟩
      · have d7 : vals 7 = .bool true := hd 7 (by simp)
        simp only [List.map_cons, List.map_nil, putZ, d7]
        refine ⟨wanted_some rfl rfl rfl, ?_⟩
        go_simp
        exact hK _ _ _ (Below.refl _ _) rfl
      refine ⟨grow_val [7, 8] [some 34, some 35] (by kernel_rfl) (by kernel_rfl) (fun K w hb hd hK => ?_), ?_⟩
      · have d7 : vals 7 = .bool true := hd 7 (by simp)
        have d8 : vals 8 = .int .i64 0 := hd 8 (by simp)
        simp only [List.map_cons, List.map_nil, putZ, d7, d8]
        refine ⟨wanted_some rfl rfl rfl, ?_⟩
        go_simp
        exact hK _ _ _ (Below.refl _ _) rfl
      refine ⟨grow_val [7, 9] [some 34, some 36] (by kernel_rfl) (by kernel_rfl) (fun K w hb hd hK => ?_), ?_⟩
      · have d7 : vals 7 = .bool true := hd 7 (by simp)
        have d9 : vals 9 = .bool true := hd 9 (by simp)
        simp only [List.map_cons, List.map_nil, putZ, d7, d9]
        refine ⟨wanted_none rfl, ?_⟩
        go_simp
        exact hK _ _ _ (Below.refl _ _) rfl
      refine ⟨grow_val [10] [some 37] (by kernel_rfl) (by kernel_rfl) (fun K w hb hd hK => ?_), ?_⟩
      · have d10 : vals 10 = .bool true := hd 10 (by simp)
        simp only [List.map_cons, List.map_nil, putZ, d10]
        refine ⟨wanted_none rfl, ?_⟩
        go_simp
        exact hK _ _ _ (Below.refl _ _) rfl
      refine ⟨grow_val [11] [some 38] (by kernel_rfl) (by kernel_rfl) (fun K w hb hd hK => ?_), ?_⟩
      · have d11 : vals 11 = .bool true := hd 11 (by simp)
        simp only [List.map_cons, List.map_nil, putZ, d11]
        refine ⟨wanted_some rfl rfl rfl, ?_⟩
        go_simp
        exact hK _ _ _ (Below.refl _ _) rfl
      refine ⟨grow_val [11, 12] [some 38, some 39] (by kernel_rfl) (by kernel_rfl) (fun K w hb hd hK => ?_), ?_⟩
      · have d11 : vals 11 = .bool true := hd 11 (by simp)
        have d12 : vals 12 = .slice p3 40 c3 := hd 12 (by simp)
        have hcv := HC3.out w hb
        simp only [List.map_cons, List.map_nil, putZ, d11, d12]
        refine ⟨wanted_some rfl rfl rfl, ?_⟩
        go_simp
        exact hK _ _ _ (Below.refl _ _) rfl
      refine ⟨grow_val [11] [some 38] (by kernel_rfl) (by kernel_rfl) (fun K w hb hd hK => ?_), ?_⟩
      · have d11 : vals 11 = .bool true := hd 11 (by simp)
        simp only [List.map_cons, List.map_nil, putZ, d11]
        refine ⟨wanted_some rfl rfl rfl, ?_⟩
        go_simp
        exact hK _ _ _ (below_alloc (Below.refl _ _) _) ⟨_, rfl, RowAt.of (block_new _ _), hb.size⟩
      refine ⟨grow_val [11, 14] [some 38, some 41] (by kernel_rfl) (by kernel_rfl) (fun K w hb hd hK => ?_), ?_⟩
      · have d11 : vals 11 = .bool true := hd 11 (by simp)
        obtain ⟨g14, d14, r14, _⟩ : ∃ g, vals 14 = .slice (some ⟨g, 0, none⟩) 40 40 ∧ RowAt w g (bysA (zs 40)) ∧ W4.heap.size ≤ g := hd 14 (by simp)
        have hcv := HQ.out w g14 40 r14
        simp only [List.map_cons, List.map_nil, putZ, d11, d14]
        refine ⟨wanted_some rfl rfl rfl, ?_⟩
        go_simp
        exact hK _ _ _ (Below.refl _ _) rfl
      refine ⟨grow_val [11, 13, 15] [some 38, some 40, some 42] (by kernel_rfl) (by kernel_rfl) (fun K w hb hd hK => ?_), ?_⟩
      · have d11 : vals 11 = .bool true := hd 11 (by simp)
        have d13 : vals 13 = .string Q0 := hd 13 (by simp)
        have d15 : vals 15 = .string Q0 := hd 15 (by simp)
        simp only [List.map_cons, List.map_nil, putZ, d11, d13, d15]
        refine ⟨wanted_some rfl rfl rfl, ?_⟩
        go_simp
        exact hK _ _ _ (Below.refl _ _) rfl
      refine ⟨grow_val [11, 16] [some 38, some 43] (by kernel_rfl) (by kernel_rfl) (fun K w hb hd hK => ?_), ?_⟩
      · have d11 : vals 11 = .bool true := hd 11 (by simp)
        have d16 : vals 16 = .bool true := hd 16 (by simp)
        simp only [List.map_cons, List.map_nil, putZ, d11, d16]
        refine ⟨wanted_none rfl, ?_⟩
        go_simp
        exact hK _ _ _ (Below.refl _ _) rfl
      refine ⟨grow_val [17] [some 44] (by kernel_rfl) (by kernel_rfl) (fun K w hb hd hK => ?_), ?_⟩
      · have d17 : vals 17 = .bool true := hd 17 (by simp)
        simp only [List.map_cons, List.map_nil, putZ, d17]
        refine ⟨wanted_none rfl, ?_⟩
        go_simp
        exact hK _ _ _ (Below.refl _ _) rfl
      refine ⟨grow_val [18] [some 45] (by kernel_rfl) (by kernel_rfl) (fun K w hb hd hK => ?_), ?_⟩
      · have d18 : vals 18 = .bool true := hd 18 (by simp)
        simp only [List.map_cons, List.map_nil, putZ, d18]
        refine ⟨wanted_some rfl rfl rfl, ?_⟩
        go_simp
        exact hK _ _ _ (Below.refl _ _) rfl
      refine ⟨grow_val [18, 19] [some 45, some 46] (by kernel_rfl) (by kernel_rfl) (fun K w hb hd hK => ?_), ?_⟩
      · have d18 : vals 18 = .bool true := hd 18 (by simp)
        have d19 : vals 19 = .int .i64 4 := hd 19 (by simp)
        simp only [List.map_cons, List.map_nil, putZ, d18, d19]
        refine ⟨wanted_some rfl rfl rfl, ?_⟩
        go_simp
        exact hK _ _ _ (Below.refl _ _) rfl
      refine ⟨grow_val [18, 20] [some 45, some 47] (by kernel_rfl) (by kernel_rfl) (fun K w hb hd hK => ?_), ?_⟩
      · have d18 : vals 18 = .bool true := hd 18 (by simp)
        have d20 : vals 20 = .bool true := hd 20 (by simp)
        simp only [List.map_cons, List.map_nil, putZ, d18, d20]
        refine ⟨wanted_none rfl, ?_⟩
        go_simp
        exact hK _ _ _ (Below.refl _ _) rfl
      intro W5 hbg hR
      have d21 : vals 21 = .bool true := hR 21 (by simp)
      clear hR
      simp only [List.map_cons, List.map_nil, putZ, d21, pick, List.getElem?_cons_succ, List.getElem?_cons_zero]
      generalize vals 0 = e0
      generalize vals 1 = e1
      generalize vals 2 = e2
      generalize vals 3 = e3
      generalize vals 4 = e4
      generalize vals 5 = e5
      generalize vals 6 = e6
      generalize vals 7 = e7
      generalize vals 8 = e8
      generalize vals 9 = e9
      generalize vals 10 = e10
      generalize vals 11 = e11
      generalize vals 12 = e12
      generalize vals 13 = e13
      generalize vals 14 = e14
      generalize vals 15 = e15
      generalize vals 16 = e16
      generalize vals 17 = e17
      generalize vals 18 = e18
      generalize vals 19 = e19
      generalize vals 20 = e20
      clear d21
      have B5 := Lib.hid (B4.out.trans (hbg.mono B4.out.size))
      clear hbg
      go_wp2_with fail
      go_ret
      exact ⟨rfl, B5.out⟩
    · intro W4 hbg hR
      have d3 : vals 3 = .tuple #[.slice none 0 0, .int .i64 4] := hR 3 (by simp)
      have d4 : vals 4 = .slice none 0 0 := hR 4 (by simp)
      simp only [List.map_cons, List.map_nil, putZ, d3, d4, pick, List.getElem?_cons_succ, List.getElem?_cons_zero]
      generalize vals 0 = e0
      generalize vals 1 = e1
      generalize vals 2 = e2
      clear hR d3 d4
      clear vals
      have S4 := Lib.hid (S3.out.grow hbg)
      have B4 := Lib.hid (B3.out.trans (hbg.mono B3.out.size))
      clear hbg K3 S3 B3
      go_wp2_with fail
      have HC3 := Lib.hid (fun (w : World) (hb : Below W4.heap.size W4 w) => run_cvBS (c := c3) (S4.out.grow hb) (show 40 = (zs 40).length from (zs_length 40).symm))
      have HQ := Lib.hid (fun (w : World) (g c : Nat) (h : RowAt w g (bysA (zs 40))) => run_cvBS (c := c) (Bs0.some (bytes_row h)) (show 40 = (zs 40).length from (zs_length 40).symm))
      generalize toS (zs 40) = Q0 at *
      refine wp_region_grows W4 22 (fun w w' => Below w.heap.size w w') (listR [fixV (.int .i64 0), fixV (.bool true), fixV (.bool true), fixV (.slice p2 40 c2), fixV (.int .i64 40), fixV (.bool true), fixV (.bool true), fixV (.bool true), fixV (.int .i64 0), fixV (.bool true), fixV (.bool true), fixV (.bool true), fixV (.slice p3 40 c3), fixV (.string Q0), rowV W4.heap.size (fun g => .slice (some ⟨g, 0, none⟩) 40 40) (bysA (zs 40)), fixV (.string Q0), fixV (.bool true), fixV (.bool true), fixV (.bool true), fixV (.int .i64 4), fixV (.bool true), fixV (.bool true)]) [22] [0, 1, 2, 3, 4, 5, 6, 7, 8, 9, 10, 11, 12, 13, 14, 15, 16, 17, 18, 19, 20, 21] [some 27, some 28, some 29, some 30, some 31, some 32, some 33, some 34, some 35, some 36, some 37, some 38, some 39, some 40, some 41, some 42, some 43, some 44, some 45, some 46, some 47, some 48] (by kernel_rfl) (by kernel_rfl) (by kernel_rfl) (by kernel_rfl) ((Below.refl _ _).drew) (fun w w' h h' => h.trans (h'.mono h.size)) (listR_mono ⟨stays_fix _, stays_fix _, stays_fix _, stays_fix _, stays_fix _, stays_fix _, stays_fix _, stays_fix _, stays_fix _, stays_fix _, stays_fix _, stays_fix _, stays_fix _, stays_fix _, stays_row _ _ _, stays_fix _, stays_fix _, stays_fix _, stays_fix _, stays_fix _, stays_fix _, stays_fix _, trivial⟩) ?_
      intro vals
      simp only [List.take_succ_cons, List.take_zero]
      refine ⟨grow_val [] [] (by kernel_rfl) rfl (fun K w hb hd hK => ?_), ?_⟩
      · simp only [putZ]
        refine ⟨wanted_none rfl, ?_⟩
        go_simp
        exact hK _ _ _ (Below.refl _ _) rfl
      refine ⟨grow_val [0] [some 27] (by kernel_rfl) (by kernel_rfl) (fun K w hb hd hK => ?_), ?_⟩
      · have d0 : vals 0 = .int .i64 0 := hd 0 (by simp)
        simp only [List.map_cons, List.map_nil, putZ, d0]
        refine ⟨wanted_none rfl, ?_⟩
        go_simp
        exact hK _ _ _ (Below.refl _ _) rfl
      refine ⟨grow_val [1] [some 28] (by kernel_rfl) (by kernel_rfl) (fun K w hb hd hK => ?_), ?_⟩
      · have d1 : vals 1 = .bool true := hd 1 (by simp)
        simp only [List.map_cons, List.map_nil, putZ, d1]
        refine ⟨wanted_none rfl, ?_⟩
        go_simp
        exact hK _ _ _ (Below.refl _ _) rfl
      refine ⟨grow_val [2] [some 29] (by kernel_rfl) (by kernel_rfl) (fun K w hb hd hK => ?_), ?_⟩
      · have d2 : vals 2 = .bool true := hd 2 (by simp)
        simp only [List.map_cons, List.map_nil, putZ, d2]
        refine ⟨wanted_some rfl rfl rfl, ?_⟩
        go_simp
        exact hK _ _ _ (Below.refl _ _) rfl
      refine ⟨grow_val [2, 3] [some 29, some 30] (by kernel_rfl) (by kernel_rfl) (fun K w hb hd hK => ?_), ?_⟩
      · have d2 : vals 2 = .bool true := hd 2 (by simp)
        have d3 : vals 3 = .slice p2 40 c2 := hd 3 (by simp)
        simp only [List.map_cons, List.map_nil, putZ, d2, d3]
        refine ⟨wanted_some rfl rfl rfl, ?_⟩
        go_simp
        exact hK _ _ _ (Below.refl _ _) rfl
      refine ⟨grow_val [2, 4] [some 29, some 31] (by kernel_rfl) (by kernel_rfl) (fun K w hb hd hK => ?_), ?_⟩
      · have d2 : vals 2 = .bool true := hd 2 (by simp)
        have d4 : vals 4 = .int .i64 40 := hd 4 (by simp)
        simp only [List.map_cons, List.map_nil, putZ, d2, d4]
        refine ⟨wanted_some rfl rfl rfl, ?_⟩
        go_simp
        exact hK _ _ _ (Below.refl _ _) rfl
      refine ⟨grow_val [2, 5] [some 29, some 32] (by kernel_rfl) (by kernel_rfl) (fun K w hb hd hK => ?_), ?_⟩
      · have d2 : vals 2 = .bool true := hd 2 (by simp)
        have d5 : vals 5 = .bool true := hd 5 (by simp)
        simp only [List.map_cons, List.map_nil, putZ, d2, d5]
        refine ⟨wanted_none rfl, ?_⟩
        go_simp
        exact hK _ _ _ (Below.refl _ _) rfl
      refine ⟨grow_val [6] [some 33] (by kernel_rfl) (by kernel_rfl) (fun K w hb hd hK => ?_), ?_⟩
      · have d6 : vals 6 = .bool true := hd 6 (by simp)
        simp only [List.map_cons, List.map_nil, putZ, d6]
        refine ⟨wanted_none rfl, ?_⟩
        go_simp
        exact hK _ _ _ (Below.refl _ _) rfl
      refine ⟨grow_val [7] [some 34] (by kernel_rfl) (by kernel_rfl) (fun K w hb hd hK => ?_), ?_⟩
      · have d7 : vals 7 = .bool true := hd 7 (by simp)
        simp only [List.map_cons, List.map_nil, putZ, d7]
        refine ⟨wanted_some rfl rfl rfl, ?_⟩
        go_simp
        exact hK _ _ _ (Below.refl _ _) rfl
      refine ⟨grow_val [7, 8] [some 34, some 35] (by kernel_rfl) (by kernel_rfl) (fun K w hb hd hK => ?_), ?_⟩
      · have d7 : vals 7 = .bool true := hd 7 (by simp)
        have d8 : vals 8 = .int .i64 0 := hd 8 (by simp)
        simp only [List.map_cons, List.map_nil, putZ, d7, d8]
        refine ⟨wanted_some rfl rfl rfl, ?_⟩
        go_simp
        exact hK _ _ _ (Below.refl _ _) rfl
      refine ⟨grow_val [7, 9] [some 34, some 36] (by kernel_rfl) (by kernel_rfl) (fun K w hb hd hK => ?_), ?_⟩
      · have d7 : vals 7 = .bool true := hd 7 (by simp)
        have d9 : vals 9 = .bool true := hd 9 (by simp)
        simp only [List.map_cons, List.map_nil, putZ, d7, d9]
        refine ⟨wanted_none rfl, ?_⟩
        go_simp
        exact hK _ _ _ (Below.refl _ _) rfl
      refine ⟨grow_val [10] [some 37] (by kernel_rfl) (by kernel_rfl) (fun K w hb hd hK => ?_), ?_⟩
      · have d10 : vals 10 = .bool true := hd 10 (by simp)
        simp only [List.map_cons, List.map_nil, putZ, d10]
        refine ⟨wanted_none rfl, ?_⟩
        go_simp
        exact hK _ _ _ (Below.refl _ _) rfl
      refine ⟨grow_val [11] [some 38] (by kernel_rfl) (by kernel_rfl) (fun K w hb hd hK => ?_), ?_⟩
      · have d11 : vals 11 = .bool true := hd 11 (by simp)
        simp only [List.map_cons, List.map_nil, putZ, d11]
        refine ⟨wanted_some rfl rfl rfl, ?_⟩
        go_simp
        exact hK _ _ _ (Below.refl _ _) rfl
      refine ⟨grow_val [11, 12] [some 38, some 39] (by kernel_rfl) (by kernel_rfl) (fun K w hb hd hK => ?_), ?_⟩
      · have d11 : vals 11 = .bool true := hd 11 (by simp)
        have d12 : vals 12 = .slice p3 40 c3 := hd 12 (by simp)
        have hcv := HC3.out w hb
        simp only [List.map_cons, List.map_nil, putZ, d11, d12]
        refine ⟨wanted_some rfl rfl rfl, ?_⟩
        go_simp
        exact hK _ _ _ (Below.refl _ _) rfl
      refine ⟨grow_val [11] [some 38] (by kernel_rfl) (by kernel_rfl) (fun K w hb hd hK => ?_), ?_⟩
      · have d11 : vals 11 = .bool true := hd 11 (by simp)
        simp only [List.map_cons, List.map_nil, putZ, d11]
        refine ⟨wanted_some rfl rfl rfl, ?_⟩
        go_simp
        exact hK _ _ _ (below_alloc (Below.refl _ _) _) ⟨_, rfl, RowAt.of (block_new _ _), hb.size⟩
      refine ⟨grow_val [11, 14] [some 38, some 41] (by kernel_rfl) (by kernel_rfl) (fun K w hb hd hK => ?_), ?_⟩
      · have d11 : vals 11 = .bool true := hd 11 (by simp)
        obtain ⟨g14, d14, r14, _⟩ : ∃ g, vals 14 = .slice (some ⟨g, 0, none⟩) 40 40 ∧ RowAt w g (bysA (zs 40)) ∧ W4.heap.size ≤ g := hd 14 (by simp)
        have hcv := HQ.out w g14 40 r14
        simp only [List.map_cons, List.map_nil, putZ, d11, d14]
        refine ⟨wanted_some rfl rfl rfl, ?_⟩
        go_simp
        exact hK _ _ _ (Below.refl _ _) rfl
      refine ⟨grow_val [11, 13, 15] [some 38, some 40, some 42] (by kernel_rfl) (by kernel_rfl) (fun K w hb hd hK => ?_), ?_⟩
      · have d11 : vals 11 = .bool true := hd 11 (by simp)
        have d13 : vals 13 = .string Q0 := hd 13 (by simp)
        have d15 : vals 15 = .string Q0 := hd 15 (by simp)
        simp only [List.map_cons, List.map_nil, putZ, d11, d13, d15]
        refine ⟨wanted_some rfl rfl rfl, ?_⟩
        go_simp
        exact hK _ _ _ (Below.refl _ _) rfl
      refine ⟨grow_val [11, 16] [some 38, some 43] (by kernel_rfl) (by kernel_rfl) (fun K w hb hd hK => ?_), ?_⟩
      · have d11 : vals 11 = .bool true := hd 11 (by simp)
        have d16 : vals 16 = .bool true := hd 16 (by simp)
        simp only [List.map_cons, List.map_nil, putZ, d11, d16]
        refine ⟨wanted_none rfl, ?_⟩
        go_simp
        exact hK _ _ _ (Below.refl _ _) rfl
      refine ⟨grow_val [17] [some 44] (by kernel_rfl) (by kernel_rfl) (fun K w hb hd hK => ?_), ?_⟩
      · have d17 : vals 17 = .bool true := hd 17 (by simp)
        simp only [List.map_cons, List.map_nil, putZ, d17]
        refine ⟨wanted_none rfl, ?_⟩
        go_simp
        exact hK _ _ _ (Below.refl _ _) rfl
      refine ⟨grow_val [18] [some 45] (by kernel_rfl) (by kernel_rfl) (fun K w hb hd hK => ?_), ?_⟩
      · have d18 : vals 18 = .bool true := hd 18 (by simp)
        simp only [List.map_cons, List.map_nil, putZ, d18]
        refine ⟨wanted_some rfl rfl rfl, ?_⟩
        go_simp
        exact hK _ _ _ (Below.refl _ _) rfl
      refine ⟨grow_val [18, 19] [some 45, some 46] (by kernel_rfl) (by kernel_rfl) (fun K w hb hd hK => ?_), ?_⟩
      · have d18 : vals 18 = .bool true := hd 18 (by simp)
        have d19 : vals 19 = .int .i64 4 := hd 19 (by simp)
        simp only [List.map_cons, List.map_nil, putZ, d18, d19]
        refine ⟨wanted_some rfl rfl rfl, ?_⟩
        go_simp
        exact hK _ _ _ (Below.refl _ _) rfl
      refine ⟨grow_val [18, 20] [some 45, some 47] (by kernel_rfl) (by kernel_rfl) (fun K w hb hd hK => ?_), ?_⟩
      · have d18 : vals 18 = .bool true := hd 18 (by simp)
        have d20 : vals 20 = .bool true := hd 20 (by simp)
        simp only [List.map_cons, List.map_nil, putZ, d18, d20]
        refine ⟨wanted_none rfl, ?_⟩
        go_simp
        exact hK _ _ _ (Below.refl _ _) rfl
      intro W5 hbg hR
      have d21 : vals 21 = .bool true := hR 21 (by simp)
      clear hR
      simp only [List.map_cons, List.map_nil, putZ, d21, pick, List.getElem?_cons_succ, List.getElem?_cons_zero]
      generalize vals 0 = e0
      generalize vals 1 = e1
      generalize vals 2 = e2
      generalize vals 3 = e3
      generalize vals 4 = e4
      generalize vals 5 = e5
      generalize vals 6 = e6
      generalize vals 7 = e7
      generalize vals 8 = e8
      generalize vals 9 = e9
      generalize vals 10 = e10
      generalize vals 11 = e11
      generalize vals 12 = e12
      generalize vals 13 = e13
      generalize vals 14 = e14
      generalize vals 15 = e15
      generalize vals 16 = e16
      generalize vals 17 = e17
      generalize vals 18 = e18
      generalize vals 19 = e19
      generalize vals 20 = e20
      clear d21
      have B5 := Lib.hid (B4.out.trans (hbg.mono B4.out.size))
      clear hbg
      go_wp2_with fail
      go_ret
      exact ⟨rfl, B5.out⟩
  · intro W2 hbg hR
    obtain ⟨u3, d3, o3⟩ : ∃ u, vals 3 = .tuple #[u, .int .i64 0] ∧ OwnB W2 W1.heap.size u LL := hR 3 (by simp)
    have o4 : OwnB W2 W1.heap.size (vals 4) LL := hR 4 (by simp)
    simp only [List.map_cons, List.map_nil, putZ, d3, pick, List.getElem?_cons_succ, List.getElem?_cons_zero]
    obtain ⟨p2, c2, e4, hs2, hc2, _⟩ := o4.bs
    rw [HLl.out] at e4 hc2
    rw [e4]
    generalize vals 0 = e0
    generalize vals 1 = e1
    generalize vals 2 = e2
    clear hR d3 o3 e4 o4
    clear vals
    have K2 := Lib.hid (K1.out.grow hbg)
    have B2 := Lib.hid (B1.out.trans (hbg.mono B1.out.size))
    have S2 := Lib.hid hs2
    clear hbg hs2
    obtain ⟨k1, k2, k3⟩ := K2.out
    go_wp2_with fail
    refine (HU.out W2 B2.out p2 c2 hc2 S2.out).mono ?_
    rintro e W3 ⟨u, rfl, hown, hb3⟩
    obtain ⟨p3, c3, rfl, hs3, hc3, _⟩ := hown.bs
    rw [zs_length]
    have K3 := Lib.hid (K2.out.grow hb3)
    have B3 := Lib.hid (B2.out.trans (hb3.mono B2.out.size))
    have S3 := Lib.hid hs3
    clear hb3 hs3 hown hc3 k1 k2 k3 K2 S2 B2
    go_wp2_with fail
    refine wp_region_growsL W3 5 (fun w w' => Below w.heap.size w w') (listR [fixV (.agg (bysA k5)), rowV W3.heap.size (fun g => .slice (some ⟨g, 0, none⟩) 32 32) (bysA (zs 32)), fixV (.tuple #[.slice none 0 0, .int .i64 4]), fixV (.tuple #[.slice none 0 0, .int .i64 4]), fixV (.slice none 0 0), fixV (.int .i64 4)]) 6 [7] [0, 1, 2, 3, 4, 5] [0, 1, 2, 3, 4] [some 22, some 23, some 24, some 21, some 25, some 26] [some 22, some 23, some 24, some 21, some 25] (by kernel_rfl) (by kernel_rfl) (by kernel_rfl) (by kernel_rfl) (by kernel_rfl) (by kernel_rfl) ((Below.refl _ _).drew) (fun w w' h h' => h.trans (h'.mono h.size)) (listR_mono ⟨stays_fix _, stays_row _ _ _, stays_fix _, stays_fix _, stays_fix _, stays_fix _, trivial⟩) ?_
    intro vals
    simp only [List.take_succ_cons, List.take_zero]
    refine ⟨grow_val [] [] (by kernel_rfl) rfl (fun K w hb hd hK => ?_), ?_⟩
    · obtain ⟨k1, k2, k3⟩ := K3.out.grow hb
      simp only [putZ]
      refine ⟨wanted_none rfl, ?_⟩
      go_simp
      exact hK _ _ _ (Below.refl _ _) rfl
    refine ⟨grow_val [] [] (by kernel_rfl) rfl (fun K w hb hd hK => ?_), ?_⟩
    · simp only [putZ]
      refine ⟨wanted_none rfl, ?_⟩
      go_simp
      exact hK _ _ _ (below_alloc (Below.refl _ _) _) ⟨_, rfl, RowAt.of (block_new _ _), hb.size⟩
    refine ⟨grow_call [0, 1] [some 22, some 23] (by kernel_rfl) (by kernel_rfl) (fun K w hb hd hK => ?_), ?_⟩
    · have d0 : vals 0 = .agg (bysA k5) := hd 0 (by simp)
      obtain ⟨g1, d1, r1, _⟩ : ∃ g, vals 1 = .slice (some ⟨g, 0, none⟩) 32 32 ∧ RowAt w g (bysA (zs 32)) ∧ W3.heap.size ≤ g := hd 1 (by simp)
      simp only [List.map_cons, List.map_nil, putZ, d0, d1]
      refine ⟨wanted_none rfl, ?_⟩
      go_simp
      refine (HS.out w _).mono ?_
      rintro e w' ⟨rfl, hb'⟩
      exact ⟨_, rfl, hK _ _ hb' rfl⟩
    refine ⟨grow_val [2] [some 24] (by kernel_rfl) (by kernel_rfl) (fun K w hb hd hK => ?_), ?_⟩
    · have d2 : vals 2 = .tuple #[.slice none 0 0, .int .i64 4] := hd 2 (by simp)
      simp only [List.map_cons, List.map_nil, putZ, d2]
      refine ⟨wanted_none rfl, ?_⟩
      go_simp
      exact hK _ _ _ (Below.refl _ _) rfl
    refine ⟨grow_val [3] [some 21] (by kernel_rfl) (by kernel_rfl) (fun K w hb hd hK => ?_), ?_⟩
    · have d3 : vals 3 = .tuple #[.slice none 0 0, .int .i64 4] := hd 3 (by simp)
      simp only [List.map_cons, List.map_nil, putZ, d3]
      refine ⟨wanted_none rfl, ?_⟩
      go_simp
      exact hK _ _ _ (Below.refl _ _) rfl
    refine ⟨grow_val [3] [some 21] (by kernel_rfl) (by kernel_rfl) (fun K w hb hd hK => ?_), ?_⟩
    · have d3 : vals 3 = .tuple #[.slice none 0 0, .int .i64 4] := hd 3 (by simp)
      simp only [List.map_cons, List.map_nil, putZ, d3]
      refine ⟨wanted_none rfl, ?_⟩
      go_simp
      exact hK _ _ _ (Below.refl _ _) rfl
    constructor
    · intro W4 hbg hR
      have d3 : vals 3 = .tuple #[.slice none 0 0, .int .i64 4] := hR 3 (by simp)
      have d4 : vals 4 = .slice none 0 0 := hR 4 (by simp)
      have d5 : vals 5 = .int .i64 4 := hR 5 (by simp)
      simp only [List.map_cons, List.map_nil, putZ, d3, d4, pick, List.getElem?_cons_succ, List.getElem?_cons_zero]
      simp only [d5]
      generalize vals 0 = e0
      generalize vals 1 = e1
      generalize vals 2 = e2
      clear hR d3 d4
      clear d5
      clear vals
      have S4 := Lib.hid (S3.out.grow hbg)
      have B4 := Lib.hid (B3.out.trans (hbg.mono B3.out.size))
      clear hbg K3 S3 B3
      go_wp2_with fail
      have HC3 := Lib.hid (fun (w : World) (hb : Below W4.heap.size W4 w) => run_cvBS (c := c3) (S4.out.grow hb) (show 40 = (zs 40).length from (zs_length 40).symm))
      have HQ := Lib.hid (fun (w : World) (g c : Nat) (h : RowAt w g (bysA (zs 40))) => run_cvBS (c := c) (Bs0.some (bytes_row h)) (show 40 = (zs 40).length from (zs_length 40).symm))
      generalize toS (zs 40) = Q0 at *
      refine wp_region_grows W4 22 (fun w w' => Below w.heap.size w w') (listR [fixV (.int .i64 0), fixV (.bool true), fixV (.bool true), fixV (.slice p2 40 c2), fixV (.int .i64 40), fixV (.bool true), fixV (.bool true), fixV (.bool true), fixV (.int .i64 0), fixV (.bool true), fixV (.bool true), fixV (.bool true), fixV (.slice p3 40 c3), fixV (.string Q0), rowV W4.heap.size (fun g => .slice (some ⟨g, 0, none⟩) 40 40) (bysA (zs 40)), fixV (.string Q0), fixV (.bool true), fixV (.bool true), fixV (.bool true), fixV (.int .i64 4), fixV (.bool true), fixV (.bool true)]) [22] [0, 1, 2, 3, 4, 5, 6, 7, 8, 9, 10, 11, 12, 13, 14, 15, 16, 17, 18, 19, 20, 21] [some 27, some 28, some 29, some 30, some 31, some 32, some 33, some 34, some 35, some 36, some 37, some 38, some 39, some 40, some 41, some 42, some 43, some 44, some 45, some 46, some 47, some 48] (by kernel_rfl) (by kernel_rfl) (by kernel_rfl) (by kernel_rfl) ((Below.refl _ _).drew) (fun w w' h h' => h.trans (h'.mono h.size)) (listR_mono ⟨stays_fix _, stays_fix _, stays_fix _, stays_fix _, stays_fix _, stays_fix _, stays_fix _, stays_fix _, stays_fix _, stays_fix _, stays_fix _, stays_fix _, stays_fix _, stays_fix _, stays_row _ _ _, stays_fix _, stays_fix _, stays_fix _, stays_fix _, stays_fix _, stays_fix _, stays_fix _, trivial⟩) ?_
      intro vals
      simp only [List.take_succ_cons, List.take_zero]
      refine ⟨grow_val [] [] (by kernel_rfl) rfl (fun K w hb hd hK => ?_), ?_⟩
      · simp only [putZ]
        refine ⟨wanted_none rfl, ?_⟩
        go_simp
        exact hK _ _ _ (Below.refl _ _) rfl
      refine ⟨grow_val [0] [some 27] (by kernel_rfl) (by kernel_rfl) (fun K w hb hd hK => ?_), ?_⟩
      · have d0 : vals 0 = .int .i64 0 := hd 0 (by simp)
        simp only [List.map_cons, List.map_nil, putZ, d0]
        refine ⟨wanted_none rfl, ?_⟩
        go_simp
        exact hK _ _ _ (Below.refl _ _) rfl
      refine ⟨grow_val [1] [some 28] (by kernel_rfl) (by kernel_rfl) (fun K w hb hd hK => ?_), ?_⟩
      · have d1 : vals 1 = .bool true := hd 1 (by simp)
        simp only [List.map_cons, List.map_nil, putZ, d1]
        refine ⟨wanted_none rfl, ?_⟩
        go_simp
        exact hK _ _ _ (Below.refl _ _) rfl
      refine ⟨grow_val [2] [some 29] (by kernel_rfl) (by kernel_rfl) (fun K w hb hd hK => ?_), ?_⟩
      · have d2 : vals 2 = .bool true := hd 2 (by simp)
        simp only [List.map_cons, List.map_nil, putZ, d2]
        refine ⟨wanted_some rfl rfl rfl, ?_⟩
        go_simp
        exact hK _ _ _ (Below.refl _ _) rfl
      refine ⟨grow_val [2, 3] [some 29, some 30] (by kernel_rfl) (by kernel_rfl) (fun K w hb hd hK => ?_), ?_⟩
      · have d2 : vals 2 = .bool true := hd 2 (by simp)
        have d3 : vals 3 = .slice p2 40 c2 := hd 3 (by simp)
        simp only [List.map_cons, List.map_nil, putZ, d2, d3]
        refine ⟨wanted_some rfl rfl rfl, ?_⟩
        go_simp
        exact hK _ _ _ (Below.refl _ _) rfl
      refine ⟨grow_val [2, 4] [some 29, some 31] (by kernel_rfl) (by kernel_rfl) (fun K w hb hd hK => ?_), ?_⟩
      · have d2 : vals 2 = .bool true := hd 2 (by simp)
        have d4 : vals 4 = .int .i64 40 := hd 4 (by simp)
        simp only [List.map_cons, List.map_nil, putZ, d2, d4]
        refine ⟨wanted_some rfl rfl rfl, ?_⟩
        go_simp
        exact hK _ _ _ (Below.refl _ _) rfl
      refine ⟨grow_val [2, 5] [some 29, some 32] (by kernel_rfl) (by kernel_rfl) (fun K w hb hd hK => ?_), ?_⟩
      · have d2 : vals 2 = .bool true := hd 2 (by simp)
        have d5 : vals 5 = .bool true := hd 5 (by simp)
        simp only [List.map_cons, List.map_nil, putZ, d2, d5]
        refine ⟨wanted_none rfl, ?_⟩
        go_simp
        exact hK _ _ _ (Below.refl _ _) rfl
      refine ⟨grow_val [6] [some 33] (by kernel_rfl) (by kernel_rfl) (fun K w hb hd hK => ?_), ?_⟩
      · have d6 : vals 6 = .bool true := hd 6 (by simp)
        simp only [List.map_cons, List.map_nil, putZ, d6]
        refine ⟨wanted_none rfl, ?_⟩
        go_simp
        exact hK _ _ _ (Below.refl _ _) rfl
      refine ⟨grow_val [7] [some 34] (by kernel_rfl) (by kernel_rfl) (fun K w hb hd hK => ?_), ?_⟩
      · have d7 : vals 7 = .bool true := hd 7 (by simp)
        simp only [List.map_cons, List.map_nil, putZ, d7]
        refine ⟨wanted_some rfl rfl rfl, ?_⟩
        go_simp
        exact hK _ _ _ (Below.refl _ _) rfl
      refine ⟨grow_val [7, 8] [some 34, some 35] (by kernel_rfl) (by kernel_rfl) (fun K w hb hd hK => ?_), ?_⟩
      · have d7 : vals 7 = .bool true := hd 7 (by simp)
        have d8 : vals 8 = .int .i64 0 := hd 8 (by simp)
        simp only [List.map_cons, List.map_nil, putZ, d7, d8]
        refine ⟨wanted_some rfl rfl rfl, ?_⟩
        go_simp
        exact hK _ _ _ (Below.refl _ _) rfl
      refine ⟨grow_val [7, 9] [some 34, some 36] (by kernel_rfl) (by kernel_rfl) (fun K w hb hd hK => ?_), ?_⟩
      · have d7 : vals 7 = .bool true := hd 7 (by simp)
        have d9 : vals 9 = .bool true := hd 9 (by simp)
        simp only [List.map_cons, List.map_nil, putZ, d7, d9]
        refine ⟨wanted_none rfl, ?_⟩
        go_simp
        exact hK _ _ _ (Below.refl _ _) rfl
      refine ⟨grow_val [10] [some 37] (by kernel_rfl) (by kernel_rfl) (fun K w hb hd hK => ?_), ?_⟩
      · have d10 : vals 10 = .bool true := hd 10 (by simp)
        simp only [List.map_cons, List.map_nil, putZ, d10]
        refine ⟨wanted_none rfl, ?_⟩
        go_simp
        exact hK _ _ _ (Below.refl _ _) rfl
      refine ⟨grow_val [11] [some 38] (by kernel_rfl) (by kernel_rfl) (fun K w hb hd hK => ?_), ?_⟩
      · have d11 : vals 11 = .bool true := hd 11 (by simp)
        simp only [List.map_cons, List.map_nil, putZ, d11]
        refine ⟨wanted_some rfl rfl rfl, ?_⟩
        go_simp
        exact hK _ _ _ (Below.refl _ _) rfl
      refine ⟨grow_val [11, 12] [some 38, some 39] (by kernel_rfl) (by kernel_rfl) (fun K w hb hd hK => ?_), ?_⟩
      · have d11 : vals 11 = .bool true := hd 11 (by simp)
        have d12 : vals 12 = .slice p3 40 c3 := hd 12 (by simp)
        have hcv := HC3.out w hb
        simp only [List.map_cons, List.map_nil, putZ, d11, d12]
        refine ⟨wanted_some rfl rfl rfl, ?_⟩
        go_simp
        exact hK _ _ _ (Below.refl _ _) rfl
      refine ⟨grow_val [11] [some 38] (by kernel_rfl) (by kernel_rfl) (fun K w hb hd hK => ?_), ?_⟩
      · have d11 : vals 11 = .bool true := hd 11 (by simp)
        simp only [List.map_cons, List.map_nil, putZ, d11]
        refine ⟨wanted_some rfl rfl rfl, ?_⟩
        go_simp
        exact hK _ _ _ (below_alloc (Below.refl _ _) _) ⟨_, rfl, RowAt.of (block_new _ _), hb.size⟩
      refine ⟨grow_val [11, 14] [some 38, some 41] (by kernel_rfl) (by kernel_rfl) (fun K w hb hd hK => ?_), ?_⟩
      · have d11 : vals 11 = .bool true := hd 11 (by simp)
        obtain ⟨g14, d14, r14, _⟩ : ∃ g, vals 14 = .slice (some ⟨g, 0, none⟩) 40 40 ∧ RowAt w g (bysA (zs 40)) ∧ W4.heap.size ≤ g := hd 14 (by simp)
        have hcv := HQ.out w g14 40 r14
        simp only [List.map_cons, List.map_nil, putZ, d11, d14]
        refine ⟨wanted_some rfl rfl rfl, ?_⟩
        go_simp
        exact hK _ _ _ (Below.refl _ _) rfl
      refine ⟨grow_val [11, 13, 15] [some 38, some 40, some 42] (by kernel_rfl) (by kernel_rfl) (fun K w hb hd hK => ?_), ?_⟩
      · have d11 : vals 11 = .bool true := hd 11 (by simp)
        have d13 : vals 13 = .string Q0 := hd 13 (by simp)
        have d15 : vals 15 = .string Q0 := hd 15 (by simp)
        simp only [List.map_cons, List.map_nil, putZ, d11, d13, d15]
        refine ⟨wanted_some rfl rfl rfl, ?_⟩
        go_simp
        exact hK _ _ _ (Below.refl _ _) rfl
      refine ⟨grow_val [11, 16] [some 38, some 43] (by kernel_rfl) (by kernel_rfl) (fun K w hb hd hK => ?_), ?_⟩
      · have d11 : vals 11 = .bool true := hd 11 (by simp)
        have d16 : vals 16 = .bool true := hd 16 (by simp)
        simp only [List.map_cons, List.map_nil, putZ, d11, d16]
        refine ⟨wanted_none rfl, ?_⟩
        go_simp
        exact hK _ _ _ (Below.refl _ _) rfl
      refine ⟨grow_val [17] [some 44] (by kernel_rfl) (by kernel_rfl) (fun K w hb hd hK => ?_), ?_⟩
      · have d17 : vals 17 = .bool true := hd 17 (by simp)
        simp only [List.map_cons, List.map_nil, putZ, d17]
        refine ⟨wanted_none rfl, ?_⟩
        go_simp
        exact hK _ _ _ (Below.refl _ _) rfl
      refine ⟨grow_val [18] [some 45] (by kernel_rfl) (by kernel_rfl) (fun K w hb hd hK => ?_), ?_⟩
      · have d18 : vals 18 = .bool true := hd 18 (by simp)
        simp only [List.map_cons, List.map_nil, putZ, d18]
        refine ⟨wanted_some rfl rfl rfl, ?_⟩
        go_simp
        exact hK _ _ _ (Below.refl _ _) rfl
      refine ⟨grow_val [18, 19] [some 45, some 46] (by kernel_rfl) (by kernel_rfl) (fun K w hb hd hK => ?_), ?_⟩
      · have d18 : vals 18 = .bool true := hd 18 (by simp)
        have d19 : vals 19 = .int .i64 4 := hd 19 (by simp)
        simp only [List.map_cons, List.map_nil, putZ, d18, d19]
        refine ⟨wanted_some rfl rfl rfl, ?_⟩
        go_simp
        exact hK _ _ _ (Below.refl _ _) rfl
      refine ⟨grow_val [18, 20] [some 45, some 47] (by kernel_rfl) (by kernel_rfl) (fun K w hb hd hK => ?_), ?_⟩
      · have d18 : vals 18 = .bool true := hd 18 (by simp)
        have d20 : vals 20 = .bool true := hd 20 (by simp)
        simp only [List.map_cons, List.map_nil, putZ, d18, d20]
        refine ⟨wanted_none rfl, ?_⟩
        go_simp
        exact hK _ _ _ (Below.refl _ _) rfl
      intro W5 hbg hR
      have d21 : vals 21 = .bool true := hR 21 (by simp)
      clear hR
      simp only [List.map_cons, List.map_nil, putZ, d21, pick, List.getElem?_cons_succ, List.getElem?_cons_zero]
      generalize vals 0 = e0
      generalize vals 1 = e1
      generalize vals 2 = e2
      generalize vals 3 = e3
      generalize vals 4 = e4
      generalize vals 5 = e5
      generalize vals 6 = e6
      generalize vals 7 = e7
      generalize vals 8 = e8
      generalize vals 9 = e9
      generalize vals 10 = e10
      generalize vals 11 = e11
      generalize vals 12 = e12
      generalize vals 13 = e13
      generalize vals 14 = e14
      generalize vals 15 = e15
      generalize vals 16 = e16
      generalize vals 17 = e17
      generalize vals 18 = e18
      generalize vals 19 = e19
      generalize vals 20 = e20
      clear d21
      have B5 := Lib.hid (B4.out.trans (hbg.mono B4.out.size))
      clear hbg
      go_wp2_with fail
      go_ret
      exact ⟨rfl, B5.out⟩
    · intro W4 hbg hR
      have d3 : vals 3 = .tuple #[.slice none 0 0, .int .i64 4] := hR 3 (by simp)
      have d4 : vals 4 = .slice none 0 0 := hR 4 (by simp)
      simp only [List.map_cons, List.map_nil, putZ, d3, d4, pick, List.getElem?_cons_succ, List.getElem?_cons_zero]
      generalize vals 0 = e0
      generalize vals 1 = e1
      generalize vals 2 = e2
      clear hR d3 d4
      clear vals
      have S4 := Lib.hid (S3.out.grow hbg)
      have B4 := Lib.hid (B3.out.trans (hbg.mono B3.out.size))
      clear hbg K3 S3 B3
      go_wp2_with fail
      have HC3 := Lib.hid (fun (w : World) (hb : Below W4.heap.size W4 w) => run_cvBS (c := c3) (S4.out.grow hb) (show 40 = (zs 40).length from (zs_length 40).symm))
      have HQ := Lib.hid (fun (w : World) (g c : Nat) (h : RowAt w g (bysA (zs 40))) => run_cvBS (c := c) (Bs0.some (bytes_row h)) (show 40 = (zs 40).length from (zs_length 40).symm))
      generalize toS (zs 40) = Q0 at *
      refine wp_region_grows W4 22 (fun w w' => Below w.heap.size w w') (listR [fixV (.int .i64 0), fixV (.bool true), fixV (.bool true), fixV (.slice p2 40 c2), fixV (.int .i64 40), fixV (.bool true), fixV (.bool true), fixV (.bool true), fixV (.int .i64 0), fixV (.bool true), fixV (.bool true), fixV (.bool true), fixV (.slice p3 40 c3), fixV (.string Q0), rowV W4.heap.size (fun g => .slice (some ⟨g, 0, none⟩) 40 40) (bysA (zs 40)), fixV (.string Q0), fixV (.bool true), fixV (.bool true), fixV (.bool true), fixV (.int .i64 4), fixV (.bool true), fixV (.bool true)]) [22] [0, 1, 2, 3, 4, 5, 6, 7, 8, 9, 10, 11, 12, 13, 14, 15, 16, 17, 18, 19, 20, 21] [some 27, some 28, some 29, some 30, some 31, some 32, some 33, some 34, some 35, some 36, some 37, some 38, some 39, some 40, some 41, some 42, some 43, some 44, some 45, some 46, some 47, some 48] (by kernel_rfl) (by kernel_rfl) (by kernel_rfl) (by kernel_rfl) ((Below.refl _ _).drew) (fun w w' h h' => h.trans (h'.mono h.size)) (listR_mono ⟨stays_fix _, stays_fix _, stays_fix _, stays_fix _, stays_fix _, stays_fix _, stays_fix _, stays_fix _, stays_fix _, stays_fix _, stays_fix _, stays_fix _, stays_fix _, stays_fix _, stays_row _ _ _, stays_fix _, stays_fix _, stays_fix _, stays_fix _, stays_fix _, stays_fix _, stays_fix _, trivial⟩) ?_
      intro vals
      simp only [List.take_succ_cons, List.take_zero]
      refine ⟨grow_val [] [] (by kernel_rfl) rfl (fun K w hb hd hK => ?_), ?_⟩
      · simp only [putZ]
        refine ⟨wanted_none rfl, ?_⟩
        go_simp
        exact hK _ _ _ (Below.refl _ _) rfl
      refine ⟨grow_val [0] [some 27] (by kernel_rfl) (by kernel_rfl) (fun K w hb hd hK => ?_), ?_⟩
      · have d0 : vals 0 = .int .i64 0 := hd 0 (by simp)
        simp only [List.map_cons, List.map_nil, putZ, d0]
        refine ⟨wanted_none rfl, ?_⟩
        go_simp
        exact hK _ _ _ (Below.refl _ _) rfl
      refine ⟨grow_val [1] [some 28] (by kernel_rfl) (by kernel_rfl) (fun K w hb hd hK => ?_), ?_⟩
      · have d1 : vals 1 = .bool true := hd 1 (by simp)
        simp only [List.map_cons, List.map_nil, putZ, d1]
        refine ⟨wanted_none rfl, ?_⟩
        go_simp
        exact hK _ _ _ (Below.refl _ _) rfl
      refine ⟨grow_val [2] [some 29] (by kernel_rfl) (by kernel_rfl) (fun K w hb hd hK => ?_), ?_⟩
      · have d2 : vals 2 = .bool true := hd 2 (by simp)
        simp only [List.map_cons, List.map_nil, putZ, d2]
        refine ⟨wanted_some rfl rfl rfl, ?_⟩
        go_simp
        exact hK _ _ _ (Below.refl _ _) rfl
      refine ⟨grow_val [2, 3] [some 29, some 30] (by kernel_rfl) (by kernel_rfl) (fun K w hb hd hK => ?_), ?_⟩
      · have d2 : vals 2 = .bool true := hd 2 (by simp)
        have d3 : vals 3 = .slice p2 40 c2 := hd 3 (by simp)
        simp only [List.map_cons, List.map_nil, putZ, d2, d3]
        refine ⟨wanted_some rfl rfl rfl, ?_⟩
        go_simp
        exact hK _ _ _ (Below.refl _ _) rfl
      refine ⟨grow_val [2, 4] [some 29, some 31] (by kernel_rfl) (by kernel_rfl) (fun K w hb hd hK => ?_), ?_⟩
      · have d2 : vals 2 = .bool true := hd 2 (by simp)
        have d4 : vals 4 = .int .i64 40 := hd 4 (by simp)
        simp only [List.map_cons, List.map_nil, putZ, d2, d4]
        refine ⟨wanted_some rfl rfl rfl, ?_⟩
        go_simp
        exact hK _ _ _ (Below.refl _ _) rfl
      refine ⟨grow_val [2, 5] [some 29, some 32] (by kernel_rfl) (by kernel_rfl) (fun K w hb hd hK => ?_), ?_⟩
      · have d2 : vals 2 = .bool true := hd 2 (by simp)
        have d5 : vals 5 = .bool true := hd 5 (by simp)
        simp only [List.map_cons, List.map_nil, putZ, d2, d5]
        refine ⟨wanted_none rfl, ?_⟩
        go_simp
        exact hK _ _ _ (Below.refl _ _) rfl
      refine ⟨grow_val [6] [some 33] (by kernel_rfl) (by kernel_rfl) (fun K w hb hd hK => ?_), ?_⟩
      · have d6 : vals 6 = .bool true := hd 6 (by simp)
        simp only [List.map_cons, List.map_nil, putZ, d6]
        refine ⟨wanted_none rfl, ?_⟩
        go_simp
        exact hK _ _ _ (Below.refl _ _) rfl
      refine ⟨grow_val [7] [some 34] (by kernel_rfl) (by kernel_rfl) (fun K w hb hd hK => ?_), ?_⟩
      · have d7 : vals 7 = .bool true := hd 7 (by simp)
        simp only [List.map_cons, List.map_nil, putZ, d7]
        refine ⟨wanted_some rfl rfl rfl, ?_⟩
        go_simp
        exact hK _ _ _ (Below.refl _ _) rfl
      refine ⟨grow_val [7, 8] [some 34, some 35] (by kernel_rfl) (by kernel_rfl) (fun K w hb hd hK => ?_), ?_⟩
      · have d7 : vals 7 = .bool true := hd 7 (by simp)
        have d8 : vals 8 = .int .i64 0 := hd 8 (by simp)
        simp only [List.map_cons, List.map_nil, putZ, d7, d8]
        refine ⟨wanted_some rfl rfl rfl, ?_⟩
        go_simp
        exact hK _ _ _ (Below.refl _ _) rfl
      refine ⟨grow_val [7, 9] [some 34, some 36] (by kernel_rfl) (by kernel_rfl) (fun K w hb hd hK => ?_), ?_⟩
      · have d7 : vals 7 = .bool true := hd 7 (by simp)
        have d9 : vals 9 = .bool true := hd 9 (by simp)
        simp only [List.map_cons, List.map_nil, putZ, d7, d9]
        refine ⟨wanted_none rfl, ?_⟩
        go_simp
        exact hK _ _ _ (Below.refl _ _) rfl
      refine ⟨grow_val [10] [some 37] (by kernel_rfl) (by kernel_rfl) (fun K w hb hd hK => ?_), ?_⟩
      · have d10 : vals 10 = .bool true := hd 10 (by simp)
        simp only [List.map_cons, List.map_nil, putZ, d10]
        refine ⟨wanted_none rfl, ?_⟩
        go_simp
        exact hK _ _ _ (Below.refl _ _) rfl
      refine ⟨grow_val [11] [some 38] (by kernel_rfl) (by kernel_rfl) (fun K w hb hd hK => ?_), ?_⟩
      · have d11 : vals 11 = .bool true := hd 11 (by simp)
        simp only [List.map_cons, List.map_nil, putZ, d11]
        refine ⟨wanted_some rfl rfl rfl, ?_⟩
        go_simp
        exact hK _ _ _ (Below.refl _ _) rfl
      refine ⟨grow_val [11, 12] [some 38, some 39] (by kernel_rfl) (by kernel_rfl) (fun K w hb hd hK => ?_), ?_⟩
      · have d11 : vals 11 = .bool true := hd 11 (by simp)
        have d12 : vals 12 = .slice p3 40 c3 := hd 12 (by simp)
        have hcv := HC3.out w hb
        simp only [List.map_cons, List.map_nil, putZ, d11, d12]
        refine ⟨wanted_some rfl rfl rfl, ?_⟩
        go_simp
        exact hK _ _ _ (Below.refl _ _) rfl
      refine ⟨grow_val [11] [some 38] (by kernel_rfl) (by kernel_rfl) (fun K w hb hd hK => ?_), ?_⟩
      · have d11 : vals 11 = .bool true := hd 11 (by simp)
        simp only [List.map_cons, List.map_nil, putZ, d11]
        refine ⟨wanted_some rfl rfl rfl, ?_⟩
        go_simp
        exact hK _ _ _ (below_alloc (Below.refl _ _) _) ⟨_, rfl, RowAt.of (block_new _ _), hb.size⟩
      refine ⟨grow_val [11, 14] [some 38, some 41] (by kernel_rfl) (by kernel_rfl) (fun K w hb hd hK => ?_), ?_⟩
      · have d11 : vals 11 = .bool true := hd 11 (by simp)
        obtain ⟨g14, d14, r14, _⟩ : ∃ g, vals 14 = .slice (some ⟨g, 0, none⟩) 40 40 ∧ RowAt w g (bysA (zs 40)) ∧ W4.heap.size ≤ g := hd 14 (by simp)
        have hcv := HQ.out w g14 40 r14
        simp only [List.map_cons, List.map_nil, putZ, d11, d14]
        refine ⟨wanted_some rfl rfl rfl, ?_⟩
        go_simp
        exact hK _ _ _ (Below.refl _ _) rfl
      refine ⟨grow_val [11, 13, 15] [some 38, some 40, some 42] (by kernel_rfl) (by kernel_rfl) (fun K w hb hd hK => ?_), ?_⟩
      · have d11 : vals 11 = .bool true := hd 11 (by simp)
        have d13 : vals 13 = .string Q0 := hd 13 (by simp)
        have d15 : vals 15 = .string Q0 := hd 15 (by simp)
        simp only [List.map_cons, List.map_nil, putZ, d11, d13, d15]
        refine ⟨wanted_some rfl rfl rfl, ?_⟩
        go_simp
        exact hK _ _ _ (Below.refl _ _) rfl
      refine ⟨grow_val [11, 16] [some 38, some 43] (by kernel_rfl) (by kernel_rfl) (fun K w hb hd hK => ?_), ?_⟩
      · have d11 : vals 11 = .bool true := hd 11 (by simp)
        have d16 : vals 16 = .bool true := hd 16 (by simp)
        simp only [List.map_cons, List.map_nil, putZ, d11, d16]
        refine ⟨wanted_none rfl, ?_⟩
        go_simp
        exact hK _ _ _ (Below.refl _ _) rfl
      refine ⟨grow_val [17] [some 44] (by kernel_rfl) (by kernel_rfl) (fun K w hb hd hK => ?_), ?_⟩
      · have d17 : vals 17 = .bool true := hd 17 (by simp)
        simp only [List.map_cons, List.map_nil, putZ, d17]
        refine ⟨wanted_none rfl, ?_⟩
        go_simp
        exact hK _ _ _ (Below.refl _ _) rfl
      refine ⟨grow_val [18] [some 45] (by kernel_rfl) (by kernel_rfl) (fun K w hb hd hK => ?_), ?_⟩
      · have d18 : vals 18 = .bool true := hd 18 (by simp)
        simp only [List.map_cons, List.map_nil, putZ, d18]
        refine ⟨wanted_some rfl rfl rfl, ?_⟩
        go_simp
        exact hK _ _ _ (Below.refl _ _) rfl
      refine ⟨grow_val [18, 19] [some 45, some 46] (by kernel_rfl) (by kernel_rfl) (fun K w hb hd hK => ?_), ?_⟩
      · have d18 : vals 18 = .bool true := hd 18 (by simp)
        have d19 : vals 19 = .int .i64 4 := hd 19 (by simp)
        simp only [List.map_cons, List.map_nil, putZ, d18, d19]
        refine ⟨wanted_some rfl rfl rfl, ?_⟩
        go_simp
        exact hK _ _ _ (Below.refl _ _) rfl
      refine ⟨grow_val [18, 20] [some 45, some 47] (by kernel_rfl) (by kernel_rfl) (fun K w hb hd hK => ?_), ?_⟩
      · have d18 : vals 18 = .bool true := hd 18 (by simp)
        have d20 : vals 20 = .bool true := hd 20 (by simp)
        simp only [List.map_cons, List.map_nil, putZ, d18, d20]
        refine ⟨wanted_none rfl, ?_⟩
        go_simp
        exact hK _ _ _ (Below.refl _ _) rfl
      intro W5 hbg hR
      have d21 : vals 21 = .bool true := hR 21 (by simp)
      clear hR
      simp only [List.map_cons, List.map_nil, putZ, d21, pick, List.getElem?_cons_succ, List.getElem?_cons_zero]
      generalize vals 0 = e0
      generalize vals 1 = e1
      generalize vals 2 = e2
      generalize vals 3 = e3
      generalize vals 4 = e4
      generalize vals 5 = e5
      generalize vals 6 = e6
      generalize vals 7 = e7
      generalize vals 8 = e8
      generalize vals 9 = e9
      generalize vals 10 = e10
      generalize vals 11 = e11
      generalize vals 12 = e12
      generalize vals 13 = e13
      generalize vals 14 = e14
      generalize vals 15 = e15
      generalize vals 16 = e16
      generalize vals 17 = e17
      generalize vals 18 = e18
      generalize vals 19 = e19
      generalize vals 20 = e20
      clear d21
      have B5 := Lib.hid (B4.out.trans (hbg.mono B4.out.size))
      clear hbg
      go_wp2_with fail
      go_ret
      exact ⟨rfl, B5.out⟩
end Go.Proofs.YtnkfiljmgbnbkaaDoor

/-
  Two tags are compared; two strings.
-/
namespace Go.Proofs.YtnkfiljmgbnbkaaDoor
open Go.RowKit Go.Hold Go.Sh

@[go_sem] theorem eqGuard_tag (op : BinOp) (x y : Operand) (xs ys : Array Value) (w : World) : (eqGuard op 47 x y (.agg xs) (.agg ys)).run Tryd.prog w = .ok () w := run_eqGuard_agg w op 47 x y xs ys (by kernel_rfl)
theorem run_equalIn_tag (l : List Nat) (hl : l.length = 16) (w : World) : (Op.equalIn 10000 47 (.agg (bysA l)) (.agg (bysA l))).run Tryd.prog w = .ok true w := by
  obtain ⟨i, hi⟩ : ∃ i, Tryd.prog.info? 5 = some i := Option.isSome_iff_exists.1 (by kernel_rfl)
  rw [run_equalIn_array w 9999 (bysA l) (bysA l) Tryd.underlying47 hi, show Tryd.prog.cellsOf 5 = 1 from by kernel_rfl]
  have := run_eqItems_int (P := Tryd.prog) (k := .u8) 9998 Tryd.underlying5 (bysA l) (bysA l) (fun i => ((l.getD i 0 : Nat) : Int)) (fun i => ((l.getD i 0 : Nat) : Int)) w (List.range 16) fun j hj => by
    have hj' : j < l.length := by rw [hl]; exact List.mem_range.1 hj
    exact ⟨bysA_get l j hj', bysA_get l j hj'⟩
  rw [this]
  simp
/-- Two tags that are one are compared: the whole operation. -/
theorem eql16 {o : Oper} {x y : Operand} {u : TypeId} (ho : o.op = .binOp .eql 47 x y u) (a : Operand → Value) (b : List Nat) (hb : b.length = 16) (h1 : a x = .agg (bysA b)) (h2 : a y = .agg (bysA b)) (w : World) :
    (execOp a o).run Tryd.prog w = .ok (.value (.bool true)) w := by
  have h := run_equalIn_tag b hb w
  obtain ⟨d, op, t, p, af, g⟩ := o
  simp only at ho
  subst ho
  go_simp
theorem toS_beq {a b : List Nat} (ha : ∀ i, a.getD i 0 < 256) (hb : ∀ i, b.getD i 0 < 256) : ((toS a).toList == (toS b).toList) = decide (a = b) := by
  rw [ByteArray.toList_eq, ByteArray.toList_eq]
  by_cases h : a = b
  · subst h; simp
  · have h1 : ¬ (toS a).data.toList = (toS b).data.toList := fun e => h ((toS_inj ha hb).1 (ByteArray.ext (Array.toList_inj.1 e)))
    rw [decide_eq_false h]
    exact beq_eq_false_iff_ne.2 h1
end Go.Proofs.YtnkfiljmgbnbkaaDoor

/-
  Unlike blocks are mixed to unlike ones.
-/
namespace Go.Proofs.YtnkfiljmgbnbkaaDoor
open Go.RowKit Go.Hold Go.Sh Go.Ch Go.Li

set_option maxHeartbeats 1000000 in
set_option maxRecDepth 100000 in
theorem lunlike_any (ac bc : Nat) (ap bp : Option Addr) (k a b : List Nat) (w : World) (hT : Tabs w) (hk : k.length = 32) (hkb : ∀ i, k.getD i 0 < 256) (hab : ∀ i, a.getD i 0 < 256) (haB : Bs0 w ap a) (hac : a.length ≤ ac) (hbb : ∀ i, b.getD i 0 < 256) (hbB : Bs0 w bp b) (hbc : b.length ≤ bc) :
    Calls Tryd.prog 5 #[.agg (bysA k), .slice ap a.length ac, .slice bp b.length bc] w fun e w' => e = .returned (.bool true) ∧ Below w.heap.size w w' := by
  have hks := bysA_size' hk
  obtain ⟨n, en⟩ : ∃ m, m = a.length := ⟨_, rfl⟩
  rw [← en] at hac ⊢
  have En := Lib.hid en
  obtain ⟨m, em⟩ : ∃ m, m = b.length := ⟨_, rfl⟩
  rw [← em] at hbc ⊢
  have Em := Lib.hid em
  have HT := Lib.hid hT
  have HA := Lib.hid haB
  have HB := Lib.hid hbB
  clear en em
  go_enter Tryd.func5, Tryd.ntmps5
  go_wp2_with fail
  have hA := below_alloc (Below.refl w.heap.size w) (.cells (bysA k) 23)
  refine (alive8_c _ (HT.out.grow hA)).mono ?_
  rintro e W1 ⟨rfl, hb1⟩
  have K1 := Lib.hid ((RowAt.of (block_new w (.cells (bysA k) 23))).grow hb1)
  have B1 := Lib.hid (hA.trans (hb1.mono hA.size))
  clear hA hb1
  by_cases l1 : n < 33
  · have l1' : (n : Int) < 33 := by omega
    go_wp2_with fail
    go_ret
    exact ⟨rfl, B1.out⟩
  have l1' : ¬ (n : Int) < 33 := by omega
  by_cases l2 : 700 < n
  · have l2' : (700 : Int) < (n : Int) := by omega
    go_wp2_with fail
    go_ret
    exact ⟨rfl, B1.out⟩
  have l2' : ¬ (700 : Int) < (n : Int) := by omega
  by_cases l3 : m < 33
  · have l3' : (m : Int) < 33 := by omega
    go_wp2_with fail
    go_ret
    exact ⟨rfl, B1.out⟩
  have l3' : ¬ (m : Int) < 33 := by omega
  by_cases l4 : 700 < m
  · have l4' : (700 : Int) < (m : Int) := by omega
    go_wp2_with fail
    go_ret
    exact ⟨rfl, B1.out⟩
  have l4' : ¬ (700 : Int) < (m : Int) := by omega
  have ha32 : 32 ≤ a.length := by rw [← En.out]; omega
  have hb32 : 32 ≤ b.length := by rw [← Em.out]; omega
  have HL := Lib.hid (fun (W : World) (hW : Below w.heap.size w W) => lock_c k a ap n ac hk hkb hab En.out (by omega) (by omega) hac W (hT.grow hW) (haB.grow hW))
  have HM := Lib.hid (fun (W : World) (hW : Below w.heap.size w W) => lock_c k b bp m bc hk hkb hbb Em.out (by omega) (by omega) hbc W (hT.grow hW) (hbB.grow hW))
  have Hx := Lib.hid (show (lockL k a).length = n by unfold lockL; rw [mixL_length _ _ ha32 hab]; exact En.out.symm)
  have Hy := Lib.hid (show (lockL k b).length = m by unfold lockL; rw [mixL_length _ _ hb32 hbb]; exact Em.out.symm)
  obtain ⟨q, eq⟩ : ∃ q, q = decide (a = b) := ⟨_, rfl⟩
  have hq1 : ((toS a).toList == (toS b).toList) = q := by rw [eq]; exact toS_beq hab hbb
  have hq2 : ((toS (lockL k a)).toList == (toS (lockL k b)).toList) = q := by
    rw [eq, toS_beq (a := lockL k a) (b := lockL k b) (mixL_bts k fwd ha32 hab) (mixL_bts k fwd hb32 hbb)]
    refine decide_eq_decide.2 ⟨fun h => ?_, fun h => by rw [h]⟩
    have h1 := unlock_lock k ha32 hab
    have h2 : lockL k a = lockL k b := h
    rw [h2, unlock_lock k hb32 hbb] at h1
    exact h1.symm
  generalize lockL k a = X at *
  generalize lockL k b = Y at *
  clear eq hk hkb hab haB hac hbb hbB hbc hT l1 l2 l3 l4 ha32 hb32
  obtain ⟨z, ez⟩ : ∃ z, z = w.heap.size := ⟨_, rfl⟩
  rw [← ez] at K1 ⊢
  clear ez
  obtain ⟨k1, k2, k3⟩ := K1.out
  go_wp2_with fail
  refine (HL.out W1 B1.out).mono ?_
  rintro e W2 ⟨u, rfl, hown, hb2⟩
  obtain ⟨p2, c2, rfl, hs2, hc2, _⟩ := hown.bs
  rw [Hx.out]
  have S2 := Lib.hid hs2
  have K2 := Lib.hid (K1.out.grow hb2)
  have B2 := Lib.hid (B1.out.trans (hb2.mono B1.out.size))
  clear hb2 hs2 hown K1 B1 k1 k2 k3 HL hc2
  obtain ⟨k1, k2, k3⟩ := K2.out
  go_wp2_with fail
  refine (HM.out W2 B2.out).mono ?_
  rintro e W3 ⟨u, rfl, hown, hb3⟩
  obtain ⟨p3, c3, rfl, hs3, hc3, _⟩ := hown.bs
  rw [Hy.out]
  have B3 := Lib.hid (B2.out.trans (hb3.mono B2.out.size))
  have hcv1 := run_cvBS (c := c2) (S2.out.grow hb3) Hx.out.symm
  have hcv2 := run_cvBS (c := c3) hs3 Hy.out.symm
  have hcv3 := run_cvBS (c := ac) (HA.out.grow B3.out) En.out
  have hcv4 := run_cvBS (c := bc) (HB.out.grow B3.out) Em.out
  generalize toS a = Q0 at *
  generalize toS b = Q1 at *
  generalize toS X = Q2 at *
  generalize toS Y = Q3 at *
  clear hb3 hs3 hown B2 K2 k1 k2 k3 HM hc3 S2
  cases q
  all_goals
    go_wp2_with fail
    go_ret
    exact ⟨rfl, B3.out⟩
end Go.Proofs.YtnkfiljmgbnbkaaDoor
