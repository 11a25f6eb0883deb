/-
  The law's own question: is the package there?
-/
import Derived.Test.YtfkgnafbfdpgiaaDoorShaEq
namespace Go.Proofs.YtfkgnafbfdpgiaaDoor
open Go.RowKit Go.Hold Go.Sh

theorem bytes_row {w : World} {b : Nat} {l : List Nat} (h : RowAt w b (bysA l)) : BytesAt w b 0 l :=
  ⟨h.2.2, fun i hi => by rw [Nat.zero_add]; exact h.cellAt i (bysA_get l i hi)⟩
theorem bts_1 (a : Nat) (ha : a < 256) : ∀ i, [a].getD i 0 < 256 := getD_lt fun x hx => by simp at hx; omega
theorem bts_2 (a b : Nat) (ha : a < 256) (hb : b < 256) : ∀ i, [a, b].getD i 0 < 256 := getD_lt fun x hx => by simp at hx; omega
theorem bts_3 (a b c : Nat) (ha : a < 256) (hb : b < 256) (hc : c < 256) : ∀ i, [a, b, c].getD i 0 < 256 := getD_lt fun x hx => by simp at hx; omega
theorem bts_0 : ∀ i, ([] : List Nat).getD i 0 < 256 := fun i => by simp
theorem abc0 : sByte (dig [97, 98, 99]) 0 = 186 := by have := abc.1; simpa [keyL] using this
theorem abc31 : sByte (dig [97, 98, 99]) 31 = 173 := by have := abc.2; simpa [keyL] using this
set_option maxHeartbeats 2000000 in
set_option maxRecDepth 100000 in
theorem alive_c (w : World) (hT : Tabs w) : Calls Tryd.prog 7 #[] w fun e w' => e = .returned (.bool true) ∧ Below w.heap.size w w' := by
  have HT := Lib.hid hT
  have hw1 := hT.1
  clear hT
  go_enter Tryd.func7, Tryd.ntmps7
  go_wp2_with fail
  refine (new_c _ HT.out).mono ?_
  rintro e W1 ⟨g, rfl, hb1, hg, hG1⟩
  have B1 := Lib.hid hb1
  have G1 := Lib.hid hG1
  have hgl := hG1.2.2
  clear hb1 hG1
  go_wp2_with fail
  have hne1 : W1.heap.size ≠ g := by omega
  refine (write_c g 1 _ [] [97] _ (HT.out.grow (below_alloc B1.out _)) (by omega) (G1.out.grow (below_alloc (Below.refl _ _) _)) (by decide) bts_0 (bts_1 97 (by decide)) (.inr ⟨_, 0, rfl, bytes_new W1 [97] _ _, hne1⟩) (Nat.le_refl 1)).mono ?_
  rintro e w' ⟨rfl, o2, d2, rfl⟩
  have G2 := Lib.hid (((G1.out.grow (below_alloc (Below.refl _ _) (.cells (bysA [97]) 5 (1, 2)))).set (hshA [97])).grow (below_more (Below.refl _ _) o2 d2))
  have B2 := Lib.hid (below_more (below_setRow (below_alloc B1.out (.cells (bysA [97]) 5 (1, 2))) hg (hshA [97])) o2 d2)
  rw [List.nil_append]
  generalize ((W1.alloc (.cells (bysA [97]) 5 (1, 2))).setRow g (hshA [97])).plus o2 d2 = W2 at *
  have hgl2 := G2.out.2.2
  clear hgl hne1 G1 B1
  go_wp2_with fail
  have hne2 : W2.heap.size ≠ g := by omega
  refine (write_c g 2 _ [97] [98, 99] _ (HT.out.grow (below_alloc B2.out _)) (by omega) (G2.out.grow (below_alloc (Below.refl _ _) _)) (by decide) (bts_1 97 (by decide)) (bts_2 98 99 (by decide) (by decide)) (.inr ⟨_, 0, rfl, bytes_new W2 [98, 99] _ _, hne2⟩) (Nat.le_refl 2)).mono ?_
  rintro e w' ⟨rfl, o3, d3, rfl⟩
  have G3 := Lib.hid (((G2.out.grow (below_alloc (Below.refl _ _) (.cells (bysA [98, 99]) 5 (2, 3)))).set (hshA [97, 98, 99])).grow (below_more (Below.refl _ _) o3 d3))
  have B3 := Lib.hid (below_more (below_setRow (below_alloc B2.out (.cells (bysA [98, 99]) 5 (2, 3))) hg (hshA [97, 98, 99])) o3 d3)
  rw [show [97] ++ [98, 99] = [97, 98, 99] from rfl]
  generalize ((W2.alloc (.cells (bysA [98, 99]) 5 (2, 3))).setRow g (hshA [97, 98, 99])).plus o3 d3 = W3 at *
  have hgl3 := G3.out.2.2
  clear hgl2 hne2 G2 B2
  go_wp2_with fail
  refine (sum_c 3 _ [97, 98, 99] _ (HT.out.grow (below_alloc B3.out _)) (by decide) (bts_3 97 98 99 (by decide) (by decide) (by decide)) (.inr ⟨_, 0, rfl, bytes_new W3 [97, 98, 99] _ _⟩) (Nat.le_refl 3)).mono ?_
  rintro e w' ⟨rfl, hbw⟩
  have G4 := Lib.hid ((G3.out.grow (below_alloc (Below.refl _ _) (.cells (bysA [97, 98, 99]) 5 (3, 4)))).grow hbw)
  have B4 := Lib.hid ((below_alloc B3.out (.cells (bysA [97, 98, 99]) 5 (3, 4))).trans (hbw.mono (below_alloc B3.out (.cells (bysA [97, 98, 99]) 5 (3, 4))).size))
  clear hgl3 G3 B3 hbw
  generalize eD : dig [97, 98, 99] = D at *
  have hD0 := abc0
  have hD31 := abc31
  rw [eD] at hD0 hD31
  have HD := Lib.hid eD
  clear eD
  go_wp2_with fail
  generalize hW : World.alloc _ _ = W5
  have R5 := Lib.hid (show RowAt W5 w'.heap.size (keA D) by rw [← hW]; clear hW; exact ⟨by go_simp, by go_simp, by go_simp⟩)
  have G5 := Lib.hid (show RowAt W5 g (hshA [97, 98, 99]) by rw [← hW]; exact G4.out.grow (below_alloc (Below.refl _ _) _))
  have B5 := Lib.hid (show Below w.heap.size w W5 by rw [← hW]; exact below_alloc B4.out _)
  clear hW G4 B4
  generalize w'.heap.size = x at *
  obtain ⟨r1, r2, r3⟩ := R5.out
  have hx0 := R5.out.cellAt 0 (keA_get D 0 (by decide))
  have hx31 := R5.out.cellAt 31 (keA_get D 31 (by decide))
  rw [hD0] at hx0
  rw [hD31] at hx31
  have hTab : ∀ o d, Tabs (W5.plus o d) := fun o d => HT.out.grow (below_more B5.out o d)
  have hG : ∀ o d, RowAt (W5.plus o d) g (hshA [97, 98, 99]) := fun o d => G5.out.grow (below_more (Below.refl _ _) o d)
  have hS : ∀ o d, Calls Tryd.prog 13 #[.pointer (some ⟨g, 0, none⟩)] (W5.plus o d) fun e w' => e = .returned (.agg (keA D)) ∧ Below (W5.plus o d).heap.size (W5.plus o d) w' := fun o d => by
    have := hsum_c g [97, 98, 99] (W5.plus o d) (hTab o d) (hG o d) (by decide) (bts_3 97 98 99 (by decide) (by decide) (by decide))
    rw [HD.out] at this; exact this
  have hL : ∀ o d, Calls Tryd.prog 12 #[.pointer (some ⟨g, 0, none⟩)] (W5.plus o d) fun e w' => e = .returned (.int .i64 3) ∧ w' = W5.plus o d := fun o d => len_c g [97, 98, 99] (W5.plus o d) (hG o d)
  have HS := Lib.hid hS
  have HL := Lib.hid hL
  clear hS hL hG hTab hD0 hD31
  refine wp_region_fast (fun w' => ∃ o d, w' = W5.plus o d) (by kernel_rfl) (by kernel_rfl) ⟨#[], _, rfl⟩ ?_
  iterate 3 (refine wpHold_val ⟨_, #[], 0, rfl⟩ (wanted_none rfl) (by rintro K _ ⟨o, d, rfl⟩ hK; go_simp; exact hK _ ⟨o, d, rfl⟩) ?_)
  iterate 2 (refine wpHold_val ⟨_, #[], 0, rfl⟩ (wanted_some rfl rfl rfl) (by rintro K _ ⟨o, d, rfl⟩ hK; go_simp; exact hK _ ⟨o, d, rfl⟩) ?_)
  iterate 2 (refine wpHold_val ⟨_, #[], 0, rfl⟩ (wanted_none rfl) (by rintro K _ ⟨o, d, rfl⟩ hK; go_simp; exact hK _ ⟨o, d, rfl⟩) ?_)
  refine wpHold_val ⟨_, #[], 0, rfl⟩ (wanted_some rfl rfl rfl) (by rintro K _ ⟨o, d, rfl⟩ hK; go_simp; exact hK _ ⟨o, d, rfl⟩) ?_
  refine wpHold_call (v := .int .i64 3) (wanted_some rfl rfl rfl) (by rintro K _ ⟨o, d, rfl⟩ hK; go_simp; refine (HL.out o d).mono ?_; rintro e w' ⟨rfl, rfl⟩; exact ⟨_, rfl, hK _ ⟨o, d, rfl⟩⟩) ?_
  refine wpHold_val ⟨_, #[], 0, rfl⟩ (wanted_some rfl rfl rfl) (by rintro K _ ⟨o, d, rfl⟩ hK; go_simp; exact hK _ ⟨o, d, rfl⟩) ?_
  iterate 2 (refine wpHold_val ⟨_, #[], 0, rfl⟩ (wanted_none rfl) (by rintro K _ ⟨o, d, rfl⟩ hK; go_simp; exact hK _ ⟨o, d, rfl⟩) ?_)
  refine wpHold_val ⟨_, #[], 0, rfl⟩ (wanted_some rfl rfl rfl) (by rintro K _ ⟨o, d, rfl⟩ hK; go_simp; exact hK _ ⟨o, d, rfl⟩) ?_
  refine wpHold_call (v := .agg (keA D)) (wanted_some rfl rfl rfl) (by rintro K _ ⟨o, d, rfl⟩ hK; go_simp; refine (HS.out o d).mono ?_; rintro e w' ⟨rfl, hbw⟩; obtain ⟨o', n', rfl⟩ := below_plus hbw; exact ⟨_, rfl, hK _ ⟨_, _, World.plus_plus _ _ _ _ _⟩⟩) ?_
  iterate 2 (refine wpHold_val ⟨_, #[], 0, rfl⟩ (wanted_some rfl rfl rfl) (by rintro K _ ⟨o, d, rfl⟩ hK; go_simp; exact hK _ ⟨o, d, rfl⟩) ?_)
  iterate 2 (refine wpHold_val ⟨_, #[], 0, rfl⟩ (wanted_none rfl) (by rintro K _ ⟨o, d, rfl⟩ hK; go_simp; exact hK _ ⟨o, d, rfl⟩) ?_)
  iterate 3 (refine wpHold_val ⟨_, #[], 0, rfl⟩ (wanted_some rfl rfl rfl) (by rintro K _ ⟨o, d, rfl⟩ hK; go_simp; exact hK _ ⟨o, d, rfl⟩) ?_)
  iterate 2 (refine wpHold_val ⟨_, #[], 0, rfl⟩ (wanted_none rfl) (by rintro K _ ⟨o, d, rfl⟩ hK; go_simp; exact hK _ ⟨o, d, rfl⟩) ?_)
  iterate 3 (refine wpHold_val ⟨_, #[], 0, rfl⟩ (wanted_some rfl rfl rfl) (by rintro K _ ⟨o, d, rfl⟩ hK; go_simp; exact hK _ ⟨o, d, rfl⟩) ?_)
  iterate 2 (refine wpHold_val ⟨_, #[], 0, rfl⟩ (wanted_none rfl) (by rintro K _ ⟨o, d, rfl⟩ hK; go_simp; exact hK _ ⟨o, d, rfl⟩) ?_)
  refine wpHold_nil ?_
  rintro _ ⟨of, nf, rfl⟩
  go_wp2_with fail
  go_ret
  exact ⟨rfl, below_more B5.out _ _⟩
end Go.Proofs.YtfkgnafbfdpgiaaDoor
