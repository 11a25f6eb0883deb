/-
  A key for a purpose is what its label expands to; one secret of another one is its tag.
-/
import Derived.Test.YtikpglemnnbdcaaDoorHmacAt
namespace Go.Proofs.YtikpglemnnbdcaaDoor
open Go.RowKit Go.Hold Go.Sh

set_option maxHeartbeats 1000000 in
set_option maxRecDepth 100000 in
theorem derives_any (bc : Nat) (bp : Option Addr) (s b : List Nat) (lab : ByteArray) (w : World) (hT : Tabs w) (hs : s.length = 32) (hsb : ∀ i, s.getD i 0 < 256)
    (hbb : ∀ i, b.getD i 0 < 256) (hbB : Bs0 w bp b) (hbc : b.length ≤ bc) (_hbp : bp = none → bc = 0) :
    Calls Tryd.prog 8 #[.agg (bysA s), .slice bp b.length bc, .string lab] w fun e w' => e = .returned (.bool true) ∧ Below w.heap.size w w' := by
  have HT := Lib.hid hT
  have HbB := Lib.hid hbB
  have Hbb := Lib.hid hbb
  have Hsb := Lib.hid hsb
  have Hs := Lib.hid hs
  have Hbc := Lib.hid hbc
  have hz : (bysA s).size = 32 := by rw [bysA_size, hs]
  obtain ⟨nb, enb⟩ : ∃ n, n = b.length := ⟨_, rfl⟩
  rw [← enb]
  have Enb := Lib.hid enb
  clear hT hbB hbb hsb hs enb hbc
  go_enter Tryd.func8, Tryd.ntmps8
  go_wp2_with fail
  have R0 := Lib.hid (show RowAt (w.alloc (.cells (bysA s) 25)) w.heap.size (bysA s) from RowAt.of (block_new w _))
  have B0 := Lib.hid (below_alloc (Below.refl w.heap.size w) (.cells (bysA s) 25))
  refine (alive_c _ (HT.out.grow B0.out)).mono ?_
  rintro e W1 ⟨rfl, hb1⟩
  have R1 := Lib.hid (R0.out.grow hb1)
  have B1 := Lib.hid (B0.out.trans (hb1.mono B0.out.size))
  clear hb1 R0 B0
  by_cases h1 : 1000 < nb
  · have h1' : (1000 : Int) < (nb : Int) := by omega
    go_wp2_with fail
    go_ret
    exact ⟨rfl, B1.out⟩
  by_cases h2 : 1000 < lab.size
  · have h1' : ¬ (1000 : Int) < (nb : Int) := by omega
    have h2' : (1000 : Int) < (lab.size : Int) := by omega
    go_wp2_with fail
    go_ret
    exact ⟨rfl, B1.out⟩
  have h1' : ¬ (1000 : Int) < (nb : Int) := by omega
  have h2' : ¬ (1000 : Int) < (lab.size : Int) := by omega
  obtain ⟨r1, r2, r3⟩ := R1.out
  have HD := Lib.hid (derive_c s lab W1 (HT.out.grow B1.out) Hs.out Hsb.out (by omega))
  obtain ⟨D, eD⟩ : ∃ y, y = drv s (purp ++ strB lab) := ⟨_, rfl⟩
  rw [← eD] at HD
  have ED := Lib.hid eD
  clear eD
  generalize w.heap.size = x at R1 r1 r2 r3 ⊢
  go_wp2_with fail
  refine HD.out.mono ?_
  rintro e W2 ⟨rfl, hb2⟩
  have R2 := Lib.hid (R1.out.grow hb2)
  have B2 := Lib.hid (B1.out.trans (hb2.mono B1.out.size))
  have R3 := Lib.hid (R2.out.grow (below_alloc (Below.refl W2.heap.size W2) (.cells (keA D) 25)))
  clear hb2 R1 r1 r2 r3 HD
  have hlt : x < W2.heap.size := R2.out.2.2
  obtain ⟨r1, r2, r3⟩ := R3.out
  go_wp2_with fail
  generalize hS : ({ data := #[112, 105, 103, 101, 111, 110, 114, 121, 32] } : ByteArray) ++ lab = S0
  have HS0 := Lib.hid (show strB S0 = purp ++ strB lab by rw [← hS, strB_app, purp_str])
  have hS0 : S0.size ≤ 60000 := by
    have := congrArg List.length HS0.out
    rw [strB_length, List.length_append, strB_length] at this
    simp [purp] at this; omega
  clear hS
  generalize hW : World.alloc _ _ = W3 at *
  have Y3 := Lib.hid (show RowAt W3 W2.heap.size (keA D) by rw [← hW]; exact RowAt.of (block_new W2 _))
  have B3 := Lib.hid (show Below w.heap.size w W3 by rw [← hW]; exact below_alloc B2.out _)
  clear hW R2 hlt
  generalize W2.heap.size = y at *
  obtain ⟨c, W4, hr, hby, hb4, hc⟩ := run_cvSB S0 W3
  have HE := expand_c c 32 (some ⟨W3.heap.size, 0, none⟩) s (strB S0) W4 ((HT.out.grow B3.out).grow hb4) Hs.out Hsb.out (by rw [strB_length]; omega) (strB_bts _) (Bs0.some hby) (fun h => by cases h) (by decide)
  rw [strB_length, expN_32, HS0.out, ← ED.out] at HE
  have HE := Lib.hid HE
  have R4 := Lib.hid (R3.out.grow hb4)
  have Y4 := Lib.hid (Y3.out.grow hb4)
  have B4 := Lib.hid (B3.out.trans (hb4.mono B3.out.size))
  clear hby hb4 hc R3 Y3 hS0 r1 r2 r3
  rw [hr]
  go_simp
  go_wp2_with fail
  refine HE.out.mono ?_
  rintro e W5 ⟨p, rfl, hB5, hp5, hb5⟩
  have X5 := Lib.hid (R4.out.grow hb5)
  have Y5 := Lib.hid (Y4.out.grow hb5)
  have B5 := Lib.hid (B4.out.trans (hb5.mono B4.out.size))
  have hcv1 : ∀ o d, (cvBS (.slice p 32 32)).run Tryd.prog (W5.plus o d) = .ok (.string (toS (keyN D))) (W5.plus o d) := fun o d => run_cvBS (hB5.grow (below_more (Below.refl _ _) o d)) (keyN_length D).symm
  have hcv2 : ∀ o d, (cvBS (.slice (some ⟨y, 0, none⟩) 32 32)).run Tryd.prog (W5.plus o d) = .ok (.string (toS (keyN D))) (W5.plus o d) := fun o d => run_cvBS (Bs0.some (keyN_row (Y5.out.grow (below_more (Below.refl _ _) o d)))) (keyN_length D).symm
  obtain ⟨M, eM⟩ : ∃ y, y = mac b s := ⟨_, rfl⟩
  have HM := Lib.hid (fun o d => mac_at (kc := bc) (bc := 32) (nb := 32) (kp := bp) (bp := some ⟨x, 0, none⟩) (w := W5.plus o d) Enb.out Hs.out.symm eM.symm ((HT.out.grow B5.out).grow (below_more (Below.refl _ _) o d)) (by rw [← Enb.out]; omega) Hbb.out ((HbB.out.grow B5.out).grow (below_more (Below.refl _ _) o d)) Hbc.out (by rw [Hs.out]; decide) Hsb.out (Bs0.some (bytes_row (X5.out.grow (below_more (Below.refl _ _) o d)))) (fun h => by cases h))
  have HX := Lib.hid (fun o d => extract_at (kc := bc) (bc := 32) (nb := 32) (kp := bp) (bp := some ⟨x, 0, none⟩) (w := W5.plus o d) Enb.out Hs.out.symm eM.symm ((HT.out.grow B5.out).grow (below_more (Below.refl _ _) o d)) (by rw [← Enb.out]; omega) Hbb.out ((HbB.out.grow B5.out).grow (below_more (Below.refl _ _) o d)) Hbc.out (by rw [Hs.out]; decide) Hsb.out (Bs0.some (bytes_row (X5.out.grow (below_more (Below.refl _ _) o d)))) (fun h => by cases h))
  generalize toS (keyN D) = K0 at *
  clear hB5 hp5 hb5 HE R4 Y4 eM
  go_wp2_with fail
  refine wp_region_pickT W5 [0, 1, 2, 3, 4, 5, 6, 7, 8, 9, 10, 11, 12, 13, 14, 15, 16, 17] [false, false, false, false, false, false, false, false, false, false, false, false, false, false, false, false, false, false] [18] (by kernel_rfl) (by kernel_rfl) (by intro c a d v w h; cases d <;> exact h) ((Below.refl _ _).drew) ?_
  simp only [pick, List.getElem?_cons_succ, List.getElem?_cons_zero]
  refine wpHoldF_val (wanted_none rfl) (by intro K o d hK; go_simp; exact hK _ (Below.refl _ _)) ?_
  refine wpHoldF_val (wanted_none rfl) (by intro K o d hK; go_simp; exact hK _ (Below.refl _ _)) ?_
  refine wpHoldF_val (wanted_none rfl) (by intro K o d hK; go_simp; exact hK _ (Below.refl _ _)) ?_
  refine wpHoldF_val (wanted_some rfl rfl rfl) (by intro K o d hK; go_simp; exact hK _ (Below.refl _ _)) ?_
  refine wpHoldF_val (wanted_some rfl rfl rfl) (by intro K o d hK; go_simp; exact hK _ (Below.refl _ _)) ?_
  refine wpHoldF_val (wanted_some rfl rfl rfl) (by intro K o d hK; go_simp; exact hK _ (Below.refl _ _)) ?_
  refine wpHoldF_val (wanted_some rfl rfl rfl) (by intro K o d hK; go_simp; exact hK _ (Below.refl _ _)) ?_
  refine wpHoldF_val (wanted_some rfl rfl rfl) (by intro K o d hK; go_simp; exact hK _ (Below.refl _ _)) ?_
  refine wpHoldF_val (wanted_none rfl) (by intro K o d hK; go_simp; exact hK _ (Below.refl _ _)) ?_
  refine wpHoldF_val (wanted_none rfl) (by intro K o d hK; go_simp; exact hK _ (Below.refl _ _)) ?_
  refine wpHoldF_val (wanted_some rfl rfl rfl) (by intro K o d hK; go_simp; exact hK _ (Below.refl _ _)) ?_
  refine wpHoldF_val (wanted_some rfl rfl rfl) (by intro K o d hK; go_simp; exact hK _ (Below.refl _ _)) ?_
  refine wpHoldF_call (v := .agg (keA M)) (wanted_some rfl rfl rfl) (by intro K o d hK; go_simp; refine (HX.out o d).mono ?_; rintro e w' ⟨rfl, hbw⟩; exact ⟨_, rfl, hK _ hbw⟩) ?_
  refine wpHoldF_val (wanted_some rfl rfl rfl) (by intro K o d hK; go_simp; exact hK _ (Below.refl _ _)) ?_
  refine wpHoldF_val (wanted_some rfl rfl rfl) (by intro K o d hK; go_simp; exact hK _ (Below.refl _ _)) ?_
  refine wpHoldF_call (v := .agg (keA M)) (wanted_some rfl rfl rfl) (by intro K o d hK; go_simp; refine (HM.out o d).mono ?_; rintro e w' ⟨rfl, hbw⟩; exact ⟨_, rfl, hK _ hbw⟩) ?_
  refine wpHoldF_val (wanted_some rfl rfl rfl) (by intro K o d hK; go_simp; exact hK _ (Below.refl _ _)) ?_
  refine wpHoldF_val (wanted_none rfl) (by intro K o d hK; go_simp; exact hK _ (Below.refl _ _)) ?_
  refine wpHoldF_nil ?_
  intro W6 hb6
  have B6 := Lib.hid (B5.out.trans (hb6.mono B5.out.size))
  clear hb6
  go_wp2_with fail
  go_ret
  exact ⟨rfl, B6.out⟩
end Go.Proofs.YtikpglemnnbdcaaDoor
