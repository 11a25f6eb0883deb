/-
  A stream's bytes from a whole block on are the stream from that block on.
-/
import Derived.Test.YtcaleepbnjlbpaaChaAlive
namespace Go.Proofs.Ytcaleepbnjlbpaa
open Go.RowKit Go.Hold Go.Sh Go.Ch

set_option maxHeartbeats 2000000 in
set_option maxRecDepth 100000 in
theorem parts_any (k n : List Nat) (a b : Nat) (w : World) (hk : k.length = 32) (hkb : ∀ i, k.getD i 0 < 256) (hn : n.length = 12) (hnb : ∀ i, n.getD i 0 < 256) (_ha : a < 256) (hb : b < 256) :
    Calls Try.prog 6 #[.agg (bysA k), .agg (bysA n), .agg (bysA [a, b])] w fun e w' => e = .returned (.bool true) ∧ Below w.heap.size w w' := by
  have hks := bysA_size' hk
  have hns := bysA_size' hn
  have has := bysA_size' (show [a, b].length = 2 from rfl)
  go_enter Try.func6, Try.ntmps6
  go_wp2_with fail
  generalize hW : World.alloc _ _ = W0
  have K0 := Lib.hid (show RowAt W0 w.heap.size (bysA k) by rw [← hW]; clear hW; exact ⟨by go_simp, by go_simp, by go_simp⟩)
  have N0 := Lib.hid (show RowAt W0 (w.heap.size + 1) (bysA n) by rw [← hW]; clear hW; exact ⟨by go_simp, by go_simp, by go_simp⟩)
  have A0 := Lib.hid (show RowAt W0 (w.heap.size + 1 + 1) (bysA [a, b]) by rw [← hW]; clear hW; exact ⟨by go_simp, by go_simp, by go_simp⟩)
  have B0 := Lib.hid (show Below w.heap.size w W0 by rw [← hW]; repeat (first | apply below_more | apply below_alloc | apply Below.drew | exact Below.refl _ _))
  clear hW
  refine (alive5_c _).mono ?_
  rintro e W1 ⟨rfl, hb1⟩
  have K1 := Lib.hid (K0.out.grow hb1)
  have N1 := Lib.hid (N0.out.grow hb1)
  have A1 := Lib.hid (A0.out.grow hb1)
  have B1 := Lib.hid (B0.out.trans (hb1.mono B0.out.size))
  clear hb1 K0 N0 A0 B0
  generalize w.heap.size + 1 + 1 = ga at *
  generalize w.heap.size + 1 = gn at *
  generalize w.heap.size = gk at K1 ⊢
  have c0 : W1.cell? ⟨ga, 0, none⟩ = some (.int .u8 (a : Int)) := A1.out.cellAt 0 rfl
  have c1 : W1.cell? ⟨ga, 1, none⟩ = some (.int .u8 (b : Int)) := A1.out.cellAt 1 rfl
  have a3 := A1.out.2.2
  obtain ⟨s, es⟩ : ∃ s, s = a % 8 := ⟨_, rfl⟩
  have hs8 : s < 8 := by omega
  have t1 : (a : Int).tmod 8 = (s : Int) := by rw [es]; rfl
  have t2 : IntKind.i64.wrap (s : Int) = (s : Int) := IntWalk.i64_in _ (by omega)
  have t3 : IntKind.i64.wrap (b : Int) = (b : Int) := IntWalk.i64_in _ (by omega)
  have t4 : IntKind.u8.wrap (s : Int) = (s : Int) := IntWalk.u8_in _ (by omega)
  obtain ⟨u, eu⟩ : ∃ u, u = 64 * s := ⟨_, rfl⟩
  obtain ⟨M, eM⟩ : ∃ M, M = u + b := ⟨_, rfl⟩
  obtain ⟨x, ex⟩ : ∃ x, x = 5 + s := ⟨_, rfl⟩
  have t5 : IntKind.i64.wrap (64 * (s : Int)) = (u : Int) := by rw [IntWalk.i64_in _ (by omega)]; omega
  have t6 : IntKind.i64.wrap ((u : Int) + (b : Int)) = (M : Int) := by rw [IntWalk.i64_in _ (by omega)]; omega
  have t7 : IntKind.u32.wrap (s : Int) = (s : Int) := IntWalk.u32_in _ (by omega)
  have t8 : add32 5 (s : Int) = (x : Int) := by unfold add32; rw [IntWalk.u32_in _ (by omega)]; omega
  have HS1 := Lib.hid (fun W => stream_c k n 5 M hk hkb hn hnb (by omega) (by omega) (by decide) W)
  have HS2 := Lib.hid (fun W => stream_c k n x b hk hkb hn hnb (by omega) (by omega) (by omega) W)
  have HBl := Lib.hid (chablock_c k n 5 hk hkb hn hnb)
  have Hdrop := Lib.hid (show (strm k n 5 M).drop u = strm k n x b by rw [eM, eu, ex]; exact strm_drop k n 5 s b)
  have Htake := Lib.hid (fun h : 64 ≤ M => strm_take k n 5 M h)
  have Hl1 := Lib.hid (strm_length k n 5 M)
  have Hl2 := Lib.hid (strm_length k n x b)
  have Hl3 := Lib.hid (blk_length k n 5)
  have hbz := bysA_size' Hl3.out
  generalize strm k n 5 M = X at *
  generalize strm k n x b = Y at *
  generalize blk k n 5 = Z at *
  have hub : u + b = M := eM.symm
  have hM : (M : Int) ≤ 800 := by omega
  have Hub := Lib.hid hub
  clear hk hkb hn hnb hb es eu eM ex hs8 hub
  go_wp2_with fail
  refine wp_region_fast (fun w' => ∃ o d, w' = W1.plus o d) (by kernel_rfl) (by kernel_rfl) ⟨#[], _, rfl⟩ ?_
  refine wpHold_val ⟨_, #[], 0, rfl⟩ (wanted_none rfl) (by rintro K _ ⟨o, d, rfl⟩ hK; go_simp; exact hK _ ⟨o, d, rfl⟩) ?_
  refine wpHold_val ⟨_, #[], 0, rfl⟩ (wanted_none rfl) (by rintro K _ ⟨o, d, rfl⟩ hK; go_simp; exact hK _ ⟨o, d, rfl⟩) ?_
  refine wpHold_val ⟨_, #[], 0, rfl⟩ (wanted_none rfl) (by rintro K _ ⟨o, d, rfl⟩ hK; go_simp; exact hK _ ⟨o, d, rfl⟩) ?_
  refine wpHold_val ⟨_, #[], 0, rfl⟩ (wanted_none rfl) (by rintro K _ ⟨o, d, rfl⟩ hK; go_simp; exact hK _ ⟨o, d, rfl⟩) ?_
  refine wpHold_val ⟨_, #[], 0, rfl⟩ (wanted_none rfl) (by rintro K _ ⟨o, d, rfl⟩ hK; go_simp; exact hK _ ⟨o, d, rfl⟩) ?_
  refine wpHold_val ⟨_, #[], 0, rfl⟩ (wanted_none rfl) (by rintro K _ ⟨o, d, rfl⟩ hK; go_simp; exact hK _ ⟨o, d, rfl⟩) ?_
  refine wpHold_val ⟨_, #[], 0, rfl⟩ (wanted_none rfl) (by rintro K _ ⟨o, d, rfl⟩ hK; go_simp; exact hK _ ⟨o, d, rfl⟩) ?_
  refine wpHold_val ⟨_, #[], 0, rfl⟩ (wanted_none rfl) (by rintro K _ ⟨o, d, rfl⟩ hK; go_simp; exact hK _ ⟨o, d, rfl⟩) ?_
  refine wpHold_val ⟨_, #[], 0, rfl⟩ (wanted_none rfl) (by rintro K _ ⟨o, d, rfl⟩ hK; go_simp; exact hK _ ⟨o, d, rfl⟩) ?_
  refine wpHold_nil ?_
  rintro _ ⟨o1, d1, rfl⟩
  have hbA := below_more (Below.refl W1.heap.size W1) o1 d1
  have K2 := Lib.hid (K1.out.grow hbA)
  have N2 := Lib.hid (N1.out.grow hbA)
  have B2 := Lib.hid (B1.out.trans (hbA.mono B1.out.size))
  clear hbA c0 c1 a3 K1 N1 A1 B1
  generalize W1.plus o1 d1 = W2 at *
  obtain ⟨k1, k2, k3⟩ := K2.out
  obtain ⟨n1, n2, n3⟩ := N2.out
  go_wp2_with fail
  refine (HS1.out _).mono ?_
  rintro e W3 ⟨g1, rfl, hr3, _, hb3⟩
  have K3 := Lib.hid (K2.out.grow hb3)
  have N3 := Lib.hid (N2.out.grow hb3)
  have B3 := Lib.hid (B2.out.trans (hb3.mono B2.out.size))
  have X3 := Lib.hid hr3
  clear hb3 hr3 k1 k2 k3 n1 n2 n3 K2 N2 B2
  obtain ⟨k1, k2, k3⟩ := K3.out
  obtain ⟨n1, n2, n3⟩ := N3.out
  go_wp2_with fail
  refine (HS2.out _).mono ?_
  rintro e W4 ⟨g2, rfl, hr4, _, hb4⟩
  have K4 := Lib.hid (K3.out.grow hb4)
  have N4 := Lib.hid (N3.out.grow hb4)
  have B4 := Lib.hid (B3.out.trans (hb4.mono B3.out.size))
  have X4 := Lib.hid (X3.out.grow hb4)
  have Y4 := Lib.hid hr4
  clear hb4 hr4 k1 k2 k3 n1 n2 n3 K3 N3 B3 X3
  have hsl := slB_lo g1 0 M M u (by have := Hub.out; omega)
  obtain ⟨av, eav⟩ : ∃ y, y = adv 0 u M := ⟨_, rfl⟩
  obtain ⟨mb, emb⟩ : ∃ y, y = M - u := ⟨_, rfl⟩
  rw [← eav, ← emb] at hsl
  have hcv1 : ∀ o d, (cvBS (.slice (some ⟨g1, av, none⟩) mb mb)).run Try.prog (W4.plus o d) = .ok (.string (toS Y)) (W4.plus o d) := fun o d => by
    have h1 := (bytes_row (X4.out.grow (below_more (Below.refl _ _) o d))).adv (n := u) (cap := M) (by rw [Hl1.out]; exact Nat.le_refl _)
    rw [Hdrop.out, ← eav] at h1
    exact run_cvBS (Bs0.some h1) (by rw [emb, Hl2.out]; have := Hub.out; omega)
  have hcv2 : ∀ o d, (cvBS (.slice (some ⟨g2, 0, none⟩) b b)).run Try.prog (W4.plus o d) = .ok (.string (toS Y)) (W4.plus o d) := fun o d => run_cvBS (Bs0.some (bytes_row (Y4.out.grow (below_more (Below.refl _ _) o d)))) Hl2.out.symm
  generalize toS Y = SY at *
  clear eav emb
  go_wp2_with fail
  refine wp_region_fast (fun w' => ∃ o d, w' = W4.plus o d) (by kernel_rfl) (by kernel_rfl) ⟨#[], _, rfl⟩ ?_
  refine wpHold_val ⟨_, #[], 0, rfl⟩ (wanted_none rfl) (by rintro K _ ⟨o, d, rfl⟩ hK; go_simp; exact hK _ ⟨o, d, rfl⟩) ?_
  refine wpHold_val ⟨_, #[], 0, rfl⟩ (wanted_none rfl) (by rintro K _ ⟨o, d, rfl⟩ hK; go_simp; exact hK _ ⟨o, d, rfl⟩) ?_
  refine wpHold_val ⟨_, #[], 0, rfl⟩ (wanted_none rfl) (by rintro K _ ⟨o, d, rfl⟩ hK; go_simp; exact hK _ ⟨o, d, rfl⟩) ?_
  refine wpHold_val ⟨_, #[], 0, rfl⟩ (wanted_some rfl rfl rfl) (by rintro K _ ⟨o, d, rfl⟩ hK; go_simp; exact hK _ ⟨o, d, rfl⟩) ?_
  refine wpHold_val ⟨_, #[], 0, rfl⟩ (wanted_some rfl rfl rfl) (by rintro K _ ⟨o, d, rfl⟩ hK; go_simp; exact hK _ ⟨o, d, rfl⟩) ?_
  refine wpHold_val ⟨_, #[], 0, rfl⟩ (wanted_none rfl) (by rintro K _ ⟨o, d, rfl⟩ hK; go_simp; exact hK _ ⟨o, d, rfl⟩) ?_
  refine wpHold_val ⟨_, #[], 0, rfl⟩ (wanted_none rfl) (by rintro K _ ⟨o, d, rfl⟩ hK; go_simp; exact hK _ ⟨o, d, rfl⟩) ?_
  refine wpHold_val ⟨_, #[], 0, rfl⟩ (wanted_some rfl rfl rfl) (by rintro K _ ⟨o, d, rfl⟩ hK; go_simp; exact hK _ ⟨o, d, rfl⟩) ?_
  refine wpHold_val ⟨_, #[], 0, rfl⟩ (wanted_some rfl rfl rfl) (by rintro K _ ⟨o, d, rfl⟩ hK; go_simp; exact hK _ ⟨o, d, rfl⟩) ?_
  refine wpHold_val ⟨_, #[], 0, rfl⟩ (wanted_some rfl rfl rfl) (by rintro K _ ⟨o, d, rfl⟩ hK; go_simp; exact hK _ ⟨o, d, rfl⟩) ?_
  refine wpHold_val ⟨_, #[], 0, rfl⟩ (wanted_some rfl rfl rfl) (by rintro K _ ⟨o, d, rfl⟩ hK; go_simp; exact hK _ ⟨o, d, rfl⟩) ?_
  refine wpHold_val ⟨_, #[], 0, rfl⟩ (wanted_some rfl rfl rfl) (by rintro K _ ⟨o, d, rfl⟩ hK; go_simp; exact hK _ ⟨o, d, rfl⟩) ?_
  refine wpHold_val ⟨_, #[], 0, rfl⟩ (wanted_some rfl rfl rfl) (by rintro K _ ⟨o, d, rfl⟩ hK; go_simp; exact hK _ ⟨o, d, rfl⟩) ?_
  refine wpHold_val ⟨_, #[], 0, rfl⟩ (wanted_some rfl rfl rfl) (by rintro K _ ⟨o, d, rfl⟩ hK; go_simp; exact hK _ ⟨o, d, rfl⟩) ?_
  refine wpHold_val ⟨_, #[], 0, rfl⟩ (wanted_none rfl) (by rintro K _ ⟨o, d, rfl⟩ hK; go_simp; exact hK _ ⟨o, d, rfl⟩) ?_
  refine wpHold_val ⟨_, #[], 0, rfl⟩ (wanted_none rfl) (by rintro K _ ⟨o, d, rfl⟩ hK; go_simp; exact hK _ ⟨o, d, rfl⟩) ?_
  refine wpHold_val ⟨_, #[], 0, rfl⟩ (wanted_some rfl rfl rfl) (by rintro K _ ⟨o, d, rfl⟩ hK; go_simp; exact hK _ ⟨o, d, rfl⟩) ?_
  refine wpHold_val ⟨_, #[], 0, rfl⟩ (wanted_some rfl rfl rfl) (by rintro K _ ⟨o, d, rfl⟩ hK; go_simp; exact hK _ ⟨o, d, rfl⟩) ?_
  refine wpHold_val ⟨_, #[], 0, rfl⟩ (wanted_some rfl rfl rfl) (by rintro K _ ⟨o, d, rfl⟩ hK; go_simp; exact hK _ ⟨o, d, rfl⟩) ?_
  refine wpHold_val ⟨_, #[], 0, rfl⟩ (wanted_some rfl rfl rfl) (by rintro K _ ⟨o, d, rfl⟩ hK; go_simp; exact hK _ ⟨o, d, rfl⟩) ?_
  refine wpHold_val ⟨_, #[], 0, rfl⟩ (wanted_some rfl rfl rfl) (by rintro K _ ⟨o, d, rfl⟩ hK; go_simp; exact hK _ ⟨o, d, rfl⟩) ?_
  refine wpHold_val ⟨_, #[], 0, rfl⟩ (wanted_some rfl rfl rfl) (by rintro K _ ⟨o, d, rfl⟩ hK; go_simp; exact hK _ ⟨o, d, rfl⟩) ?_
  refine wpHold_val ⟨_, #[], 0, rfl⟩ (wanted_some rfl rfl rfl) (by rintro K _ ⟨o, d, rfl⟩ hK; go_simp; exact hK _ ⟨o, d, rfl⟩) ?_
  refine wpHold_val ⟨_, #[], 0, rfl⟩ (wanted_some rfl rfl rfl) (by rintro K _ ⟨o, d, rfl⟩ hK; go_simp; exact hK _ ⟨o, d, rfl⟩) ?_
  refine wpHold_val ⟨_, #[], 0, rfl⟩ (wanted_none rfl) (by rintro K _ ⟨o, d, rfl⟩ hK; go_simp; exact hK _ ⟨o, d, rfl⟩) ?_
  refine wpHold_nil ?_
  rintro _ ⟨o2, d2, rfl⟩
  have hbA := below_more (Below.refl W4.heap.size W4) o2 d2
  have K5 := Lib.hid (K4.out.grow hbA)
  have N5 := Lib.hid (N4.out.grow hbA)
  have X5 := Lib.hid (X4.out.grow hbA)
  have B5 := Lib.hid (B4.out.trans (hbA.mono B4.out.size))
  clear hbA K4 N4 X4 B4 Y4 hcv1 hcv2 hsl
  generalize W4.plus o2 d2 = W5 at *
  obtain ⟨k1, k2, k3⟩ := K5.out
  obtain ⟨n1, n2, n3⟩ := N5.out
  go_wp2_with fail
  refine (HBl.out _).mono ?_
  rintro e W6 ⟨rfl, hb6⟩
  have X6 := Lib.hid (X5.out.grow hb6)
  have B6 := Lib.hid (B5.out.trans (hb6.mono B5.out.size))
  clear hb6 k1 k2 k3 n1 n2 n3 K5 N5 X5 B5
  go_wp2_with fail
  have hbA := below_alloc (Below.refl W6.heap.size W6) (.cells (bysA Z) 27)
  have Z7 := Lib.hid (RowAt.of (block_new W6 (.cells (bysA Z) 27)))
  have X7 := Lib.hid (X6.out.grow hbA)
  have B7 := Lib.hid (B6.out.trans (hbA.mono B6.out.size))
  clear hbA X6 B6
  generalize W6.heap.size = gz at *
  generalize W6.alloc (.cells (bysA Z) 27) = W7 at *
  by_cases h64 : M < 64
  · have h64' : (M : Int) < 64 := by omega
    refine wp_region_fast (fun w' => ∃ o d, w' = W7.plus o d) (by kernel_rfl) (by kernel_rfl) ⟨#[], _, rfl⟩ ?_
    refine wpHold_val ⟨_, #[], 0, rfl⟩ (wanted_none rfl) (by rintro K _ ⟨o, d, rfl⟩ hK; go_simp; exact hK _ ⟨o, d, rfl⟩) ?_
    refine wpHold_val ⟨_, #[], 0, rfl⟩ (wanted_none rfl) (by rintro K _ ⟨o, d, rfl⟩ hK; go_simp; exact hK _ ⟨o, d, rfl⟩) ?_
    refine wpHold_val ⟨_, #[], 0, rfl⟩ (wanted_none rfl) (by rintro K _ ⟨o, d, rfl⟩ hK; go_simp; exact hK _ ⟨o, d, rfl⟩) ?_
    refine wpHold_val ⟨_, #[], 0, rfl⟩ (wanted_none rfl) (by rintro K _ ⟨o, d, rfl⟩ hK; go_simp; exact hK _ ⟨o, d, rfl⟩) ?_
    iterate 6 (refine wpHold_skip (unwanted rfl rfl rfl) ?_)
    refine wpHold_val ⟨_, #[], 0, rfl⟩ (wanted_none rfl) (by rintro K _ ⟨o, d, rfl⟩ hK; go_simp; exact hK _ ⟨o, d, rfl⟩) ?_
    refine wpHold_val ⟨_, #[], 0, rfl⟩ (wanted_none rfl) (by rintro K _ ⟨o, d, rfl⟩ hK; go_simp; exact hK _ ⟨o, d, rfl⟩) ?_
    refine wpHold_nil ?_
    rintro _ ⟨o3, d3, rfl⟩
    go_wp2_with fail
    go_ret
    exact ⟨rfl, below_more B7.out _ _⟩
  · have h64' : ¬ (M : Int) < 64 := by omega
    have hsl := slB_hi (some ⟨g1, 0, none⟩) M M (by omega)
    have hcv1 : ∀ o d, (cvBS (.slice (some ⟨g1, 0, none⟩) 64 M)).run Try.prog (W7.plus o d) = .ok (.string (toS Z)) (W7.plus o d) := fun o d => by
      have h1 := (Bs0.some (bytes_row (X7.out.grow (below_more (Below.refl _ _) o d)))).take 64
      rw [Htake.out (by omega)] at h1
      exact run_cvBS h1 Hl3.out.symm
    have hcv2 : ∀ o d, (cvBS (.slice (some ⟨gz, 0, none⟩) 64 64)).run Try.prog (W7.plus o d) = .ok (.string (toS Z)) (W7.plus o d) := fun o d => run_cvBS (Bs0.some (bytes_row (Z7.out.grow (below_more (Below.refl _ _) o d)))) Hl3.out.symm
    generalize toS Z = SZ at *
    refine wp_region_fast (fun w' => ∃ o d, w' = W7.plus o d) (by kernel_rfl) (by kernel_rfl) ⟨#[], _, rfl⟩ ?_
    refine wpHold_val ⟨_, #[], 0, rfl⟩ (wanted_none rfl) (by rintro K _ ⟨o, d, rfl⟩ hK; go_simp; exact hK _ ⟨o, d, rfl⟩) ?_
    refine wpHold_val ⟨_, #[], 0, rfl⟩ (wanted_none rfl) (by rintro K _ ⟨o, d, rfl⟩ hK; go_simp; exact hK _ ⟨o, d, rfl⟩) ?_
    refine wpHold_val ⟨_, #[], 0, rfl⟩ (wanted_none rfl) (by rintro K _ ⟨o, d, rfl⟩ hK; go_simp; exact hK _ ⟨o, d, rfl⟩) ?_
    refine wpHold_val ⟨_, #[], 0, rfl⟩ (wanted_none rfl) (by rintro K _ ⟨o, d, rfl⟩ hK; go_simp; exact hK _ ⟨o, d, rfl⟩) ?_
    refine wpHold_val ⟨_, #[], 0, rfl⟩ (wanted_some rfl rfl rfl) (by rintro K _ ⟨o, d, rfl⟩ hK; go_simp; exact hK _ ⟨o, d, rfl⟩) ?_
    refine wpHold_val ⟨_, #[], 0, rfl⟩ (wanted_some rfl rfl rfl) (by rintro K _ ⟨o, d, rfl⟩ hK; go_simp; exact hK _ ⟨o, d, rfl⟩) ?_
    refine wpHold_val ⟨_, #[], 0, rfl⟩ (wanted_some rfl rfl rfl) (by rintro K _ ⟨o, d, rfl⟩ hK; go_simp; exact hK _ ⟨o, d, rfl⟩) ?_
    refine wpHold_val ⟨_, #[], 0, rfl⟩ (wanted_some rfl rfl rfl) (by rintro K _ ⟨o, d, rfl⟩ hK; go_simp; exact hK _ ⟨o, d, rfl⟩) ?_
    refine wpHold_val ⟨_, #[], 0, rfl⟩ (wanted_some rfl rfl rfl) (by rintro K _ ⟨o, d, rfl⟩ hK; go_simp; exact hK _ ⟨o, d, rfl⟩) ?_
    refine wpHold_val ⟨_, #[], 0, rfl⟩ (wanted_some rfl rfl rfl) (by rintro K _ ⟨o, d, rfl⟩ hK; go_simp; exact hK _ ⟨o, d, rfl⟩) ?_
    refine wpHold_val ⟨_, #[], 0, rfl⟩ (wanted_none rfl) (by rintro K _ ⟨o, d, rfl⟩ hK; go_simp; exact hK _ ⟨o, d, rfl⟩) ?_
    refine wpHold_val ⟨_, #[], 0, rfl⟩ (wanted_none rfl) (by rintro K _ ⟨o, d, rfl⟩ hK; go_simp; exact hK _ ⟨o, d, rfl⟩) ?_
    refine wpHold_nil ?_
    rintro _ ⟨o3, d3, rfl⟩
    go_wp2_with fail
    go_ret
    exact ⟨rfl, below_more B7.out _ _⟩
end Go.Proofs.Ytcaleepbnjlbpaa
