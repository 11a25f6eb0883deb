/-
  Package hmac: the tag.
-/
import Derived.Test.YtikpglemnnbdcaaDoorHmacConcat
namespace Go.Proofs.YtikpglemnnbdcaaDoor
open Go.RowKit Go.Hold Go.Sh

/-! ### Slices of slices that are built -/
def bldV (n : Nat) (ps : Array (Nat × Value)) : Sem Value := Instr.buildSlice 59 n ps
@[go_sem ↓] theorem fold_bldV (n : Nat) (ps : Array (Nat × Value)) : Instr.buildSlice 59 n ps = bldV n ps := rfl
theorem info_sl : (Tryd.prog.info? 22).map (fun i => (i.zero, i.size, i.bytes)) = some (some (.slice none 0 0), 1, 24) := by kernel_rfl
set_option maxRecDepth 100000 in
@[go_sem] theorem run_bldV2 (w : World) (p q : Option Addr) (l c m d : Nat) : (bldV 2 #[(0, .slice p l c), (1, .slice q m d)]).run Tryd.prog w = .ok (.slice (some ⟨w.heap.size, 0, none⟩) 2 2) (w.alloc (.cells #[.slice p l c, .slice q m d] 22)) := by
  obtain ⟨ie, h1, h2, h3, _⟩ := info_parts info_sl
  refine run_buildSlice w _ _ 2 _ #[.slice p l c, .slice q m d] ie _ Tryd.underlying59 h1 h2 (by rw [h3]; decide) (by rw [h3]; decide) ?_
  rw [h3]; kernel_rfl
set_option maxRecDepth 100000 in
@[go_sem] theorem run_bldV3 (w : World) (p q r : Option Addr) (l c m d n e : Nat) : (bldV 3 #[(0, .slice p l c), (1, .slice q m d), (2, .slice r n e)]).run Tryd.prog w = .ok (.slice (some ⟨w.heap.size, 0, none⟩) 3 3) (w.alloc (.cells #[.slice p l c, .slice q m d, .slice r n e] 22)) := by
  obtain ⟨ie, h1, h2, h3, _⟩ := info_parts info_sl
  refine run_buildSlice w _ _ 3 _ #[.slice p l c, .slice q m d, .slice r n e] ie _ Tryd.underlying59 h1 h2 (by rw [h3]; decide) (by rw [h3]; decide) ?_
  rw [h3]; kernel_rfl
/-- Concat of two. -/
theorem concat2_c {W : World} {g : Nat} {p q : Option Addr} {l m : List Nat} {n1 n2 c d : Nat} (hg : RowAt W g #[.slice p n1 c, .slice q n2 d]) (h1 : n1 = l.length) (h2 : n2 = m.length)
    (hp : Bs0 W p l) (hq : Bs0 W q m) (hpc : p = none → c = 0) (hqd : q = none → d = 0) (hn : l.length + m.length ≤ 16000000) :
    Calls Tryd.prog 23 #[.slice (some ⟨g, 0, none⟩) 2 2] W fun e w' => ∃ v, e = .returned v ∧ OwnB w' W.heap.size v (l ++ m) ∧ Below W.heap.size W w' := by
  subst h1 h2
  have := concat_c g 2 2 [(p, l, c), (q, m, d)] W rfl hg (fun s hs => by
    rcases List.mem_cons.1 hs with rfl | hs
    · exact ⟨hp, hpc⟩
    · rcases List.mem_cons.1 hs with rfl | hs
      · exact ⟨hq, hqd⟩
      · cases hs) (by simp [flat]; omega) (by decide)
  simpa [flat] using this
theorem concat3_c {W : World} {g : Nat} {p q r : Option Addr} {l m k : List Nat} {n1 n2 n3 c d e : Nat} (hg : RowAt W g #[.slice p n1 c, .slice q n2 d, .slice r n3 e]) (h1 : n1 = l.length) (h2 : n2 = m.length) (h3 : n3 = k.length)
    (hp : Bs0 W p l) (hq : Bs0 W q m) (hr : Bs0 W r k) (hpc : p = none → c = 0) (hqd : q = none → d = 0) (hre : r = none → e = 0) (hn : l.length + m.length + k.length ≤ 16000000) :
    Calls Tryd.prog 23 #[.slice (some ⟨g, 0, none⟩) 3 3] W fun x w' => ∃ v, x = .returned v ∧ OwnB w' W.heap.size v (l ++ m ++ k) ∧ Below W.heap.size W w' := by
  subst h1 h2 h3
  have := concat_c g 3 3 [(p, l, c), (q, m, d), (r, k, e)] W rfl hg (fun s hs => by
    rcases List.mem_cons.1 hs with rfl | hs
    · exact ⟨hp, hpc⟩
    · rcases List.mem_cons.1 hs with rfl | hs
      · exact ⟨hq, hqd⟩
      · rcases List.mem_cons.1 hs with rfl | hs
        · exact ⟨hr, hre⟩
        · cases hs) (by simp [flat]; omega) (by decide)
  simpa [flat, List.append_assoc] using this

set_option maxHeartbeats 600000 in
set_option maxRecDepth 100000 in
theorem mac_c (kc bc : Nat) (kp bp : Option Addr) (k b : List Nat) (w : World) (hT : Tabs w) (hk : k.length ≤ 1000000) (hkb : ∀ i, k.getD i 0 < 256) (hkB : Bs0 w kp k) (hkc : k.length ≤ kc)
    (hb : b.length ≤ 1000000) (hbb : ∀ i, b.getD i 0 < 256) (hbB : Bs0 w bp b) (hbc : bp = none → bc = 0) :
    Calls Tryd.prog 10 #[.slice kp k.length kc, .slice bp b.length bc] w fun e w' => e = .returned (.agg (keA (mac k b))) ∧ Below w.heap.size w w' := by
  have HT := Lib.hid hT
  have HbB := Lib.hid hbB
  have HF := Lib.hid (fun (W : World) (hW : Below w.heap.size w W) => filled_c kc kp k W (hT.grow hW) hk hkb (hkB.grow hW) hkc)
  have hFb := Lib.hid (fillK_bts hkb)
  have hFl := fillK_length k
  obtain ⟨M, eM⟩ : ∃ M, M = mac k b := ⟨_, rfl⟩
  rw [← eM]
  unfold mac at eM
  generalize fillK k = F at *
  obtain ⟨nk, enk⟩ : ∃ n, n = k.length := ⟨_, rfl⟩
  obtain ⟨nb, enb⟩ : ∃ n, n = b.length := ⟨_, rfl⟩
  rw [← enk] at HF ⊢
  rw [← enb] at hb ⊢
  have Enb := Lib.hid enb
  have EM := Lib.hid eM
  have Hbc := Lib.hid hbc
  have Hbb := Lib.hid hbb
  have HFl := Lib.hid hFl
  have hx54 := Lib.hid (xorL_bts (m := 54) (by decide) hFb.out)
  have hx92 := Lib.hid (xorL_bts (m := 92) (by decide) hFb.out)
  clear hT hbB enk enb eM hbc hbb hFl hkB hkb hk hkc
  go_enter Tryd.func10, Tryd.ntmps10
  go_wp2_with fail
  generalize hW : World.alloc _ _ = W0
  obtain ⟨z0, hz0, hR0⟩ : ∃ c, c.size = 32 ∧ RowAt W0 w.heap.size c := by rw [← hW]; clear hW; exact ⟨byI (List.replicate 32 0), by simp [byI], by go_simp, by go_simp; rfl, by go_simp⟩
  have R0 := Lib.hid hR0
  clear hR0
  have B0 := Lib.hid (show Below w.heap.size w W0 by rw [← hW]; exact below_alloc (Below.refl _ _) _)
  clear hW
  refine (HF.out W0 B0.out).mono ?_
  rintro e W1 ⟨g, rfl, hR, hg, hb1⟩
  have R1 := Lib.hid (R0.out.grow hb1)
  have G1 := Lib.hid hR
  have B1 := Lib.hid (B0.out.trans (hb1.mono B0.out.size))
  clear hR hb1 R0 HF
  go_wp2_with fail
  refine (masked_c g 64 54 F W1 HFl.out hFb.out (by decide) (bytes_row G1.out)).mono ?_
  rintro e W2 ⟨x, rfl, hX, hx, hb2⟩
  have R2 := Lib.hid (R1.out.grow hb2)
  have G2 := Lib.hid (G1.out.grow hb2)
  have X2 := Lib.hid hX
  have B2 := Lib.hid (B1.out.trans (hb2.mono B1.out.size))
  clear hX hb2 R1 G1
  go_wp2_with fail
  have BA := below_alloc (Below.refl W2.heap.size W2) (.cells #[.slice (some ⟨x, 0, none⟩) 64 64, .slice bp nb bc] 22)
  refine (concat2_c (RowAt.of (block_new W2 _)) (by rw [xorL_length, HFl.out]) Enb.out (Bs0.some (bytes_row (X2.out.grow BA))) ((HbB.out.grow B2.out).grow BA) (fun h => by cases h) Hbc.out (by rw [xorL_length, HFl.out, ← Enb.out]; omega)).mono ?_
  rintro e W3 ⟨v, rfl, hown, hb3⟩
  have hb3' := BA.trans (hb3.mono BA.size)
  obtain ⟨pv, cv, rfl, hBs, hcv, _⟩ := hown.bs
  have R3 := Lib.hid (R2.out.grow hb3')
  have G3 := Lib.hid (G2.out.grow hb3')
  have B3 := Lib.hid (B2.out.trans (hb3'.mono B2.out.size))
  obtain ⟨L1, eL1⟩ : ∃ L, L = xorL 54 F ++ b := ⟨_, rfl⟩
  have HL1b := Lib.hid (show ∀ i, L1.getD i 0 < 256 by rw [eL1]; exact bts_app hx54.out Hbb.out)
  have hL1 : L1.length ≤ 2000000 := by rw [eL1, List.length_append, xorL_length, HFl.out, ← Enb.out]; omega
  rw [← eL1] at hBs hcv ⊢
  have EL1 := Lib.hid eL1
  have HS := Lib.hid (sum_c cv pv L1 W3 (HT.out.grow B3.out) (by omega) HL1b.out hBs hcv)
  obtain ⟨n1, en1⟩ : ∃ n, n = L1.length := ⟨_, rfl⟩
  rw [← en1] at HS ⊢
  obtain ⟨D1, eD1⟩ : ∃ D, D = dig L1 := ⟨_, rfl⟩
  rw [← eD1] at HS
  have ED1 := Lib.hid eD1
  clear hb3 hb3' hown hBs hcv en1 eL1 hL1 eD1 R2 G2 X2 BA
  go_wp2_with fail
  refine HS.out.mono ?_
  rintro e W4 ⟨rfl, hb4⟩
  have R4 := Lib.hid (R3.out.grow hb4)
  have G4 := Lib.hid (G3.out.grow hb4)
  have B4 := Lib.hid (B3.out.trans (hb4.mono B3.out.size))
  clear hb4 R3 G3 HS
  go_wp2_with fail
  generalize hW : World.alloc _ _ = W5
  have R5 := Lib.hid (show RowAt W5 w.heap.size z0 by rw [← hW]; exact R4.out.grow (below_alloc (Below.refl _ _) _))
  have G5 := Lib.hid (show RowAt W5 g (bysA F) by rw [← hW]; exact G4.out.grow (below_alloc (Below.refl _ _) _))
  have D5 := Lib.hid (show RowAt W5 W4.heap.size (keA D1) by rw [← hW]; exact RowAt.of (block_new W4 _))
  have B5 := Lib.hid (show Below w.heap.size w W5 by rw [← hW]; exact below_alloc B4.out _)
  clear hW R4 G4
  generalize W4.heap.size = y at *
  refine wp_region_pickT W5 [0, 2] [false, true] [1, 3, 4, 5, 6] (by kernel_rfl) (by kernel_rfl) (by intro c a d v w h; cases d <;> exact h) ((Below.refl _ _).drew) ?_
  simp only [pick, List.getElem?_cons_succ, List.getElem?_cons_zero]
  refine wpHoldF_val (wanted_none rfl) (by intro K o d hK; go_simp; exact hK _ (Below.refl _ _)) ?_
  refine wpHoldF_late (wanted_none rfl) (fun w => by go_simp; rfl) ?_
  refine wpHoldF_nil ?_
  intro W6 hb6
  have R6 := Lib.hid (R5.out.grow hb6)
  have G6 := Lib.hid (G5.out.grow hb6)
  have D6 := Lib.hid (D5.out.grow hb6)
  have B6 := Lib.hid (B5.out.trans (hb6.mono B5.out.size))
  clear hb6 R5 G5 D5
  go_wp2_with fail
  refine (masked_c g 64 92 F W6 HFl.out hFb.out (by decide) (bytes_row G6.out)).mono ?_
  rintro e W7 ⟨x2, rfl, hX, hx2, hb7⟩
  have R7 := Lib.hid (R6.out.grow hb7)
  have D7 := Lib.hid (D6.out.grow hb7)
  have X7 := Lib.hid hX
  have B7 := Lib.hid (B6.out.trans (hb7.mono B6.out.size))
  clear hX hb7 R6 G6 D6
  go_wp2_with fail
  have BA := below_alloc (Below.refl W7.heap.size W7) (.cells #[.slice (some ⟨x2, 0, none⟩) 64 64, .slice (some ⟨y, 0, none⟩) 32 32] 22)
  refine (concat2_c (RowAt.of (block_new W7 _)) (by rw [xorL_length, HFl.out]) (keyN_length D1).symm (Bs0.some (bytes_row (X7.out.grow BA))) (Bs0.some (keyN_row (D7.out.grow BA))) (fun h => by cases h) (fun h => by cases h) (by rw [xorL_length, HFl.out, keyN_length]; decide)).mono ?_
  rintro e W8 ⟨v, rfl, hown, hb8⟩
  have hb8' := BA.trans (hb8.mono BA.size)
  obtain ⟨pv2, cv2, rfl, hBs, hcv, _⟩ := hown.bs
  have R8 := Lib.hid (R7.out.grow hb8')
  have B8 := Lib.hid (B7.out.trans (hb8'.mono B7.out.size))
  obtain ⟨L2, eL2⟩ : ∃ L, L = xorL 92 F ++ keyN D1 := ⟨_, rfl⟩
  have HL2b := Lib.hid (show ∀ i, L2.getD i 0 < 256 by rw [eL2]; exact bts_app hx92.out (keyN_bts _))
  have hL2 : L2.length ≤ 2000000 := by rw [eL2, List.length_append, xorL_length, HFl.out, keyN_length]; decide
  rw [← eL2] at hBs hcv ⊢
  have HS := Lib.hid (sum_c cv2 pv2 L2 W8 (HT.out.grow B8.out) (by omega) HL2b.out hBs hcv)
  rw [show dig L2 = M by rw [EM.out, eL2, ED1.out, EL1.out]] at HS
  obtain ⟨n2, en2⟩ : ∃ n, n = L2.length := ⟨_, rfl⟩
  rw [← en2] at HS ⊢
  clear hb8 hb8' hown hBs hcv en2 eL2 hL2 R7 D7 X7 BA
  go_wp2_with fail
  refine HS.out.mono ?_
  rintro e W9 ⟨rfl, hb9⟩
  obtain ⟨r1, r2, r3⟩ := R8.out.grow hb9
  have B9 := Lib.hid (B8.out.trans (hb9.mono B8.out.size))
  clear hb9 R8 HS
  go_wp2_with fail
  refine bodyPost_ret (v := .agg (keA M)) (results_key Tryd.results10 (keA_size _) _ _ _ rfl (by go_simp) (by go_simp)) rfl ⟨rfl, ?_⟩
  exact below_setRow B9.out (Nat.le_refl _) _
end Go.Proofs.YtikpglemnnbdcaaDoor
