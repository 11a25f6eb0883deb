/-
  Part 11 of the texts behind the theorem.
-/
import Derived.Test.YtddmjddlbhdcpaaGreatDoorPart10
import Derived.Test.YtddmjddlbhdcpaaGreatDoorPart9
import Derived.Test.YtddmjddlbhdcpaaGreatDoorPart7
/-
  A header is unwrapped only if its Gamma is the proof of its Beta.
-/
namespace Go.Proofs.YtddmjddlbhdcpaaGreatDoor
open Go.RowKit Go.Hold Go.Sh Go.Ch Go.Cm Go.Hd

set_option maxHeartbeats 3000000 in
set_option maxRecDepth 100000 in
theorem proved_any (o H : List Nat) (ho : o.length = 32) (hob : ∀ i, o.getD i 0 < 256) (hHl : H.length = 208) (hHb : ∀ i, H.getD i 0 < 256) (w : World) (hT : Tabs w) :
    Calls Tryz.prog 7 #[.agg (bysA o), .agg (bysA H)] w fun e w' => e = .returned (.bool true) ∧ Below w.heap.size w w' := by
  obtain ⟨a, b, g, hp⟩ : ∃ a b g, HdParts H a b g := ⟨_, _, _, HdParts.of hHl hHb⟩
  have hHs := bysA_size' hHl
  have hos := bysA_size' ho
  have hA : H.take 32 = a := by rw [hp.eq, List.append_assoc, show 32 = a.length from hp.al.symm, List.take_left]
  have hB : (H.drop 32).take 160 = b := by rw [hp.eq, List.append_assoc, show 32 = a.length from hp.al.symm, List.drop_left, show 160 = b.length from hp.bl.symm, List.take_left]
  have hG : (H.drop 192).take 16 = g := by rw [hp.eq, show 192 = (a ++ b).length by rw [List.length_append, hp.al, hp.bl], List.drop_left, List.take_of_length_le (by rw [hp.gl]; exact Nat.le_refl _)]
  have has := bysA_size' hp.al
  have hbs := bysA_size' hp.bl
  have hgs := bysA_size' hp.gl
  have HT := Lib.hid hT
  have KU := Lib.hid (fun (W : World) (h : Tabs W) => unwrap_c o a b g ho hob hp.al hp.ab hp.bl hp.bb hp.gl hp.gb W h)
  rw [← hp.eq] at KU
  have KS := Lib.hid (fun (W : World) => bshared_c o a ho hob hp.al hp.ab W)
  have hsl := keyB_length (shB o a)
  have hss := bysA_size' hsl
  have KP := Lib.hid (fun (W : World) (h : Tabs W) => hproof_c (keyB (shB o a)) b hsl (keyB_bts _) hp.bl hp.bb W h)
  have hPs := bysA_size' (prf_length (keyB (shB o a)) b)
  have hz := stpOk_zero
  have hzs := stepA_size hz
  have hbz := beqS_self Stp.zero
  have hz16 := bysA_size' (zs_length 16)
  have hz32 := bysA_size' (zs_length 32)
  have hV : unwV o a b g = if unwE o a b g = 0 then stpOf a b (keyB (shB o a)) else .zero := rfl
  have hE : unwE o a b g = (if shB o a = 0 then 7 else if ¬ prf (keyB (shB o a)) b = g then 6 else if okB ((opn (keyB (shB o a)) b).take 16) = false then 5 else if nxA (keyB (shB o a)) a = 0 then 7 else 0) := rfl
  have HX := Lib.hid (fun (h : unwE o a b g = 0) => show StpOk (stpOf a b (keyB (shB o a))) from ⟨ofB_id _ (by rw [List.length_take, opn_length hp.bl]; rfl), by
    show (keyB (nxA (keyB (shB o a)) a) ++ (opn (keyB (shB o a)) b).drop 32 ++ ((opn (keyB (shB o a)) b).drop 16).take 16).length = 208
    rw [List.length_append, List.length_append, keyB_length, List.length_drop, List.length_take, List.length_drop, opn_length hp.bl]; rfl, keyB_length _, tagS_length _⟩)
  have HM := Lib.hid (fun (h : ¬ okB ((opn (keyB (shB o a)) b).take 16) = false) => show (stpOf a b (keyB (shB o a))).c.may = true from by
    have h1 : okB ((opn (keyB (shB o a)) b).take 16) = true := by simpa using h
    unfold okB at h1
    simp only [Bool.and_eq_true] at h1
    exact h1.2)
  have HS := Lib.hid (show (stpOf a b (keyB (shB o a))).s = keyB (shB o a) from rfl)
  rw [hV] at KU
  clear hV hT ho hob hHl hHb
  by_cases h1 : shB o a = 0
  · rw [if_pos h1] at hE
    rw [hE] at KU
    rw [errOf_zero h1] at KS
    rw [if_neg (show ¬ (7 : Int) = 0 by decide)] at KU
    obtain ⟨X, eX⟩ : ∃ X, X = Stp.zero := ⟨_, rfl⟩
    rw [← eX] at KU hzs hz hbz
    have hbX : beqS X Stp.zero = true := by rw [eX]; exact beqS_self _
    have hz0 := stpOk_zero
    have hzst := stepA_size hz0
    clear eX HX HM HS hE
    clear h1
    generalize prf (keyB (shB o a)) b = P at *
    generalize keyB (shB o a) = s at *
    go_enter Tryz.func7, Tryz.ntmps7
    go_wp2_with fail
    generalize hW : World.alloc _ _ = W0
    have R0x0 := Lib.hid (show RowAt W0 (w.heap.size) (bysA o) by rw [← hW]; clear hW; exact ⟨by go_simp, by first | (go_simp; done) | (go_simp; rfl), by go_simp⟩)
    have R0x1 := Lib.hid (show RowAt W0 (w.heap.size + 1) (bysA H) by rw [← hW]; clear hW; exact ⟨by go_simp, by first | (go_simp; done) | (go_simp; rfl), by go_simp⟩)
    have B0 := Lib.hid (show Below w.heap.size w W0 by rw [← hW]; repeat (first | apply below_alloc | exact Below.refl _ _))
    clear hW
    have l_z : w.heap.size ≤ w.heap.size := by omega
    have l_y : w.heap.size ≤ w.heap.size + 1 := by omega
    have n_z_y : w.heap.size ≠ w.heap.size + 1 := by omega
    generalize w.heap.size + 1 = y at *
    obtain ⟨z, ez⟩ : ∃ z, z = w.heap.size := ⟨_, rfl⟩
    rw [← ez] at R0x0 n_z_y ⊢
    have l_z : w.heap.size ≤ z := by rw [ez]; exact Nat.le_refl _
    clear ez
    refine (alive10_c W0 (HT.out.grow B0.out)).mono ?_
    rintro e W1 ⟨rfl, hb1⟩
    have R1x0 := Lib.hid (R0x0.out.grow hb1)
    have R1x1 := Lib.hid (R0x1.out.grow hb1)
    have B1 := Lib.hid (B0.out.trans (hb1.mono B0.out.size))
    clear hb1 B0 R0x0 R0x1
    obtain ⟨R1x0a, R1x0b, R1x0c⟩ := R1x0.out
    obtain ⟨R1x1a, R1x1b, R1x1c⟩ := R1x1.out
    go_wp2_with fail
    refine (KU.out _ (HT.out.grow B1.out)).mono ?_
    rintro e W2 ⟨rfl, hb2⟩
    clear R1x0a R1x0b R1x0c R1x1a R1x1b R1x1c
    have R2x0 := Lib.hid (R1x0.out.grow hb2)
    have R2x1 := Lib.hid (R1x1.out.grow hb2)
    have B2 := Lib.hid (B1.out.trans (hb2.mono B1.out.size))
    clear hb2 B1 R1x0 R1x1
    obtain ⟨R2x0a, R2x0b, R2x0c⟩ := R2x0.out
    obtain ⟨R2x1a, R2x1b, R2x1c⟩ := R2x1.out
    go_wp2_with fail
    have n_z_st : z ≠ W2.heap.size := Nat.ne_of_lt R2x0.out.2.2
    have n_y_st : y ≠ W2.heap.size := Nat.ne_of_lt R2x1.out.2.2
    have l_st : w.heap.size ≤ W2.heap.size := B2.out.size
    have hb3 := below_alloc (Below.refl W2.heap.size W2) (.cells (stepA X) 53)
    have N3 := Lib.hid (RowAt.of (block_new W2 (.cells (stepA X) 53)))
    have R3x0 := Lib.hid (R2x0.out.grow hb3)
    have R3x1 := Lib.hid (R2x1.out.grow hb3)
    have B3 := Lib.hid (B2.out.trans (hb3.mono B2.out.size))
    clear hb3 B2 R2x0 R2x1 R2x0a R2x0b R2x0c R2x1a R2x1b R2x1c
    generalize W2.heap.size = st at *
    generalize W2.alloc (.cells (stepA X) 53) = W3 at *
    refine (KS.out _).mono ?_
    rintro e W4 ⟨rfl, hb4⟩
    have R4x0 := Lib.hid (R3x0.out.grow hb4)
    have R4x1 := Lib.hid (R3x1.out.grow hb4)
    have R4x2 := Lib.hid (N3.out.grow hb4)
    have B4 := Lib.hid (B3.out.trans (hb4.mono B3.out.size))
    clear hb4 B3 R3x0 R3x1 N3
    obtain ⟨R4x0a, R4x0b, R4x0c⟩ := R4x0.out
    obtain ⟨R4x1a, R4x1b, R4x1c⟩ := R4x1.out
    obtain ⟨R4x2a, R4x2b, R4x2c⟩ := R4x2.out
    go_wp2_with fail
    go_ret
    exact ⟨rfl, by first | exact below_alloc B4.out _ | exact B4.out | exact below_alloc (below_alloc B4.out _) _⟩
  rw [if_neg h1] at hE
  rw [errOf_ne h1] at KS
  clear h1
  by_cases h2 : prf (keyB (shB o a)) b = g
  · rw [if_neg (fun h => h h2)] at hE
    by_cases h3 : okB ((opn (keyB (shB o a)) b).take 16) = false
    · rw [if_pos h3] at hE
      rw [hE] at KU
      rw [if_neg (show ¬ (5 : Int) = 0 by decide)] at KU
      obtain ⟨X, eX⟩ : ∃ X, X = Stp.zero := ⟨_, rfl⟩
      rw [← eX] at KU hzs hz hbz
      have hbX : beqS X Stp.zero = true := by rw [eX]; exact beqS_self _
      have hz0 := stpOk_zero
      have hzst := stepA_size hz0
      clear eX HX HM HS hE
      clear h3
      rw [h2] at KP
      clear h2 hPs
      obtain ⟨P, eP⟩ : ∃ P, P = g := ⟨_, rfl⟩
      have hPs : (bysA P).size = 16 := by rw [eP]; exact hgs
      have hPg : (P = g) = True := eq_true eP
      rw [← eP] at KP
      generalize keyB (shB o a) = s at *
      clear eP
      go_enter Tryz.func7, Tryz.ntmps7
      go_wp2_with fail
      generalize hW : World.alloc _ _ = W0
      have R0x0 := Lib.hid (show RowAt W0 (w.heap.size) (bysA o) by rw [← hW]; clear hW; exact ⟨by go_simp, by first | (go_simp; done) | (go_simp; rfl), by go_simp⟩)
      have R0x1 := Lib.hid (show RowAt W0 (w.heap.size + 1) (bysA H) by rw [← hW]; clear hW; exact ⟨by go_simp, by first | (go_simp; done) | (go_simp; rfl), by go_simp⟩)
      have B0 := Lib.hid (show Below w.heap.size w W0 by rw [← hW]; repeat (first | apply below_alloc | exact Below.refl _ _))
      clear hW
      have l_z : w.heap.size ≤ w.heap.size := by omega
      have l_y : w.heap.size ≤ w.heap.size + 1 := by omega
      have n_z_y : w.heap.size ≠ w.heap.size + 1 := by omega
      generalize w.heap.size + 1 = y at *
      obtain ⟨z, ez⟩ : ∃ z, z = w.heap.size := ⟨_, rfl⟩
      rw [← ez] at R0x0 n_z_y ⊢
      have l_z : w.heap.size ≤ z := by rw [ez]; exact Nat.le_refl _
      clear ez
      refine (alive10_c W0 (HT.out.grow B0.out)).mono ?_
      rintro e W1 ⟨rfl, hb1⟩
      have R1x0 := Lib.hid (R0x0.out.grow hb1)
      have R1x1 := Lib.hid (R0x1.out.grow hb1)
      have B1 := Lib.hid (B0.out.trans (hb1.mono B0.out.size))
      clear hb1 B0 R0x0 R0x1
      obtain ⟨R1x0a, R1x0b, R1x0c⟩ := R1x0.out
      obtain ⟨R1x1a, R1x1b, R1x1c⟩ := R1x1.out
      go_wp2_with fail
      refine (KU.out _ (HT.out.grow B1.out)).mono ?_
      rintro e W2 ⟨rfl, hb2⟩
      clear R1x0a R1x0b R1x0c R1x1a R1x1b R1x1c
      have R2x0 := Lib.hid (R1x0.out.grow hb2)
      have R2x1 := Lib.hid (R1x1.out.grow hb2)
      have B2 := Lib.hid (B1.out.trans (hb2.mono B1.out.size))
      clear hb2 B1 R1x0 R1x1
      obtain ⟨R2x0a, R2x0b, R2x0c⟩ := R2x0.out
      obtain ⟨R2x1a, R2x1b, R2x1c⟩ := R2x1.out
      go_wp2_with fail
      have n_z_st : z ≠ W2.heap.size := Nat.ne_of_lt R2x0.out.2.2
      have n_y_st : y ≠ W2.heap.size := Nat.ne_of_lt R2x1.out.2.2
      have l_st : w.heap.size ≤ W2.heap.size := B2.out.size
      have hb3 := below_alloc (Below.refl W2.heap.size W2) (.cells (stepA X) 53)
      have N3 := Lib.hid (RowAt.of (block_new W2 (.cells (stepA X) 53)))
      have R3x0 := Lib.hid (R2x0.out.grow hb3)
      have R3x1 := Lib.hid (R2x1.out.grow hb3)
      have B3 := Lib.hid (B2.out.trans (hb3.mono B2.out.size))
      clear hb3 B2 R2x0 R2x1 R2x0a R2x0b R2x0c R2x1a R2x1b R2x1c
      generalize W2.heap.size = st at *
      generalize W2.alloc (.cells (stepA X) 53) = W3 at *
      refine (KS.out _).mono ?_
      rintro e W4 ⟨rfl, hb4⟩
      have R4x0 := Lib.hid (R3x0.out.grow hb4)
      have R4x1 := Lib.hid (R3x1.out.grow hb4)
      have R4x2 := Lib.hid (N3.out.grow hb4)
      have B4 := Lib.hid (B3.out.trans (hb4.mono B3.out.size))
      clear hb4 B3 R3x0 R3x1 N3
      obtain ⟨R4x0a, R4x0b, R4x0c⟩ := R4x0.out
      obtain ⟨R4x1a, R4x1b, R4x1c⟩ := R4x1.out
      obtain ⟨R4x2a, R4x2b, R4x2c⟩ := R4x2.out
      go_wp2_with fail
      have n_z_sv : z ≠ W4.heap.size := Nat.ne_of_lt R4x0.out.2.2
      have n_y_sv : y ≠ W4.heap.size := Nat.ne_of_lt R4x1.out.2.2
      have n_st_sv : st ≠ W4.heap.size := Nat.ne_of_lt R4x2.out.2.2
      have l_sv : w.heap.size ≤ W4.heap.size := B4.out.size
      have hb5 := below_alloc (Below.refl W4.heap.size W4) (.cells (bysA s) 23)
      have N5 := Lib.hid (RowAt.of (block_new W4 (.cells (bysA s) 23)))
      have R5x0 := Lib.hid (R4x0.out.grow hb5)
      have R5x1 := Lib.hid (R4x1.out.grow hb5)
      have R5x2 := Lib.hid (R4x2.out.grow hb5)
      have B5 := Lib.hid (B4.out.trans (hb5.mono B4.out.size))
      clear hb5 B4 R4x0 R4x1 R4x2 R4x0a R4x0b R4x0c R4x1a R4x1b R4x1c R4x2a R4x2b R4x2c
      generalize W4.heap.size = sv at *
      generalize W4.alloc (.cells (bysA s) 23) = W5 at *
      obtain ⟨R5x0a, R5x0b, R5x0c⟩ := R5x0.out
      obtain ⟨R5x1a, R5x1b, R5x1c⟩ := R5x1.out
      obtain ⟨R5x2a, R5x2b, R5x2c⟩ := R5x2.out
      obtain ⟨N5a, N5b, N5c⟩ := N5.out
      refine wp_region_pick W5 [0, 1, 2, 3, 4, 5, 6] [false, false, false, false, false, false, false] [] [] 7 (by kernel_rfl) rfl (by kernel_rfl) (by intro c a d v w h; cases d <;> exact h) (by first | exact (Below.refl _ _).drew | exact Below.refl _ _) ?_
      simp only [pick, List.getElem?_cons_succ, List.getElem?_cons_zero, List.drop_succ_cons, List.drop_zero]
      refine wpHoldF_val (wanted_none rfl) (by intro K o d hK; go_simp; exact hK _ (Below.refl _ _)) ?_
      refine wpHoldF_val (wanted_none rfl) (by intro K o d hK; go_simp; exact hK _ (Below.refl _ _)) ?_
      refine wpHoldF_val (wanted_none rfl) (by intro K o d hK; go_simp; exact hK _ (Below.refl _ _)) ?_
      refine wpHoldF_call (v := .agg (bysA P)) (wanted_none rfl) (by intro K o d hK; go_simp; refine (KP.out _ (HT.out.grow (below_plus_of _ _ _ B5.out B5.out.size))).mono ?_; rintro e w' ⟨rfl, hbw⟩; exact ⟨_, rfl, hK _ hbw⟩) ?_
      refine wpHoldF_val (wanted_none rfl) (by intro K o d hK; go_simp; exact hK _ (Below.refl _ _)) ?_
      refine wpHoldF_val (wanted_none rfl) (by intro K o d hK; go_simp; exact hK _ (Below.refl _ _)) ?_
      refine wpHoldF_val (wanted_none rfl) (by intro K o d hK; go_simp; exact hK _ (Below.refl _ _)) ?_
      refine wpHoldF_nil ?_
      intro W6 hb6 hblk
      clear hblk
      clear R5x0a R5x0b R5x0c R5x1a R5x1b R5x1c R5x2a R5x2b R5x2c N5a N5b N5c
      have R6x0 := Lib.hid (R5x0.out.grow hb6)
      have R6x1 := Lib.hid (R5x1.out.grow hb6)
      have R6x2 := Lib.hid (R5x2.out.grow hb6)
      have R6x3 := Lib.hid (N5.out.grow hb6)
      have B6 := Lib.hid (B5.out.trans (hb6.mono B5.out.size))
      clear hb6 B5 R5x0 R5x1 R5x2 N5
      obtain ⟨R6x0a, R6x0b, R6x0c⟩ := R6x0.out
      obtain ⟨R6x1a, R6x1b, R6x1c⟩ := R6x1.out
      obtain ⟨R6x2a, R6x2b, R6x2c⟩ := R6x2.out
      obtain ⟨R6x3a, R6x3b, R6x3c⟩ := R6x3.out
      go_wp2_with fail
      go_ret
      exact ⟨rfl, by first | exact below_alloc B6.out _ | exact B6.out | exact below_alloc (below_alloc B6.out _) _⟩
    rw [if_neg h3] at hE
    by_cases h4 : nxA (keyB (shB o a)) a = 0
    · rw [if_pos h4] at hE
      rw [hE] at KU
      rw [if_neg (show ¬ (7 : Int) = 0 by decide)] at KU
      obtain ⟨X, eX⟩ : ∃ X, X = Stp.zero := ⟨_, rfl⟩
      rw [← eX] at KU hzs hz hbz
      have hbX : beqS X Stp.zero = true := by rw [eX]; exact beqS_self _
      have hz0 := stpOk_zero
      have hzst := stepA_size hz0
      clear eX HX HM HS hE
      clear h3 h4
      rw [h2] at KP
      clear h2 hPs
      obtain ⟨P, eP⟩ : ∃ P, P = g := ⟨_, rfl⟩
      have hPs : (bysA P).size = 16 := by rw [eP]; exact hgs
      have hPg : (P = g) = True := eq_true eP
      rw [← eP] at KP
      generalize keyB (shB o a) = s at *
      clear eP
      go_enter Tryz.func7, Tryz.ntmps7
      go_wp2_with fail
      generalize hW : World.alloc _ _ = W0
      have R0x0 := Lib.hid (show RowAt W0 (w.heap.size) (bysA o) by rw [← hW]; clear hW; exact ⟨by go_simp, by first | (go_simp; done) | (go_simp; rfl), by go_simp⟩)
      have R0x1 := Lib.hid (show RowAt W0 (w.heap.size + 1) (bysA H) by rw [← hW]; clear hW; exact ⟨by go_simp, by first | (go_simp; done) | (go_simp; rfl), by go_simp⟩)
      have B0 := Lib.hid (show Below w.heap.size w W0 by rw [← hW]; repeat (first | apply below_alloc | exact Below.refl _ _))
      clear hW
      have l_z : w.heap.size ≤ w.heap.size := by omega
      have l_y : w.heap.size ≤ w.heap.size + 1 := by omega
      have n_z_y : w.heap.size ≠ w.heap.size + 1 := by omega
      generalize w.heap.size + 1 = y at *
      obtain ⟨z, ez⟩ : ∃ z, z = w.heap.size := ⟨_, rfl⟩
      rw [← ez] at R0x0 n_z_y ⊢
      have l_z : w.heap.size ≤ z := by rw [ez]; exact Nat.le_refl _
      clear ez
      refine (alive10_c W0 (HT.out.grow B0.out)).mono ?_
      rintro e W1 ⟨rfl, hb1⟩
      have R1x0 := Lib.hid (R0x0.out.grow hb1)
      have R1x1 := Lib.hid (R0x1.out.grow hb1)
      have B1 := Lib.hid (B0.out.trans (hb1.mono B0.out.size))
      clear hb1 B0 R0x0 R0x1
      obtain ⟨R1x0a, R1x0b, R1x0c⟩ := R1x0.out
      obtain ⟨R1x1a, R1x1b, R1x1c⟩ := R1x1.out
      go_wp2_with fail
      refine (KU.out _ (HT.out.grow B1.out)).mono ?_
      rintro e W2 ⟨rfl, hb2⟩
      clear R1x0a R1x0b R1x0c R1x1a R1x1b R1x1c
      have R2x0 := Lib.hid (R1x0.out.grow hb2)
      have R2x1 := Lib.hid (R1x1.out.grow hb2)
      have B2 := Lib.hid (B1.out.trans (hb2.mono B1.out.size))
      clear hb2 B1 R1x0 R1x1
      obtain ⟨R2x0a, R2x0b, R2x0c⟩ := R2x0.out
      obtain ⟨R2x1a, R2x1b, R2x1c⟩ := R2x1.out
      go_wp2_with fail
      have n_z_st : z ≠ W2.heap.size := Nat.ne_of_lt R2x0.out.2.2
      have n_y_st : y ≠ W2.heap.size := Nat.ne_of_lt R2x1.out.2.2
      have l_st : w.heap.size ≤ W2.heap.size := B2.out.size
      have hb3 := below_alloc (Below.refl W2.heap.size W2) (.cells (stepA X) 53)
      have N3 := Lib.hid (RowAt.of (block_new W2 (.cells (stepA X) 53)))
      have R3x0 := Lib.hid (R2x0.out.grow hb3)
      have R3x1 := Lib.hid (R2x1.out.grow hb3)
      have B3 := Lib.hid (B2.out.trans (hb3.mono B2.out.size))
      clear hb3 B2 R2x0 R2x1 R2x0a R2x0b R2x0c R2x1a R2x1b R2x1c
      generalize W2.heap.size = st at *
      generalize W2.alloc (.cells (stepA X) 53) = W3 at *
      refine (KS.out _).mono ?_
      rintro e W4 ⟨rfl, hb4⟩
      have R4x0 := Lib.hid (R3x0.out.grow hb4)
      have R4x1 := Lib.hid (R3x1.out.grow hb4)
      have R4x2 := Lib.hid (N3.out.grow hb4)
      have B4 := Lib.hid (B3.out.trans (hb4.mono B3.out.size))
      clear hb4 B3 R3x0 R3x1 N3
      obtain ⟨R4x0a, R4x0b, R4x0c⟩ := R4x0.out
      obtain ⟨R4x1a, R4x1b, R4x1c⟩ := R4x1.out
      obtain ⟨R4x2a, R4x2b, R4x2c⟩ := R4x2.out
      go_wp2_with fail
      have n_z_sv : z ≠ W4.heap.size := Nat.ne_of_lt R4x0.out.2.2
      have n_y_sv : y ≠ W4.heap.size := Nat.ne_of_lt R4x1.out.2.2
      have n_st_sv : st ≠ W4.heap.size := Nat.ne_of_lt R4x2.out.2.2
      have l_sv : w.heap.size ≤ W4.heap.size := B4.out.size
      have hb5 := below_alloc (Below.refl W4.heap.size W4) (.cells (bysA s) 23)
      have N5 := Lib.hid (RowAt.of (block_new W4 (.cells (bysA s) 23)))
      have R5x0 := Lib.hid (R4x0.out.grow hb5)
      have R5x1 := Lib.hid (R4x1.out.grow hb5)
      have R5x2 := Lib.hid (R4x2.out.grow hb5)
      have B5 := Lib.hid (B4.out.trans (hb5.mono B4.out.size))
      clear hb5 B4 R4x0 R4x1 R4x2 R4x0a R4x0b R4x0c R4x1a R4x1b R4x1c R4x2a R4x2b R4x2c
      generalize W4.heap.size = sv at *
      generalize W4.alloc (.cells (bysA s) 23) = W5 at *
      obtain ⟨R5x0a, R5x0b, R5x0c⟩ := R5x0.out
      obtain ⟨R5x1a, R5x1b, R5x1c⟩ := R5x1.out
      obtain ⟨R5x2a, R5x2b, R5x2c⟩ := R5x2.out
      obtain ⟨N5a, N5b, N5c⟩ := N5.out
      refine wp_region_pick W5 [0, 1, 2, 3, 4, 5, 6] [false, false, false, false, false, false, false] [] [] 7 (by kernel_rfl) rfl (by kernel_rfl) (by intro c a d v w h; cases d <;> exact h) (by first | exact (Below.refl _ _).drew | exact Below.refl _ _) ?_
      simp only [pick, List.getElem?_cons_succ, List.getElem?_cons_zero, List.drop_succ_cons, List.drop_zero]
      refine wpHoldF_val (wanted_none rfl) (by intro K o d hK; go_simp; exact hK _ (Below.refl _ _)) ?_
      refine wpHoldF_val (wanted_none rfl) (by intro K o d hK; go_simp; exact hK _ (Below.refl _ _)) ?_
      refine wpHoldF_val (wanted_none rfl) (by intro K o d hK; go_simp; exact hK _ (Below.refl _ _)) ?_
      refine wpHoldF_call (v := .agg (bysA P)) (wanted_none rfl) (by intro K o d hK; go_simp; refine (KP.out _ (HT.out.grow (below_plus_of _ _ _ B5.out B5.out.size))).mono ?_; rintro e w' ⟨rfl, hbw⟩; exact ⟨_, rfl, hK _ hbw⟩) ?_
      refine wpHoldF_val (wanted_none rfl) (by intro K o d hK; go_simp; exact hK _ (Below.refl _ _)) ?_
      refine wpHoldF_val (wanted_none rfl) (by intro K o d hK; go_simp; exact hK _ (Below.refl _ _)) ?_
      refine wpHoldF_val (wanted_none rfl) (by intro K o d hK; go_simp; exact hK _ (Below.refl _ _)) ?_
      refine wpHoldF_nil ?_
      intro W6 hb6 hblk
      clear hblk
      clear R5x0a R5x0b R5x0c R5x1a R5x1b R5x1c R5x2a R5x2b R5x2c N5a N5b N5c
      have R6x0 := Lib.hid (R5x0.out.grow hb6)
      have R6x1 := Lib.hid (R5x1.out.grow hb6)
      have R6x2 := Lib.hid (R5x2.out.grow hb6)
      have R6x3 := Lib.hid (N5.out.grow hb6)
      have B6 := Lib.hid (B5.out.trans (hb6.mono B5.out.size))
      clear hb6 B5 R5x0 R5x1 R5x2 N5
      obtain ⟨R6x0a, R6x0b, R6x0c⟩ := R6x0.out
      obtain ⟨R6x1a, R6x1b, R6x1c⟩ := R6x1.out
      obtain ⟨R6x2a, R6x2b, R6x2c⟩ := R6x2.out
      obtain ⟨R6x3a, R6x3b, R6x3c⟩ := R6x3.out
      go_wp2_with fail
      go_ret
      exact ⟨rfl, by first | exact below_alloc B6.out _ | exact B6.out | exact below_alloc (below_alloc B6.out _) _⟩
    rw [if_neg h4] at hE
    have hX := HX.out hE
    have hm := HM.out h3
    rw [hE, if_pos rfl] at KU
    have hXs := HS.out
    clear HX HM HS hE h3 h4 hz hzs hbz
    rw [h2] at KP
    clear h2 hPs
    obtain ⟨P, eP⟩ : ∃ P, P = g := ⟨_, rfl⟩
    have hPs : (bysA P).size = 16 := by rw [eP]; exact hgs
    have hPg : (P = g) = True := eq_true eP
    rw [← eP] at KP
    clear eP
    generalize stpOf a b (keyB (shB o a)) = X at *
    generalize keyB (shB o a) = s at *
    have hz := stepA_size hX
    have hzst := stepA_size stpOk_zero
    have KM := Lib.hid (fun (W : World) => may_c X.c hX.i W)
    rw [hm] at KM
    have hcs := cmdA_size hX.i
    clear hm
    go_enter Tryz.func7, Tryz.ntmps7
    go_wp2_with fail
    generalize hW : World.alloc _ _ = W0
    have R0x0 := Lib.hid (show RowAt W0 (w.heap.size) (bysA o) by rw [← hW]; clear hW; exact ⟨by go_simp, by first | (go_simp; done) | (go_simp; rfl), by go_simp⟩)
    have R0x1 := Lib.hid (show RowAt W0 (w.heap.size + 1) (bysA H) by rw [← hW]; clear hW; exact ⟨by go_simp, by first | (go_simp; done) | (go_simp; rfl), by go_simp⟩)
    have B0 := Lib.hid (show Below w.heap.size w W0 by rw [← hW]; repeat (first | apply below_alloc | exact Below.refl _ _))
    clear hW
    have l_z : w.heap.size ≤ w.heap.size := by omega
    have l_y : w.heap.size ≤ w.heap.size + 1 := by omega
    have n_z_y : w.heap.size ≠ w.heap.size + 1 := by omega
    generalize w.heap.size + 1 = y at *
    obtain ⟨z, ez⟩ : ∃ z, z = w.heap.size := ⟨_, rfl⟩
    rw [← ez] at R0x0 n_z_y ⊢
    have l_z : w.heap.size ≤ z := by rw [ez]; exact Nat.le_refl _
    clear ez
    refine (alive10_c W0 (HT.out.grow B0.out)).mono ?_
    rintro e W1 ⟨rfl, hb1⟩
    have R1x0 := Lib.hid (R0x0.out.grow hb1)
    have R1x1 := Lib.hid (R0x1.out.grow hb1)
    have B1 := Lib.hid (B0.out.trans (hb1.mono B0.out.size))
    clear hb1 B0 R0x0 R0x1
    obtain ⟨R1x0a, R1x0b, R1x0c⟩ := R1x0.out
    obtain ⟨R1x1a, R1x1b, R1x1c⟩ := R1x1.out
    go_wp2_with fail
    refine (KU.out _ (HT.out.grow B1.out)).mono ?_
    rintro e W2 ⟨rfl, hb2⟩
    clear R1x0a R1x0b R1x0c R1x1a R1x1b R1x1c
    have R2x0 := Lib.hid (R1x0.out.grow hb2)
    have R2x1 := Lib.hid (R1x1.out.grow hb2)
    have B2 := Lib.hid (B1.out.trans (hb2.mono B1.out.size))
    clear hb2 B1 R1x0 R1x1
    obtain ⟨R2x0a, R2x0b, R2x0c⟩ := R2x0.out
    obtain ⟨R2x1a, R2x1b, R2x1c⟩ := R2x1.out
    go_wp2_with fail
    have n_z_st : z ≠ W2.heap.size := Nat.ne_of_lt R2x0.out.2.2
    have n_y_st : y ≠ W2.heap.size := Nat.ne_of_lt R2x1.out.2.2
    have l_st : w.heap.size ≤ W2.heap.size := B2.out.size
    have hb3 := below_alloc (Below.refl W2.heap.size W2) (.cells (stepA X) 53)
    have N3 := Lib.hid (RowAt.of (block_new W2 (.cells (stepA X) 53)))
    have R3x0 := Lib.hid (R2x0.out.grow hb3)
    have R3x1 := Lib.hid (R2x1.out.grow hb3)
    have B3 := Lib.hid (B2.out.trans (hb3.mono B2.out.size))
    clear hb3 B2 R2x0 R2x1 R2x0a R2x0b R2x0c R2x1a R2x1b R2x1c
    generalize W2.heap.size = st at *
    generalize W2.alloc (.cells (stepA X) 53) = W3 at *
    refine (KS.out _).mono ?_
    rintro e W4 ⟨rfl, hb4⟩
    have R4x0 := Lib.hid (R3x0.out.grow hb4)
    have R4x1 := Lib.hid (R3x1.out.grow hb4)
    have R4x2 := Lib.hid (N3.out.grow hb4)
    have B4 := Lib.hid (B3.out.trans (hb4.mono B3.out.size))
    clear hb4 B3 R3x0 R3x1 N3
    obtain ⟨R4x0a, R4x0b, R4x0c⟩ := R4x0.out
    obtain ⟨R4x1a, R4x1b, R4x1c⟩ := R4x1.out
    obtain ⟨R4x2a, R4x2b, R4x2c⟩ := R4x2.out
    go_wp2_with fail
    have n_z_sv : z ≠ W4.heap.size := Nat.ne_of_lt R4x0.out.2.2
    have n_y_sv : y ≠ W4.heap.size := Nat.ne_of_lt R4x1.out.2.2
    have n_st_sv : st ≠ W4.heap.size := Nat.ne_of_lt R4x2.out.2.2
    have l_sv : w.heap.size ≤ W4.heap.size := B4.out.size
    have hb5 := below_alloc (Below.refl W4.heap.size W4) (.cells (bysA s) 23)
    have N5 := Lib.hid (RowAt.of (block_new W4 (.cells (bysA s) 23)))
    have R5x0 := Lib.hid (R4x0.out.grow hb5)
    have R5x1 := Lib.hid (R4x1.out.grow hb5)
    have R5x2 := Lib.hid (R4x2.out.grow hb5)
    have B5 := Lib.hid (B4.out.trans (hb5.mono B4.out.size))
    clear hb5 B4 R4x0 R4x1 R4x2 R4x0a R4x0b R4x0c R4x1a R4x1b R4x1c R4x2a R4x2b R4x2c
    generalize W4.heap.size = sv at *
    generalize W4.alloc (.cells (bysA s) 23) = W5 at *
    obtain ⟨R5x0a, R5x0b, R5x0c⟩ := R5x0.out
    obtain ⟨R5x1a, R5x1b, R5x1c⟩ := R5x1.out
    obtain ⟨R5x2a, R5x2b, R5x2c⟩ := R5x2.out
    obtain ⟨N5a, N5b, N5c⟩ := N5.out
    refine wp_region_pick W5 [0, 1, 2, 3, 4, 5, 6] [false, false, false, false, false, false, false] [] [] 7 (by kernel_rfl) rfl (by kernel_rfl) (by intro c a d v w h; cases d <;> exact h) (by first | exact (Below.refl _ _).drew | exact Below.refl _ _) ?_
    simp only [pick, List.getElem?_cons_succ, List.getElem?_cons_zero, List.drop_succ_cons, List.drop_zero]
    refine wpHoldF_val (wanted_none rfl) (by intro K o d hK; go_simp; exact hK _ (Below.refl _ _)) ?_
    refine wpHoldF_val (wanted_none rfl) (by intro K o d hK; go_simp; exact hK _ (Below.refl _ _)) ?_
    refine wpHoldF_val (wanted_none rfl) (by intro K o d hK; go_simp; exact hK _ (Below.refl _ _)) ?_
    refine wpHoldF_call (v := .agg (bysA P)) (wanted_none rfl) (by intro K o d hK; go_simp; refine (KP.out _ (HT.out.grow (below_plus_of _ _ _ B5.out B5.out.size))).mono ?_; rintro e w' ⟨rfl, hbw⟩; exact ⟨_, rfl, hK _ hbw⟩) ?_
    refine wpHoldF_val (wanted_none rfl) (by intro K o d hK; go_simp; exact hK _ (Below.refl _ _)) ?_
    refine wpHoldF_val (wanted_none rfl) (by intro K o d hK; go_simp; exact hK _ (Below.refl _ _)) ?_
    refine wpHoldF_val (wanted_none rfl) (by intro K o d hK; go_simp; exact hK _ (Below.refl _ _)) ?_
    refine wpHoldF_nil ?_
    intro W6 hb6 hblk
    clear hblk
    clear R5x0a R5x0b R5x0c R5x1a R5x1b R5x1c R5x2a R5x2b R5x2c N5a N5b N5c
    have R6x0 := Lib.hid (R5x0.out.grow hb6)
    have R6x1 := Lib.hid (R5x1.out.grow hb6)
    have R6x2 := Lib.hid (R5x2.out.grow hb6)
    have R6x3 := Lib.hid (N5.out.grow hb6)
    have B6 := Lib.hid (B5.out.trans (hb6.mono B5.out.size))
    clear hb6 B5 R5x0 R5x1 R5x2 N5
    obtain ⟨R6x0a, R6x0b, R6x0c⟩ := R6x0.out
    obtain ⟨R6x1a, R6x1b, R6x1c⟩ := R6x1.out
    obtain ⟨R6x2a, R6x2b, R6x2c⟩ := R6x2.out
    obtain ⟨R6x3a, R6x3b, R6x3c⟩ := R6x3.out
    go_wp2_with fail
    refine (KM.out _).mono ?_
    rintro e W7 ⟨rfl, hb7⟩
    clear R6x0a R6x0b R6x0c R6x1a R6x1b R6x1c R6x2a R6x2b R6x2c R6x3a R6x3b R6x3c
    have R7x0 := Lib.hid (R6x0.out.grow hb7)
    have R7x1 := Lib.hid (R6x1.out.grow hb7)
    have R7x2 := Lib.hid (R6x2.out.grow hb7)
    have R7x3 := Lib.hid (R6x3.out.grow hb7)
    have B7 := Lib.hid (B6.out.trans (hb7.mono B6.out.size))
    clear hb7 B6 R6x0 R6x1 R6x2 R6x3
    obtain ⟨R7x0a, R7x0b, R7x0c⟩ := R7x0.out
    obtain ⟨R7x1a, R7x1b, R7x1c⟩ := R7x1.out
    obtain ⟨R7x2a, R7x2b, R7x2c⟩ := R7x2.out
    obtain ⟨R7x3a, R7x3b, R7x3c⟩ := R7x3.out
    go_wp2_with fail
    go_ret
    exact ⟨rfl, by first | exact below_alloc B7.out _ | exact B7.out | exact below_alloc (below_alloc B7.out _) _⟩
  · rw [if_pos h2] at hE
    rw [hE] at KU
    rw [if_neg (show ¬ (6 : Int) = 0 by decide)] at KU
    obtain ⟨X, eX⟩ : ∃ X, X = Stp.zero := ⟨_, rfl⟩
    rw [← eX] at KU hzs hz hbz
    have hbX : beqS X Stp.zero = true := by rw [eX]; exact beqS_self _
    have hz0 := stpOk_zero
    have hzst := stepA_size hz0
    clear eX HX HM HS hE
    generalize prf (keyB (shB o a)) b = P at *
    generalize keyB (shB o a) = s at *
    go_enter Tryz.func7, Tryz.ntmps7
    go_wp2_with fail
    generalize hW : World.alloc _ _ = W0
    have R0x0 := Lib.hid (show RowAt W0 (w.heap.size) (bysA o) by rw [← hW]; clear hW; exact ⟨by go_simp, by first | (go_simp; done) | (go_simp; rfl), by go_simp⟩)
    have R0x1 := Lib.hid (show RowAt W0 (w.heap.size + 1) (bysA H) by rw [← hW]; clear hW; exact ⟨by go_simp, by first | (go_simp; done) | (go_simp; rfl), by go_simp⟩)
    have B0 := Lib.hid (show Below w.heap.size w W0 by rw [← hW]; repeat (first | apply below_alloc | exact Below.refl _ _))
    clear hW
    have l_z : w.heap.size ≤ w.heap.size := by omega
    have l_y : w.heap.size ≤ w.heap.size + 1 := by omega
    have n_z_y : w.heap.size ≠ w.heap.size + 1 := by omega
    generalize w.heap.size + 1 = y at *
    obtain ⟨z, ez⟩ : ∃ z, z = w.heap.size := ⟨_, rfl⟩
    rw [← ez] at R0x0 n_z_y ⊢
    have l_z : w.heap.size ≤ z := by rw [ez]; exact Nat.le_refl _
    clear ez
    refine (alive10_c W0 (HT.out.grow B0.out)).mono ?_
    rintro e W1 ⟨rfl, hb1⟩
    have R1x0 := Lib.hid (R0x0.out.grow hb1)
    have R1x1 := Lib.hid (R0x1.out.grow hb1)
    have B1 := Lib.hid (B0.out.trans (hb1.mono B0.out.size))
    clear hb1 B0 R0x0 R0x1
    obtain ⟨R1x0a, R1x0b, R1x0c⟩ := R1x0.out
    obtain ⟨R1x1a, R1x1b, R1x1c⟩ := R1x1.out
    go_wp2_with fail
    refine (KU.out _ (HT.out.grow B1.out)).mono ?_
    rintro e W2 ⟨rfl, hb2⟩
    clear R1x0a R1x0b R1x0c R1x1a R1x1b R1x1c
    have R2x0 := Lib.hid (R1x0.out.grow hb2)
    have R2x1 := Lib.hid (R1x1.out.grow hb2)
    have B2 := Lib.hid (B1.out.trans (hb2.mono B1.out.size))
    clear hb2 B1 R1x0 R1x1
    obtain ⟨R2x0a, R2x0b, R2x0c⟩ := R2x0.out
    obtain ⟨R2x1a, R2x1b, R2x1c⟩ := R2x1.out
    go_wp2_with fail
    have n_z_st : z ≠ W2.heap.size := Nat.ne_of_lt R2x0.out.2.2
    have n_y_st : y ≠ W2.heap.size := Nat.ne_of_lt R2x1.out.2.2
    have l_st : w.heap.size ≤ W2.heap.size := B2.out.size
    have hb3 := below_alloc (Below.refl W2.heap.size W2) (.cells (stepA X) 53)
    have N3 := Lib.hid (RowAt.of (block_new W2 (.cells (stepA X) 53)))
    have R3x0 := Lib.hid (R2x0.out.grow hb3)
    have R3x1 := Lib.hid (R2x1.out.grow hb3)
    have B3 := Lib.hid (B2.out.trans (hb3.mono B2.out.size))
    clear hb3 B2 R2x0 R2x1 R2x0a R2x0b R2x0c R2x1a R2x1b R2x1c
    generalize W2.heap.size = st at *
    generalize W2.alloc (.cells (stepA X) 53) = W3 at *
    refine (KS.out _).mono ?_
    rintro e W4 ⟨rfl, hb4⟩
    have R4x0 := Lib.hid (R3x0.out.grow hb4)
    have R4x1 := Lib.hid (R3x1.out.grow hb4)
    have R4x2 := Lib.hid (N3.out.grow hb4)
    have B4 := Lib.hid (B3.out.trans (hb4.mono B3.out.size))
    clear hb4 B3 R3x0 R3x1 N3
    obtain ⟨R4x0a, R4x0b, R4x0c⟩ := R4x0.out
    obtain ⟨R4x1a, R4x1b, R4x1c⟩ := R4x1.out
    obtain ⟨R4x2a, R4x2b, R4x2c⟩ := R4x2.out
    go_wp2_with fail
    have n_z_sv : z ≠ W4.heap.size := Nat.ne_of_lt R4x0.out.2.2
    have n_y_sv : y ≠ W4.heap.size := Nat.ne_of_lt R4x1.out.2.2
    have n_st_sv : st ≠ W4.heap.size := Nat.ne_of_lt R4x2.out.2.2
    have l_sv : w.heap.size ≤ W4.heap.size := B4.out.size
    have hb5 := below_alloc (Below.refl W4.heap.size W4) (.cells (bysA s) 23)
    have N5 := Lib.hid (RowAt.of (block_new W4 (.cells (bysA s) 23)))
    have R5x0 := Lib.hid (R4x0.out.grow hb5)
    have R5x1 := Lib.hid (R4x1.out.grow hb5)
    have R5x2 := Lib.hid (R4x2.out.grow hb5)
    have B5 := Lib.hid (B4.out.trans (hb5.mono B4.out.size))
    clear hb5 B4 R4x0 R4x1 R4x2 R4x0a R4x0b R4x0c R4x1a R4x1b R4x1c R4x2a R4x2b R4x2c
    generalize W4.heap.size = sv at *
    generalize W4.alloc (.cells (bysA s) 23) = W5 at *
    obtain ⟨R5x0a, R5x0b, R5x0c⟩ := R5x0.out
    obtain ⟨R5x1a, R5x1b, R5x1c⟩ := R5x1.out
    obtain ⟨R5x2a, R5x2b, R5x2c⟩ := R5x2.out
    obtain ⟨N5a, N5b, N5c⟩ := N5.out
    refine wp_region_pick W5 [0, 1, 2, 3, 4, 5, 6] [false, false, false, false, false, false, false] [] [] 7 (by kernel_rfl) rfl (by kernel_rfl) (by intro c a d v w h; cases d <;> exact h) (by first | exact (Below.refl _ _).drew | exact Below.refl _ _) ?_
    simp only [pick, List.getElem?_cons_succ, List.getElem?_cons_zero, List.drop_succ_cons, List.drop_zero]
    refine wpHoldF_val (wanted_none rfl) (by intro K o d hK; go_simp; exact hK _ (Below.refl _ _)) ?_
    refine wpHoldF_val (wanted_none rfl) (by intro K o d hK; go_simp; exact hK _ (Below.refl _ _)) ?_
    refine wpHoldF_val (wanted_none rfl) (by intro K o d hK; go_simp; exact hK _ (Below.refl _ _)) ?_
    refine wpHoldF_call (v := .agg (bysA P)) (wanted_none rfl) (by intro K o d hK; go_simp; refine (KP.out _ (HT.out.grow (below_plus_of _ _ _ B5.out B5.out.size))).mono ?_; rintro e w' ⟨rfl, hbw⟩; exact ⟨_, rfl, hK _ hbw⟩) ?_
    refine wpHoldF_val (wanted_none rfl) (by intro K o d hK; go_simp; exact hK _ (Below.refl _ _)) ?_
    refine wpHoldF_val (wanted_none rfl) (by intro K o d hK; go_simp; exact hK _ (Below.refl _ _)) ?_
    refine wpHoldF_val (wanted_none rfl) (by intro K o d hK; go_simp; exact hK _ (Below.refl _ _)) ?_
    refine wpHoldF_nil ?_
    intro W6 hb6 hblk
    clear hblk
    clear R5x0a R5x0b R5x0c R5x1a R5x1b R5x1c R5x2a R5x2b R5x2c N5a N5b N5c
    have R6x0 := Lib.hid (R5x0.out.grow hb6)
    have R6x1 := Lib.hid (R5x1.out.grow hb6)
    have R6x2 := Lib.hid (R5x2.out.grow hb6)
    have R6x3 := Lib.hid (N5.out.grow hb6)
    have B6 := Lib.hid (B5.out.trans (hb6.mono B5.out.size))
    clear hb6 B5 R5x0 R5x1 R5x2 N5
    obtain ⟨R6x0a, R6x0b, R6x0c⟩ := R6x0.out
    obtain ⟨R6x1a, R6x1b, R6x1c⟩ := R6x1.out
    obtain ⟨R6x2a, R6x2b, R6x2c⟩ := R6x2.out
    obtain ⟨R6x3a, R6x3b, R6x3c⟩ := R6x3.out
    go_wp2_with fail
    go_ret
    exact ⟨rfl, by first | exact below_alloc B6.out _ | exact B6.out | exact below_alloc (below_alloc B6.out _) _⟩
end Go.Proofs.YtddmjddlbhdcpaaGreatDoor
