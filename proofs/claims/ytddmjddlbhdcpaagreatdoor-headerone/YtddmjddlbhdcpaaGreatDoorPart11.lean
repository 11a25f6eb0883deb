/-
  Part 11 of the texts behind the theorem.
-/
import Derived.Test.YtddmjddlbhdcpaaGreatDoorPart10
import Derived.Test.YtddmjddlbhdcpaaGreatDoorPart9
/-
  Own secrets with one scalar find the same, and the tag is the secret's alone.
-/
namespace Go.Proofs.YtddmjddlbhdcpaaGreatDoor
open Go.RowKit Go.Hold Go.Sh Go.Ch Go.Cm Go.Hd

theorem clamp_lt (n : Nat) : F.Cv.clampN n < 256 ^ 32 := Nat.lt_of_lt_of_le (F.Cv.clampN_lt n) (by decide +kernel)
theorem shN_clamp (n u : Nat) : F.shN (F.Cv.clampN n) u = F.shN n u := by unfold F.shN; rw [F.Cv.clampN_idem]
theorem shB_clamp (o a : List Nat) : shB (keyB (F.Cv.clampN (numB o))) a = shB o a := by
  unfold shB
  rw [numB_keyB (clamp_lt _), shN_clamp]
theorem unwE_clamp (o a b g : List Nat) : unwE (keyB (F.Cv.clampN (numB o))) a b g = unwE o a b g := by unfold unwE; rw [shB_clamp]
theorem unwV_clamp (o a b g : List Nat) : unwV (keyB (F.Cv.clampN (numB o))) a b g = unwV o a b g := by unfold unwV; rw [unwE_clamp, shB_clamp]
theorem unwV_ok {o a b g : List Nat} (hb : b.length = 160) : StpOk (unwV o a b g) := by
  unfold unwV
  split
  · exact ⟨ofB_id _ (by rw [List.length_take, opn_length hb]; rfl), by
      show (keyB (nxA (keyB (shB o a)) a) ++ (opn (keyB (shB o a)) b).drop 32 ++ ((opn (keyB (shB o a)) b).drop 16).take 16).length = 208
      rw [List.length_append, List.length_append, keyB_length, List.length_drop, List.length_take, List.length_drop, opn_length hb]; rfl, keyB_length _, tagS_length _⟩
  · exact stpOk_zero
theorem stpOf_parts (a b s : List Nat) : (stpOf a b s).t = tagS s ∧ (stpOf a b s).s = s ∧ (stpOf a b s).nx.take 32 = keyB (nxA s a) := by
  refine ⟨rfl, rfl, ?_⟩
  have e : (stpOf a b s).nx = keyB (nxA s a) ++ ((opn s b).drop 32 ++ ((opn s b).drop 16).take 16) := by
    unfold stpOf
    rw [List.append_assoc]
  rw [e, List.take_append_of_le_length (by rw [keyB_length]; exact Nat.le_refl _), List.take_of_length_le (by rw [keyB_length]; exact Nat.le_refl _)]
theorem unwV_parts {o a b g : List Nat} (h : unwE o a b g = 0) : (unwV o a b g).t = tagS (keyB (shB o a)) ∧ (unwV o a b g).s = keyB (shB o a) ∧ (unwV o a b g).nx.take 32 = keyB (nxA (keyB (shB o a)) a) := by
  unfold unwV
  rw [if_pos h]
  exact stpOf_parts _ _ _
theorem lays_step (o : Oper) (h : o.op = .alloc 53) (hg : o.guard = none) : Lays Tryz.prog o 53 (stepA .zero) := by
  refine ⟨hg, fun a w => ?_⟩
  obtain ⟨dst, op, ty, pos, after, guard⟩ := o
  simp only at h hg
  subst h; subst hg
  go_simp
set_option maxRecDepth 100000 in
@[go_sem] theorem run_load_key_11 (w : World) (n : Nat) (h1 : w.isRow n = true) (h2 : (w.rowOf n).size = 267) : (loadRow 23 (.pointer (some ⟨n, 11, none⟩))).run Tryz.prog w = .ok (.agg ((w.rowOf n).extract 11 43)) w := run_loadMid (k := 32) Tryz.underlying23 rfl (by kernel_rfl) w n h1 (by omega)
@[go_sem] theorem stepA_al {x : Stp} (h : StpOk x) : (stepA x).extract 11 43 = bysA (x.nx.take 32) := by
  rw [stepA_ext h 11 43 (by decide), List.append_assoc, List.drop_zero, List.take_append_of_le_length (by rw [h.n]; decide)]
set_option maxHeartbeats 3000000 in
set_option maxRecDepth 100000 in
theorem one_any (o H H2 : List Nat) (ho : o.length = 32) (hob : ∀ i, o.getD i 0 < 256) (hHl : H.length = 208) (hHb : ∀ i, H.getD i 0 < 256) (hH2l : H2.length = 208) (hH2b : ∀ i, H2.getD i 0 < 256) (w : World) (hT : Tabs w) :
    Calls Tryz.prog 8 #[.agg (bysA o), .agg (bysA H), .agg (bysA H2)] w fun e w' => e = .returned (.bool true) ∧ Below w.heap.size w w' := by
  obtain ⟨a, b, g, hp⟩ : ∃ a b g, HdParts H a b g := ⟨_, _, _, HdParts.of hHl hHb⟩
  have hHs := bysA_size' hHl
  have hos := bysA_size' ho
  have hA : H.take 32 = a := by rw [hp.eq, List.append_assoc, show 32 = a.length from hp.al.symm, List.take_left]
  have hB : (H.drop 32).take 160 = b := by rw [hp.eq, List.append_assoc, show 32 = a.length from hp.al.symm, List.drop_left, show 160 = b.length from hp.bl.symm, List.take_left]
  have hG : (H.drop 192).take 16 = g := by rw [hp.eq, show 192 = (a ++ b).length by rw [List.length_append, hp.al, hp.bl], List.drop_left, List.take_of_length_le (by rw [hp.gl]; exact Nat.le_refl _)]
  have has := bysA_size' hp.al
  have hbs := bysA_size' hp.bl
  have hgs := bysA_size' hp.gl
  obtain ⟨a2, b2, g2, hq⟩ : ∃ a b g, HdParts H2 a b g := ⟨_, _, _, HdParts.of hH2l hH2b⟩
  have hH2s := bysA_size' hH2l
  have hH3 : HdParts (a ++ b2 ++ g2) a b2 g2 := ⟨rfl, hp.al, hp.ab, hq.bl, hq.bb, hq.gl, hq.gb⟩
  have hH3s := bysA_size' hH3.len
  have Hset := Lib.hid (show setL (bysA H2) 0 (bysA a).toList = bysA (a ++ b2 ++ g2) from by
    show setL (bysA H2) 0 (bys a) = _
    rw [setL_bys _ _ (by rw [hp.al, hH2l]; decide), hp.al, hq.eq, List.append_assoc a2, show 32 = a2.length from hq.al.symm, List.drop_left, List.append_assoc])
  have HT := Lib.hid hT
  have KU1 := Lib.hid (fun (W : World) (h : Tabs W) => unwrap_c o a b g ho hob hp.al hp.ab hp.bl hp.bb hp.gl hp.gb W h)
  have hcl := keyB_length (F.Cv.clampN (numB o))
  have KU2 := Lib.hid (fun (W : World) (h : Tabs W) => unwrap_c (keyB (F.Cv.clampN (numB o))) a b g hcl (keyB_bts _) hp.al hp.ab hp.bl hp.bb hp.gl hp.gb W h)
  rw [unwE_clamp, unwV_clamp] at KU2
  have KU3 := Lib.hid (fun (W : World) (h : Tabs W) => unwrap_c o a b2 g2 ho hob hp.al hp.ab hq.bl hq.bb hq.gl hq.gb W h)
  rw [← hp.eq] at KU1 KU2
  have KC := Lib.hid (fun (W : World) => bclamp_c o ho hob W)
  have hcls := bysA_size' hcl
  have hX := unwV_ok (o := o) (a := a) (g := g) hp.bl
  have hZ := unwV_ok (o := o) (a := a) (g := g2) hq.bl
  have hXs := stepA_size hX
  have hZs := stepA_size hZ
  have hzst := stepA_size stpOk_zero
  have hbX := beqS_self (unwV o a b g)
  have HPX := Lib.hid (fun (h : unwE o a b g = 0) => unwV_parts h)
  have HPZ := Lib.hid (fun (h : unwE o a b2 g2 = 0) => unwV_parts h)
  have hOne := fun (W : World) (u : Nat) (h : RowAt W u (bysA H2)) => run_storeMid h 0 (bysA a) (by rw [hH2s, has]; decide) (bysA_one a)
  rw [Hset.out] at hOne
  have HOne := Lib.hid hOne
  have hna := keyB_length (nxA (keyB (shB o a)) a)
  have hnas := bysA_size' hna
  have hsl := keyB_length (shB o a)
  have hsls := bysA_size' hsl
  have htl := bysA_size' (tagS_length (keyB (shB o a)))
  clear hT ho hob hHl hHb hH2l hH2b hH3 hOne hcl
  generalize a ++ b2 ++ g2 = H3 at *
  generalize keyB (F.Cv.clampN (numB o)) = oc at *
  obtain ⟨X, eX'⟩ : ∃ z, z = unwV o a b g := ⟨_, rfl⟩
  rw [← eX'] at KU1 KU2 hX hXs hbX HPX
  clear eX'
  obtain ⟨Z, eZ'⟩ : ∃ z, z = unwV o a b2 g2 := ⟨_, rfl⟩
  rw [← eZ'] at KU3 hZ hZs HPZ
  clear eZ'
  obtain ⟨e1, ee1'⟩ : ∃ z, z = unwE o a b g := ⟨_, rfl⟩
  rw [← ee1'] at KU1 KU2 HPX
  clear ee1'
  obtain ⟨e3, ee3'⟩ : ∃ z, z = unwE o a b2 g2 := ⟨_, rfl⟩
  rw [← ee3'] at KU3 HPZ
  clear ee3'
  obtain ⟨tg, etg'⟩ : ∃ z, z = tagS (keyB (shB o a)) := ⟨_, rfl⟩
  rw [← etg'] at HPX HPZ htl
  clear etg'
  obtain ⟨na, ena'⟩ : ∃ z, z = keyB (nxA (keyB (shB o a)) a) := ⟨_, rfl⟩
  rw [← ena'] at HPX HPZ hna hnas
  clear ena'
  obtain ⟨s, es'⟩ : ∃ z, z = keyB (shB o a) := ⟨_, rfl⟩
  rw [← es'] at HPX HPZ hsl hsls
  clear es'
  by_cases h1 : e1 = 0
  · subst h1
    obtain ⟨hXt, hXsec, hXn⟩ := HPX.out rfl
    by_cases h3 : e3 = 0
    · subst h3
      obtain ⟨hZt, hZsec, hZn⟩ := HPZ.out rfl
      clear HPX HPZ
      go_enter Tryz.func8, Tryz.ntmps8
      go_wp2_with fail
      generalize hW : World.alloc _ _ = W0
      have R0x0 := Lib.hid (show RowAt W0 (w.heap.size) (bysA o) by rw [← hW]; clear hW; exact ⟨by go_simp, by first | (go_simp; done) | (go_simp; rfl), by go_simp⟩)
      have R0x1 := Lib.hid (show RowAt W0 (w.heap.size + 1) (bysA H) by rw [← hW]; clear hW; exact ⟨by go_simp, by first | (go_simp; done) | (go_simp; rfl), by go_simp⟩)
      have R0x2 := Lib.hid (show RowAt W0 (w.heap.size + 1 + 1) (bysA H2) by rw [← hW]; clear hW; exact ⟨by go_simp, by first | (go_simp; done) | (go_simp; rfl), by go_simp⟩)
      have B0 := Lib.hid (show Below w.heap.size w W0 by rw [← hW]; repeat (first | apply below_alloc | exact Below.refl _ _))
      clear hW
      have l_z : w.heap.size ≤ w.heap.size := by omega
      have l_y : w.heap.size ≤ w.heap.size + 1 := by omega
      have n_z_y : w.heap.size ≠ w.heap.size + 1 := by omega
      have l_u : w.heap.size ≤ w.heap.size + 1 + 1 := by omega
      have n_z_u : w.heap.size ≠ w.heap.size + 1 + 1 := by omega
      have n_y_u : w.heap.size + 1 ≠ w.heap.size + 1 + 1 := by omega
      generalize w.heap.size + 1 + 1 = u at *
      generalize w.heap.size + 1 = y at *
      obtain ⟨z, ez⟩ : ∃ z, z = w.heap.size := ⟨_, rfl⟩
      rw [← ez] at R0x0 n_z_y n_z_u ⊢
      have l_z : w.heap.size ≤ z := by rw [ez]; exact Nat.le_refl _
      clear ez
      refine (alive10_c W0 (HT.out.grow B0.out)).mono ?_
      rintro e W1 ⟨rfl, hb1⟩
      have R1x0 := Lib.hid (R0x0.out.grow hb1)
      have R1x1 := Lib.hid (R0x1.out.grow hb1)
      have R1x2 := Lib.hid (R0x2.out.grow hb1)
      have B1 := Lib.hid (B0.out.trans (hb1.mono B0.out.size))
      clear hb1 B0 R0x0 R0x1 R0x2
      obtain ⟨R1x0a, R1x0b, R1x0c⟩ := R1x0.out
      obtain ⟨R1x1a, R1x1b, R1x1c⟩ := R1x1.out
      obtain ⟨R1x2a, R1x2b, R1x2c⟩ := R1x2.out
      go_wp2_with fail
      refine (KU1.out _ (HT.out.grow B1.out)).mono ?_
      rintro e W2 ⟨rfl, hb2⟩
      clear R1x0a R1x0b R1x0c R1x1a R1x1b R1x1c R1x2a R1x2b R1x2c
      have R2x0 := Lib.hid (R1x0.out.grow hb2)
      have R2x1 := Lib.hid (R1x1.out.grow hb2)
      have R2x2 := Lib.hid (R1x2.out.grow hb2)
      have B2 := Lib.hid (B1.out.trans (hb2.mono B1.out.size))
      clear hb2 B1 R1x0 R1x1 R1x2
      obtain ⟨R2x0a, R2x0b, R2x0c⟩ := R2x0.out
      obtain ⟨R2x1a, R2x1b, R2x1c⟩ := R2x1.out
      obtain ⟨R2x2a, R2x2b, R2x2c⟩ := R2x2.out
      go_wp2_with fail
      have n_z_s1 : z ≠ W2.heap.size := Nat.ne_of_lt R2x0.out.2.2
      have n_y_s1 : y ≠ W2.heap.size := Nat.ne_of_lt R2x1.out.2.2
      have n_u_s1 : u ≠ W2.heap.size := Nat.ne_of_lt R2x2.out.2.2
      have l_s1 : w.heap.size ≤ W2.heap.size := B2.out.size
      have hb3 := below_alloc (Below.refl W2.heap.size W2) (.cells (stepA X) 53)
      have N3 := Lib.hid (RowAt.of (block_new W2 (.cells (stepA X) 53)))
      have R3x0 := Lib.hid (R2x0.out.grow hb3)
      have R3x1 := Lib.hid (R2x1.out.grow hb3)
      have R3x2 := Lib.hid (R2x2.out.grow hb3)
      have B3 := Lib.hid (B2.out.trans (hb3.mono B2.out.size))
      clear hb3 B2 R2x0 R2x1 R2x2 R2x0a R2x0b R2x0c R2x1a R2x1b R2x1c R2x2a R2x2b R2x2c
      generalize W2.heap.size = s1 at *
      generalize W2.alloc (.cells (stepA X) 53) = W3 at *
      obtain ⟨R3x0a, R3x0b, R3x0c⟩ := R3x0.out
      obtain ⟨R3x1a, R3x1b, R3x1c⟩ := R3x1.out
      obtain ⟨R3x2a, R3x2b, R3x2c⟩ := R3x2.out
      obtain ⟨N3a, N3b, N3c⟩ := N3.out
      refine wp_region_pick W3 [0, 1, 2, 3, 4, 5, 6] [false, false, false, false, false, false, true] [7] [(53, stepA .zero)] 8 (by kernel_rfl) rfl (by kernel_rfl) (by intro c a d v w h; cases d <;> exact h) (by first | exact (Below.refl _ _).drew | exact Below.refl _ _) ?_
      simp only [pick, List.getElem?_cons_succ, List.getElem?_cons_zero, List.drop_succ_cons, List.drop_zero]
      refine wpHoldF_val (wanted_none rfl) (by intro K o d hK; go_simp; exact hK _ (Below.refl _ _)) ?_
      refine wpHoldF_call (v := .agg (bysA oc)) (wanted_none rfl) (by intro K o d hK; go_simp; refine (KC.out _).mono ?_; rintro e w' ⟨rfl, hbw⟩; exact ⟨_, rfl, hK _ hbw⟩) ?_
      refine wpHoldF_val (wanted_none rfl) (by intro K o d hK; go_simp; exact hK _ (Below.refl _ _)) ?_
      refine wpHoldF_call (v := .tuple #[.agg (stepA X), .int .i64 0]) (wanted_none rfl) (by intro K o d hK; go_simp; refine (KU2.out _ (HT.out.grow (below_plus_of _ _ _ B3.out B3.out.size))).mono ?_; rintro e w' ⟨rfl, hbw⟩; exact ⟨_, rfl, hK _ hbw⟩) ?_
      refine wpHoldF_val (wanted_none rfl) (by intro K o d hK; go_simp; exact hK _ (Below.refl _ _)) ?_
      refine wpHoldF_val (wanted_none rfl) (by intro K o d hK; go_simp; exact hK _ (Below.refl _ _)) ?_
      refine wpHoldF_late (wanted_none rfl) (fun w => by go_simp; rfl) ?_
      refine wpHoldF_nil ?_
      refine ⟨lays_step _ rfl rfl, fun s2 hg0 hn0 => ?_⟩
      intro W4 hb4 hblk
      have n_z_s2 : z ≠ s2 := by have := R3x0.out.2.2; omega
      have n_y_s2 : y ≠ s2 := by have := R3x1.out.2.2; omega
      have n_u_s2 : u ≠ s2 := by have := R3x2.out.2.2; omega
      have n_s1_s2 : s1 ≠ s2 := by have := N3.out.2.2; omega
      have l_s2 : w.heap.size ≤ s2 := Nat.le_trans B3.out.size hg0
      have V4x0 := Lib.hid (RowAt.of (hblk 0 s2 _ _ rfl rfl))
      clear hblk
      clear R3x0a R3x0b R3x0c R3x1a R3x1b R3x1c R3x2a R3x2b R3x2c N3a N3b N3c
      have R4x0 := Lib.hid (R3x0.out.grow hb4)
      have R4x1 := Lib.hid (R3x1.out.grow hb4)
      have R4x2 := Lib.hid (R3x2.out.grow hb4)
      have R4x3 := Lib.hid (N3.out.grow hb4)
      have B4 := Lib.hid (B3.out.trans (hb4.mono B3.out.size))
      clear hb4 B3 R3x0 R3x1 R3x2 N3
      obtain ⟨R4x0a, R4x0b, R4x0c⟩ := R4x0.out
      obtain ⟨R4x1a, R4x1b, R4x1c⟩ := R4x1.out
      obtain ⟨R4x2a, R4x2b, R4x2c⟩ := R4x2.out
      obtain ⟨R4x3a, R4x3b, R4x3c⟩ := R4x3.out
      obtain ⟨V4x0a, V4x0b, V4x0c⟩ := V4x0.out
      go_wp2_with fail
      have R5x0 := Lib.hid (R4x0.out.other n_z_s2 (stepA X))
      have R5x1 := Lib.hid (R4x1.out.other n_y_s2 (stepA X))
      have R5x2 := Lib.hid (R4x2.out.other n_u_s2 (stepA X))
      have R5x3 := Lib.hid (R4x3.out.other n_s1_s2 (stepA X))
      have R5x4 := Lib.hid (V4x0.out.set (stepA X))
      have B5 := Lib.hid (below_setRow B4.out l_s2 (stepA X))
      clear B4 R4x0 R4x1 R4x2 R4x3 V4x0 R4x0a R4x0b R4x0c R4x1a R4x1b R4x1c R4x2a R4x2b R4x2c R4x3a R4x3b R4x3c V4x0a V4x0b V4x0c
      generalize W4.setRow s2 (stepA X) = W5 at *
      have hsm := HOne.out _ u R5x2.out
      rw [hsm]
      go_simp
      clear hsm
      have R6x0 := Lib.hid (R5x0.out.other n_z_u (bysA H3))
      have R6x1 := Lib.hid (R5x1.out.other n_y_u (bysA H3))
      have R6x2 := Lib.hid (R5x2.out.set (bysA H3))
      have R6x3 := Lib.hid (R5x3.out.other (Ne.symm n_u_s1) (bysA H3))
      have R6x4 := Lib.hid (R5x4.out.other (Ne.symm n_u_s2) (bysA H3))
      have B6 := Lib.hid (below_setRow B5.out l_u (bysA H3))
      clear B5 R5x0 R5x1 R5x2 R5x3 R5x4
      generalize W5.setRow u (bysA H3) = W6 at *
      obtain ⟨R6x0a, R6x0b, R6x0c⟩ := R6x0.out
      obtain ⟨R6x1a, R6x1b, R6x1c⟩ := R6x1.out
      obtain ⟨R6x2a, R6x2b, R6x2c⟩ := R6x2.out
      obtain ⟨R6x3a, R6x3b, R6x3c⟩ := R6x3.out
      obtain ⟨R6x4a, R6x4b, R6x4c⟩ := R6x4.out
      go_wp2_with fail
      refine (KU3.out _ (HT.out.grow B6.out)).mono ?_
      rintro e W7 ⟨rfl, hb7⟩
      clear R6x0a R6x0b R6x0c R6x1a R6x1b R6x1c R6x2a R6x2b R6x2c R6x3a R6x3b R6x3c R6x4a R6x4b R6x4c
      have R7x0 := Lib.hid (R6x0.out.grow hb7)
      have R7x1 := Lib.hid (R6x1.out.grow hb7)
      have R7x2 := Lib.hid (R6x2.out.grow hb7)
      have R7x3 := Lib.hid (R6x3.out.grow hb7)
      have R7x4 := Lib.hid (R6x4.out.grow hb7)
      have B7 := Lib.hid (B6.out.trans (hb7.mono B6.out.size))
      clear hb7 B6 R6x0 R6x1 R6x2 R6x3 R6x4
      obtain ⟨R7x0a, R7x0b, R7x0c⟩ := R7x0.out
      obtain ⟨R7x1a, R7x1b, R7x1c⟩ := R7x1.out
      obtain ⟨R7x2a, R7x2b, R7x2c⟩ := R7x2.out
      obtain ⟨R7x3a, R7x3b, R7x3c⟩ := R7x3.out
      obtain ⟨R7x4a, R7x4b, R7x4c⟩ := R7x4.out
      go_wp2_with fail
      go_ret
      exact ⟨rfl, by first | exact below_alloc B7.out _ | exact B7.out | exact below_alloc (below_alloc B7.out _) _⟩
    · have h3' : (e3 != 0) = true := by simpa using h3
      clear HPX HPZ hXt hXsec hXn
      go_enter Tryz.func8, Tryz.ntmps8
      go_wp2_with fail
      generalize hW : World.alloc _ _ = W0
      have R0x0 := Lib.hid (show RowAt W0 (w.heap.size) (bysA o) by rw [← hW]; clear hW; exact ⟨by go_simp, by first | (go_simp; done) | (go_simp; rfl), by go_simp⟩)
      have R0x1 := Lib.hid (show RowAt W0 (w.heap.size + 1) (bysA H) by rw [← hW]; clear hW; exact ⟨by go_simp, by first | (go_simp; done) | (go_simp; rfl), by go_simp⟩)
      have R0x2 := Lib.hid (show RowAt W0 (w.heap.size + 1 + 1) (bysA H2) by rw [← hW]; clear hW; exact ⟨by go_simp, by first | (go_simp; done) | (go_simp; rfl), by go_simp⟩)
      have B0 := Lib.hid (show Below w.heap.size w W0 by rw [← hW]; repeat (first | apply below_alloc | exact Below.refl _ _))
      clear hW
      have l_z : w.heap.size ≤ w.heap.size := by omega
      have l_y : w.heap.size ≤ w.heap.size + 1 := by omega
      have n_z_y : w.heap.size ≠ w.heap.size + 1 := by omega
      have l_u : w.heap.size ≤ w.heap.size + 1 + 1 := by omega
      have n_z_u : w.heap.size ≠ w.heap.size + 1 + 1 := by omega
      have n_y_u : w.heap.size + 1 ≠ w.heap.size + 1 + 1 := by omega
      generalize w.heap.size + 1 + 1 = u at *
      generalize w.heap.size + 1 = y at *
      obtain ⟨z, ez⟩ : ∃ z, z = w.heap.size := ⟨_, rfl⟩
      rw [← ez] at R0x0 n_z_y n_z_u ⊢
      have l_z : w.heap.size ≤ z := by rw [ez]; exact Nat.le_refl _
      clear ez
      refine (alive10_c W0 (HT.out.grow B0.out)).mono ?_
      rintro e W1 ⟨rfl, hb1⟩
      have R1x0 := Lib.hid (R0x0.out.grow hb1)
      have R1x1 := Lib.hid (R0x1.out.grow hb1)
      have R1x2 := Lib.hid (R0x2.out.grow hb1)
      have B1 := Lib.hid (B0.out.trans (hb1.mono B0.out.size))
      clear hb1 B0 R0x0 R0x1 R0x2
      obtain ⟨R1x0a, R1x0b, R1x0c⟩ := R1x0.out
      obtain ⟨R1x1a, R1x1b, R1x1c⟩ := R1x1.out
      obtain ⟨R1x2a, R1x2b, R1x2c⟩ := R1x2.out
      go_wp2_with fail
      refine (KU1.out _ (HT.out.grow B1.out)).mono ?_
      rintro e W2 ⟨rfl, hb2⟩
      clear R1x0a R1x0b R1x0c R1x1a R1x1b R1x1c R1x2a R1x2b R1x2c
      have R2x0 := Lib.hid (R1x0.out.grow hb2)
      have R2x1 := Lib.hid (R1x1.out.grow hb2)
      have R2x2 := Lib.hid (R1x2.out.grow hb2)
      have B2 := Lib.hid (B1.out.trans (hb2.mono B1.out.size))
      clear hb2 B1 R1x0 R1x1 R1x2
      obtain ⟨R2x0a, R2x0b, R2x0c⟩ := R2x0.out
      obtain ⟨R2x1a, R2x1b, R2x1c⟩ := R2x1.out
      obtain ⟨R2x2a, R2x2b, R2x2c⟩ := R2x2.out
      go_wp2_with fail
      have n_z_s1 : z ≠ W2.heap.size := Nat.ne_of_lt R2x0.out.2.2
      have n_y_s1 : y ≠ W2.heap.size := Nat.ne_of_lt R2x1.out.2.2
      have n_u_s1 : u ≠ W2.heap.size := Nat.ne_of_lt R2x2.out.2.2
      have l_s1 : w.heap.size ≤ W2.heap.size := B2.out.size
      have hb3 := below_alloc (Below.refl W2.heap.size W2) (.cells (stepA X) 53)
      have N3 := Lib.hid (RowAt.of (block_new W2 (.cells (stepA X) 53)))
      have R3x0 := Lib.hid (R2x0.out.grow hb3)
      have R3x1 := Lib.hid (R2x1.out.grow hb3)
      have R3x2 := Lib.hid (R2x2.out.grow hb3)
      have B3 := Lib.hid (B2.out.trans (hb3.mono B2.out.size))
      clear hb3 B2 R2x0 R2x1 R2x2 R2x0a R2x0b R2x0c R2x1a R2x1b R2x1c R2x2a R2x2b R2x2c
      generalize W2.heap.size = s1 at *
      generalize W2.alloc (.cells (stepA X) 53) = W3 at *
      obtain ⟨R3x0a, R3x0b, R3x0c⟩ := R3x0.out
      obtain ⟨R3x1a, R3x1b, R3x1c⟩ := R3x1.out
      obtain ⟨R3x2a, R3x2b, R3x2c⟩ := R3x2.out
      obtain ⟨N3a, N3b, N3c⟩ := N3.out
      refine wp_region_pick W3 [0, 1, 2, 3, 4, 5, 6] [false, false, false, false, false, false, true] [7] [(53, stepA .zero)] 8 (by kernel_rfl) rfl (by kernel_rfl) (by intro c a d v w h; cases d <;> exact h) (by first | exact (Below.refl _ _).drew | exact Below.refl _ _) ?_
      simp only [pick, List.getElem?_cons_succ, List.getElem?_cons_zero, List.drop_succ_cons, List.drop_zero]
      refine wpHoldF_val (wanted_none rfl) (by intro K o d hK; go_simp; exact hK _ (Below.refl _ _)) ?_
      refine wpHoldF_call (v := .agg (bysA oc)) (wanted_none rfl) (by intro K o d hK; go_simp; refine (KC.out _).mono ?_; rintro e w' ⟨rfl, hbw⟩; exact ⟨_, rfl, hK _ hbw⟩) ?_
      refine wpHoldF_val (wanted_none rfl) (by intro K o d hK; go_simp; exact hK _ (Below.refl _ _)) ?_
      refine wpHoldF_call (v := .tuple #[.agg (stepA X), .int .i64 0]) (wanted_none rfl) (by intro K o d hK; go_simp; refine (KU2.out _ (HT.out.grow (below_plus_of _ _ _ B3.out B3.out.size))).mono ?_; rintro e w' ⟨rfl, hbw⟩; exact ⟨_, rfl, hK _ hbw⟩) ?_
      refine wpHoldF_val (wanted_none rfl) (by intro K o d hK; go_simp; exact hK _ (Below.refl _ _)) ?_
      refine wpHoldF_val (wanted_none rfl) (by intro K o d hK; go_simp; exact hK _ (Below.refl _ _)) ?_
      refine wpHoldF_late (wanted_none rfl) (fun w => by go_simp; rfl) ?_
      refine wpHoldF_nil ?_
      refine ⟨lays_step _ rfl rfl, fun s2 hg0 hn0 => ?_⟩
      intro W4 hb4 hblk
      have n_z_s2 : z ≠ s2 := by have := R3x0.out.2.2; omega
      have n_y_s2 : y ≠ s2 := by have := R3x1.out.2.2; omega
      have n_u_s2 : u ≠ s2 := by have := R3x2.out.2.2; omega
      have n_s1_s2 : s1 ≠ s2 := by have := N3.out.2.2; omega
      have l_s2 : w.heap.size ≤ s2 := Nat.le_trans B3.out.size hg0
      have V4x0 := Lib.hid (RowAt.of (hblk 0 s2 _ _ rfl rfl))
      clear hblk
      clear R3x0a R3x0b R3x0c R3x1a R3x1b R3x1c R3x2a R3x2b R3x2c N3a N3b N3c
      have R4x0 := Lib.hid (R3x0.out.grow hb4)
      have R4x1 := Lib.hid (R3x1.out.grow hb4)
      have R4x2 := Lib.hid (R3x2.out.grow hb4)
      have R4x3 := Lib.hid (N3.out.grow hb4)
      have B4 := Lib.hid (B3.out.trans (hb4.mono B3.out.size))
      clear hb4 B3 R3x0 R3x1 R3x2 N3
      obtain ⟨R4x0a, R4x0b, R4x0c⟩ := R4x0.out
      obtain ⟨R4x1a, R4x1b, R4x1c⟩ := R4x1.out
      obtain ⟨R4x2a, R4x2b, R4x2c⟩ := R4x2.out
      obtain ⟨R4x3a, R4x3b, R4x3c⟩ := R4x3.out
      obtain ⟨V4x0a, V4x0b, V4x0c⟩ := V4x0.out
      go_wp2_with fail
      have R5x0 := Lib.hid (R4x0.out.other n_z_s2 (stepA X))
      have R5x1 := Lib.hid (R4x1.out.other n_y_s2 (stepA X))
      have R5x2 := Lib.hid (R4x2.out.other n_u_s2 (stepA X))
      have R5x3 := Lib.hid (R4x3.out.other n_s1_s2 (stepA X))
      have R5x4 := Lib.hid (V4x0.out.set (stepA X))
      have B5 := Lib.hid (below_setRow B4.out l_s2 (stepA X))
      clear B4 R4x0 R4x1 R4x2 R4x3 V4x0 R4x0a R4x0b R4x0c R4x1a R4x1b R4x1c R4x2a R4x2b R4x2c R4x3a R4x3b R4x3c V4x0a V4x0b V4x0c
      generalize W4.setRow s2 (stepA X) = W5 at *
      have hsm := HOne.out _ u R5x2.out
      rw [hsm]
      go_simp
      clear hsm
      have R6x0 := Lib.hid (R5x0.out.other n_z_u (bysA H3))
      have R6x1 := Lib.hid (R5x1.out.other n_y_u (bysA H3))
      have R6x2 := Lib.hid (R5x2.out.set (bysA H3))
      have R6x3 := Lib.hid (R5x3.out.other (Ne.symm n_u_s1) (bysA H3))
      have R6x4 := Lib.hid (R5x4.out.other (Ne.symm n_u_s2) (bysA H3))
      have B6 := Lib.hid (below_setRow B5.out l_u (bysA H3))
      clear B5 R5x0 R5x1 R5x2 R5x3 R5x4
      generalize W5.setRow u (bysA H3) = W6 at *
      obtain ⟨R6x0a, R6x0b, R6x0c⟩ := R6x0.out
      obtain ⟨R6x1a, R6x1b, R6x1c⟩ := R6x1.out
      obtain ⟨R6x2a, R6x2b, R6x2c⟩ := R6x2.out
      obtain ⟨R6x3a, R6x3b, R6x3c⟩ := R6x3.out
      obtain ⟨R6x4a, R6x4b, R6x4c⟩ := R6x4.out
      go_wp2_with fail
      refine (KU3.out _ (HT.out.grow B6.out)).mono ?_
      rintro e W7 ⟨rfl, hb7⟩
      clear R6x0a R6x0b R6x0c R6x1a R6x1b R6x1c R6x2a R6x2b R6x2c R6x3a R6x3b R6x3c R6x4a R6x4b R6x4c
      have R7x0 := Lib.hid (R6x0.out.grow hb7)
      have R7x1 := Lib.hid (R6x1.out.grow hb7)
      have R7x2 := Lib.hid (R6x2.out.grow hb7)
      have R7x3 := Lib.hid (R6x3.out.grow hb7)
      have R7x4 := Lib.hid (R6x4.out.grow hb7)
      have B7 := Lib.hid (B6.out.trans (hb7.mono B6.out.size))
      clear hb7 B6 R6x0 R6x1 R6x2 R6x3 R6x4
      obtain ⟨R7x0a, R7x0b, R7x0c⟩ := R7x0.out
      obtain ⟨R7x1a, R7x1b, R7x1c⟩ := R7x1.out
      obtain ⟨R7x2a, R7x2b, R7x2c⟩ := R7x2.out
      obtain ⟨R7x3a, R7x3b, R7x3c⟩ := R7x3.out
      obtain ⟨R7x4a, R7x4b, R7x4c⟩ := R7x4.out
      go_wp2_with fail
      go_ret
      exact ⟨rfl, by first | exact below_alloc B7.out _ | exact B7.out | exact below_alloc (below_alloc B7.out _) _⟩
  · have h1' : (e1 != 0) = true := by simpa using h1
    clear HPX HPZ
    go_enter Tryz.func8, Tryz.ntmps8
    go_wp2_with fail
    generalize hW : World.alloc _ _ = W0
    have R0x0 := Lib.hid (show RowAt W0 (w.heap.size) (bysA o) by rw [← hW]; clear hW; exact ⟨by go_simp, by first | (go_simp; done) | (go_simp; rfl), by go_simp⟩)
    have R0x1 := Lib.hid (show RowAt W0 (w.heap.size + 1) (bysA H) by rw [← hW]; clear hW; exact ⟨by go_simp, by first | (go_simp; done) | (go_simp; rfl), by go_simp⟩)
    have R0x2 := Lib.hid (show RowAt W0 (w.heap.size + 1 + 1) (bysA H2) by rw [← hW]; clear hW; exact ⟨by go_simp, by first | (go_simp; done) | (go_simp; rfl), by go_simp⟩)
    have B0 := Lib.hid (show Below w.heap.size w W0 by rw [← hW]; repeat (first | apply below_alloc | exact Below.refl _ _))
    clear hW
    have l_z : w.heap.size ≤ w.heap.size := by omega
    have l_y : w.heap.size ≤ w.heap.size + 1 := by omega
    have n_z_y : w.heap.size ≠ w.heap.size + 1 := by omega
    have l_u : w.heap.size ≤ w.heap.size + 1 + 1 := by omega
    have n_z_u : w.heap.size ≠ w.heap.size + 1 + 1 := by omega
    have n_y_u : w.heap.size + 1 ≠ w.heap.size + 1 + 1 := by omega
    generalize w.heap.size + 1 + 1 = u at *
    generalize w.heap.size + 1 = y at *
    obtain ⟨z, ez⟩ : ∃ z, z = w.heap.size := ⟨_, rfl⟩
    rw [← ez] at R0x0 n_z_y n_z_u ⊢
    have l_z : w.heap.size ≤ z := by rw [ez]; exact Nat.le_refl _
    clear ez
    refine (alive10_c W0 (HT.out.grow B0.out)).mono ?_
    rintro e W1 ⟨rfl, hb1⟩
    have R1x0 := Lib.hid (R0x0.out.grow hb1)
    have R1x1 := Lib.hid (R0x1.out.grow hb1)
    have R1x2 := Lib.hid (R0x2.out.grow hb1)
    have B1 := Lib.hid (B0.out.trans (hb1.mono B0.out.size))
    clear hb1 B0 R0x0 R0x1 R0x2
    obtain ⟨R1x0a, R1x0b, R1x0c⟩ := R1x0.out
    obtain ⟨R1x1a, R1x1b, R1x1c⟩ := R1x1.out
    obtain ⟨R1x2a, R1x2b, R1x2c⟩ := R1x2.out
    go_wp2_with fail
    refine (KU1.out _ (HT.out.grow B1.out)).mono ?_
    rintro e W2 ⟨rfl, hb2⟩
    clear R1x0a R1x0b R1x0c R1x1a R1x1b R1x1c R1x2a R1x2b R1x2c
    have R2x0 := Lib.hid (R1x0.out.grow hb2)
    have R2x1 := Lib.hid (R1x1.out.grow hb2)
    have R2x2 := Lib.hid (R1x2.out.grow hb2)
    have B2 := Lib.hid (B1.out.trans (hb2.mono B1.out.size))
    clear hb2 B1 R1x0 R1x1 R1x2
    obtain ⟨R2x0a, R2x0b, R2x0c⟩ := R2x0.out
    obtain ⟨R2x1a, R2x1b, R2x1c⟩ := R2x1.out
    obtain ⟨R2x2a, R2x2b, R2x2c⟩ := R2x2.out
    go_wp2_with fail
    have n_z_s1 : z ≠ W2.heap.size := Nat.ne_of_lt R2x0.out.2.2
    have n_y_s1 : y ≠ W2.heap.size := Nat.ne_of_lt R2x1.out.2.2
    have n_u_s1 : u ≠ W2.heap.size := Nat.ne_of_lt R2x2.out.2.2
    have l_s1 : w.heap.size ≤ W2.heap.size := B2.out.size
    have hb3 := below_alloc (Below.refl W2.heap.size W2) (.cells (stepA X) 53)
    have N3 := Lib.hid (RowAt.of (block_new W2 (.cells (stepA X) 53)))
    have R3x0 := Lib.hid (R2x0.out.grow hb3)
    have R3x1 := Lib.hid (R2x1.out.grow hb3)
    have R3x2 := Lib.hid (R2x2.out.grow hb3)
    have B3 := Lib.hid (B2.out.trans (hb3.mono B2.out.size))
    clear hb3 B2 R2x0 R2x1 R2x2 R2x0a R2x0b R2x0c R2x1a R2x1b R2x1c R2x2a R2x2b R2x2c
    generalize W2.heap.size = s1 at *
    generalize W2.alloc (.cells (stepA X) 53) = W3 at *
    obtain ⟨R3x0a, R3x0b, R3x0c⟩ := R3x0.out
    obtain ⟨R3x1a, R3x1b, R3x1c⟩ := R3x1.out
    obtain ⟨R3x2a, R3x2b, R3x2c⟩ := R3x2.out
    obtain ⟨N3a, N3b, N3c⟩ := N3.out
    refine wp_region_pick W3 [0, 1, 2, 3, 4, 5, 6] [false, false, false, false, false, false, true] [7] [(53, stepA .zero)] 8 (by kernel_rfl) rfl (by kernel_rfl) (by intro c a d v w h; cases d <;> exact h) (by first | exact (Below.refl _ _).drew | exact Below.refl _ _) ?_
    simp only [pick, List.getElem?_cons_succ, List.getElem?_cons_zero, List.drop_succ_cons, List.drop_zero]
    refine wpHoldF_val (wanted_none rfl) (by intro K o d hK; go_simp; exact hK _ (Below.refl _ _)) ?_
    refine wpHoldF_call (v := .agg (bysA oc)) (wanted_none rfl) (by intro K o d hK; go_simp; refine (KC.out _).mono ?_; rintro e w' ⟨rfl, hbw⟩; exact ⟨_, rfl, hK _ hbw⟩) ?_
    refine wpHoldF_val (wanted_none rfl) (by intro K o d hK; go_simp; exact hK _ (Below.refl _ _)) ?_
    refine wpHoldF_call (v := .tuple #[.agg (stepA X), .int .i64 e1]) (wanted_none rfl) (by intro K o d hK; go_simp; refine (KU2.out _ (HT.out.grow (below_plus_of _ _ _ B3.out B3.out.size))).mono ?_; rintro e w' ⟨rfl, hbw⟩; exact ⟨_, rfl, hK _ hbw⟩) ?_
    refine wpHoldF_val (wanted_none rfl) (by intro K o d hK; go_simp; exact hK _ (Below.refl _ _)) ?_
    refine wpHoldF_val (wanted_none rfl) (by intro K o d hK; go_simp; exact hK _ (Below.refl _ _)) ?_
    refine wpHoldF_late (wanted_none rfl) (fun w => by go_simp; rfl) ?_
    refine wpHoldF_nil ?_
    refine ⟨lays_step _ rfl rfl, fun s2 hg0 hn0 => ?_⟩
    intro W4 hb4 hblk
    have n_z_s2 : z ≠ s2 := by have := R3x0.out.2.2; omega
    have n_y_s2 : y ≠ s2 := by have := R3x1.out.2.2; omega
    have n_u_s2 : u ≠ s2 := by have := R3x2.out.2.2; omega
    have n_s1_s2 : s1 ≠ s2 := by have := N3.out.2.2; omega
    have l_s2 : w.heap.size ≤ s2 := Nat.le_trans B3.out.size hg0
    have V4x0 := Lib.hid (RowAt.of (hblk 0 s2 _ _ rfl rfl))
    clear hblk
    clear R3x0a R3x0b R3x0c R3x1a R3x1b R3x1c R3x2a R3x2b R3x2c N3a N3b N3c
    have R4x0 := Lib.hid (R3x0.out.grow hb4)
    have R4x1 := Lib.hid (R3x1.out.grow hb4)
    have R4x2 := Lib.hid (R3x2.out.grow hb4)
    have R4x3 := Lib.hid (N3.out.grow hb4)
    have B4 := Lib.hid (B3.out.trans (hb4.mono B3.out.size))
    clear hb4 B3 R3x0 R3x1 R3x2 N3
    obtain ⟨R4x0a, R4x0b, R4x0c⟩ := R4x0.out
    obtain ⟨R4x1a, R4x1b, R4x1c⟩ := R4x1.out
    obtain ⟨R4x2a, R4x2b, R4x2c⟩ := R4x2.out
    obtain ⟨R4x3a, R4x3b, R4x3c⟩ := R4x3.out
    obtain ⟨V4x0a, V4x0b, V4x0c⟩ := V4x0.out
    go_wp2_with fail
    have R5x0 := Lib.hid (R4x0.out.other n_z_s2 (stepA X))
    have R5x1 := Lib.hid (R4x1.out.other n_y_s2 (stepA X))
    have R5x2 := Lib.hid (R4x2.out.other n_u_s2 (stepA X))
    have R5x3 := Lib.hid (R4x3.out.other n_s1_s2 (stepA X))
    have R5x4 := Lib.hid (V4x0.out.set (stepA X))
    have B5 := Lib.hid (below_setRow B4.out l_s2 (stepA X))
    clear B4 R4x0 R4x1 R4x2 R4x3 V4x0 R4x0a R4x0b R4x0c R4x1a R4x1b R4x1c R4x2a R4x2b R4x2c R4x3a R4x3b R4x3c V4x0a V4x0b V4x0c
    generalize W4.setRow s2 (stepA X) = W5 at *
    have hsm := HOne.out _ u R5x2.out
    rw [hsm]
    go_simp
    clear hsm
    have R6x0 := Lib.hid (R5x0.out.other n_z_u (bysA H3))
    have R6x1 := Lib.hid (R5x1.out.other n_y_u (bysA H3))
    have R6x2 := Lib.hid (R5x2.out.set (bysA H3))
    have R6x3 := Lib.hid (R5x3.out.other (Ne.symm n_u_s1) (bysA H3))
    have R6x4 := Lib.hid (R5x4.out.other (Ne.symm n_u_s2) (bysA H3))
    have B6 := Lib.hid (below_setRow B5.out l_u (bysA H3))
    clear B5 R5x0 R5x1 R5x2 R5x3 R5x4
    generalize W5.setRow u (bysA H3) = W6 at *
    obtain ⟨R6x0a, R6x0b, R6x0c⟩ := R6x0.out
    obtain ⟨R6x1a, R6x1b, R6x1c⟩ := R6x1.out
    obtain ⟨R6x2a, R6x2b, R6x2c⟩ := R6x2.out
    obtain ⟨R6x3a, R6x3b, R6x3c⟩ := R6x3.out
    obtain ⟨R6x4a, R6x4b, R6x4c⟩ := R6x4.out
    go_wp2_with fail
    refine (KU3.out _ (HT.out.grow B6.out)).mono ?_
    rintro e W7 ⟨rfl, hb7⟩
    clear R6x0a R6x0b R6x0c R6x1a R6x1b R6x1c R6x2a R6x2b R6x2c R6x3a R6x3b R6x3c R6x4a R6x4b R6x4c
    have R7x0 := Lib.hid (R6x0.out.grow hb7)
    have R7x1 := Lib.hid (R6x1.out.grow hb7)
    have R7x2 := Lib.hid (R6x2.out.grow hb7)
    have R7x3 := Lib.hid (R6x3.out.grow hb7)
    have R7x4 := Lib.hid (R6x4.out.grow hb7)
    have B7 := Lib.hid (B6.out.trans (hb7.mono B6.out.size))
    clear hb7 B6 R6x0 R6x1 R6x2 R6x3 R6x4
    obtain ⟨R7x0a, R7x0b, R7x0c⟩ := R7x0.out
    obtain ⟨R7x1a, R7x1b, R7x1c⟩ := R7x1.out
    obtain ⟨R7x2a, R7x2b, R7x2c⟩ := R7x2.out
    obtain ⟨R7x3a, R7x3b, R7x3c⟩ := R7x3.out
    obtain ⟨R7x4a, R7x4b, R7x4c⟩ := R7x4.out
    go_wp2_with fail
    go_ret
    exact ⟨rfl, by first | exact below_alloc B7.out _ | exact B7.out | exact below_alloc (below_alloc B7.out _) _⟩
end Go.Proofs.YtddmjddlbhdcpaaGreatDoor
