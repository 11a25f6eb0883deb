/-
  The reference's answer for layer 2: pairs that are doubled, and added.
-/
import Derived.Test.YtpilonikhokjeaaCurveShared
import Derived.Test.YtpilonikhokjeaaPick
namespace Go.Proofs.Ytpilonikhokjeaa
open Go.RowKit Go.Shelf Go.Hold

@[go_sem ↓] theorem loadAt_pair (v : Value) : Instr.loadAt 52 v = loadRow 52 v := rfl
@[go_sem] theorem run_loadPair (w : World) (n : Nat) (h1 : w.isRow n = true) (h2 : (w.rowOf n).size = 64) : (loadRow 52 (.pointer (some ⟨n, 0, none⟩))).run Try.prog w = .ok (.agg (w.rowOf n)) w := run_loadRow w Try.underlying52 rfl (by kernel_rfl) n h1 h2
theorem results_pair {fn : Func} {p : Tmp} {x z : Nat} (h : fn.results = #[.cell p 52]) (w : World) (tmps : Array Value) (n : Nat) (hp : tmps.getD p undef = .pointer (some ⟨n, 0, none⟩)) (h1 : w.isRow n = true) (h2 : w.rowOf n = fracA x z) : (results fn tmps).run Try.prog w = .ok (fv x z) w :=
  results_row w h Try.underlying52 rfl (by rw [fracA_size]; kernel_rfl) tmps n hp h1 h2
@[go_sem ↓] theorem build_pair (ps : Array (Nat × Value)) : Instr.build 52 ps = bld 52 ps := rfl
set_option maxRecDepth 100000 in
@[go_sem] theorem run_bld_pair1 (w : World) (x : Nat) : (bld 52 #[(0, .agg (keyA x))]).run Try.prog w = .ok (fv x 0) w := by
  refine run_build w _ _ _ ?_
  have e : fracA x 0 = keyA x ++ #[.int .u8 0, .int .u8 0, .int .u8 0, .int .u8 0, .int .u8 0, .int .u8 0, .int .u8 0, .int .u8 0, .int .u8 0, .int .u8 0, .int .u8 0, .int .u8 0, .int .u8 0, .int .u8 0, .int .u8 0, .int .u8 0, .int .u8 0, .int .u8 0, .int .u8 0, .int .u8 0, .int .u8 0, .int .u8 0, .int .u8 0, .int .u8 0, .int .u8 0, .int .u8 0, .int .u8 0, .int .u8 0, .int .u8 0, .int .u8 0, .int .u8 0, .int .u8 0] := by
    unfold fracA; rw [← keyA_small 0 (by decide)]; rfl
  have h2 : Try.prog.built 52 [(0, .agg (keyA x))] = some (keyA x ++ #[.int .u8 0, .int .u8 0, .int .u8 0, .int .u8 0, .int .u8 0, .int .u8 0, .int .u8 0, .int .u8 0, .int .u8 0, .int .u8 0, .int .u8 0, .int .u8 0, .int .u8 0, .int .u8 0, .int .u8 0, .int .u8 0, .int .u8 0, .int .u8 0, .int .u8 0, .int .u8 0, .int .u8 0, .int .u8 0, .int .u8 0, .int .u8 0, .int .u8 0, .int .u8 0, .int .u8 0, .int .u8 0, .int .u8 0, .int .u8 0, .int .u8 0, .int .u8 0]) := by kernel_rfl
  rw [e]; exact h2
set_option maxRecDepth 100000 in
@[go_sem] theorem run_bld_pair2 (w : World) (x z : Nat) : (bld 52 #[(0, .agg (keyA x)), (1, .agg (keyA z))]).run Try.prog w = .ok (fv x z) w :=
  run_build w _ _ (fracA x z) (by kernel_rfl)
theorem lays_pair (o : Oper) (h : o.op = .alloc 52) (hg : o.guard = none) : Lays Try.prog o 52 #[.int .u8 0, .int .u8 0, .int .u8 0, .int .u8 0, .int .u8 0, .int .u8 0, .int .u8 0, .int .u8 0, .int .u8 0, .int .u8 0, .int .u8 0, .int .u8 0, .int .u8 0, .int .u8 0, .int .u8 0, .int .u8 0, .int .u8 0, .int .u8 0, .int .u8 0, .int .u8 0, .int .u8 0, .int .u8 0, .int .u8 0, .int .u8 0, .int .u8 0, .int .u8 0, .int .u8 0, .int .u8 0, .int .u8 0, .int .u8 0, .int .u8 0, .int .u8 0, .int .u8 0, .int .u8 0, .int .u8 0, .int .u8 0, .int .u8 0, .int .u8 0, .int .u8 0, .int .u8 0, .int .u8 0, .int .u8 0, .int .u8 0, .int .u8 0, .int .u8 0, .int .u8 0, .int .u8 0, .int .u8 0, .int .u8 0, .int .u8 0, .int .u8 0, .int .u8 0, .int .u8 0, .int .u8 0, .int .u8 0, .int .u8 0, .int .u8 0, .int .u8 0, .int .u8 0, .int .u8 0, .int .u8 0, .int .u8 0, .int .u8 0, .int .u8 0] := by
  refine ⟨hg, fun a w => ?_⟩
  obtain ⟨dst, op, ty, pos, after, guard⟩ := o
  simp only at h hg
  subst h; subst hg
  go_simp

set_option maxHeartbeats 2000000 in
set_option maxRecDepth 100000 in
theorem rtwice_K (x z : Nat) (hx : x < 115792089237316195423570985008687907853269984665640564039457584007913129639936) (hz : z < 115792089237316195423570985008687907853269984665640564039457584007913129639936) (w : World) :
    Calls Try.prog 34 #[fv x z, kv 121665] w fun e w' => e = .returned (fv (Cv.ntw (x, z)).1 (Cv.ntw (x, z)).2) ∧ Below w.heap.size w w' := by
  show Calls Try.prog 34 #[fv x z, kv 121665] w fun e w' => e = .returned (fv (Cv.nmul (Cv.nmul (Cv.nadd x z) (Cv.nadd x z)) (Cv.nmul (Cv.nsub x z) (Cv.nsub x z)))
    (Cv.nmul (Cv.nsub (Cv.nmul (Cv.nadd x z) (Cv.nadd x z)) (Cv.nmul (Cv.nsub x z) (Cv.nsub x z))) (Cv.nadd (Cv.nmul (Cv.nadd x z) (Cv.nadd x z)) (Cv.nmul 121665 (Cv.nsub (Cv.nmul (Cv.nadd x z) (Cv.nadd x z)) (Cv.nmul (Cv.nsub x z) (Cv.nsub x z))))))) ∧ Below w.heap.size w w'
  obtain ⟨sa, esa⟩ : ∃ y, y = Cv.nadd x z := ⟨_, rfl⟩
  have lsa : sa < 115792089237316195423570985008687907853269984665640564039457584007913129639936 := by rw [esa]; exact (Nat.lt_trans (Cv.nadd_lt _ _) P_lt)
  have Hsa := Lib.hid esa.symm
  obtain ⟨df, edf⟩ : ∃ y, y = Cv.nsub x z := ⟨_, rfl⟩
  have ldf : df < 115792089237316195423570985008687907853269984665640564039457584007913129639936 := by rw [edf]; exact (Nat.lt_trans (Cv.nsub_lt _ _) P_lt)
  have Hdf := Lib.hid edf.symm
  obtain ⟨aa, eaa⟩ : ∃ y, y = Cv.nmul sa sa := ⟨_, rfl⟩
  have laa : aa < 115792089237316195423570985008687907853269984665640564039457584007913129639936 := by rw [eaa]; exact (Nat.lt_trans (Cv.nmul_lt _ _) P_lt)
  have Haa := Lib.hid eaa.symm
  obtain ⟨bb, ebb⟩ : ∃ y, y = Cv.nmul df df := ⟨_, rfl⟩
  have lbb : bb < 115792089237316195423570985008687907853269984665640564039457584007913129639936 := by rw [ebb]; exact (Nat.lt_trans (Cv.nmul_lt _ _) P_lt)
  have Hbb := Lib.hid ebb.symm
  obtain ⟨ee, eee⟩ : ∃ y, y = Cv.nsub aa bb := ⟨_, rfl⟩
  have lee : ee < 115792089237316195423570985008687907853269984665640564039457584007913129639936 := by rw [eee]; exact (Nat.lt_trans (Cv.nsub_lt _ _) P_lt)
  have Hee := Lib.hid eee.symm
  obtain ⟨k, ek⟩ : ∃ y, y = Cv.nmul 121665 ee := ⟨_, rfl⟩
  have lk : k < 115792089237316195423570985008687907853269984665640564039457584007913129639936 := by rw [ek]; exact (Nat.lt_trans (Cv.nmul_lt _ _) P_lt)
  have Hk := Lib.hid ek.symm
  obtain ⟨t, et⟩ : ∃ y, y = Cv.nadd aa k := ⟨_, rfl⟩
  have lt : t < 115792089237316195423570985008687907853269984665640564039457584007913129639936 := by rw [et]; exact (Nat.lt_trans (Cv.nadd_lt _ _) P_lt)
  have Ht := Lib.hid et.symm
  obtain ⟨X, eX⟩ : ∃ y, y = Cv.nmul aa bb := ⟨_, rfl⟩
  have lX : X < 115792089237316195423570985008687907853269984665640564039457584007913129639936 := by rw [eX]; exact (Nat.lt_trans (Cv.nmul_lt _ _) P_lt)
  have HX := Lib.hid eX.symm
  obtain ⟨Z, eZ⟩ : ∃ y, y = Cv.nmul ee t := ⟨_, rfl⟩
  have lZ : Z < 115792089237316195423570985008687907853269984665640564039457584007913129639936 := by rw [eZ]; exact (Nat.lt_trans (Cv.nmul_lt _ _) P_lt)
  have HZ := Lib.hid eZ.symm
  rw [← esa, ← edf, ← eaa, ← ebb, ← eee, ← ek, ← et, ← eX, ← eZ]
  clear esa edf eaa ebb eee ek et eX eZ
  go_enter Try.func34, Try.ntmps34
  go_wp2_with fail
  generalize hW : World.alloc _ _ = W1
  have R1x0 := Lib.hid (show RowAt W1 (w.heap.size) (fracA x z) by rw [← hW]; clear hW; exact ⟨by go_simp, by go_simp, by go_simp⟩)
  have R1x1 := Lib.hid (show RowAt W1 (w.heap.size + 1) (keyA 121665) by rw [← hW]; clear hW; exact ⟨by go_simp, by go_simp, by go_simp⟩)
  have R1x2 := Lib.hid (show RowAt W1 (w.heap.size + 1 + 1) (#[.int .u8 0, .int .u8 0, .int .u8 0, .int .u8 0, .int .u8 0, .int .u8 0, .int .u8 0, .int .u8 0, .int .u8 0, .int .u8 0, .int .u8 0, .int .u8 0, .int .u8 0, .int .u8 0, .int .u8 0, .int .u8 0, .int .u8 0, .int .u8 0, .int .u8 0, .int .u8 0, .int .u8 0, .int .u8 0, .int .u8 0, .int .u8 0, .int .u8 0, .int .u8 0, .int .u8 0, .int .u8 0, .int .u8 0, .int .u8 0, .int .u8 0, .int .u8 0, .int .u8 0, .int .u8 0, .int .u8 0, .int .u8 0, .int .u8 0, .int .u8 0, .int .u8 0, .int .u8 0, .int .u8 0, .int .u8 0, .int .u8 0, .int .u8 0, .int .u8 0, .int .u8 0, .int .u8 0, .int .u8 0, .int .u8 0, .int .u8 0, .int .u8 0, .int .u8 0, .int .u8 0, .int .u8 0, .int .u8 0, .int .u8 0, .int .u8 0, .int .u8 0, .int .u8 0, .int .u8 0, .int .u8 0, .int .u8 0, .int .u8 0, .int .u8 0]) by rw [← hW]; clear hW; exact ⟨by go_simp, by go_simp, by go_simp⟩)
  have HB1 := Lib.hid (show Below w.heap.size w W1 by rw [← hW]; repeat (first | apply below_more | apply below_alloc | apply Below.drew | refine below_setRow ?_ (by omega) _ | exact Below.refl _ _))
  clear hW
  obtain ⟨R1x0a, R1x0b, R1x0c⟩ := R1x0.out
  obtain ⟨R1x1a, R1x1b, R1x1c⟩ := R1x1.out
  obtain ⟨R1x2a, R1x2b, R1x2c⟩ := R1x2.out
  refine wp_region_pick W1 [0, 1, 2, 3, 4, 5, 6, 7, 8, 9] [false, false, false, false, false, false, false, false, false, false] [10, 11] [(23, #[.int .u8 0, .int .u8 0, .int .u8 0, .int .u8 0, .int .u8 0, .int .u8 0, .int .u8 0, .int .u8 0, .int .u8 0, .int .u8 0, .int .u8 0, .int .u8 0, .int .u8 0, .int .u8 0, .int .u8 0, .int .u8 0, .int .u8 0, .int .u8 0, .int .u8 0, .int .u8 0, .int .u8 0, .int .u8 0, .int .u8 0, .int .u8 0, .int .u8 0, .int .u8 0, .int .u8 0, .int .u8 0, .int .u8 0, .int .u8 0, .int .u8 0, .int .u8 0]), (23, #[.int .u8 0, .int .u8 0, .int .u8 0, .int .u8 0, .int .u8 0, .int .u8 0, .int .u8 0, .int .u8 0, .int .u8 0, .int .u8 0, .int .u8 0, .int .u8 0, .int .u8 0, .int .u8 0, .int .u8 0, .int .u8 0, .int .u8 0, .int .u8 0, .int .u8 0, .int .u8 0, .int .u8 0, .int .u8 0, .int .u8 0, .int .u8 0, .int .u8 0, .int .u8 0, .int .u8 0, .int .u8 0, .int .u8 0, .int .u8 0, .int .u8 0, .int .u8 0])] 12 (by kernel_rfl) rfl (by kernel_rfl) (by intro c a d v w h; cases d <;> exact h) ((Below.refl _ _).drew) ?_
  simp only [pick, List.getElem?_cons_succ, List.getElem?_cons_zero, List.drop_succ_cons, List.drop_zero]
  refine wpHoldF_val (wanted_none rfl) (by intro K o d hK; go_simp; exact hK _ (Below.refl _ _)) ?_
  refine wpHoldF_val (wanted_none rfl) (by intro K o d hK; go_simp; exact hK _ (Below.refl _ _)) ?_
  refine wpHoldF_val (wanted_none rfl) (by intro K o d hK; go_simp; exact hK _ (Below.refl _ _)) ?_
  refine wpHoldF_val (wanted_none rfl) (by intro K o d hK; go_simp; exact hK _ (Below.refl _ _)) ?_
  refine wpHoldF_call (v := kv sa) (wanted_none rfl) (by intro K o d hK; go_simp; refine (radd_K x z sa hx hz Hsa.out _).mono ?_; rintro e w' ⟨rfl, hbw⟩; exact ⟨_, rfl, hK _ hbw⟩) ?_
  refine wpHoldF_val (wanted_none rfl) (by intro K o d hK; go_simp; exact hK _ (Below.refl _ _)) ?_
  refine wpHoldF_val (wanted_none rfl) (by intro K o d hK; go_simp; exact hK _ (Below.refl _ _)) ?_
  refine wpHoldF_val (wanted_none rfl) (by intro K o d hK; go_simp; exact hK _ (Below.refl _ _)) ?_
  refine wpHoldF_val (wanted_none rfl) (by intro K o d hK; go_simp; exact hK _ (Below.refl _ _)) ?_
  refine wpHoldF_call (v := kv df) (wanted_none rfl) (by intro K o d hK; go_simp; refine (rsub_K x z df hx hz Hdf.out _).mono ?_; rintro e w' ⟨rfl, hbw⟩; exact ⟨_, rfl, hK _ hbw⟩) ?_
  refine wpHoldF_nil ?_
  refine ⟨lays_key _ rfl rfl, fun g2x0 hg2x0 hn2x0 => ?_⟩
  refine ⟨lays_key _ rfl rfl, fun g2x1 hg2x1 hn2x1 => ?_⟩
  simp at hn2x1
  intro w2 hb2 hblk2
  have A2x0 := R1x0.out.grow hb2
  have c2x0 := R1x0.out.2.2
  have A2x1 := R1x1.out.grow hb2
  have c2x1 := R1x1.out.2.2
  have A2x2 := R1x2.out.grow hb2
  have c2x2 := R1x2.out.2.2
  have N2x0 := RowAt.of (hblk2 0 g2x0 _ _ rfl rfl)
  have N2x1 := RowAt.of (hblk2 1 g2x1 _ _ rfl rfl)
  have B2x0 := HB1.out.trans (hb2.mono HB1.out.size)
  have s2 := HB1.out.size
  have le2x0 : w.heap.size ≤ g2x0 := by omega
  have le2x1 : w.heap.size ≤ g2x1 := by omega
  have ne2x0x0 : ¬ w.heap.size = g2x0 := by omega
  have nf2x0x0 : ¬ g2x0 = w.heap.size := by omega
  have ne2x0x1 : ¬ w.heap.size = g2x1 := by omega
  have nf2x0x1 : ¬ g2x1 = w.heap.size := by omega
  have ne2x1x0 : ¬ w.heap.size + 1 = g2x0 := by omega
  have nf2x1x0 : ¬ g2x0 = w.heap.size + 1 := by omega
  have ne2x1x1 : ¬ w.heap.size + 1 = g2x1 := by omega
  have nf2x1x1 : ¬ g2x1 = w.heap.size + 1 := by omega
  have ne2x2x0 : ¬ w.heap.size + 1 + 1 = g2x0 := by omega
  have nf2x2x0 : ¬ g2x0 = w.heap.size + 1 + 1 := by omega
  have ne2x2x1 : ¬ w.heap.size + 1 + 1 = g2x1 := by omega
  have nf2x2x1 : ¬ g2x1 = w.heap.size + 1 + 1 := by omega
  have ne2x3x1 : ¬ g2x0 = g2x1 := by omega
  have ne2x4x0 : ¬ g2x1 = g2x0 := by omega
  have P2x0x0 := A2x0.other (show w.heap.size ≠ g2x0 by omega) (keyA sa)
  have P2x0x1 := A2x1.other (show w.heap.size + 1 ≠ g2x0 by omega) (keyA sa)
  have P2x0x2 := A2x2.other (show w.heap.size + 1 + 1 ≠ g2x0 by omega) (keyA sa)
  have P2x0x3 := N2x0.set (keyA sa)
  have P2x0x4 := N2x1.other (show g2x1 ≠ g2x0 by omega) (keyA sa)
  have B2x1 := below_setRow B2x0 (show w.heap.size ≤ g2x0 by omega) (keyA sa)
  have P2x1x0 := P2x0x0.other (show w.heap.size ≠ g2x1 by omega) (keyA df)
  have P2x1x1 := P2x0x1.other (show w.heap.size + 1 ≠ g2x1 by omega) (keyA df)
  have P2x1x2 := P2x0x2.other (show w.heap.size + 1 + 1 ≠ g2x1 by omega) (keyA df)
  have P2x1x3 := P2x0x3.other (show g2x0 ≠ g2x1 by omega) (keyA df)
  have P2x1x4 := P2x0x4.set (keyA df)
  have B2x2 := below_setRow B2x1 (show w.heap.size ≤ g2x1 by omega) (keyA df)
  have Z2x0 := Lib.hid P2x1x0
  have Z2x1 := Lib.hid P2x1x1
  have Z2x2 := Lib.hid P2x1x2
  have Z2x3 := Lib.hid P2x1x3
  have Z2x4 := Lib.hid P2x1x4
  have HB2 := Lib.hid B2x2
  clear hb2 hblk2 HB1 s2 R1x0a R1x0b R1x0c R1x1a R1x1b R1x1c R1x2a R1x2b R1x2c R1x0 R1x1 R1x2 c2x0 c2x1 c2x2 B2x0 B2x1 B2x2 P2x0x0 P2x0x1 P2x0x2 P2x0x3 P2x0x4 P2x1x0 P2x1x1 P2x1x2 P2x1x3 P2x1x4 hg2x0 hg2x1 hn2x0 hn2x1
  obtain ⟨A2x0a, A2x0b, A2x0c⟩ := A2x0
  obtain ⟨A2x1a, A2x1b, A2x1c⟩ := A2x1
  obtain ⟨A2x2a, A2x2b, A2x2c⟩ := A2x2
  obtain ⟨N2x0a, N2x0b, N2x0c⟩ := N2x0
  obtain ⟨N2x1a, N2x1b, N2x1c⟩ := N2x1
  go_wp2_with fail
  clear A2x0a A2x0b A2x0c A2x1a A2x1b A2x1c A2x2a A2x2b A2x2c N2x0a N2x0b N2x0c N2x1a N2x1b N2x1c
  generalize World.setRow _ _ _ = W3 at *
  obtain ⟨Z2x0a, Z2x0b, Z2x0c⟩ := Z2x0.out
  obtain ⟨Z2x1a, Z2x1b, Z2x1c⟩ := Z2x1.out
  obtain ⟨Z2x2a, Z2x2b, Z2x2c⟩ := Z2x2.out
  obtain ⟨Z2x3a, Z2x3b, Z2x3c⟩ := Z2x3.out
  obtain ⟨Z2x4a, Z2x4b, Z2x4c⟩ := Z2x4.out
  refine wp_region_pick W3 [0, 1, 2, 3, 4, 5] [false, false, false, false, false, false] [6, 7] [(23, #[.int .u8 0, .int .u8 0, .int .u8 0, .int .u8 0, .int .u8 0, .int .u8 0, .int .u8 0, .int .u8 0, .int .u8 0, .int .u8 0, .int .u8 0, .int .u8 0, .int .u8 0, .int .u8 0, .int .u8 0, .int .u8 0, .int .u8 0, .int .u8 0, .int .u8 0, .int .u8 0, .int .u8 0, .int .u8 0, .int .u8 0, .int .u8 0, .int .u8 0, .int .u8 0, .int .u8 0, .int .u8 0, .int .u8 0, .int .u8 0, .int .u8 0, .int .u8 0]), (23, #[.int .u8 0, .int .u8 0, .int .u8 0, .int .u8 0, .int .u8 0, .int .u8 0, .int .u8 0, .int .u8 0, .int .u8 0, .int .u8 0, .int .u8 0, .int .u8 0, .int .u8 0, .int .u8 0, .int .u8 0, .int .u8 0, .int .u8 0, .int .u8 0, .int .u8 0, .int .u8 0, .int .u8 0, .int .u8 0, .int .u8 0, .int .u8 0, .int .u8 0, .int .u8 0, .int .u8 0, .int .u8 0, .int .u8 0, .int .u8 0, .int .u8 0, .int .u8 0])] 8 (by kernel_rfl) rfl (by kernel_rfl) (by intro c a d v w h; cases d <;> exact h) ((Below.refl _ _).drew) ?_
  simp only [pick, List.getElem?_cons_succ, List.getElem?_cons_zero, List.drop_succ_cons, List.drop_zero]
  refine wpHoldF_val (wanted_none rfl) (by intro K o d hK; go_simp; exact hK _ (Below.refl _ _)) ?_
  refine wpHoldF_val (wanted_none rfl) (by intro K o d hK; go_simp; exact hK _ (Below.refl _ _)) ?_
  refine wpHoldF_call (v := kv aa) (wanted_none rfl) (by intro K o d hK; go_simp; refine (rmul_K sa sa aa lsa lsa Haa.out _).mono ?_; rintro e w' ⟨rfl, hbw⟩; exact ⟨_, rfl, hK _ hbw⟩) ?_
  refine wpHoldF_val (wanted_none rfl) (by intro K o d hK; go_simp; exact hK _ (Below.refl _ _)) ?_
  refine wpHoldF_val (wanted_none rfl) (by intro K o d hK; go_simp; exact hK _ (Below.refl _ _)) ?_
  refine wpHoldF_call (v := kv bb) (wanted_none rfl) (by intro K o d hK; go_simp; refine (rmul_K df df bb ldf ldf Hbb.out _).mono ?_; rintro e w' ⟨rfl, hbw⟩; exact ⟨_, rfl, hK _ hbw⟩) ?_
  refine wpHoldF_nil ?_
  refine ⟨lays_key _ rfl rfl, fun g4x0 hg4x0 hn4x0 => ?_⟩
  refine ⟨lays_key _ rfl rfl, fun g4x1 hg4x1 hn4x1 => ?_⟩
  simp at hn4x1
  intro w4 hb4 hblk4
  have A4x0 := Z2x0.out.grow hb4
  have c4x0 := Z2x0.out.2.2
  have A4x1 := Z2x1.out.grow hb4
  have c4x1 := Z2x1.out.2.2
  have A4x2 := Z2x2.out.grow hb4
  have c4x2 := Z2x2.out.2.2
  have A4x3 := Z2x3.out.grow hb4
  have c4x3 := Z2x3.out.2.2
  have A4x4 := Z2x4.out.grow hb4
  have c4x4 := Z2x4.out.2.2
  have N4x0 := RowAt.of (hblk4 0 g4x0 _ _ rfl rfl)
  have N4x1 := RowAt.of (hblk4 1 g4x1 _ _ rfl rfl)
  have B4x0 := HB2.out.trans (hb4.mono HB2.out.size)
  have s4 := HB2.out.size
  have le4x0 : w.heap.size ≤ g4x0 := by omega
  have le4x1 : w.heap.size ≤ g4x1 := by omega
  have ne4x0x0 : ¬ w.heap.size = g4x0 := by omega
  have nf4x0x0 : ¬ g4x0 = w.heap.size := by omega
  have ne4x0x1 : ¬ w.heap.size = g4x1 := by omega
  have nf4x0x1 : ¬ g4x1 = w.heap.size := by omega
  have ne4x1x0 : ¬ w.heap.size + 1 = g4x0 := by omega
  have nf4x1x0 : ¬ g4x0 = w.heap.size + 1 := by omega
  have ne4x1x1 : ¬ w.heap.size + 1 = g4x1 := by omega
  have nf4x1x1 : ¬ g4x1 = w.heap.size + 1 := by omega
  have ne4x2x0 : ¬ w.heap.size + 1 + 1 = g4x0 := by omega
  have nf4x2x0 : ¬ g4x0 = w.heap.size + 1 + 1 := by omega
  have ne4x2x1 : ¬ w.heap.size + 1 + 1 = g4x1 := by omega
  have nf4x2x1 : ¬ g4x1 = w.heap.size + 1 + 1 := by omega
  have ne4x3x0 : ¬ g2x0 = g4x0 := by omega
  have nf4x3x0 : ¬ g4x0 = g2x0 := by omega
  have ne4x3x1 : ¬ g2x0 = g4x1 := by omega
  have nf4x3x1 : ¬ g4x1 = g2x0 := by omega
  have ne4x4x0 : ¬ g2x1 = g4x0 := by omega
  have nf4x4x0 : ¬ g4x0 = g2x1 := by omega
  have ne4x4x1 : ¬ g2x1 = g4x1 := by omega
  have nf4x4x1 : ¬ g4x1 = g2x1 := by omega
  have ne4x5x1 : ¬ g4x0 = g4x1 := by omega
  have ne4x6x0 : ¬ g4x1 = g4x0 := by omega
  have P4x0x0 := A4x0.other (show w.heap.size ≠ g4x0 by omega) (keyA aa)
  have P4x0x1 := A4x1.other (show w.heap.size + 1 ≠ g4x0 by omega) (keyA aa)
  have P4x0x2 := A4x2.other (show w.heap.size + 1 + 1 ≠ g4x0 by omega) (keyA aa)
  have P4x0x3 := A4x3.other (show g2x0 ≠ g4x0 by omega) (keyA aa)
  have P4x0x4 := A4x4.other (show g2x1 ≠ g4x0 by omega) (keyA aa)
  have P4x0x5 := N4x0.set (keyA aa)
  have P4x0x6 := N4x1.other (show g4x1 ≠ g4x0 by omega) (keyA aa)
  have B4x1 := below_setRow B4x0 (show w.heap.size ≤ g4x0 by omega) (keyA aa)
  have P4x1x0 := P4x0x0.other (show w.heap.size ≠ g4x1 by omega) (keyA bb)
  have P4x1x1 := P4x0x1.other (show w.heap.size + 1 ≠ g4x1 by omega) (keyA bb)
  have P4x1x2 := P4x0x2.other (show w.heap.size + 1 + 1 ≠ g4x1 by omega) (keyA bb)
  have P4x1x3 := P4x0x3.other (show g2x0 ≠ g4x1 by omega) (keyA bb)
  have P4x1x4 := P4x0x4.other (show g2x1 ≠ g4x1 by omega) (keyA bb)
  have P4x1x5 := P4x0x5.other (show g4x0 ≠ g4x1 by omega) (keyA bb)
  have P4x1x6 := P4x0x6.set (keyA bb)
  have B4x2 := below_setRow B4x1 (show w.heap.size ≤ g4x1 by omega) (keyA bb)
  have Z4x0 := Lib.hid P4x1x0
  have Z4x1 := Lib.hid P4x1x1
  have Z4x2 := Lib.hid P4x1x2
  have Z4x3 := Lib.hid P4x1x3
  have Z4x4 := Lib.hid P4x1x4
  have Z4x5 := Lib.hid P4x1x5
  have Z4x6 := Lib.hid P4x1x6
  have HB4 := Lib.hid B4x2
  clear hb4 hblk4 HB2 s4 Z2x0a Z2x0b Z2x0c Z2x1a Z2x1b Z2x1c Z2x2a Z2x2b Z2x2c Z2x3a Z2x3b Z2x3c Z2x4a Z2x4b Z2x4c Z2x0 Z2x1 Z2x2 Z2x3 Z2x4 c4x0 c4x1 c4x2 c4x3 c4x4 B4x0 B4x1 B4x2 P4x0x0 P4x0x1 P4x0x2 P4x0x3 P4x0x4 P4x0x5 P4x0x6 P4x1x0 P4x1x1 P4x1x2 P4x1x3 P4x1x4 P4x1x5 P4x1x6 hg4x0 hg4x1 hn4x0 hn4x1
  obtain ⟨A4x0a, A4x0b, A4x0c⟩ := A4x0
  obtain ⟨A4x1a, A4x1b, A4x1c⟩ := A4x1
  obtain ⟨A4x2a, A4x2b, A4x2c⟩ := A4x2
  obtain ⟨A4x3a, A4x3b, A4x3c⟩ := A4x3
  obtain ⟨A4x4a, A4x4b, A4x4c⟩ := A4x4
  obtain ⟨N4x0a, N4x0b, N4x0c⟩ := N4x0
  obtain ⟨N4x1a, N4x1b, N4x1c⟩ := N4x1
  go_wp2_with fail
  clear A4x0a A4x0b A4x0c A4x1a A4x1b A4x1c A4x2a A4x2b A4x2c A4x3a A4x3b A4x3c A4x4a A4x4b A4x4c N4x0a N4x0b N4x0c N4x1a N4x1b N4x1c
  generalize World.setRow _ _ _ = W5 at *
  obtain ⟨Z4x0a, Z4x0b, Z4x0c⟩ := Z4x0.out
  obtain ⟨Z4x1a, Z4x1b, Z4x1c⟩ := Z4x1.out
  obtain ⟨Z4x2a, Z4x2b, Z4x2c⟩ := Z4x2.out
  obtain ⟨Z4x3a, Z4x3b, Z4x3c⟩ := Z4x3.out
  obtain ⟨Z4x4a, Z4x4b, Z4x4c⟩ := Z4x4.out
  obtain ⟨Z4x5a, Z4x5b, Z4x5c⟩ := Z4x5.out
  obtain ⟨Z4x6a, Z4x6b, Z4x6c⟩ := Z4x6.out
  refine (rsub_K aa bb ee laa lbb Hee.out _).mono ?_
  rintro e w' ⟨rfl, hbw⟩
  obtain ⟨oc1, nc1, rfl⟩ := below_plus hbw
  clear hbw
  have lt1x0 : w.heap.size < W5.heap.size + oc1.size := by omega
  have lt1x1 : w.heap.size + 1 < W5.heap.size + oc1.size := by omega
  have lt1x2 : w.heap.size + 1 + 1 < W5.heap.size + oc1.size := by omega
  have lt1x3 : g2x0 < W5.heap.size + oc1.size := by omega
  have lt1x4 : g2x1 < W5.heap.size + oc1.size := by omega
  have lt1x5 : g4x0 < W5.heap.size + oc1.size := by omega
  have lt1x6 : g4x1 < W5.heap.size + oc1.size := by omega
  go_wp2_with fail
  generalize hW : World.alloc _ _ = W6
  have R6x0 := Lib.hid (show RowAt W6 (w.heap.size) (fracA x z) by rw [← hW]; clear hW; exact ⟨by go_simp, by go_simp, by go_simp⟩)
  have R6x1 := Lib.hid (show RowAt W6 (w.heap.size + 1) (keyA 121665) by rw [← hW]; clear hW; exact ⟨by go_simp, by go_simp, by go_simp⟩)
  have R6x2 := Lib.hid (show RowAt W6 (w.heap.size + 1 + 1) (#[.int .u8 0, .int .u8 0, .int .u8 0, .int .u8 0, .int .u8 0, .int .u8 0, .int .u8 0, .int .u8 0, .int .u8 0, .int .u8 0, .int .u8 0, .int .u8 0, .int .u8 0, .int .u8 0, .int .u8 0, .int .u8 0, .int .u8 0, .int .u8 0, .int .u8 0, .int .u8 0, .int .u8 0, .int .u8 0, .int .u8 0, .int .u8 0, .int .u8 0, .int .u8 0, .int .u8 0, .int .u8 0, .int .u8 0, .int .u8 0, .int .u8 0, .int .u8 0, .int .u8 0, .int .u8 0, .int .u8 0, .int .u8 0, .int .u8 0, .int .u8 0, .int .u8 0, .int .u8 0, .int .u8 0, .int .u8 0, .int .u8 0, .int .u8 0, .int .u8 0, .int .u8 0, .int .u8 0, .int .u8 0, .int .u8 0, .int .u8 0, .int .u8 0, .int .u8 0, .int .u8 0, .int .u8 0, .int .u8 0, .int .u8 0, .int .u8 0, .int .u8 0, .int .u8 0, .int .u8 0, .int .u8 0, .int .u8 0, .int .u8 0, .int .u8 0]) by rw [← hW]; clear hW; exact ⟨by go_simp, by go_simp, by go_simp⟩)
  have R6x3 := Lib.hid (show RowAt W6 (g2x0) (keyA sa) by rw [← hW]; clear hW; exact ⟨by go_simp, by go_simp, by go_simp⟩)
  have R6x4 := Lib.hid (show RowAt W6 (g2x1) (keyA df) by rw [← hW]; clear hW; exact ⟨by go_simp, by go_simp, by go_simp⟩)
  have R6x5 := Lib.hid (show RowAt W6 (g4x0) (keyA aa) by rw [← hW]; clear hW; exact ⟨by go_simp, by go_simp, by go_simp⟩)
  have R6x6 := Lib.hid (show RowAt W6 (g4x1) (keyA bb) by rw [← hW]; clear hW; exact ⟨by go_simp, by go_simp, by go_simp⟩)
  have R6x7 := Lib.hid (show RowAt W6 (W5.heap.size + oc1.size) (keyA ee) by rw [← hW]; clear hW; exact ⟨by go_simp, by go_simp, by go_simp⟩)
  have HB6 := Lib.hid (show Below w.heap.size w W6 by rw [← hW]; repeat (first | apply below_more | apply below_alloc | apply Below.drew | refine below_setRow ?_ (by omega) _ | exact HB4.out))
  clear hW
  have lz6x0 : w.heap.size ≤ W5.heap.size + oc1.size := by have := HB4.out.size; omega
  have nz6x0x0 : ¬ w.heap.size = W5.heap.size + oc1.size := by omega
  have ny6x0x0 : ¬ W5.heap.size + oc1.size = w.heap.size := by omega
  have nz6x0x1 : ¬ w.heap.size + 1 = W5.heap.size + oc1.size := by omega
  have ny6x0x1 : ¬ W5.heap.size + oc1.size = w.heap.size + 1 := by omega
  have nz6x0x2 : ¬ w.heap.size + 1 + 1 = W5.heap.size + oc1.size := by omega
  have ny6x0x2 : ¬ W5.heap.size + oc1.size = w.heap.size + 1 + 1 := by omega
  have nz6x0x3 : ¬ g2x0 = W5.heap.size + oc1.size := by omega
  have ny6x0x3 : ¬ W5.heap.size + oc1.size = g2x0 := by omega
  have nz6x0x4 : ¬ g2x1 = W5.heap.size + oc1.size := by omega
  have ny6x0x4 : ¬ W5.heap.size + oc1.size = g2x1 := by omega
  have nz6x0x5 : ¬ g4x0 = W5.heap.size + oc1.size := by omega
  have ny6x0x5 : ¬ W5.heap.size + oc1.size = g4x0 := by omega
  have nz6x0x6 : ¬ g4x1 = W5.heap.size + oc1.size := by omega
  have ny6x0x6 : ¬ W5.heap.size + oc1.size = g4x1 := by omega
  clear Z4x0a Z4x0b Z4x0c Z4x1a Z4x1b Z4x1c Z4x2a Z4x2b Z4x2c Z4x3a Z4x3b Z4x3c Z4x4a Z4x4b Z4x4c Z4x5a Z4x5b Z4x5c Z4x6a Z4x6b Z4x6c Z4x0 Z4x1 Z4x2 Z4x3 Z4x4 Z4x5 Z4x6 HB4
  generalize W5.heap.size + oc1.size = ge at *
  obtain ⟨R6x0a, R6x0b, R6x0c⟩ := R6x0.out
  obtain ⟨R6x1a, R6x1b, R6x1c⟩ := R6x1.out
  obtain ⟨R6x2a, R6x2b, R6x2c⟩ := R6x2.out
  obtain ⟨R6x3a, R6x3b, R6x3c⟩ := R6x3.out
  obtain ⟨R6x4a, R6x4b, R6x4c⟩ := R6x4.out
  obtain ⟨R6x5a, R6x5b, R6x5c⟩ := R6x5.out
  obtain ⟨R6x6a, R6x6b, R6x6c⟩ := R6x6.out
  obtain ⟨R6x7a, R6x7b, R6x7c⟩ := R6x7.out
  refine wp_region_pick W6 [0, 1, 2, 3, 4, 5, 6, 7, 8, 9, 10] [false, false, false, false, false, false, false, false, false, false, false] [] [] 11 (by kernel_rfl) rfl (by kernel_rfl) (by intro c a d v w h; cases d <;> exact h) ((Below.refl _ _).drew) ?_
  simp only [pick, List.getElem?_cons_succ, List.getElem?_cons_zero, List.drop_succ_cons, List.drop_zero]
  refine wpHoldF_val (wanted_none rfl) (by intro K o d hK; go_simp; exact hK _ (Below.refl _ _)) ?_
  refine wpHoldF_val (wanted_none rfl) (by intro K o d hK; go_simp; exact hK _ (Below.refl _ _)) ?_
  refine wpHoldF_call (v := kv X) (wanted_none rfl) (by intro K o d hK; go_simp; refine (rmul_K aa bb X laa lbb HX.out _).mono ?_; rintro e w' ⟨rfl, hbw⟩; exact ⟨_, rfl, hK _ hbw⟩) ?_
  refine wpHoldF_val (wanted_none rfl) (by intro K o d hK; go_simp; exact hK _ (Below.refl _ _)) ?_
  refine wpHoldF_val (wanted_none rfl) (by intro K o d hK; go_simp; exact hK _ (Below.refl _ _)) ?_
  refine wpHoldF_val (wanted_none rfl) (by intro K o d hK; go_simp; exact hK _ (Below.refl _ _)) ?_
  refine wpHoldF_val (wanted_none rfl) (by intro K o d hK; go_simp; exact hK _ (Below.refl _ _)) ?_
  refine wpHoldF_call (v := kv k) (wanted_none rfl) (by intro K o d hK; go_simp; refine (rmul_K 121665 ee k (by decide) lee Hk.out _).mono ?_; rintro e w' ⟨rfl, hbw⟩; exact ⟨_, rfl, hK _ hbw⟩) ?_
  refine wpHoldF_call (v := kv t) (wanted_none rfl) (by intro K o d hK; go_simp; refine (radd_K aa k t laa lk Ht.out _).mono ?_; rintro e w' ⟨rfl, hbw⟩; exact ⟨_, rfl, hK _ hbw⟩) ?_
  refine wpHoldF_call (v := kv Z) (wanted_none rfl) (by intro K o d hK; go_simp; refine (rmul_K ee t Z lee lt HZ.out _).mono ?_; rintro e w' ⟨rfl, hbw⟩; exact ⟨_, rfl, hK _ hbw⟩) ?_
  refine wpHoldF_val (wanted_none rfl) (by intro K o d hK; go_simp; exact hK _ (Below.refl _ _)) ?_
  refine wpHoldF_nil ?_
  intro w7 hb7 hblk7
  have A7x0 := R6x0.out.grow hb7
  have c7x0 := R6x0.out.2.2
  have A7x1 := R6x1.out.grow hb7
  have c7x1 := R6x1.out.2.2
  have A7x2 := R6x2.out.grow hb7
  have c7x2 := R6x2.out.2.2
  have A7x3 := R6x3.out.grow hb7
  have c7x3 := R6x3.out.2.2
  have A7x4 := R6x4.out.grow hb7
  have c7x4 := R6x4.out.2.2
  have A7x5 := R6x5.out.grow hb7
  have c7x5 := R6x5.out.2.2
  have A7x6 := R6x6.out.grow hb7
  have c7x6 := R6x6.out.2.2
  have A7x7 := R6x7.out.grow hb7
  have c7x7 := R6x7.out.2.2
  have B7x0 := HB6.out.trans (hb7.mono HB6.out.size)
  have s7 := HB6.out.size
  have P7x0x0 := A7x0.other (show w.heap.size ≠ w.heap.size + 1 + 1 by omega) (fracA X Z)
  have P7x0x1 := A7x1.other (show w.heap.size + 1 ≠ w.heap.size + 1 + 1 by omega) (fracA X Z)
  have P7x0x2 := A7x2.set (fracA X Z)
  have P7x0x3 := A7x3.other (show g2x0 ≠ w.heap.size + 1 + 1 by omega) (fracA X Z)
  have P7x0x4 := A7x4.other (show g2x1 ≠ w.heap.size + 1 + 1 by omega) (fracA X Z)
  have P7x0x5 := A7x5.other (show g4x0 ≠ w.heap.size + 1 + 1 by omega) (fracA X Z)
  have P7x0x6 := A7x6.other (show g4x1 ≠ w.heap.size + 1 + 1 by omega) (fracA X Z)
  have P7x0x7 := A7x7.other (show ge ≠ w.heap.size + 1 + 1 by omega) (fracA X Z)
  have B7x1 := below_setRow B7x0 (show w.heap.size ≤ w.heap.size + 1 + 1 by omega) (fracA X Z)
  have Z7x0 := Lib.hid P7x0x0
  have Z7x1 := Lib.hid P7x0x1
  have Z7x2 := Lib.hid P7x0x2
  have Z7x3 := Lib.hid P7x0x3
  have Z7x4 := Lib.hid P7x0x4
  have Z7x5 := Lib.hid P7x0x5
  have Z7x6 := Lib.hid P7x0x6
  have Z7x7 := Lib.hid P7x0x7
  have HB7 := Lib.hid B7x1
  clear hb7 hblk7 HB6 s7 R6x0a R6x0b R6x0c R6x1a R6x1b R6x1c R6x2a R6x2b R6x2c R6x3a R6x3b R6x3c R6x4a R6x4b R6x4c R6x5a R6x5b R6x5c R6x6a R6x6b R6x6c R6x7a R6x7b R6x7c R6x0 R6x1 R6x2 R6x3 R6x4 R6x5 R6x6 R6x7 c7x0 c7x1 c7x2 c7x3 c7x4 c7x5 c7x6 c7x7 B7x0 B7x1 P7x0x0 P7x0x1 P7x0x2 P7x0x3 P7x0x4 P7x0x5 P7x0x6 P7x0x7
  obtain ⟨A7x0a, A7x0b, A7x0c⟩ := A7x0
  obtain ⟨A7x1a, A7x1b, A7x1c⟩ := A7x1
  obtain ⟨A7x2a, A7x2b, A7x2c⟩ := A7x2
  obtain ⟨A7x3a, A7x3b, A7x3c⟩ := A7x3
  obtain ⟨A7x4a, A7x4b, A7x4c⟩ := A7x4
  obtain ⟨A7x5a, A7x5b, A7x5c⟩ := A7x5
  obtain ⟨A7x6a, A7x6b, A7x6c⟩ := A7x6
  obtain ⟨A7x7a, A7x7b, A7x7c⟩ := A7x7
  go_wp2_with fail
  clear A7x0a A7x0b A7x0c A7x1a A7x1b A7x1c A7x2a A7x2b A7x2c A7x3a A7x3b A7x3c A7x4a A7x4b A7x4c A7x5a A7x5b A7x5c A7x6a A7x6b A7x6c A7x7a A7x7b A7x7c
  generalize World.setRow _ _ _ = W8 at *
  obtain ⟨Z7x0a, Z7x0b, Z7x0c⟩ := Z7x0.out
  obtain ⟨Z7x1a, Z7x1b, Z7x1c⟩ := Z7x1.out
  obtain ⟨Z7x2a, Z7x2b, Z7x2c⟩ := Z7x2.out
  obtain ⟨Z7x3a, Z7x3b, Z7x3c⟩ := Z7x3.out
  obtain ⟨Z7x4a, Z7x4b, Z7x4c⟩ := Z7x4.out
  obtain ⟨Z7x5a, Z7x5b, Z7x5c⟩ := Z7x5.out
  obtain ⟨Z7x6a, Z7x6b, Z7x6c⟩ := Z7x6.out
  obtain ⟨Z7x7a, Z7x7b, Z7x7c⟩ := Z7x7.out
  refine bodyPost_ret (v := fv X Z) (results_pair Try.results34 _ _ _ rfl (by go_simp) (by go_simp)) rfl ⟨rfl, HB7.out⟩

set_option maxHeartbeats 2000000 in
set_option maxRecDepth 100000 in
theorem rsum_K (x z x3 z3 x1 : Nat) (hx : x < 115792089237316195423570985008687907853269984665640564039457584007913129639936) (hz : z < 115792089237316195423570985008687907853269984665640564039457584007913129639936) (hx3 : x3 < 115792089237316195423570985008687907853269984665640564039457584007913129639936) (hz3 : z3 < 115792089237316195423570985008687907853269984665640564039457584007913129639936) (hx1 : x1 < 115792089237316195423570985008687907853269984665640564039457584007913129639936) (w : World) :
    Calls Try.prog 33 #[fv x z, fv x3 z3, kv x1] w fun e w' => e = .returned (fv (Cv.nsm x1 (x, z) (x3, z3)).1 (Cv.nsm x1 (x, z) (x3, z3)).2) ∧ Below w.heap.size w w' := by
  show Calls Try.prog 33 #[fv x z, fv x3 z3, kv x1] w fun e w' => e = .returned (fv (Cv.nmul (Cv.nadd (Cv.nmul (Cv.nsub x3 z3) (Cv.nadd x z)) (Cv.nmul (Cv.nadd x3 z3) (Cv.nsub x z))) (Cv.nadd (Cv.nmul (Cv.nsub x3 z3) (Cv.nadd x z)) (Cv.nmul (Cv.nadd x3 z3) (Cv.nsub x z))))
    (Cv.nmul x1 (Cv.nmul (Cv.nsub (Cv.nmul (Cv.nsub x3 z3) (Cv.nadd x z)) (Cv.nmul (Cv.nadd x3 z3) (Cv.nsub x z))) (Cv.nsub (Cv.nmul (Cv.nsub x3 z3) (Cv.nadd x z)) (Cv.nmul (Cv.nadd x3 z3) (Cv.nsub x z)))))) ∧ Below w.heap.size w w'
  obtain ⟨ap, eap⟩ : ∃ y, y = Cv.nadd x z := ⟨_, rfl⟩
  have lap : ap < 115792089237316195423570985008687907853269984665640564039457584007913129639936 := by rw [eap]; exact (Nat.lt_trans (Cv.nadd_lt _ _) P_lt)
  have Hap := Lib.hid eap.symm
  obtain ⟨am, eam⟩ : ∃ y, y = Cv.nsub x z := ⟨_, rfl⟩
  have lam : am < 115792089237316195423570985008687907853269984665640564039457584007913129639936 := by rw [eam]; exact (Nat.lt_trans (Cv.nsub_lt _ _) P_lt)
  have Ham := Lib.hid eam.symm
  obtain ⟨bp, ebp⟩ : ∃ y, y = Cv.nadd x3 z3 := ⟨_, rfl⟩
  have lbp : bp < 115792089237316195423570985008687907853269984665640564039457584007913129639936 := by rw [ebp]; exact (Nat.lt_trans (Cv.nadd_lt _ _) P_lt)
  have Hbp := Lib.hid ebp.symm
  obtain ⟨bm, ebm⟩ : ∃ y, y = Cv.nsub x3 z3 := ⟨_, rfl⟩
  have lbm : bm < 115792089237316195423570985008687907853269984665640564039457584007913129639936 := by rw [ebm]; exact (Nat.lt_trans (Cv.nsub_lt _ _) P_lt)
  have Hbm := Lib.hid ebm.symm
  obtain ⟨dd, edd⟩ : ∃ y, y = Cv.nmul bm ap := ⟨_, rfl⟩
  have ldd : dd < 115792089237316195423570985008687907853269984665640564039457584007913129639936 := by rw [edd]; exact (Nat.lt_trans (Cv.nmul_lt _ _) P_lt)
  have Hdd := Lib.hid edd.symm
  obtain ⟨cc, ecc⟩ : ∃ y, y = Cv.nmul bp am := ⟨_, rfl⟩
  have lcc : cc < 115792089237316195423570985008687907853269984665640564039457584007913129639936 := by rw [ecc]; exact (Nat.lt_trans (Cv.nmul_lt _ _) P_lt)
  have Hcc := Lib.hid ecc.symm
  obtain ⟨sa, esa⟩ : ∃ y, y = Cv.nadd dd cc := ⟨_, rfl⟩
  have lsa : sa < 115792089237316195423570985008687907853269984665640564039457584007913129639936 := by rw [esa]; exact (Nat.lt_trans (Cv.nadd_lt _ _) P_lt)
  have Hsa := Lib.hid esa.symm
  obtain ⟨t, et⟩ : ∃ y, y = Cv.nsub dd cc := ⟨_, rfl⟩
  have lt : t < 115792089237316195423570985008687907853269984665640564039457584007913129639936 := by rw [et]; exact (Nat.lt_trans (Cv.nsub_lt _ _) P_lt)
  have Ht := Lib.hid et.symm
  obtain ⟨X, eX⟩ : ∃ y, y = Cv.nmul sa sa := ⟨_, rfl⟩
  have lX : X < 115792089237316195423570985008687907853269984665640564039457584007913129639936 := by rw [eX]; exact (Nat.lt_trans (Cv.nmul_lt _ _) P_lt)
  have HX := Lib.hid eX.symm
  obtain ⟨tt, ett⟩ : ∃ y, y = Cv.nmul t t := ⟨_, rfl⟩
  have ltt : tt < 115792089237316195423570985008687907853269984665640564039457584007913129639936 := by rw [ett]; exact (Nat.lt_trans (Cv.nmul_lt _ _) P_lt)
  have Htt := Lib.hid ett.symm
  obtain ⟨Z, eZ⟩ : ∃ y, y = Cv.nmul x1 tt := ⟨_, rfl⟩
  have lZ : Z < 115792089237316195423570985008687907853269984665640564039457584007913129639936 := by rw [eZ]; exact (Nat.lt_trans (Cv.nmul_lt _ _) P_lt)
  have HZ := Lib.hid eZ.symm
  rw [← eap, ← eam, ← ebp, ← ebm, ← edd, ← ecc, ← esa, ← et, ← eX, ← ett, ← eZ]
  clear eap eam ebp ebm edd ecc esa et eX ett eZ
  go_enter Try.func33, Try.ntmps33
  go_wp2_with fail
  generalize hW : World.alloc _ _ = W1
  have R1x0 := Lib.hid (show RowAt W1 (w.heap.size) (fracA x z) by rw [← hW]; clear hW; exact ⟨by go_simp, by go_simp, by go_simp⟩)
  have R1x1 := Lib.hid (show RowAt W1 (w.heap.size + 1) (fracA x3 z3) by rw [← hW]; clear hW; exact ⟨by go_simp, by go_simp, by go_simp⟩)
  have R1x2 := Lib.hid (show RowAt W1 (w.heap.size + 1 + 1) (keyA x1) by rw [← hW]; clear hW; exact ⟨by go_simp, by go_simp, by go_simp⟩)
  have R1x3 := Lib.hid (show RowAt W1 (w.heap.size + 1 + 1 + 1) (#[.int .u8 0, .int .u8 0, .int .u8 0, .int .u8 0, .int .u8 0, .int .u8 0, .int .u8 0, .int .u8 0, .int .u8 0, .int .u8 0, .int .u8 0, .int .u8 0, .int .u8 0, .int .u8 0, .int .u8 0, .int .u8 0, .int .u8 0, .int .u8 0, .int .u8 0, .int .u8 0, .int .u8 0, .int .u8 0, .int .u8 0, .int .u8 0, .int .u8 0, .int .u8 0, .int .u8 0, .int .u8 0, .int .u8 0, .int .u8 0, .int .u8 0, .int .u8 0, .int .u8 0, .int .u8 0, .int .u8 0, .int .u8 0, .int .u8 0, .int .u8 0, .int .u8 0, .int .u8 0, .int .u8 0, .int .u8 0, .int .u8 0, .int .u8 0, .int .u8 0, .int .u8 0, .int .u8 0, .int .u8 0, .int .u8 0, .int .u8 0, .int .u8 0, .int .u8 0, .int .u8 0, .int .u8 0, .int .u8 0, .int .u8 0, .int .u8 0, .int .u8 0, .int .u8 0, .int .u8 0, .int .u8 0, .int .u8 0, .int .u8 0, .int .u8 0]) by rw [← hW]; clear hW; exact ⟨by go_simp, by go_simp, by go_simp⟩)
  have HB1 := Lib.hid (show Below w.heap.size w W1 by rw [← hW]; repeat (first | apply below_more | apply below_alloc | apply Below.drew | refine below_setRow ?_ (by omega) _ | exact Below.refl _ _))
  clear hW
  obtain ⟨R1x0a, R1x0b, R1x0c⟩ := R1x0.out
  obtain ⟨R1x1a, R1x1b, R1x1c⟩ := R1x1.out
  obtain ⟨R1x2a, R1x2b, R1x2c⟩ := R1x2.out
  obtain ⟨R1x3a, R1x3b, R1x3c⟩ := R1x3.out
  refine wp_region_pick W1 [0, 1, 2, 3, 4, 5, 6, 7, 8, 9] [false, false, false, false, false, false, false, false, false, false] [10, 11] [(23, #[.int .u8 0, .int .u8 0, .int .u8 0, .int .u8 0, .int .u8 0, .int .u8 0, .int .u8 0, .int .u8 0, .int .u8 0, .int .u8 0, .int .u8 0, .int .u8 0, .int .u8 0, .int .u8 0, .int .u8 0, .int .u8 0, .int .u8 0, .int .u8 0, .int .u8 0, .int .u8 0, .int .u8 0, .int .u8 0, .int .u8 0, .int .u8 0, .int .u8 0, .int .u8 0, .int .u8 0, .int .u8 0, .int .u8 0, .int .u8 0, .int .u8 0, .int .u8 0]), (23, #[.int .u8 0, .int .u8 0, .int .u8 0, .int .u8 0, .int .u8 0, .int .u8 0, .int .u8 0, .int .u8 0, .int .u8 0, .int .u8 0, .int .u8 0, .int .u8 0, .int .u8 0, .int .u8 0, .int .u8 0, .int .u8 0, .int .u8 0, .int .u8 0, .int .u8 0, .int .u8 0, .int .u8 0, .int .u8 0, .int .u8 0, .int .u8 0, .int .u8 0, .int .u8 0, .int .u8 0, .int .u8 0, .int .u8 0, .int .u8 0, .int .u8 0, .int .u8 0])] 12 (by kernel_rfl) rfl (by kernel_rfl) (by intro c a d v w h; cases d <;> exact h) ((Below.refl _ _).drew) ?_
  simp only [pick, List.getElem?_cons_succ, List.getElem?_cons_zero, List.drop_succ_cons, List.drop_zero]
  refine wpHoldF_val (wanted_none rfl) (by intro K o d hK; go_simp; exact hK _ (Below.refl _ _)) ?_
  refine wpHoldF_val (wanted_none rfl) (by intro K o d hK; go_simp; exact hK _ (Below.refl _ _)) ?_
  refine wpHoldF_val (wanted_none rfl) (by intro K o d hK; go_simp; exact hK _ (Below.refl _ _)) ?_
  refine wpHoldF_val (wanted_none rfl) (by intro K o d hK; go_simp; exact hK _ (Below.refl _ _)) ?_
  refine wpHoldF_call (v := kv ap) (wanted_none rfl) (by intro K o d hK; go_simp; refine (radd_K x z ap hx hz Hap.out _).mono ?_; rintro e w' ⟨rfl, hbw⟩; exact ⟨_, rfl, hK _ hbw⟩) ?_
  refine wpHoldF_val (wanted_none rfl) (by intro K o d hK; go_simp; exact hK _ (Below.refl _ _)) ?_
  refine wpHoldF_val (wanted_none rfl) (by intro K o d hK; go_simp; exact hK _ (Below.refl _ _)) ?_
  refine wpHoldF_val (wanted_none rfl) (by intro K o d hK; go_simp; exact hK _ (Below.refl _ _)) ?_
  refine wpHoldF_val (wanted_none rfl) (by intro K o d hK; go_simp; exact hK _ (Below.refl _ _)) ?_
  refine wpHoldF_call (v := kv am) (wanted_none rfl) (by intro K o d hK; go_simp; refine (rsub_K x z am hx hz Ham.out _).mono ?_; rintro e w' ⟨rfl, hbw⟩; exact ⟨_, rfl, hK _ hbw⟩) ?_
  refine wpHoldF_nil ?_
  refine ⟨lays_key _ rfl rfl, fun g2x0 hg2x0 hn2x0 => ?_⟩
  refine ⟨lays_key _ rfl rfl, fun g2x1 hg2x1 hn2x1 => ?_⟩
  simp at hn2x1
  intro w2 hb2 hblk2
  have A2x0 := R1x0.out.grow hb2
  have c2x0 := R1x0.out.2.2
  have A2x1 := R1x1.out.grow hb2
  have c2x1 := R1x1.out.2.2
  have A2x2 := R1x2.out.grow hb2
  have c2x2 := R1x2.out.2.2
  have A2x3 := R1x3.out.grow hb2
  have c2x3 := R1x3.out.2.2
  have N2x0 := RowAt.of (hblk2 0 g2x0 _ _ rfl rfl)
  have N2x1 := RowAt.of (hblk2 1 g2x1 _ _ rfl rfl)
  have B2x0 := HB1.out.trans (hb2.mono HB1.out.size)
  have s2 := HB1.out.size
  have le2x0 : w.heap.size ≤ g2x0 := by omega
  have le2x1 : w.heap.size ≤ g2x1 := by omega
  have ne2x0x0 : ¬ w.heap.size = g2x0 := by omega
  have nf2x0x0 : ¬ g2x0 = w.heap.size := by omega
  have ne2x0x1 : ¬ w.heap.size = g2x1 := by omega
  have nf2x0x1 : ¬ g2x1 = w.heap.size := by omega
  have ne2x1x0 : ¬ w.heap.size + 1 = g2x0 := by omega
  have nf2x1x0 : ¬ g2x0 = w.heap.size + 1 := by omega
  have ne2x1x1 : ¬ w.heap.size + 1 = g2x1 := by omega
  have nf2x1x1 : ¬ g2x1 = w.heap.size + 1 := by omega
  have ne2x2x0 : ¬ w.heap.size + 1 + 1 = g2x0 := by omega
  have nf2x2x0 : ¬ g2x0 = w.heap.size + 1 + 1 := by omega
  have ne2x2x1 : ¬ w.heap.size + 1 + 1 = g2x1 := by omega
  have nf2x2x1 : ¬ g2x1 = w.heap.size + 1 + 1 := by omega
  have ne2x3x0 : ¬ w.heap.size + 1 + 1 + 1 = g2x0 := by omega
  have nf2x3x0 : ¬ g2x0 = w.heap.size + 1 + 1 + 1 := by omega
  have ne2x3x1 : ¬ w.heap.size + 1 + 1 + 1 = g2x1 := by omega
  have nf2x3x1 : ¬ g2x1 = w.heap.size + 1 + 1 + 1 := by omega
  have ne2x4x1 : ¬ g2x0 = g2x1 := by omega
  have ne2x5x0 : ¬ g2x1 = g2x0 := by omega
  have P2x0x0 := A2x0.other (show w.heap.size ≠ g2x0 by omega) (keyA ap)
  have P2x0x1 := A2x1.other (show w.heap.size + 1 ≠ g2x0 by omega) (keyA ap)
  have P2x0x2 := A2x2.other (show w.heap.size + 1 + 1 ≠ g2x0 by omega) (keyA ap)
  have P2x0x3 := A2x3.other (show w.heap.size + 1 + 1 + 1 ≠ g2x0 by omega) (keyA ap)
  have P2x0x4 := N2x0.set (keyA ap)
  have P2x0x5 := N2x1.other (show g2x1 ≠ g2x0 by omega) (keyA ap)
  have B2x1 := below_setRow B2x0 (show w.heap.size ≤ g2x0 by omega) (keyA ap)
  have P2x1x0 := P2x0x0.other (show w.heap.size ≠ g2x1 by omega) (keyA am)
  have P2x1x1 := P2x0x1.other (show w.heap.size + 1 ≠ g2x1 by omega) (keyA am)
  have P2x1x2 := P2x0x2.other (show w.heap.size + 1 + 1 ≠ g2x1 by omega) (keyA am)
  have P2x1x3 := P2x0x3.other (show w.heap.size + 1 + 1 + 1 ≠ g2x1 by omega) (keyA am)
  have P2x1x4 := P2x0x4.other (show g2x0 ≠ g2x1 by omega) (keyA am)
  have P2x1x5 := P2x0x5.set (keyA am)
  have B2x2 := below_setRow B2x1 (show w.heap.size ≤ g2x1 by omega) (keyA am)
  have Z2x0 := Lib.hid P2x1x0
  have Z2x1 := Lib.hid P2x1x1
  have Z2x2 := Lib.hid P2x1x2
  have Z2x3 := Lib.hid P2x1x3
  have Z2x4 := Lib.hid P2x1x4
  have Z2x5 := Lib.hid P2x1x5
  have HB2 := Lib.hid B2x2
  clear hb2 hblk2 HB1 s2 R1x0a R1x0b R1x0c R1x1a R1x1b R1x1c R1x2a R1x2b R1x2c R1x3a R1x3b R1x3c R1x0 R1x1 R1x2 R1x3 c2x0 c2x1 c2x2 c2x3 B2x0 B2x1 B2x2 P2x0x0 P2x0x1 P2x0x2 P2x0x3 P2x0x4 P2x0x5 P2x1x0 P2x1x1 P2x1x2 P2x1x3 P2x1x4 P2x1x5 hg2x0 hg2x1 hn2x0 hn2x1
  obtain ⟨A2x0a, A2x0b, A2x0c⟩ := A2x0
  obtain ⟨A2x1a, A2x1b, A2x1c⟩ := A2x1
  obtain ⟨A2x2a, A2x2b, A2x2c⟩ := A2x2
  obtain ⟨A2x3a, A2x3b, A2x3c⟩ := A2x3
  obtain ⟨N2x0a, N2x0b, N2x0c⟩ := N2x0
  obtain ⟨N2x1a, N2x1b, N2x1c⟩ := N2x1
  go_wp2_with fail
  clear A2x0a A2x0b A2x0c A2x1a A2x1b A2x1c A2x2a A2x2b A2x2c A2x3a A2x3b A2x3c N2x0a N2x0b N2x0c N2x1a N2x1b N2x1c
  generalize World.setRow _ _ _ = W3 at *
  obtain ⟨Z2x0a, Z2x0b, Z2x0c⟩ := Z2x0.out
  obtain ⟨Z2x1a, Z2x1b, Z2x1c⟩ := Z2x1.out
  obtain ⟨Z2x2a, Z2x2b, Z2x2c⟩ := Z2x2.out
  obtain ⟨Z2x3a, Z2x3b, Z2x3c⟩ := Z2x3.out
  obtain ⟨Z2x4a, Z2x4b, Z2x4c⟩ := Z2x4.out
  obtain ⟨Z2x5a, Z2x5b, Z2x5c⟩ := Z2x5.out
  refine wp_region_pick W3 [0, 1, 2, 3, 4, 5, 6, 7, 8, 9] [false, false, false, false, false, false, false, false, false, false] [10, 11] [(23, #[.int .u8 0, .int .u8 0, .int .u8 0, .int .u8 0, .int .u8 0, .int .u8 0, .int .u8 0, .int .u8 0, .int .u8 0, .int .u8 0, .int .u8 0, .int .u8 0, .int .u8 0, .int .u8 0, .int .u8 0, .int .u8 0, .int .u8 0, .int .u8 0, .int .u8 0, .int .u8 0, .int .u8 0, .int .u8 0, .int .u8 0, .int .u8 0, .int .u8 0, .int .u8 0, .int .u8 0, .int .u8 0, .int .u8 0, .int .u8 0, .int .u8 0, .int .u8 0]), (23, #[.int .u8 0, .int .u8 0, .int .u8 0, .int .u8 0, .int .u8 0, .int .u8 0, .int .u8 0, .int .u8 0, .int .u8 0, .int .u8 0, .int .u8 0, .int .u8 0, .int .u8 0, .int .u8 0, .int .u8 0, .int .u8 0, .int .u8 0, .int .u8 0, .int .u8 0, .int .u8 0, .int .u8 0, .int .u8 0, .int .u8 0, .int .u8 0, .int .u8 0, .int .u8 0, .int .u8 0, .int .u8 0, .int .u8 0, .int .u8 0, .int .u8 0, .int .u8 0])] 12 (by kernel_rfl) rfl (by kernel_rfl) (by intro c a d v w h; cases d <;> exact h) ((Below.refl _ _).drew) ?_
  simp only [pick, List.getElem?_cons_succ, List.getElem?_cons_zero, List.drop_succ_cons, List.drop_zero]
  refine wpHoldF_val (wanted_none rfl) (by intro K o d hK; go_simp; exact hK _ (Below.refl _ _)) ?_
  refine wpHoldF_val (wanted_none rfl) (by intro K o d hK; go_simp; exact hK _ (Below.refl _ _)) ?_
  refine wpHoldF_val (wanted_none rfl) (by intro K o d hK; go_simp; exact hK _ (Below.refl _ _)) ?_
  refine wpHoldF_val (wanted_none rfl) (by intro K o d hK; go_simp; exact hK _ (Below.refl _ _)) ?_
  refine wpHoldF_call (v := kv bp) (wanted_none rfl) (by intro K o d hK; go_simp; refine (radd_K x3 z3 bp hx3 hz3 Hbp.out _).mono ?_; rintro e w' ⟨rfl, hbw⟩; exact ⟨_, rfl, hK _ hbw⟩) ?_
  refine wpHoldF_val (wanted_none rfl) (by intro K o d hK; go_simp; exact hK _ (Below.refl _ _)) ?_
  refine wpHoldF_val (wanted_none rfl) (by intro K o d hK; go_simp; exact hK _ (Below.refl _ _)) ?_
  refine wpHoldF_val (wanted_none rfl) (by intro K o d hK; go_simp; exact hK _ (Below.refl _ _)) ?_
  refine wpHoldF_val (wanted_none rfl) (by intro K o d hK; go_simp; exact hK _ (Below.refl _ _)) ?_
  refine wpHoldF_call (v := kv bm) (wanted_none rfl) (by intro K o d hK; go_simp; refine (rsub_K x3 z3 bm hx3 hz3 Hbm.out _).mono ?_; rintro e w' ⟨rfl, hbw⟩; exact ⟨_, rfl, hK _ hbw⟩) ?_
  refine wpHoldF_nil ?_
  refine ⟨lays_key _ rfl rfl, fun g4x0 hg4x0 hn4x0 => ?_⟩
  refine ⟨lays_key _ rfl rfl, fun g4x1 hg4x1 hn4x1 => ?_⟩
  simp at hn4x1
  intro w4 hb4 hblk4
  have A4x0 := Z2x0.out.grow hb4
  have c4x0 := Z2x0.out.2.2
  have A4x1 := Z2x1.out.grow hb4
  have c4x1 := Z2x1.out.2.2
  have A4x2 := Z2x2.out.grow hb4
  have c4x2 := Z2x2.out.2.2
  have A4x3 := Z2x3.out.grow hb4
  have c4x3 := Z2x3.out.2.2
  have A4x4 := Z2x4.out.grow hb4
  have c4x4 := Z2x4.out.2.2
  have A4x5 := Z2x5.out.grow hb4
  have c4x5 := Z2x5.out.2.2
  have N4x0 := RowAt.of (hblk4 0 g4x0 _ _ rfl rfl)
  have N4x1 := RowAt.of (hblk4 1 g4x1 _ _ rfl rfl)
  have B4x0 := HB2.out.trans (hb4.mono HB2.out.size)
  have s4 := HB2.out.size
  have le4x0 : w.heap.size ≤ g4x0 := by omega
  have le4x1 : w.heap.size ≤ g4x1 := by omega
  have ne4x0x0 : ¬ w.heap.size = g4x0 := by omega
  have nf4x0x0 : ¬ g4x0 = w.heap.size := by omega
  have ne4x0x1 : ¬ w.heap.size = g4x1 := by omega
  have nf4x0x1 : ¬ g4x1 = w.heap.size := by omega
  have ne4x1x0 : ¬ w.heap.size + 1 = g4x0 := by omega
  have nf4x1x0 : ¬ g4x0 = w.heap.size + 1 := by omega
  have ne4x1x1 : ¬ w.heap.size + 1 = g4x1 := by omega
  have nf4x1x1 : ¬ g4x1 = w.heap.size + 1 := by omega
  have ne4x2x0 : ¬ w.heap.size + 1 + 1 = g4x0 := by omega
  have nf4x2x0 : ¬ g4x0 = w.heap.size + 1 + 1 := by omega
  have ne4x2x1 : ¬ w.heap.size + 1 + 1 = g4x1 := by omega
  have nf4x2x1 : ¬ g4x1 = w.heap.size + 1 + 1 := by omega
  have ne4x3x0 : ¬ w.heap.size + 1 + 1 + 1 = g4x0 := by omega
  have nf4x3x0 : ¬ g4x0 = w.heap.size + 1 + 1 + 1 := by omega
  have ne4x3x1 : ¬ w.heap.size + 1 + 1 + 1 = g4x1 := by omega
  have nf4x3x1 : ¬ g4x1 = w.heap.size + 1 + 1 + 1 := by omega
  have ne4x4x0 : ¬ g2x0 = g4x0 := by omega
  have nf4x4x0 : ¬ g4x0 = g2x0 := by omega
  have ne4x4x1 : ¬ g2x0 = g4x1 := by omega
  have nf4x4x1 : ¬ g4x1 = g2x0 := by omega
  have ne4x5x0 : ¬ g2x1 = g4x0 := by omega
  have nf4x5x0 : ¬ g4x0 = g2x1 := by omega
  have ne4x5x1 : ¬ g2x1 = g4x1 := by omega
  have nf4x5x1 : ¬ g4x1 = g2x1 := by omega
  have ne4x6x1 : ¬ g4x0 = g4x1 := by omega
  have ne4x7x0 : ¬ g4x1 = g4x0 := by omega
  have P4x0x0 := A4x0.other (show w.heap.size ≠ g4x0 by omega) (keyA bp)
  have P4x0x1 := A4x1.other (show w.heap.size + 1 ≠ g4x0 by omega) (keyA bp)
  have P4x0x2 := A4x2.other (show w.heap.size + 1 + 1 ≠ g4x0 by omega) (keyA bp)
  have P4x0x3 := A4x3.other (show w.heap.size + 1 + 1 + 1 ≠ g4x0 by omega) (keyA bp)
  have P4x0x4 := A4x4.other (show g2x0 ≠ g4x0 by omega) (keyA bp)
  have P4x0x5 := A4x5.other (show g2x1 ≠ g4x0 by omega) (keyA bp)
  have P4x0x6 := N4x0.set (keyA bp)
  have P4x0x7 := N4x1.other (show g4x1 ≠ g4x0 by omega) (keyA bp)
  have B4x1 := below_setRow B4x0 (show w.heap.size ≤ g4x0 by omega) (keyA bp)
  have P4x1x0 := P4x0x0.other (show w.heap.size ≠ g4x1 by omega) (keyA bm)
  have P4x1x1 := P4x0x1.other (show w.heap.size + 1 ≠ g4x1 by omega) (keyA bm)
  have P4x1x2 := P4x0x2.other (show w.heap.size + 1 + 1 ≠ g4x1 by omega) (keyA bm)
  have P4x1x3 := P4x0x3.other (show w.heap.size + 1 + 1 + 1 ≠ g4x1 by omega) (keyA bm)
  have P4x1x4 := P4x0x4.other (show g2x0 ≠ g4x1 by omega) (keyA bm)
  have P4x1x5 := P4x0x5.other (show g2x1 ≠ g4x1 by omega) (keyA bm)
  have P4x1x6 := P4x0x6.other (show g4x0 ≠ g4x1 by omega) (keyA bm)
  have P4x1x7 := P4x0x7.set (keyA bm)
  have B4x2 := below_setRow B4x1 (show w.heap.size ≤ g4x1 by omega) (keyA bm)
  have Z4x0 := Lib.hid P4x1x0
  have Z4x1 := Lib.hid P4x1x1
  have Z4x2 := Lib.hid P4x1x2
  have Z4x3 := Lib.hid P4x1x3
  have Z4x4 := Lib.hid P4x1x4
  have Z4x5 := Lib.hid P4x1x5
  have Z4x6 := Lib.hid P4x1x6
  have Z4x7 := Lib.hid P4x1x7
  have HB4 := Lib.hid B4x2
  clear hb4 hblk4 HB2 s4 Z2x0a Z2x0b Z2x0c Z2x1a Z2x1b Z2x1c Z2x2a Z2x2b Z2x2c Z2x3a Z2x3b Z2x3c Z2x4a Z2x4b Z2x4c Z2x5a Z2x5b Z2x5c Z2x0 Z2x1 Z2x2 Z2x3 Z2x4 Z2x5 c4x0 c4x1 c4x2 c4x3 c4x4 c4x5 B4x0 B4x1 B4x2 P4x0x0 P4x0x1 P4x0x2 P4x0x3 P4x0x4 P4x0x5 P4x0x6 P4x0x7 P4x1x0 P4x1x1 P4x1x2 P4x1x3 P4x1x4 P4x1x5 P4x1x6 P4x1x7 hg4x0 hg4x1 hn4x0 hn4x1
  obtain ⟨A4x0a, A4x0b, A4x0c⟩ := A4x0
  obtain ⟨A4x1a, A4x1b, A4x1c⟩ := A4x1
  obtain ⟨A4x2a, A4x2b, A4x2c⟩ := A4x2
  obtain ⟨A4x3a, A4x3b, A4x3c⟩ := A4x3
  obtain ⟨A4x4a, A4x4b, A4x4c⟩ := A4x4
  obtain ⟨A4x5a, A4x5b, A4x5c⟩ := A4x5
  obtain ⟨N4x0a, N4x0b, N4x0c⟩ := N4x0
  obtain ⟨N4x1a, N4x1b, N4x1c⟩ := N4x1
  go_wp2_with fail
  clear A4x0a A4x0b A4x0c A4x1a A4x1b A4x1c A4x2a A4x2b A4x2c A4x3a A4x3b A4x3c A4x4a A4x4b A4x4c A4x5a A4x5b A4x5c N4x0a N4x0b N4x0c N4x1a N4x1b N4x1c
  generalize World.setRow _ _ _ = W5 at *
  obtain ⟨Z4x0a, Z4x0b, Z4x0c⟩ := Z4x0.out
  obtain ⟨Z4x1a, Z4x1b, Z4x1c⟩ := Z4x1.out
  obtain ⟨Z4x2a, Z4x2b, Z4x2c⟩ := Z4x2.out
  obtain ⟨Z4x3a, Z4x3b, Z4x3c⟩ := Z4x3.out
  obtain ⟨Z4x4a, Z4x4b, Z4x4c⟩ := Z4x4.out
  obtain ⟨Z4x5a, Z4x5b, Z4x5c⟩ := Z4x5.out
  obtain ⟨Z4x6a, Z4x6b, Z4x6c⟩ := Z4x6.out
  obtain ⟨Z4x7a, Z4x7b, Z4x7c⟩ := Z4x7.out
  refine wp_region_pick W5 [0, 1, 2, 3, 4, 5] [false, false, false, false, false, false] [6, 7] [(23, #[.int .u8 0, .int .u8 0, .int .u8 0, .int .u8 0, .int .u8 0, .int .u8 0, .int .u8 0, .int .u8 0, .int .u8 0, .int .u8 0, .int .u8 0, .int .u8 0, .int .u8 0, .int .u8 0, .int .u8 0, .int .u8 0, .int .u8 0, .int .u8 0, .int .u8 0, .int .u8 0, .int .u8 0, .int .u8 0, .int .u8 0, .int .u8 0, .int .u8 0, .int .u8 0, .int .u8 0, .int .u8 0, .int .u8 0, .int .u8 0, .int .u8 0, .int .u8 0]), (23, #[.int .u8 0, .int .u8 0, .int .u8 0, .int .u8 0, .int .u8 0, .int .u8 0, .int .u8 0, .int .u8 0, .int .u8 0, .int .u8 0, .int .u8 0, .int .u8 0, .int .u8 0, .int .u8 0, .int .u8 0, .int .u8 0, .int .u8 0, .int .u8 0, .int .u8 0, .int .u8 0, .int .u8 0, .int .u8 0, .int .u8 0, .int .u8 0, .int .u8 0, .int .u8 0, .int .u8 0, .int .u8 0, .int .u8 0, .int .u8 0, .int .u8 0, .int .u8 0])] 8 (by kernel_rfl) rfl (by kernel_rfl) (by intro c a d v w h; cases d <;> exact h) ((Below.refl _ _).drew) ?_
  simp only [pick, List.getElem?_cons_succ, List.getElem?_cons_zero, List.drop_succ_cons, List.drop_zero]
  refine wpHoldF_val (wanted_none rfl) (by intro K o d hK; go_simp; exact hK _ (Below.refl _ _)) ?_
  refine wpHoldF_val (wanted_none rfl) (by intro K o d hK; go_simp; exact hK _ (Below.refl _ _)) ?_
  refine wpHoldF_call (v := kv dd) (wanted_none rfl) (by intro K o d hK; go_simp; refine (rmul_K bm ap dd lbm lap Hdd.out _).mono ?_; rintro e w' ⟨rfl, hbw⟩; exact ⟨_, rfl, hK _ hbw⟩) ?_
  refine wpHoldF_val (wanted_none rfl) (by intro K o d hK; go_simp; exact hK _ (Below.refl _ _)) ?_
  refine wpHoldF_val (wanted_none rfl) (by intro K o d hK; go_simp; exact hK _ (Below.refl _ _)) ?_
  refine wpHoldF_call (v := kv cc) (wanted_none rfl) (by intro K o d hK; go_simp; refine (rmul_K bp am cc lbp lam Hcc.out _).mono ?_; rintro e w' ⟨rfl, hbw⟩; exact ⟨_, rfl, hK _ hbw⟩) ?_
  refine wpHoldF_nil ?_
  refine ⟨lays_key _ rfl rfl, fun g6x0 hg6x0 hn6x0 => ?_⟩
  refine ⟨lays_key _ rfl rfl, fun g6x1 hg6x1 hn6x1 => ?_⟩
  simp at hn6x1
  intro w6 hb6 hblk6
  have A6x0 := Z4x0.out.grow hb6
  have c6x0 := Z4x0.out.2.2
  have A6x1 := Z4x1.out.grow hb6
  have c6x1 := Z4x1.out.2.2
  have A6x2 := Z4x2.out.grow hb6
  have c6x2 := Z4x2.out.2.2
  have A6x3 := Z4x3.out.grow hb6
  have c6x3 := Z4x3.out.2.2
  have A6x4 := Z4x4.out.grow hb6
  have c6x4 := Z4x4.out.2.2
  have A6x5 := Z4x5.out.grow hb6
  have c6x5 := Z4x5.out.2.2
  have A6x6 := Z4x6.out.grow hb6
  have c6x6 := Z4x6.out.2.2
  have A6x7 := Z4x7.out.grow hb6
  have c6x7 := Z4x7.out.2.2
  have N6x0 := RowAt.of (hblk6 0 g6x0 _ _ rfl rfl)
  have N6x1 := RowAt.of (hblk6 1 g6x1 _ _ rfl rfl)
  have B6x0 := HB4.out.trans (hb6.mono HB4.out.size)
  have s6 := HB4.out.size
  have le6x0 : w.heap.size ≤ g6x0 := by omega
  have le6x1 : w.heap.size ≤ g6x1 := by omega
  have ne6x0x0 : ¬ w.heap.size = g6x0 := by omega
  have nf6x0x0 : ¬ g6x0 = w.heap.size := by omega
  have ne6x0x1 : ¬ w.heap.size = g6x1 := by omega
  have nf6x0x1 : ¬ g6x1 = w.heap.size := by omega
  have ne6x1x0 : ¬ w.heap.size + 1 = g6x0 := by omega
  have nf6x1x0 : ¬ g6x0 = w.heap.size + 1 := by omega
  have ne6x1x1 : ¬ w.heap.size + 1 = g6x1 := by omega
  have nf6x1x1 : ¬ g6x1 = w.heap.size + 1 := by omega
  have ne6x2x0 : ¬ w.heap.size + 1 + 1 = g6x0 := by omega
  have nf6x2x0 : ¬ g6x0 = w.heap.size + 1 + 1 := by omega
  have ne6x2x1 : ¬ w.heap.size + 1 + 1 = g6x1 := by omega
  have nf6x2x1 : ¬ g6x1 = w.heap.size + 1 + 1 := by omega
  have ne6x3x0 : ¬ w.heap.size + 1 + 1 + 1 = g6x0 := by omega
  have nf6x3x0 : ¬ g6x0 = w.heap.size + 1 + 1 + 1 := by omega
  have ne6x3x1 : ¬ w.heap.size + 1 + 1 + 1 = g6x1 := by omega
  have nf6x3x1 : ¬ g6x1 = w.heap.size + 1 + 1 + 1 := by omega
  have ne6x4x0 : ¬ g2x0 = g6x0 := by omega
  have nf6x4x0 : ¬ g6x0 = g2x0 := by omega
  have ne6x4x1 : ¬ g2x0 = g6x1 := by omega
  have nf6x4x1 : ¬ g6x1 = g2x0 := by omega
  have ne6x5x0 : ¬ g2x1 = g6x0 := by omega
  have nf6x5x0 : ¬ g6x0 = g2x1 := by omega
  have ne6x5x1 : ¬ g2x1 = g6x1 := by omega
  have nf6x5x1 : ¬ g6x1 = g2x1 := by omega
  have ne6x6x0 : ¬ g4x0 = g6x0 := by omega
  have nf6x6x0 : ¬ g6x0 = g4x0 := by omega
  have ne6x6x1 : ¬ g4x0 = g6x1 := by omega
  have nf6x6x1 : ¬ g6x1 = g4x0 := by omega
  have ne6x7x0 : ¬ g4x1 = g6x0 := by omega
  have nf6x7x0 : ¬ g6x0 = g4x1 := by omega
  have ne6x7x1 : ¬ g4x1 = g6x1 := by omega
  have nf6x7x1 : ¬ g6x1 = g4x1 := by omega
  have ne6x8x1 : ¬ g6x0 = g6x1 := by omega
  have ne6x9x0 : ¬ g6x1 = g6x0 := by omega
  have P6x0x0 := A6x0.other (show w.heap.size ≠ g6x0 by omega) (keyA dd)
  have P6x0x1 := A6x1.other (show w.heap.size + 1 ≠ g6x0 by omega) (keyA dd)
  have P6x0x2 := A6x2.other (show w.heap.size + 1 + 1 ≠ g6x0 by omega) (keyA dd)
  have P6x0x3 := A6x3.other (show w.heap.size + 1 + 1 + 1 ≠ g6x0 by omega) (keyA dd)
  have P6x0x4 := A6x4.other (show g2x0 ≠ g6x0 by omega) (keyA dd)
  have P6x0x5 := A6x5.other (show g2x1 ≠ g6x0 by omega) (keyA dd)
  have P6x0x6 := A6x6.other (show g4x0 ≠ g6x0 by omega) (keyA dd)
  have P6x0x7 := A6x7.other (show g4x1 ≠ g6x0 by omega) (keyA dd)
  have P6x0x8 := N6x0.set (keyA dd)
  have P6x0x9 := N6x1.other (show g6x1 ≠ g6x0 by omega) (keyA dd)
  have B6x1 := below_setRow B6x0 (show w.heap.size ≤ g6x0 by omega) (keyA dd)
  have P6x1x0 := P6x0x0.other (show w.heap.size ≠ g6x1 by omega) (keyA cc)
  have P6x1x1 := P6x0x1.other (show w.heap.size + 1 ≠ g6x1 by omega) (keyA cc)
  have P6x1x2 := P6x0x2.other (show w.heap.size + 1 + 1 ≠ g6x1 by omega) (keyA cc)
  have P6x1x3 := P6x0x3.other (show w.heap.size + 1 + 1 + 1 ≠ g6x1 by omega) (keyA cc)
  have P6x1x4 := P6x0x4.other (show g2x0 ≠ g6x1 by omega) (keyA cc)
  have P6x1x5 := P6x0x5.other (show g2x1 ≠ g6x1 by omega) (keyA cc)
  have P6x1x6 := P6x0x6.other (show g4x0 ≠ g6x1 by omega) (keyA cc)
  have P6x1x7 := P6x0x7.other (show g4x1 ≠ g6x1 by omega) (keyA cc)
  have P6x1x8 := P6x0x8.other (show g6x0 ≠ g6x1 by omega) (keyA cc)
  have P6x1x9 := P6x0x9.set (keyA cc)
  have B6x2 := below_setRow B6x1 (show w.heap.size ≤ g6x1 by omega) (keyA cc)
  have Z6x0 := Lib.hid P6x1x0
  have Z6x1 := Lib.hid P6x1x1
  have Z6x2 := Lib.hid P6x1x2
  have Z6x3 := Lib.hid P6x1x3
  have Z6x4 := Lib.hid P6x1x4
  have Z6x5 := Lib.hid P6x1x5
  have Z6x6 := Lib.hid P6x1x6
  have Z6x7 := Lib.hid P6x1x7
  have Z6x8 := Lib.hid P6x1x8
  have Z6x9 := Lib.hid P6x1x9
  have HB6 := Lib.hid B6x2
  clear hb6 hblk6 HB4 s6 Z4x0a Z4x0b Z4x0c Z4x1a Z4x1b Z4x1c Z4x2a Z4x2b Z4x2c Z4x3a Z4x3b Z4x3c Z4x4a Z4x4b Z4x4c Z4x5a Z4x5b Z4x5c Z4x6a Z4x6b Z4x6c Z4x7a Z4x7b Z4x7c Z4x0 Z4x1 Z4x2 Z4x3 Z4x4 Z4x5 Z4x6 Z4x7 c6x0 c6x1 c6x2 c6x3 c6x4 c6x5 c6x6 c6x7 B6x0 B6x1 B6x2 P6x0x0 P6x0x1 P6x0x2 P6x0x3 P6x0x4 P6x0x5 P6x0x6 P6x0x7 P6x0x8 P6x0x9 P6x1x0 P6x1x1 P6x1x2 P6x1x3 P6x1x4 P6x1x5 P6x1x6 P6x1x7 P6x1x8 P6x1x9 hg6x0 hg6x1 hn6x0 hn6x1
  obtain ⟨A6x0a, A6x0b, A6x0c⟩ := A6x0
  obtain ⟨A6x1a, A6x1b, A6x1c⟩ := A6x1
  obtain ⟨A6x2a, A6x2b, A6x2c⟩ := A6x2
  obtain ⟨A6x3a, A6x3b, A6x3c⟩ := A6x3
  obtain ⟨A6x4a, A6x4b, A6x4c⟩ := A6x4
  obtain ⟨A6x5a, A6x5b, A6x5c⟩ := A6x5
  obtain ⟨A6x6a, A6x6b, A6x6c⟩ := A6x6
  obtain ⟨A6x7a, A6x7b, A6x7c⟩ := A6x7
  obtain ⟨N6x0a, N6x0b, N6x0c⟩ := N6x0
  obtain ⟨N6x1a, N6x1b, N6x1c⟩ := N6x1
  go_wp2_with fail
  clear A6x0a A6x0b A6x0c A6x1a A6x1b A6x1c A6x2a A6x2b A6x2c A6x3a A6x3b A6x3c A6x4a A6x4b A6x4c A6x5a A6x5b A6x5c A6x6a A6x6b A6x6c A6x7a A6x7b A6x7c N6x0a N6x0b N6x0c N6x1a N6x1b N6x1c
  generalize World.setRow _ _ _ = W7 at *
  obtain ⟨Z6x0a, Z6x0b, Z6x0c⟩ := Z6x0.out
  obtain ⟨Z6x1a, Z6x1b, Z6x1c⟩ := Z6x1.out
  obtain ⟨Z6x2a, Z6x2b, Z6x2c⟩ := Z6x2.out
  obtain ⟨Z6x3a, Z6x3b, Z6x3c⟩ := Z6x3.out
  obtain ⟨Z6x4a, Z6x4b, Z6x4c⟩ := Z6x4.out
  obtain ⟨Z6x5a, Z6x5b, Z6x5c⟩ := Z6x5.out
  obtain ⟨Z6x6a, Z6x6b, Z6x6c⟩ := Z6x6.out
  obtain ⟨Z6x7a, Z6x7b, Z6x7c⟩ := Z6x7.out
  obtain ⟨Z6x8a, Z6x8b, Z6x8c⟩ := Z6x8.out
  obtain ⟨Z6x9a, Z6x9b, Z6x9c⟩ := Z6x9.out
  refine wp_region_pick W7 [0, 1, 2, 3, 4, 5] [false, false, false, false, false, false] [6, 7] [(23, #[.int .u8 0, .int .u8 0, .int .u8 0, .int .u8 0, .int .u8 0, .int .u8 0, .int .u8 0, .int .u8 0, .int .u8 0, .int .u8 0, .int .u8 0, .int .u8 0, .int .u8 0, .int .u8 0, .int .u8 0, .int .u8 0, .int .u8 0, .int .u8 0, .int .u8 0, .int .u8 0, .int .u8 0, .int .u8 0, .int .u8 0, .int .u8 0, .int .u8 0, .int .u8 0, .int .u8 0, .int .u8 0, .int .u8 0, .int .u8 0, .int .u8 0, .int .u8 0]), (23, #[.int .u8 0, .int .u8 0, .int .u8 0, .int .u8 0, .int .u8 0, .int .u8 0, .int .u8 0, .int .u8 0, .int .u8 0, .int .u8 0, .int .u8 0, .int .u8 0, .int .u8 0, .int .u8 0, .int .u8 0, .int .u8 0, .int .u8 0, .int .u8 0, .int .u8 0, .int .u8 0, .int .u8 0, .int .u8 0, .int .u8 0, .int .u8 0, .int .u8 0, .int .u8 0, .int .u8 0, .int .u8 0, .int .u8 0, .int .u8 0, .int .u8 0, .int .u8 0])] 8 (by kernel_rfl) rfl (by kernel_rfl) (by intro c a d v w h; cases d <;> exact h) ((Below.refl _ _).drew) ?_
  simp only [pick, List.getElem?_cons_succ, List.getElem?_cons_zero, List.drop_succ_cons, List.drop_zero]
  refine wpHoldF_val (wanted_none rfl) (by intro K o d hK; go_simp; exact hK _ (Below.refl _ _)) ?_
  refine wpHoldF_val (wanted_none rfl) (by intro K o d hK; go_simp; exact hK _ (Below.refl _ _)) ?_
  refine wpHoldF_call (v := kv sa) (wanted_none rfl) (by intro K o d hK; go_simp; refine (radd_K dd cc sa ldd lcc Hsa.out _).mono ?_; rintro e w' ⟨rfl, hbw⟩; exact ⟨_, rfl, hK _ hbw⟩) ?_
  refine wpHoldF_val (wanted_none rfl) (by intro K o d hK; go_simp; exact hK _ (Below.refl _ _)) ?_
  refine wpHoldF_val (wanted_none rfl) (by intro K o d hK; go_simp; exact hK _ (Below.refl _ _)) ?_
  refine wpHoldF_call (v := kv t) (wanted_none rfl) (by intro K o d hK; go_simp; refine (rsub_K dd cc t ldd lcc Ht.out _).mono ?_; rintro e w' ⟨rfl, hbw⟩; exact ⟨_, rfl, hK _ hbw⟩) ?_
  refine wpHoldF_nil ?_
  refine ⟨lays_key _ rfl rfl, fun g8x0 hg8x0 hn8x0 => ?_⟩
  refine ⟨lays_key _ rfl rfl, fun g8x1 hg8x1 hn8x1 => ?_⟩
  simp at hn8x1
  intro w8 hb8 hblk8
  have A8x0 := Z6x0.out.grow hb8
  have c8x0 := Z6x0.out.2.2
  have A8x1 := Z6x1.out.grow hb8
  have c8x1 := Z6x1.out.2.2
  have A8x2 := Z6x2.out.grow hb8
  have c8x2 := Z6x2.out.2.2
  have A8x3 := Z6x3.out.grow hb8
  have c8x3 := Z6x3.out.2.2
  have A8x4 := Z6x4.out.grow hb8
  have c8x4 := Z6x4.out.2.2
  have A8x5 := Z6x5.out.grow hb8
  have c8x5 := Z6x5.out.2.2
  have A8x6 := Z6x6.out.grow hb8
  have c8x6 := Z6x6.out.2.2
  have A8x7 := Z6x7.out.grow hb8
  have c8x7 := Z6x7.out.2.2
  have A8x8 := Z6x8.out.grow hb8
  have c8x8 := Z6x8.out.2.2
  have A8x9 := Z6x9.out.grow hb8
  have c8x9 := Z6x9.out.2.2
  have N8x0 := RowAt.of (hblk8 0 g8x0 _ _ rfl rfl)
  have N8x1 := RowAt.of (hblk8 1 g8x1 _ _ rfl rfl)
  have B8x0 := HB6.out.trans (hb8.mono HB6.out.size)
  have s8 := HB6.out.size
  have le8x0 : w.heap.size ≤ g8x0 := by omega
  have le8x1 : w.heap.size ≤ g8x1 := by omega
  have ne8x0x0 : ¬ w.heap.size = g8x0 := by omega
  have nf8x0x0 : ¬ g8x0 = w.heap.size := by omega
  have ne8x0x1 : ¬ w.heap.size = g8x1 := by omega
  have nf8x0x1 : ¬ g8x1 = w.heap.size := by omega
  have ne8x1x0 : ¬ w.heap.size + 1 = g8x0 := by omega
  have nf8x1x0 : ¬ g8x0 = w.heap.size + 1 := by omega
  have ne8x1x1 : ¬ w.heap.size + 1 = g8x1 := by omega
  have nf8x1x1 : ¬ g8x1 = w.heap.size + 1 := by omega
  have ne8x2x0 : ¬ w.heap.size + 1 + 1 = g8x0 := by omega
  have nf8x2x0 : ¬ g8x0 = w.heap.size + 1 + 1 := by omega
  have ne8x2x1 : ¬ w.heap.size + 1 + 1 = g8x1 := by omega
  have nf8x2x1 : ¬ g8x1 = w.heap.size + 1 + 1 := by omega
  have ne8x3x0 : ¬ w.heap.size + 1 + 1 + 1 = g8x0 := by omega
  have nf8x3x0 : ¬ g8x0 = w.heap.size + 1 + 1 + 1 := by omega
  have ne8x3x1 : ¬ w.heap.size + 1 + 1 + 1 = g8x1 := by omega
  have nf8x3x1 : ¬ g8x1 = w.heap.size + 1 + 1 + 1 := by omega
  have ne8x4x0 : ¬ g2x0 = g8x0 := by omega
  have nf8x4x0 : ¬ g8x0 = g2x0 := by omega
  have ne8x4x1 : ¬ g2x0 = g8x1 := by omega
  have nf8x4x1 : ¬ g8x1 = g2x0 := by omega
  have ne8x5x0 : ¬ g2x1 = g8x0 := by omega
  have nf8x5x0 : ¬ g8x0 = g2x1 := by omega
  have ne8x5x1 : ¬ g2x1 = g8x1 := by omega
  have nf8x5x1 : ¬ g8x1 = g2x1 := by omega
  have ne8x6x0 : ¬ g4x0 = g8x0 := by omega
  have nf8x6x0 : ¬ g8x0 = g4x0 := by omega
  have ne8x6x1 : ¬ g4x0 = g8x1 := by omega
  have nf8x6x1 : ¬ g8x1 = g4x0 := by omega
  have ne8x7x0 : ¬ g4x1 = g8x0 := by omega
  have nf8x7x0 : ¬ g8x0 = g4x1 := by omega
  have ne8x7x1 : ¬ g4x1 = g8x1 := by omega
  have nf8x7x1 : ¬ g8x1 = g4x1 := by omega
  have ne8x8x0 : ¬ g6x0 = g8x0 := by omega
  have nf8x8x0 : ¬ g8x0 = g6x0 := by omega
  have ne8x8x1 : ¬ g6x0 = g8x1 := by omega
  have nf8x8x1 : ¬ g8x1 = g6x0 := by omega
  have ne8x9x0 : ¬ g6x1 = g8x0 := by omega
  have nf8x9x0 : ¬ g8x0 = g6x1 := by omega
  have ne8x9x1 : ¬ g6x1 = g8x1 := by omega
  have nf8x9x1 : ¬ g8x1 = g6x1 := by omega
  have ne8x10x1 : ¬ g8x0 = g8x1 := by omega
  have ne8x11x0 : ¬ g8x1 = g8x0 := by omega
  have P8x0x0 := A8x0.other (show w.heap.size ≠ g8x0 by omega) (keyA sa)
  have P8x0x1 := A8x1.other (show w.heap.size + 1 ≠ g8x0 by omega) (keyA sa)
  have P8x0x2 := A8x2.other (show w.heap.size + 1 + 1 ≠ g8x0 by omega) (keyA sa)
  have P8x0x3 := A8x3.other (show w.heap.size + 1 + 1 + 1 ≠ g8x0 by omega) (keyA sa)
  have P8x0x4 := A8x4.other (show g2x0 ≠ g8x0 by omega) (keyA sa)
  have P8x0x5 := A8x5.other (show g2x1 ≠ g8x0 by omega) (keyA sa)
  have P8x0x6 := A8x6.other (show g4x0 ≠ g8x0 by omega) (keyA sa)
  have P8x0x7 := A8x7.other (show g4x1 ≠ g8x0 by omega) (keyA sa)
  have P8x0x8 := A8x8.other (show g6x0 ≠ g8x0 by omega) (keyA sa)
  have P8x0x9 := A8x9.other (show g6x1 ≠ g8x0 by omega) (keyA sa)
  have P8x0x10 := N8x0.set (keyA sa)
  have P8x0x11 := N8x1.other (show g8x1 ≠ g8x0 by omega) (keyA sa)
  have B8x1 := below_setRow B8x0 (show w.heap.size ≤ g8x0 by omega) (keyA sa)
  have P8x1x0 := P8x0x0.other (show w.heap.size ≠ g8x1 by omega) (keyA t)
  have P8x1x1 := P8x0x1.other (show w.heap.size + 1 ≠ g8x1 by omega) (keyA t)
  have P8x1x2 := P8x0x2.other (show w.heap.size + 1 + 1 ≠ g8x1 by omega) (keyA t)
  have P8x1x3 := P8x0x3.other (show w.heap.size + 1 + 1 + 1 ≠ g8x1 by omega) (keyA t)
  have P8x1x4 := P8x0x4.other (show g2x0 ≠ g8x1 by omega) (keyA t)
  have P8x1x5 := P8x0x5.other (show g2x1 ≠ g8x1 by omega) (keyA t)
  have P8x1x6 := P8x0x6.other (show g4x0 ≠ g8x1 by omega) (keyA t)
  have P8x1x7 := P8x0x7.other (show g4x1 ≠ g8x1 by omega) (keyA t)
  have P8x1x8 := P8x0x8.other (show g6x0 ≠ g8x1 by omega) (keyA t)
  have P8x1x9 := P8x0x9.other (show g6x1 ≠ g8x1 by omega) (keyA t)
  have P8x1x10 := P8x0x10.other (show g8x0 ≠ g8x1 by omega) (keyA t)
  have P8x1x11 := P8x0x11.set (keyA t)
  have B8x2 := below_setRow B8x1 (show w.heap.size ≤ g8x1 by omega) (keyA t)
  have Z8x0 := Lib.hid P8x1x0
  have Z8x1 := Lib.hid P8x1x1
  have Z8x2 := Lib.hid P8x1x2
  have Z8x3 := Lib.hid P8x1x3
  have Z8x4 := Lib.hid P8x1x4
  have Z8x5 := Lib.hid P8x1x5
  have Z8x6 := Lib.hid P8x1x6
  have Z8x7 := Lib.hid P8x1x7
  have Z8x8 := Lib.hid P8x1x8
  have Z8x9 := Lib.hid P8x1x9
  have Z8x10 := Lib.hid P8x1x10
  have Z8x11 := Lib.hid P8x1x11
  have HB8 := Lib.hid B8x2
  clear hb8 hblk8 HB6 s8 Z6x0a Z6x0b Z6x0c Z6x1a Z6x1b Z6x1c Z6x2a Z6x2b Z6x2c Z6x3a Z6x3b Z6x3c Z6x4a Z6x4b Z6x4c Z6x5a Z6x5b Z6x5c Z6x6a Z6x6b Z6x6c Z6x7a Z6x7b Z6x7c Z6x8a Z6x8b Z6x8c Z6x9a Z6x9b Z6x9c Z6x0 Z6x1 Z6x2 Z6x3 Z6x4 Z6x5 Z6x6 Z6x7 Z6x8 Z6x9 c8x0 c8x1 c8x2 c8x3 c8x4 c8x5 c8x6 c8x7 c8x8 c8x9 B8x0 B8x1 B8x2 P8x0x0 P8x0x1 P8x0x2 P8x0x3 P8x0x4 P8x0x5 P8x0x6 P8x0x7 P8x0x8 P8x0x9 P8x0x10 P8x0x11 P8x1x0 P8x1x1 P8x1x2 P8x1x3 P8x1x4 P8x1x5 P8x1x6 P8x1x7 P8x1x8 P8x1x9 P8x1x10 P8x1x11 hg8x0 hg8x1 hn8x0 hn8x1
  obtain ⟨A8x0a, A8x0b, A8x0c⟩ := A8x0
  obtain ⟨A8x1a, A8x1b, A8x1c⟩ := A8x1
  obtain ⟨A8x2a, A8x2b, A8x2c⟩ := A8x2
  obtain ⟨A8x3a, A8x3b, A8x3c⟩ := A8x3
  obtain ⟨A8x4a, A8x4b, A8x4c⟩ := A8x4
  obtain ⟨A8x5a, A8x5b, A8x5c⟩ := A8x5
  obtain ⟨A8x6a, A8x6b, A8x6c⟩ := A8x6
  obtain ⟨A8x7a, A8x7b, A8x7c⟩ := A8x7
  obtain ⟨A8x8a, A8x8b, A8x8c⟩ := A8x8
  obtain ⟨A8x9a, A8x9b, A8x9c⟩ := A8x9
  obtain ⟨N8x0a, N8x0b, N8x0c⟩ := N8x0
  obtain ⟨N8x1a, N8x1b, N8x1c⟩ := N8x1
  go_wp2_with fail
  clear A8x0a A8x0b A8x0c A8x1a A8x1b A8x1c A8x2a A8x2b A8x2c A8x3a A8x3b A8x3c A8x4a A8x4b A8x4c A8x5a A8x5b A8x5c A8x6a A8x6b A8x6c A8x7a A8x7b A8x7c A8x8a A8x8b A8x8c A8x9a A8x9b A8x9c N8x0a N8x0b N8x0c N8x1a N8x1b N8x1c
  generalize World.setRow _ _ _ = W9 at *
  obtain ⟨Z8x0a, Z8x0b, Z8x0c⟩ := Z8x0.out
  obtain ⟨Z8x1a, Z8x1b, Z8x1c⟩ := Z8x1.out
  obtain ⟨Z8x2a, Z8x2b, Z8x2c⟩ := Z8x2.out
  obtain ⟨Z8x3a, Z8x3b, Z8x3c⟩ := Z8x3.out
  obtain ⟨Z8x4a, Z8x4b, Z8x4c⟩ := Z8x4.out
  obtain ⟨Z8x5a, Z8x5b, Z8x5c⟩ := Z8x5.out
  obtain ⟨Z8x6a, Z8x6b, Z8x6c⟩ := Z8x6.out
  obtain ⟨Z8x7a, Z8x7b, Z8x7c⟩ := Z8x7.out
  obtain ⟨Z8x8a, Z8x8b, Z8x8c⟩ := Z8x8.out
  obtain ⟨Z8x9a, Z8x9b, Z8x9c⟩ := Z8x9.out
  obtain ⟨Z8x10a, Z8x10b, Z8x10c⟩ := Z8x10.out
  obtain ⟨Z8x11a, Z8x11b, Z8x11c⟩ := Z8x11.out
  refine wp_region_pick W9 [0, 1, 2, 3, 4, 5, 6, 7, 8] [false, false, false, false, false, false, false, false, false] [] [] 9 (by kernel_rfl) rfl (by kernel_rfl) (by intro c a d v w h; cases d <;> exact h) ((Below.refl _ _).drew) ?_
  simp only [pick, List.getElem?_cons_succ, List.getElem?_cons_zero, List.drop_succ_cons, List.drop_zero]
  refine wpHoldF_val (wanted_none rfl) (by intro K o d hK; go_simp; exact hK _ (Below.refl _ _)) ?_
  refine wpHoldF_val (wanted_none rfl) (by intro K o d hK; go_simp; exact hK _ (Below.refl _ _)) ?_
  refine wpHoldF_call (v := kv X) (wanted_none rfl) (by intro K o d hK; go_simp; refine (rmul_K sa sa X lsa lsa HX.out _).mono ?_; rintro e w' ⟨rfl, hbw⟩; exact ⟨_, rfl, hK _ hbw⟩) ?_
  refine wpHoldF_val (wanted_none rfl) (by intro K o d hK; go_simp; exact hK _ (Below.refl _ _)) ?_
  refine wpHoldF_val (wanted_none rfl) (by intro K o d hK; go_simp; exact hK _ (Below.refl _ _)) ?_
  refine wpHoldF_val (wanted_none rfl) (by intro K o d hK; go_simp; exact hK _ (Below.refl _ _)) ?_
  refine wpHoldF_call (v := kv tt) (wanted_none rfl) (by intro K o d hK; go_simp; refine (rmul_K t t tt lt lt Htt.out _).mono ?_; rintro e w' ⟨rfl, hbw⟩; exact ⟨_, rfl, hK _ hbw⟩) ?_
  refine wpHoldF_call (v := kv Z) (wanted_none rfl) (by intro K o d hK; go_simp; refine (rmul_K x1 tt Z hx1 ltt HZ.out _).mono ?_; rintro e w' ⟨rfl, hbw⟩; exact ⟨_, rfl, hK _ hbw⟩) ?_
  refine wpHoldF_val (wanted_none rfl) (by intro K o d hK; go_simp; exact hK _ (Below.refl _ _)) ?_
  refine wpHoldF_nil ?_
  intro w10 hb10 hblk10
  have A10x0 := Z8x0.out.grow hb10
  have c10x0 := Z8x0.out.2.2
  have A10x1 := Z8x1.out.grow hb10
  have c10x1 := Z8x1.out.2.2
  have A10x2 := Z8x2.out.grow hb10
  have c10x2 := Z8x2.out.2.2
  have A10x3 := Z8x3.out.grow hb10
  have c10x3 := Z8x3.out.2.2
  have A10x4 := Z8x4.out.grow hb10
  have c10x4 := Z8x4.out.2.2
  have A10x5 := Z8x5.out.grow hb10
  have c10x5 := Z8x5.out.2.2
  have A10x6 := Z8x6.out.grow hb10
  have c10x6 := Z8x6.out.2.2
  have A10x7 := Z8x7.out.grow hb10
  have c10x7 := Z8x7.out.2.2
  have A10x8 := Z8x8.out.grow hb10
  have c10x8 := Z8x8.out.2.2
  have A10x9 := Z8x9.out.grow hb10
  have c10x9 := Z8x9.out.2.2
  have A10x10 := Z8x10.out.grow hb10
  have c10x10 := Z8x10.out.2.2
  have A10x11 := Z8x11.out.grow hb10
  have c10x11 := Z8x11.out.2.2
  have B10x0 := HB8.out.trans (hb10.mono HB8.out.size)
  have s10 := HB8.out.size
  have P10x0x0 := A10x0.other (show w.heap.size ≠ w.heap.size + 1 + 1 + 1 by omega) (fracA X Z)
  have P10x0x1 := A10x1.other (show w.heap.size + 1 ≠ w.heap.size + 1 + 1 + 1 by omega) (fracA X Z)
  have P10x0x2 := A10x2.other (show w.heap.size + 1 + 1 ≠ w.heap.size + 1 + 1 + 1 by omega) (fracA X Z)
  have P10x0x3 := A10x3.set (fracA X Z)
  have P10x0x4 := A10x4.other (show g2x0 ≠ w.heap.size + 1 + 1 + 1 by omega) (fracA X Z)
  have P10x0x5 := A10x5.other (show g2x1 ≠ w.heap.size + 1 + 1 + 1 by omega) (fracA X Z)
  have P10x0x6 := A10x6.other (show g4x0 ≠ w.heap.size + 1 + 1 + 1 by omega) (fracA X Z)
  have P10x0x7 := A10x7.other (show g4x1 ≠ w.heap.size + 1 + 1 + 1 by omega) (fracA X Z)
  have P10x0x8 := A10x8.other (show g6x0 ≠ w.heap.size + 1 + 1 + 1 by omega) (fracA X Z)
  have P10x0x9 := A10x9.other (show g6x1 ≠ w.heap.size + 1 + 1 + 1 by omega) (fracA X Z)
  have P10x0x10 := A10x10.other (show g8x0 ≠ w.heap.size + 1 + 1 + 1 by omega) (fracA X Z)
  have P10x0x11 := A10x11.other (show g8x1 ≠ w.heap.size + 1 + 1 + 1 by omega) (fracA X Z)
  have B10x1 := below_setRow B10x0 (show w.heap.size ≤ w.heap.size + 1 + 1 + 1 by omega) (fracA X Z)
  have Z10x0 := Lib.hid P10x0x0
  have Z10x1 := Lib.hid P10x0x1
  have Z10x2 := Lib.hid P10x0x2
  have Z10x3 := Lib.hid P10x0x3
  have Z10x4 := Lib.hid P10x0x4
  have Z10x5 := Lib.hid P10x0x5
  have Z10x6 := Lib.hid P10x0x6
  have Z10x7 := Lib.hid P10x0x7
  have Z10x8 := Lib.hid P10x0x8
  have Z10x9 := Lib.hid P10x0x9
  have Z10x10 := Lib.hid P10x0x10
  have Z10x11 := Lib.hid P10x0x11
  have HB10 := Lib.hid B10x1
  clear hb10 hblk10 HB8 s10 Z8x0a Z8x0b Z8x0c Z8x1a Z8x1b Z8x1c Z8x2a Z8x2b Z8x2c Z8x3a Z8x3b Z8x3c Z8x4a Z8x4b Z8x4c Z8x5a Z8x5b Z8x5c Z8x6a Z8x6b Z8x6c Z8x7a Z8x7b Z8x7c Z8x8a Z8x8b Z8x8c Z8x9a Z8x9b Z8x9c Z8x10a Z8x10b Z8x10c Z8x11a Z8x11b Z8x11c Z8x0 Z8x1 Z8x2 Z8x3 Z8x4 Z8x5 Z8x6 Z8x7 Z8x8 Z8x9 Z8x10 Z8x11 c10x0 c10x1 c10x2 c10x3 c10x4 c10x5 c10x6 c10x7 c10x8 c10x9 c10x10 c10x11 B10x0 B10x1 P10x0x0 P10x0x1 P10x0x2 P10x0x3 P10x0x4 P10x0x5 P10x0x6 P10x0x7 P10x0x8 P10x0x9 P10x0x10 P10x0x11
  obtain ⟨A10x0a, A10x0b, A10x0c⟩ := A10x0
  obtain ⟨A10x1a, A10x1b, A10x1c⟩ := A10x1
  obtain ⟨A10x2a, A10x2b, A10x2c⟩ := A10x2
  obtain ⟨A10x3a, A10x3b, A10x3c⟩ := A10x3
  obtain ⟨A10x4a, A10x4b, A10x4c⟩ := A10x4
  obtain ⟨A10x5a, A10x5b, A10x5c⟩ := A10x5
  obtain ⟨A10x6a, A10x6b, A10x6c⟩ := A10x6
  obtain ⟨A10x7a, A10x7b, A10x7c⟩ := A10x7
  obtain ⟨A10x8a, A10x8b, A10x8c⟩ := A10x8
  obtain ⟨A10x9a, A10x9b, A10x9c⟩ := A10x9
  obtain ⟨A10x10a, A10x10b, A10x10c⟩ := A10x10
  obtain ⟨A10x11a, A10x11b, A10x11c⟩ := A10x11
  go_wp2_with fail
  clear A10x0a A10x0b A10x0c A10x1a A10x1b A10x1c A10x2a A10x2b A10x2c A10x3a A10x3b A10x3c A10x4a A10x4b A10x4c A10x5a A10x5b A10x5c A10x6a A10x6b A10x6c A10x7a A10x7b A10x7c A10x8a A10x8b A10x8c A10x9a A10x9b A10x9c A10x10a A10x10b A10x10c A10x11a A10x11b A10x11c
  generalize World.setRow _ _ _ = W11 at *
  obtain ⟨Z10x0a, Z10x0b, Z10x0c⟩ := Z10x0.out
  obtain ⟨Z10x1a, Z10x1b, Z10x1c⟩ := Z10x1.out
  obtain ⟨Z10x2a, Z10x2b, Z10x2c⟩ := Z10x2.out
  obtain ⟨Z10x3a, Z10x3b, Z10x3c⟩ := Z10x3.out
  obtain ⟨Z10x4a, Z10x4b, Z10x4c⟩ := Z10x4.out
  obtain ⟨Z10x5a, Z10x5b, Z10x5c⟩ := Z10x5.out
  obtain ⟨Z10x6a, Z10x6b, Z10x6c⟩ := Z10x6.out
  obtain ⟨Z10x7a, Z10x7b, Z10x7c⟩ := Z10x7.out
  obtain ⟨Z10x8a, Z10x8b, Z10x8c⟩ := Z10x8.out
  obtain ⟨Z10x9a, Z10x9b, Z10x9c⟩ := Z10x9.out
  obtain ⟨Z10x10a, Z10x10b, Z10x10c⟩ := Z10x10.out
  obtain ⟨Z10x11a, Z10x11b, Z10x11c⟩ := Z10x11.out
  refine bodyPost_ret (v := fv X Z) (results_pair Try.results33 _ _ _ rfl (by go_simp) (by go_simp)) rfl ⟨rfl, HB10.out⟩
end Go.Proofs.Ytpilonikhokjeaa
