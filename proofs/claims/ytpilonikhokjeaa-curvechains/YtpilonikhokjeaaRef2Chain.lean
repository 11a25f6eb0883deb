/-
  The reference's answer for layer 2: a point times secrets, one behind the other.
-/
import Derived.Test.YtpilonikhokjeaaRef2Shared
namespace Go.Proofs.Ytpilonikhokjeaa
open Go.RowKit Go.Shelf Go.Hold

set_option maxHeartbeats 2000000 in
set_option maxRecDepth 100000 in
theorem rchain_big (u : Nat) (n cap : Nat) (p : Option Addr) (hn : 8 < n) (w : World) :
    Calls Try.prog 17 #[kv u, .slice p n cap] w fun x w' => x = .returned (.tuple #[kv 0, .int .i64 3]) ∧ Below w.heap.size w w' := by
  have h8 : (8 : Int) < (n : Int) := by omega
  go_enter Try.func17, Try.ntmps17
  go_wp2_with fail
  refine bodyPost_ret (v := .tuple #[kv 0, .int .i64 3]) (results_key_slot Try.results17 _ _ _ rfl (by go_simp) (by go_simp) rfl) rfl ⟨rfl, ?_⟩
  repeat (first | apply below_more | apply below_alloc | exact Below.refl _ _)
set_option maxHeartbeats 2000000 in
set_option maxRecDepth 100000 in
theorem rchain_zero (u : Nat) (ls : List Nat) (cap : Nat) (p : Option Addr) (hq : ptN u % Fp.P = 0) (hn : ls.length ≤ 8) (w : World) :
    Calls Try.prog 17 #[kv u, .slice p ls.length cap] w fun x w' => x = .returned (.tuple #[kv 0, .int .i64 7]) ∧ Below w.heap.size w w' := by
  have h8 : ¬ (8 : Int) < (ls.length : Int) := by omega
  have Hq := Lib.hid hq
  have Hz := Lib.hid (show decide (0 % Fp.P = 0) = true by decide +kernel)
  clear hq
  go_enter Try.func17, Try.ntmps17
  go_wp2_with fail
  refine (rpoint_K u 0 Hq.out _).mono ?_
  rintro e w' ⟨rfl, hbw⟩
  obtain ⟨oc1, nc1, rfl⟩ := below_plus hbw
  clear hbw
  go_wp2_with fail
  generalize hW : World.alloc _ _ = W1
  have R1x0 := Lib.hid (show RowAt W1 (w.heap.size) (keyA u) by rw [← hW]; clear hW; exact ⟨by go_simp, by go_simp, by go_simp⟩)
  have R1x1 := Lib.hid (show RowAt W1 (w.heap.size + 1) (#[.int .u8 0, .int .u8 0, .int .u8 0, .int .u8 0, .int .u8 0, .int .u8 0, .int .u8 0, .int .u8 0, .int .u8 0, .int .u8 0, .int .u8 0, .int .u8 0, .int .u8 0, .int .u8 0, .int .u8 0, .int .u8 0, .int .u8 0, .int .u8 0, .int .u8 0, .int .u8 0, .int .u8 0, .int .u8 0, .int .u8 0, .int .u8 0, .int .u8 0, .int .u8 0, .int .u8 0, .int .u8 0, .int .u8 0, .int .u8 0, .int .u8 0, .int .u8 0]) by rw [← hW]; clear hW; exact ⟨by go_simp, by go_simp, by go_simp⟩)
  have R1x2 := Lib.hid (show RowAt W1 (w.heap.size + 1 + 1 + oc1.size) (keyA 0) by rw [← hW]; clear hW; exact ⟨by go_simp, by go_simp, by go_simp⟩)
  have HB1 := Lib.hid (show Below w.heap.size w W1 by rw [← hW]; repeat (first | apply below_more | apply below_alloc | apply Below.drew | refine below_setRow ?_ (by omega) _ | exact Below.refl _ _))
  clear hW
  obtain ⟨R1x0a, R1x0b, R1x0c⟩ := R1x0.out
  obtain ⟨R1x1a, R1x1b, R1x1c⟩ := R1x1.out
  obtain ⟨R1x2a, R1x2b, R1x2c⟩ := R1x2.out
  refine (rzero_K 0 true (by decide) Hz.out _).mono ?_
  rintro e w' ⟨rfl, hbw⟩
  obtain ⟨oc2, nc2, rfl⟩ := below_plus hbw
  clear hbw
  have lt2x0 : w.heap.size < W1.heap.size + oc2.size := by omega
  have lt2x1 : w.heap.size + 1 < W1.heap.size + oc2.size := by omega
  have lt2x2 : w.heap.size + 1 + 1 + oc1.size < W1.heap.size + oc2.size := by omega
  go_wp2_with fail
  refine bodyPost_ret (v := .tuple #[kv 0, .int .i64 7]) (results_key_slot Try.results17 _ _ _ rfl (by go_simp) (by go_simp) rfl) rfl ⟨rfl, ?_⟩
  exact below_more (below_setRow HB1.out (by omega) _) _ _
set_option maxHeartbeats 2000000 in
set_option maxRecDepth 100000 in
theorem rchain_not (u q : Nat) (ls : List Nat) (cap : Nat) (p : Option Addr) (hq : ptN u % Fp.P = q) (hq0 : ¬ q = 0) (hn : ls.length ≤ 8) (w : World) (hk : KeysAt w p ls) :
    Calls Try.prog 17 #[kv u, .slice p ls.length cap] w fun x w' => x = .returned (.tuple #[kv (chN q ls), .int .i64 (errOf (chN q ls))]) ∧ Below w.heap.size w w' := by
  have h8 : ¬ (8 : Int) < (ls.length : Int) := by omega
  have Hq := Lib.hid hq
  have lq : q < Fp.P := by rw [← hq]; exact Nat.mod_lt _ Fp.P_pos
  have Hz := Lib.hid (show decide (q % Fp.P = 0) = false by rw [Nat.mod_eq_of_lt lq]; exact decide_eq_false hq0)
  have Hq0 := Lib.hid hq0
  have HK := Lib.hid hk
  clear hq hq0 hk
  go_enter Try.func17, Try.ntmps17
  go_wp2_with fail
  refine (rpoint_K u q Hq.out _).mono ?_
  rintro e w' ⟨rfl, hbw⟩
  obtain ⟨oc3, nc3, rfl⟩ := below_plus hbw
  clear hbw
  go_wp2_with fail
  generalize hW : World.alloc _ _ = W1
  have R1x0 := Lib.hid (show RowAt W1 (w.heap.size) (keyA u) by rw [← hW]; clear hW; exact ⟨by go_simp, by go_simp, by go_simp⟩)
  have R1x1 := Lib.hid (show RowAt W1 (w.heap.size + 1) (#[.int .u8 0, .int .u8 0, .int .u8 0, .int .u8 0, .int .u8 0, .int .u8 0, .int .u8 0, .int .u8 0, .int .u8 0, .int .u8 0, .int .u8 0, .int .u8 0, .int .u8 0, .int .u8 0, .int .u8 0, .int .u8 0, .int .u8 0, .int .u8 0, .int .u8 0, .int .u8 0, .int .u8 0, .int .u8 0, .int .u8 0, .int .u8 0, .int .u8 0, .int .u8 0, .int .u8 0, .int .u8 0, .int .u8 0, .int .u8 0, .int .u8 0, .int .u8 0]) by rw [← hW]; clear hW; exact ⟨by go_simp, by go_simp, by go_simp⟩)
  have R1x2 := Lib.hid (show RowAt W1 (w.heap.size + 1 + 1 + oc3.size) (keyA q) by rw [← hW]; clear hW; exact ⟨by go_simp, by go_simp, by go_simp⟩)
  have HB1 := Lib.hid (show Below w.heap.size w W1 by rw [← hW]; repeat (first | apply below_more | apply below_alloc | apply Below.drew | refine below_setRow ?_ (by omega) _ | exact Below.refl _ _))
  clear hW
  obtain ⟨R1x0a, R1x0b, R1x0c⟩ := R1x0.out
  obtain ⟨R1x1a, R1x1b, R1x1c⟩ := R1x1.out
  obtain ⟨R1x2a, R1x2b, R1x2c⟩ := R1x2.out
  have hG' : w.heap.size + 1 + 1 ≤ w.heap.size + 1 + 1 + oc3.size := by omega
  generalize w.heap.size + 1 + 1 + oc3.size = G at *
  refine (rzero_K q false (Nat.lt_trans lq P_lt) Hz.out _).mono ?_
  rintro e w' ⟨rfl, hbw⟩
  obtain ⟨oc4, nc4, rfl⟩ := below_plus hbw
  clear hbw
  have lt4x0 : w.heap.size < W1.heap.size + oc4.size := by omega
  have lt4x1 : w.heap.size + 1 < W1.heap.size + oc4.size := by omega
  have lt4x2 : G < W1.heap.size + oc4.size := by omega
  go_wp2_with fail
  generalize hW : World.plus _ _ _ = W2
  have R2x0 := Lib.hid (show RowAt W2 (w.heap.size) (keyA u) by rw [← hW]; clear hW; exact ⟨by go_simp, by go_simp, by go_simp⟩)
  have R2x1 := Lib.hid (show RowAt W2 (w.heap.size + 1) (#[.int .u8 0, .int .u8 0, .int .u8 0, .int .u8 0, .int .u8 0, .int .u8 0, .int .u8 0, .int .u8 0, .int .u8 0, .int .u8 0, .int .u8 0, .int .u8 0, .int .u8 0, .int .u8 0, .int .u8 0, .int .u8 0, .int .u8 0, .int .u8 0, .int .u8 0, .int .u8 0, .int .u8 0, .int .u8 0, .int .u8 0, .int .u8 0, .int .u8 0, .int .u8 0, .int .u8 0, .int .u8 0, .int .u8 0, .int .u8 0, .int .u8 0, .int .u8 0]) by rw [← hW]; clear hW; exact ⟨by go_simp, by go_simp, by go_simp⟩)
  have R2x2 := Lib.hid (show RowAt W2 (G) (keyA q) by rw [← hW]; clear hW; exact ⟨by go_simp, by go_simp, by go_simp⟩)
  have HB2 := Lib.hid (show Below w.heap.size w W2 by rw [← hW]; repeat (first | apply below_more | apply below_alloc | apply Below.drew | refine below_setRow ?_ (by omega) _ | exact HB1.out))
  clear hW
  clear R1x0a R1x0b R1x0c R1x1a R1x1b R1x1c R1x2a R1x2b R1x2c R1x0 R1x1 R1x2 HB1
  obtain ⟨R2x0a, R2x0b, R2x0c⟩ := R2x0.out
  obtain ⟨R2x1a, R2x1b, R2x1c⟩ := R2x1.out
  obtain ⟨R2x2a, R2x2b, R2x2c⟩ := R2x2.out
  go_loopw [7] (fun i w' => ∃ (j : Nat), j ≤ ls.length ∧ i = .int .i64 j ∧ ¬ chN q (ls.take j) = 0 ∧ RowAt w' w.heap.size (keyA u) ∧ RowAt w' (w.heap.size + 1) #[.int .u8 0, .int .u8 0, .int .u8 0, .int .u8 0, .int .u8 0, .int .u8 0, .int .u8 0, .int .u8 0, .int .u8 0, .int .u8 0, .int .u8 0, .int .u8 0, .int .u8 0, .int .u8 0, .int .u8 0, .int .u8 0, .int .u8 0, .int .u8 0, .int .u8 0, .int .u8 0, .int .u8 0, .int .u8 0, .int .u8 0, .int .u8 0, .int .u8 0, .int .u8 0, .int .u8 0, .int .u8 0, .int .u8 0, .int .u8 0, .int .u8 0, .int .u8 0] ∧ RowAt w' G (keyA (chN q (ls.take j))) ∧ Below w.heap.size w w') (fun i _ => ls.length - (intOf i).toNat)
  case atStart => exact ⟨0, Nat.zero_le _, rfl, Hq0.out, R2x0.out, R2x1.out, R2x2.out, HB2.out⟩
  case round =>
    clear R2x0a R2x0b R2x0c R2x0 R2x1a R2x1b R2x1c R2x1 R2x2a R2x2b R2x2c R2x2 HB2
    obtain ⟨j, hj, rfl, hz, Q1, Q2, Q3, HB⟩ := hrel
    have T1 := Lib.hid Q1
    have T2 := Lib.hid Q2
    have HB2 := Lib.hid HB
    clear HB
    obtain ⟨T1a, T1b, T1c⟩ := Q1
    obtain ⟨T2a, T2b, T2c⟩ := Q2
    by_cases hjl : j < ls.length
    · obtain ⟨x, hx⟩ : ∃ x, ls[j]? = some x := ⟨_, List.getElem?_eq_getElem hjl⟩
      have hnx := chN_take q ls j x hx
      have Hsplit := Lib.hid (chN_split q ls (j + 1))
      generalize chN q (ls.take j) = v at *
      obtain ⟨r, er⟩ : ∃ y, y = shN x v := ⟨_, rfl⟩
      have Hr := Lib.hid er.symm
      have Hnx := Lib.hid (show chN q (ls.take (j + 1)) = r by rw [hnx, er])
      have T3 := Lib.hid Q3
      obtain ⟨T3a, T3b, T3c⟩ := Q3
      obtain ⟨g, o, rfl, hg, hrg⟩ := HK.out j x hx
      have hgr : ∀ w', Below w.heap.size w w' → (loadRow 23 (.pointer (some ⟨g, o + j * 32, none⟩))).run Try.prog w' = .ok (kv x) w' := fun w' hb => by
        obtain ⟨g', o', hp', hg', hr'⟩ := (HK.out.grow hb) j x hx
        cases hp'
        exact run_loadKey_range w' g _ x hr'
      have hload : ∀ os d, (loadRow 23 (.pointer (some ⟨g, o + j * 32, none⟩))).run Try.prog (wr.plus os d) = .ok (kv x) (wr.plus os d) := fun os d => hgr _ (below_more HB2.out _ _)
      have hji : (j : Int) < (ls.length : Int) := by omega
      have hj0 : (0 : Int) ≤ (j : Int) := by omega
      clear er hnx hz hx hgr hrg
      by_cases hr0 : r = 0
      · have Hres := Lib.hid (Hsplit.out (by rw [Hnx.out]; exact hr0))
        subst hr0
        have He1 := Lib.hid (show errOf 0 = 7 from rfl)
        go_wp2_with fail
        refine wp_region_pick wr [0, 1, 2, 3, 4, 5, 6, 7, 8] [false, false, false, false, false, false, false, false, true] [9] [(23, #[.int .u8 0, .int .u8 0, .int .u8 0, .int .u8 0, .int .u8 0, .int .u8 0, .int .u8 0, .int .u8 0, .int .u8 0, .int .u8 0, .int .u8 0, .int .u8 0, .int .u8 0, .int .u8 0, .int .u8 0, .int .u8 0, .int .u8 0, .int .u8 0, .int .u8 0, .int .u8 0, .int .u8 0, .int .u8 0, .int .u8 0, .int .u8 0, .int .u8 0, .int .u8 0, .int .u8 0, .int .u8 0, .int .u8 0, .int .u8 0, .int .u8 0, .int .u8 0])] 10 (by kernel_rfl) rfl (by kernel_rfl) (by intro c a d v w h; cases d <;> exact h) ((Below.refl _ _).drew) ?_
        simp only [pick, List.getElem?_cons_succ, List.getElem?_cons_zero, List.drop_succ_cons, List.drop_zero]
        refine wpHoldF_val (wanted_none rfl) (by intro K o d hK; go_simp; exact hK _ (Below.refl _ _)) ?_
        refine wpHoldF_val (wanted_none rfl) (by intro K o d hK; go_simp; exact hK _ (Below.refl _ _)) ?_
        refine wpHoldF_val (wanted_none rfl) (by intro K o d hK; go_simp; exact hK _ (Below.refl _ _)) ?_
        refine wpHoldF_val (wanted_none rfl) (by intro K o d hK; go_simp; exact hK _ (Below.refl _ _)) ?_
        refine wpHoldF_val (wanted_none rfl) (by intro K o d hK; go_simp; exact hK _ (Below.refl _ _)) ?_
        refine wpHoldF_call (v := (.tuple #[kv 0, .int .i64 7])) (wanted_none rfl) (by intro K o d hK; go_simp; refine (rshared_K x v 0 7 Hr.out He1.out _).mono ?_; rintro e w' ⟨rfl, hbw⟩; exact ⟨_, rfl, hK _ hbw⟩) ?_
        refine wpHoldF_val (wanted_none rfl) (by intro K o d hK; go_simp; exact hK _ (Below.refl _ _)) ?_
        refine wpHoldF_val (wanted_none rfl) (by intro K o d hK; go_simp; exact hK _ (Below.refl _ _)) ?_
        refine wpHoldF_late (wanted_none rfl) (fun w => by go_simp; rfl) ?_
        refine wpHoldF_nil ?_
        refine ⟨lays_key _ rfl rfl, fun g41x0 hg41x0 hn41x0 => ?_⟩
        intro w41 hb41 hblk41
        have A41x0 := T1.out.grow hb41
        have c41x0 := T1.out.2.2
        have A41x1 := T2.out.grow hb41
        have c41x1 := T2.out.2.2
        have A41x2 := T3.out.grow hb41
        have c41x2 := T3.out.2.2
        have N41x0 := RowAt.of (hblk41 0 g41x0 _ _ rfl rfl)
        have B41x0 := HB2.out.trans (hb41.mono HB2.out.size)
        have s41 := HB2.out.size
        have le41x0 : w.heap.size ≤ g41x0 := by omega
        have ne41x0x0 : ¬ w.heap.size = g41x0 := by omega
        have nf41x0x0 : ¬ g41x0 = w.heap.size := by omega
        have ne41x1x0 : ¬ w.heap.size + 1 = g41x0 := by omega
        have nf41x1x0 : ¬ g41x0 = w.heap.size + 1 := by omega
        have ne41x2x0 : ¬ G = g41x0 := by omega
        have nf41x2x0 : ¬ g41x0 = G := by omega
        have P41x0x0 := A41x0.other (show w.heap.size ≠ g41x0 by omega) (keyA 0)
        have P41x0x1 := A41x1.other (show w.heap.size + 1 ≠ g41x0 by omega) (keyA 0)
        have P41x0x2 := A41x2.other (show G ≠ g41x0 by omega) (keyA 0)
        have P41x0x3 := N41x0.set (keyA 0)
        have B41x1 := below_setRow B41x0 (show w.heap.size ≤ g41x0 by omega) (keyA 0)
        have Z41x0 := Lib.hid P41x0x0
        have Z41x1 := Lib.hid P41x0x1
        have Z41x2 := Lib.hid P41x0x2
        have Z41x3 := Lib.hid P41x0x3
        have HB41 := Lib.hid B41x1
        clear hb41 hblk41 HB2 s41 T1a T1b T1c T2a T2b T2c T3a T3b T3c T1 T2 T3 c41x0 c41x1 c41x2 B41x0 B41x1 P41x0x0 P41x0x1 P41x0x2 P41x0x3 hg41x0 hn41x0
        obtain ⟨A41x0a, A41x0b, A41x0c⟩ := A41x0
        obtain ⟨A41x1a, A41x1b, A41x1c⟩ := A41x1
        obtain ⟨A41x2a, A41x2b, A41x2c⟩ := A41x2
        obtain ⟨N41x0a, N41x0b, N41x0c⟩ := N41x0
        go_wp2_with fail
        refine bodyPost_ret (v := .tuple #[kv 0, .int .i64 7]) (results_key_slot Try.results17 _ _ _ rfl (by go_simp) (by go_simp) rfl) rfl ⟨by rw [Hres.out]; rfl, ?_⟩
        exact below_setRow HB41.out (by omega) _
      · have He1 := Lib.hid (errOf_ne hr0)
        have Hr0 := Lib.hid hr0
        clear hr0
        go_wp2_with fail
        refine wp_region_pick wr [0, 1, 2, 3, 4, 5, 6, 7, 8] [false, false, false, false, false, false, false, false, true] [9] [(23, #[.int .u8 0, .int .u8 0, .int .u8 0, .int .u8 0, .int .u8 0, .int .u8 0, .int .u8 0, .int .u8 0, .int .u8 0, .int .u8 0, .int .u8 0, .int .u8 0, .int .u8 0, .int .u8 0, .int .u8 0, .int .u8 0, .int .u8 0, .int .u8 0, .int .u8 0, .int .u8 0, .int .u8 0, .int .u8 0, .int .u8 0, .int .u8 0, .int .u8 0, .int .u8 0, .int .u8 0, .int .u8 0, .int .u8 0, .int .u8 0, .int .u8 0, .int .u8 0])] 10 (by kernel_rfl) rfl (by kernel_rfl) (by intro c a d v w h; cases d <;> exact h) ((Below.refl _ _).drew) ?_
        simp only [pick, List.getElem?_cons_succ, List.getElem?_cons_zero, List.drop_succ_cons, List.drop_zero]
        refine wpHoldF_val (wanted_none rfl) (by intro K o d hK; go_simp; exact hK _ (Below.refl _ _)) ?_
        refine wpHoldF_val (wanted_none rfl) (by intro K o d hK; go_simp; exact hK _ (Below.refl _ _)) ?_
        refine wpHoldF_val (wanted_none rfl) (by intro K o d hK; go_simp; exact hK _ (Below.refl _ _)) ?_
        refine wpHoldF_val (wanted_none rfl) (by intro K o d hK; go_simp; exact hK _ (Below.refl _ _)) ?_
        refine wpHoldF_val (wanted_none rfl) (by intro K o d hK; go_simp; exact hK _ (Below.refl _ _)) ?_
        refine wpHoldF_call (v := (.tuple #[kv r, .int .i64 0])) (wanted_none rfl) (by intro K o d hK; go_simp; refine (rshared_K x v r 0 Hr.out He1.out _).mono ?_; rintro e w' ⟨rfl, hbw⟩; exact ⟨_, rfl, hK _ hbw⟩) ?_
        refine wpHoldF_val (wanted_none rfl) (by intro K o d hK; go_simp; exact hK _ (Below.refl _ _)) ?_
        refine wpHoldF_val (wanted_none rfl) (by intro K o d hK; go_simp; exact hK _ (Below.refl _ _)) ?_
        refine wpHoldF_late (wanted_none rfl) (fun w => by go_simp; rfl) ?_
        refine wpHoldF_nil ?_
        refine ⟨lays_key _ rfl rfl, fun g21x0 hg21x0 hn21x0 => ?_⟩
        intro w21 hb21 hblk21
        have A21x0 := T1.out.grow hb21
        have c21x0 := T1.out.2.2
        have A21x1 := T2.out.grow hb21
        have c21x1 := T2.out.2.2
        have A21x2 := T3.out.grow hb21
        have c21x2 := T3.out.2.2
        have N21x0 := RowAt.of (hblk21 0 g21x0 _ _ rfl rfl)
        have B21x0 := HB2.out.trans (hb21.mono HB2.out.size)
        have s21 := HB2.out.size
        have le21x0 : w.heap.size ≤ g21x0 := by omega
        have ne21x0x0 : ¬ w.heap.size = g21x0 := by omega
        have nf21x0x0 : ¬ g21x0 = w.heap.size := by omega
        have ne21x1x0 : ¬ w.heap.size + 1 = g21x0 := by omega
        have nf21x1x0 : ¬ g21x0 = w.heap.size + 1 := by omega
        have ne21x2x0 : ¬ G = g21x0 := by omega
        have nf21x2x0 : ¬ g21x0 = G := by omega
        have P21x0x0 := A21x0.other (show w.heap.size ≠ g21x0 by omega) (keyA r)
        have P21x0x1 := A21x1.other (show w.heap.size + 1 ≠ g21x0 by omega) (keyA r)
        have P21x0x2 := A21x2.other (show G ≠ g21x0 by omega) (keyA r)
        have P21x0x3 := N21x0.set (keyA r)
        have B21x1 := below_setRow B21x0 (show w.heap.size ≤ g21x0 by omega) (keyA r)
        have P21x1x0 := P21x0x0.other (show w.heap.size ≠ G by omega) (keyA r)
        have P21x1x1 := P21x0x1.other (show w.heap.size + 1 ≠ G by omega) (keyA r)
        have P21x1x2 := P21x0x2.set (keyA r)
        have P21x1x3 := P21x0x3.other (show g21x0 ≠ G by omega) (keyA r)
        have B21x2 := below_setRow B21x1 (show w.heap.size ≤ G by omega) (keyA r)
        have Z21x0 := Lib.hid P21x1x0
        have Z21x1 := Lib.hid P21x1x1
        have Z21x2 := Lib.hid P21x1x2
        have Z21x3 := Lib.hid P21x1x3
        have HB21 := Lib.hid B21x2
        clear hb21 hblk21 HB2 s21 T1a T1b T1c T2a T2b T2c T3a T3b T3c T1 T2 T3 c21x0 c21x1 c21x2 B21x0 B21x1 B21x2 P21x0x0 P21x0x1 P21x0x2 P21x0x3 P21x1x0 P21x1x1 P21x1x2 P21x1x3 hg21x0 hn21x0
        obtain ⟨A21x0a, A21x0b, A21x0c⟩ := A21x0
        obtain ⟨A21x1a, A21x1b, A21x1c⟩ := A21x1
        obtain ⟨A21x2a, A21x2b, A21x2c⟩ := A21x2
        obtain ⟨N21x0a, N21x0b, N21x0c⟩ := N21x0
        go_wp2_with fail
        clear A21x0a A21x0b A21x0c A21x1a A21x1b A21x1c A21x2a A21x2b A21x2c N21x0a N21x0b N21x0c
        generalize World.setRow (World.setRow _ _ _) _ _ = W22 at *
        obtain ⟨Z21x0a, Z21x0b, Z21x0c⟩ := Z21x0.out
        obtain ⟨Z21x1a, Z21x1b, Z21x1c⟩ := Z21x1.out
        obtain ⟨Z21x2a, Z21x2b, Z21x2c⟩ := Z21x2.out
        obtain ⟨Z21x3a, Z21x3b, Z21x3c⟩ := Z21x3.out
        go_roundw
        case rel => exact ⟨j + 1, by omega, by go_num, by rw [Hnx.out]; exact Hr0.out, Z21x0.out, Z21x1.out, by rw [Hnx.out]; exact Z21x2.out, HB21.out⟩
        case measure => simp [intOf]; omega
    · obtain rfl : j = ls.length := by omega
      rw [List.take_length] at Q3 hz
      obtain ⟨r, er⟩ : ∃ y, chN q ls = y := ⟨_, rfl⟩
      rw [er] at Q3 hz
      have Hh := Lib.hid er
      have He := Lib.hid (errOf_ne hz)
      clear er hz
      obtain ⟨T3a, T3b, T3c⟩ := Q3
      go_wp2_with fail
      refine bodyPost_ret (v := .tuple #[kv r, .int .i64 0]) (results_key_slot Try.results17 _ _ _ rfl (by go_simp) (by go_simp) rfl) rfl ⟨by rw [Hh.out, He.out], ?_⟩
      exact below_setRow HB2.out (by omega) _
theorem rchain_small (u q : Nat) (ls : List Nat) (cap : Nat) (p : Option Addr) (hq : ptN u % Fp.P = q) (hn : ls.length ≤ 8) (w : World) (hk : KeysAt w p ls) :
    Calls Try.prog 17 #[kv u, .slice p ls.length cap] w fun x w' => x = .returned (.tuple #[kv (chN q ls), .int .i64 (errOf (chN q ls))]) ∧ Below w.heap.size w w' := by
  by_cases h : q = 0
  · subst h
    rw [chN_zero]
    exact rchain_zero u ls cap p hq hn w
  · exact rchain_not u q ls cap p hq h hn w hk
end Go.Proofs.Ytpilonikhokjeaa
