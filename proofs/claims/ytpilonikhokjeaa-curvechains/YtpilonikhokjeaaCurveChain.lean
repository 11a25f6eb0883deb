/-
  Package curve: Shared, and Chain.
-/
import Derived.Test.YtpilonikhokjeaaCurveShared
import Derived.Test.YtpilonikhokjeaaPick
namespace Go.Proofs.Ytpilonikhokjeaa
open Go.RowKit Go.Shelf Go.Hold

theorem P_le : Fp.P < 2 ^ 255 := by decide +kernel
theorem ptN_small {p : Nat} (h : p < Fp.P) : ptN p % Fp.P = p := by
  unfold ptN
  rw [Nat.mod_eq_of_lt (Nat.lt_trans h P_le), Nat.mod_eq_of_lt h]
/-- A point times a secret. -/
def shN (k u : Nat) : Nat := Cv.nT (Cv.clampN k) (ptN u % Fp.P)
theorem shN_lt (k u : Nat) : shN k u < Fp.P := Cv.nT_lt _ _
set_option maxHeartbeats 2000000 in
set_option maxRecDepth 100000 in
theorem shared_K (k u r : Nat) (e : Int) (hr : shN k u = r) (he : errOf r = e) (w : World) :
    Calls Try.prog 10 #[kv k, kv u] w fun x w' => x = .returned (.tuple #[kv r, .int .i64 e]) ∧ Below w.heap.size w w' := by
  obtain ⟨p, ep⟩ : ∃ y, y = ptN u % Fp.P := ⟨_, rfl⟩
  have lp : p < 115792089237316195423570985008687907853269984665640564039457584007913129639936 := by rw [ep]; exact mod_lt _
  obtain ⟨c, ec⟩ : ∃ y, y = Cv.clampN k := ⟨_, rfl⟩
  have lr : r < 115792089237316195423570985008687907853269984665640564039457584007913129639936 := by rw [← hr]; exact Nat.lt_trans (shN_lt k u) P_lt
  have Hp := Lib.hid ep.symm
  have Hc := Lib.hid ec.symm
  have Hr := Lib.hid (show Cv.nT c p = r by rw [← hr, ec, ep]; rfl)
  have He := Lib.hid he
  clear ep ec hr he
  go_enter Try.func10, Try.ntmps10
  go_wp2_with fail
  generalize hW : World.alloc _ _ = W1
  have R1x0 := Lib.hid (show RowAt W1 (w.heap.size) (keyA k) by rw [← hW]; clear hW; exact ⟨by go_simp, by go_simp, by go_simp⟩)
  have R1x1 := Lib.hid (show RowAt W1 (w.heap.size + 1) (keyA u) by rw [← hW]; clear hW; exact ⟨by go_simp, by go_simp, by go_simp⟩)
  have R1x2 := Lib.hid (show RowAt W1 (w.heap.size + 1 + 1) (#[.int .u8 0, .int .u8 0, .int .u8 0, .int .u8 0, .int .u8 0, .int .u8 0, .int .u8 0, .int .u8 0, .int .u8 0, .int .u8 0, .int .u8 0, .int .u8 0, .int .u8 0, .int .u8 0, .int .u8 0, .int .u8 0, .int .u8 0, .int .u8 0, .int .u8 0, .int .u8 0, .int .u8 0, .int .u8 0, .int .u8 0, .int .u8 0, .int .u8 0, .int .u8 0, .int .u8 0, .int .u8 0, .int .u8 0, .int .u8 0, .int .u8 0, .int .u8 0]) by rw [← hW]; clear hW; exact ⟨by go_simp, by go_simp, by go_simp⟩)
  have HB1 := Lib.hid (show Below w.heap.size w W1 by rw [← hW]; repeat (first | apply below_more | apply below_alloc | apply Below.drew | refine below_setRow ?_ (by omega) _ | exact Below.refl _ _))
  clear hW
  obtain ⟨R1x0a, R1x0b, R1x0c⟩ := R1x0.out
  obtain ⟨R1x1a, R1x1b, R1x1c⟩ := R1x1.out
  obtain ⟨R1x2a, R1x2b, R1x2c⟩ := R1x2.out
  refine wp_region_pick W1 [0, 1, 2, 3, 4, 5, 6, 7] [false, false, false, false, false, false, false, false] [] [] 8 (by kernel_rfl) rfl (by kernel_rfl) (by intro c a d v w h; cases d <;> exact h) ((Below.refl _ _).drew) ?_
  simp only [pick, List.getElem?_cons_succ, List.getElem?_cons_zero, List.drop_succ_cons, List.drop_zero]
  refine wpHoldF_val (wanted_none rfl) (by intro K o d hK; go_simp; exact hK _ (Below.refl _ _)) ?_
  refine wpHoldF_call (v := kv p) (wanted_none rfl) (by intro K o d hK; go_simp; refine (pointOf_K u p Hp.out _).mono ?_; rintro e w' ⟨rfl, hbw⟩; exact ⟨_, rfl, hK _ hbw⟩) ?_
  refine wpHoldF_val (wanted_none rfl) (by intro K o d hK; go_simp; exact hK _ (Below.refl _ _)) ?_
  refine wpHoldF_call (v := kv c) (wanted_none rfl) (by intro K o d hK; go_simp; refine (clamp_K k c Hc.out _).mono ?_; rintro e w' ⟨rfl, hbw⟩; exact ⟨_, rfl, hK _ hbw⟩) ?_
  refine wpHoldF_call (v := kv r) (wanted_none rfl) (by intro K o d hK; go_simp; refine (times_V p c r lp Hr.out _).mono ?_; rintro e w' ⟨rfl, hbw⟩; exact ⟨_, rfl, hK _ hbw⟩) ?_
  refine wpHoldF_call (v := (.tuple #[kv r, .int .i64 e])) (wanted_none rfl) (by intro K o d hK; go_simp; refine (unlessNought_K r e lr He.out _).mono ?_; rintro e w' ⟨rfl, hbw⟩; exact ⟨_, rfl, hK _ hbw⟩) ?_
  refine wpHoldF_val (wanted_none rfl) (by intro K o d hK; go_simp; exact hK _ (Below.refl _ _)) ?_
  refine wpHoldF_val (wanted_none rfl) (by intro K o d hK; go_simp; exact hK _ (Below.refl _ _)) ?_
  refine wpHoldF_nil ?_
  intro w2 hb2 hblk2
  have A2x0 := R1x0.out.grow hb2
  have c2x0 := R1x0.out.2.2
  have A2x1 := R1x1.out.grow hb2
  have c2x1 := R1x1.out.2.2
  have A2x2 := R1x2.out.grow hb2
  have c2x2 := R1x2.out.2.2
  have B2x0 := HB1.out.trans (hb2.mono HB1.out.size)
  have s2 := HB1.out.size
  have P2x0x0 := A2x0.other (show w.heap.size ≠ w.heap.size + 1 + 1 by omega) (keyA r)
  have P2x0x1 := A2x1.other (show w.heap.size + 1 ≠ w.heap.size + 1 + 1 by omega) (keyA r)
  have P2x0x2 := A2x2.set (keyA r)
  have B2x1 := below_setRow B2x0 (show w.heap.size ≤ w.heap.size + 1 + 1 by omega) (keyA r)
  have Z2x0 := Lib.hid P2x0x0
  have Z2x1 := Lib.hid P2x0x1
  have Z2x2 := Lib.hid P2x0x2
  have HB2 := Lib.hid B2x1
  clear hb2 hblk2 HB1 s2 R1x0a R1x0b R1x0c R1x1a R1x1b R1x1c R1x2a R1x2b R1x2c R1x0 R1x1 R1x2 c2x0 c2x1 c2x2 B2x0 B2x1 P2x0x0 P2x0x1 P2x0x2
  obtain ⟨A2x0a, A2x0b, A2x0c⟩ := A2x0
  obtain ⟨A2x1a, A2x1b, A2x1c⟩ := A2x1
  obtain ⟨A2x2a, A2x2b, A2x2c⟩ := A2x2
  go_wp2_with fail
  clear A2x0a A2x0b A2x0c A2x1a A2x1b A2x1c A2x2a A2x2b A2x2c
  generalize World.setRow _ _ _ = W3 at *
  obtain ⟨Z2x0a, Z2x0b, Z2x0c⟩ := Z2x0.out
  obtain ⟨Z2x1a, Z2x1b, Z2x1c⟩ := Z2x1.out
  obtain ⟨Z2x2a, Z2x2b, Z2x2c⟩ := Z2x2.out
  refine bodyPost_ret (v := .tuple #[kv r, .int .i64 e]) (results_key_slot Try.results10 _ _ _ rfl (by go_simp) (by go_simp) rfl) rfl ⟨rfl, HB2.out⟩


/-! ### Keys in a row -/
/-- The keys of a slice. -/
def KeysAt (w : World) (p : Option Addr) (ls : List Nat) : Prop := ∀ i x, ls[i]? = some x → ∃ g o, p = some ⟨g, o, none⟩ ∧ g < w.heap.size ∧ w.rangeAt g (o + i * 32) (keyA x).toList
theorem KeysAt.grow {w w' : World} {p : Option Addr} {ls : List Nat} (h : KeysAt w p ls) (hb : Below w.heap.size w w') : KeysAt w' p ls := fun i x hx => by
  obtain ⟨g, o, hp, hg, hr⟩ := h i x hx
  refine ⟨g, o, hp, Nat.lt_of_lt_of_le hg hb.size, fun j v hv => ?_⟩
  have := hr j v hv
  rw [World.cell?_of_block (hb.block g hg)]
  exact this
theorem run_loadKey_range (w : World) (g o x : Nat) (h : w.rangeAt g o (keyA x).toList) : (loadRow 23 (.pointer (some ⟨g, o, none⟩))).run Try.prog w = .ok (kv x) w := by
  have := run_loadAt_mid (P := Try.prog) w g o 23 _ _ h Try.underlying23 rfl (by rw [show (keyA x).toList.length = 32 by simp [keyA_size]]; kernel_rfl)
  rw [Array.toArray_toList] at this
  exact this
/-- A point times secrets, one behind the other. -/
def chN (p : Nat) (ls : List Nat) : Nat := ls.foldl (fun q k => shN k q) p
theorem chN_zero : ∀ ls, chN 0 ls = 0
  | [] => rfl
  | k :: ls => by
    show chN (shN k 0) ls = 0
    have : shN k 0 = 0 := by
      unfold shN
      rw [ptN_small (show 0 < Fp.P by decide +kernel)]; exact Cv.nT_zero _
    rw [this]; exact chN_zero ls
theorem chN_lt (p : Nat) (h : p < Fp.P) : ∀ ls, chN p ls < Fp.P
  | [] => h
  | k :: ls => chN_lt _ (shN_lt k p) ls
theorem foldl_take {α β : Type} (g : α → β → α) (p : α) (ls : List β) (j : Nat) (k : β) (h : ls[j]? = some k) : (ls.take (j + 1)).foldl g p = g ((ls.take j).foldl g p) k := by
  rw [List.take_add_one, h, List.foldl_append]; rfl
theorem chN_take (p : Nat) (ls : List Nat) (j k : Nat) (h : ls[j]? = some k) : chN p (ls.take (j + 1)) = shN k (chN p (ls.take j)) :=
  foldl_take (fun q k => shN k q) p ls j k h
theorem chN_split (p : Nat) (ls : List Nat) (j : Nat) (h : chN p (ls.take j) = 0) : chN p ls = 0 := by
  have e : chN p ls = chN (chN p (ls.take j)) (ls.drop j) := by
    unfold chN
    rw [← List.foldl_append, List.take_append_drop]
  rw [e, h, chN_zero]

set_option maxHeartbeats 2000000 in
set_option maxRecDepth 100000 in
theorem chain_big (u : Nat) (n cap : Nat) (p : Option Addr) (hn : 8 < n) (w : World) :
    Calls Try.prog 16 #[kv u, .slice p n cap] w fun x w' => x = .returned (.tuple #[kv 0, .int .i64 3]) ∧ Below w.heap.size w w' := by
  have h8 : (8 : Int) < (n : Int) := by omega
  go_enter Try.func16, Try.ntmps16
  go_wp2_with fail
  refine bodyPost_ret (v := .tuple #[kv 0, .int .i64 3]) (results_key_slot Try.results16 _ _ _ rfl (by go_simp) (by go_simp) rfl) rfl ⟨rfl, ?_⟩
  repeat (first | apply below_more | apply below_alloc | exact Below.refl _ _)
set_option maxHeartbeats 2000000 in
set_option maxRecDepth 100000 in
theorem chain_small (u q : Nat) (ls : List Nat) (cap : Nat) (p : Option Addr) (hq : ptN u % Fp.P = q) (hn : ls.length ≤ 8) (w : World) (hk : KeysAt w p ls) :
    Calls Try.prog 16 #[kv u, .slice p ls.length cap] w fun x w' => x = .returned (.tuple #[kv (chN q ls), .int .i64 (errOf (chN q ls))]) ∧ Below w.heap.size w w' := by
  have h8 : ¬ (8 : Int) < (ls.length : Int) := by omega
  have Hq := Lib.hid hq
  have lq : q < Fp.P := by rw [← hq]; exact Nat.mod_lt _ Fp.P_pos
  obtain ⟨e0, ee⟩ : ∃ y, y = errOf q := ⟨_, rfl⟩
  have He := Lib.hid ee.symm
  clear hq ee
  go_enter Try.func16, Try.ntmps16
  go_wp2_with fail
  refine (pointOf_K u q Hq.out _).mono ?_
  rintro e w' ⟨rfl, hbw⟩
  obtain ⟨oc1, nc1, rfl⟩ := below_plus hbw
  clear hbw
  go_wp2_with fail
  refine (unlessNought_K q e0 (Nat.lt_trans lq P_lt) He.out _).mono ?_
  rintro e w' ⟨rfl, hbw⟩
  obtain ⟨oc2, nc2, rfl⟩ := below_plus hbw
  clear hbw
  go_wp2_with fail
  generalize hW : World.alloc _ _ = W1
  have R1x0 := Lib.hid (show RowAt W1 (w.heap.size) (keyA u) by rw [← hW]; clear hW; exact ⟨by go_simp, by go_simp, by go_simp⟩)
  have R1x1 := Lib.hid (show RowAt W1 (w.heap.size + 1) (#[.int .u8 0, .int .u8 0, .int .u8 0, .int .u8 0, .int .u8 0, .int .u8 0, .int .u8 0, .int .u8 0, .int .u8 0, .int .u8 0, .int .u8 0, .int .u8 0, .int .u8 0, .int .u8 0, .int .u8 0, .int .u8 0, .int .u8 0, .int .u8 0, .int .u8 0, .int .u8 0, .int .u8 0, .int .u8 0, .int .u8 0, .int .u8 0, .int .u8 0, .int .u8 0, .int .u8 0, .int .u8 0, .int .u8 0, .int .u8 0, .int .u8 0, .int .u8 0]) by rw [← hW]; clear hW; exact ⟨by go_simp, by go_simp, by go_simp⟩)
  have R1x2 := Lib.hid (show RowAt W1 (w.heap.size + 1 + 1 + (oc1.size + oc2.size)) (keyA q) by rw [← hW]; clear hW; exact ⟨by go_simp, by go_simp, by go_simp⟩)
  have HB1 := Lib.hid (show Below w.heap.size w W1 by rw [← hW]; repeat (first | apply below_more | apply below_alloc | apply Below.drew | refine below_setRow ?_ (by omega) _ | exact Below.refl _ _))
  clear hW
  obtain ⟨R1x0a, R1x0b, R1x0c⟩ := R1x0.out
  obtain ⟨R1x1a, R1x1b, R1x1c⟩ := R1x1.out
  obtain ⟨R1x2a, R1x2b, R1x2c⟩ := R1x2.out
  have hG' : w.heap.size + 1 + 1 ≤ w.heap.size + 1 + 1 + (oc1.size + oc2.size) := by omega
  generalize w.heap.size + 1 + 1 + (oc1.size + oc2.size) = G at *
  have HK := Lib.hid hk
  clear hk
  go_loopw [7, 8] (fun er i w' => ∃ (j : Nat), j ≤ ls.length ∧ i = .int .i64 j ∧ er = .int .i64 (errOf (chN q (ls.take j))) ∧ RowAt w' w.heap.size (keyA u) ∧ RowAt w' (w.heap.size + 1) #[.int .u8 0, .int .u8 0, .int .u8 0, .int .u8 0, .int .u8 0, .int .u8 0, .int .u8 0, .int .u8 0, .int .u8 0, .int .u8 0, .int .u8 0, .int .u8 0, .int .u8 0, .int .u8 0, .int .u8 0, .int .u8 0, .int .u8 0, .int .u8 0, .int .u8 0, .int .u8 0, .int .u8 0, .int .u8 0, .int .u8 0, .int .u8 0, .int .u8 0, .int .u8 0, .int .u8 0, .int .u8 0, .int .u8 0, .int .u8 0, .int .u8 0, .int .u8 0] ∧ RowAt w' G (keyA (chN q (ls.take j))) ∧ Below w.heap.size w w') (fun _ i _ => ls.length - (intOf i).toNat)
  case atStart => exact ⟨0, Nat.zero_le _, rfl, by rw [← He.out]; rfl, R1x0.out, R1x1.out, R1x2.out, HB1.out⟩
  case round =>
    clear R1x0a R1x0b R1x0c R1x1a R1x1b R1x1c R1x2a R1x2b R1x2c R1x0 R1x1 R1x2 HB1
    obtain ⟨j, hj, rfl, rfl, Q1, Q2, Q3, HB⟩ := hrel
    have T1 := Lib.hid Q1
    have T2 := Lib.hid Q2
    have T3 := Lib.hid Q3
    have HB2 := Lib.hid HB
    clear HB
    obtain ⟨T1a, T1b, T1c⟩ := Q1
    obtain ⟨T2a, T2b, T2c⟩ := Q2
    have lv := Nat.lt_trans (chN_lt q lq (ls.take j)) P_lt
    by_cases hjl : j < ls.length
    · obtain ⟨x, hx⟩ : ∃ x, ls[j]? = some x := ⟨_, List.getElem?_eq_getElem hjl⟩
      by_cases hz : chN q (ls.take j) = 0
      · have Hres := Lib.hid (chN_split q ls j hz)
        rw [hz] at Q3 ⊢
        have T3' := Lib.hid Q3
        clear T3
        obtain ⟨T3a, T3b, T3c⟩ := Q3
        have hji : (j : Int) < (ls.length : Int) := by omega
        have he7 : errOf 0 = 7 := rfl
        rw [he7]
        clear hz lv hx
        go_wp2_with fail
        refine bodyPost_ret (v := .tuple #[kv 0, .int .i64 7]) (results_key_slot Try.results16 _ _ _ rfl (by go_simp) (by go_simp) rfl) rfl ⟨by rw [Hres.out]; rfl, ?_⟩
        exact below_setRow HB2.out (by omega) _
      · have he0 : errOf (chN q (ls.take j)) = 0 := by unfold errOf; rw [if_neg hz]
        have hnx := chN_take q ls j x hx
        generalize chN q (ls.take j) = v at *
        obtain ⟨r, er⟩ : ∃ y, y = shN x v := ⟨_, rfl⟩
        obtain ⟨e1, ee1⟩ : ∃ y, y = errOf r := ⟨_, rfl⟩
        have Hr := Lib.hid er.symm
        have He1 := Lib.hid ee1.symm
        have Hnx := Lib.hid (show chN q (ls.take (j + 1)) = r by rw [hnx, er])
        obtain ⟨T3a, T3b, T3c⟩ := Q3
        obtain ⟨g, o, rfl, hg, hrg⟩ := HK.out j x hx
        have hgr : ∀ w', Below w.heap.size w w' → (loadRow 23 (.pointer (some ⟨g, o + j * 32, none⟩))).run Try.prog w' = .ok (kv x) w' := fun w' hb => by
          obtain ⟨g', o', hp', hg', hr'⟩ := (HK.out.grow hb) j x hx
          cases hp'
          exact run_loadKey_range w' g _ x hr'
        have hload : ∀ os d, (loadRow 23 (.pointer (some ⟨g, o + j * 32, none⟩))).run Try.prog (wr.plus os d) = .ok (kv x) (wr.plus os d) := fun os d => hgr _ (below_more HB2.out _ _)
        rw [he0]
        have hji : (j : Int) < (ls.length : Int) := by omega
        have hj0 : (0 : Int) ≤ (j : Int) := by omega
        clear er ee1 hnx hz lv hx hgr hrg he0
        go_wp2_with fail
        refine wp_region_pick wr [0, 1, 2, 3, 4, 5, 6, 7, 8] [false, false, false, false, false, false, false, false, true] [] [] 9 (by kernel_rfl) rfl (by kernel_rfl) (by intro c a d v w h; cases d <;> exact h) ((Below.refl _ _).drew) ?_
        simp only [pick, List.getElem?_cons_succ, List.getElem?_cons_zero, List.drop_succ_cons, List.drop_zero]
        refine wpHoldF_val (wanted_none rfl) (by intro K o d hK; go_simp; exact hK _ (Below.refl _ _)) ?_
        refine wpHoldF_val (wanted_none rfl) (by intro K o d hK; go_simp; exact hK _ (Below.refl _ _)) ?_
        refine wpHoldF_val (wanted_none rfl) (by intro K o d hK; go_simp; exact hK _ (Below.refl _ _)) ?_
        refine wpHoldF_val (wanted_none rfl) (by intro K o d hK; go_simp; exact hK _ (Below.refl _ _)) ?_
        refine wpHoldF_val (wanted_none rfl) (by intro K o d hK; go_simp; exact hK _ (Below.refl _ _)) ?_
        refine wpHoldF_call (v := (.tuple #[kv r, .int .i64 e1])) (wanted_none rfl) (by intro K o d hK; go_simp; refine (shared_K x v r e1 Hr.out He1.out _).mono ?_; rintro e w' ⟨rfl, hbw⟩; exact ⟨_, rfl, hK _ hbw⟩) ?_
        refine wpHoldF_val (wanted_none rfl) (by intro K o d hK; go_simp; exact hK _ (Below.refl _ _)) ?_
        refine wpHoldF_val (wanted_none rfl) (by intro K o d hK; go_simp; exact hK _ (Below.refl _ _)) ?_
        refine wpHoldF_late (wanted_none rfl) (fun w => by go_simp; rfl) ?_
        refine wpHoldF_nil ?_
        intro w21 hb21 hblk21
        have A21x0 := T1.out.grow hb21
        have c21x0 := T1.out.2.2
        have A21x1 := T2.out.grow hb21
        have c21x1 := T2.out.2.2
        have A21x2 := T3.out.grow hb21
        have c21x2 := T3.out.2.2
        have B21x0 := HB2.out.trans (hb21.mono HB2.out.size)
        have s21 := HB2.out.size
        have P21x0x0 := A21x0.other (show w.heap.size ≠ G by omega) (keyA r)
        have P21x0x1 := A21x1.other (show w.heap.size + 1 ≠ G by omega) (keyA r)
        have P21x0x2 := A21x2.set (keyA r)
        have B21x1 := below_setRow B21x0 (show w.heap.size ≤ G by omega) (keyA r)
        have Z21x0 := Lib.hid P21x0x0
        have Z21x1 := Lib.hid P21x0x1
        have Z21x2 := Lib.hid P21x0x2
        have HB21 := Lib.hid B21x1
        clear hb21 hblk21 HB2 s21 T1a T1b T1c T2a T2b T2c T3a T3b T3c T1 T2 T3 c21x0 c21x1 c21x2 B21x0 B21x1 P21x0x0 P21x0x1 P21x0x2
        obtain ⟨A21x0a, A21x0b, A21x0c⟩ := A21x0
        obtain ⟨A21x1a, A21x1b, A21x1c⟩ := A21x1
        obtain ⟨A21x2a, A21x2b, A21x2c⟩ := A21x2
        go_wp2_with fail
        clear A21x0a A21x0b A21x0c A21x1a A21x1b A21x1c A21x2a A21x2b A21x2c
        generalize World.setRow _ _ _ = W22 at *
        obtain ⟨Z21x0a, Z21x0b, Z21x0c⟩ := Z21x0.out
        obtain ⟨Z21x1a, Z21x1b, Z21x1c⟩ := Z21x1.out
        obtain ⟨Z21x2a, Z21x2b, Z21x2c⟩ := Z21x2.out
        go_roundw
        case rel => exact ⟨j + 1, by omega, by go_num, by rw [Hnx.out, He1.out], Z21x0.out, Z21x1.out, by rw [Hnx.out]; exact Z21x2.out, HB21.out⟩
        case measure => simp [intOf]; omega
    · obtain rfl : j = ls.length := by omega
      have hres : chN q (ls.take ls.length) = chN q ls := by rw [List.take_length]
      rw [hres] at Q3 lv ⊢
      clear hres
      obtain ⟨r, er⟩ : ∃ y, chN q ls = y := ⟨_, rfl⟩
      rw [er] at Q3 lv ⊢
      have Hh := Lib.hid er
      clear er T3
      obtain ⟨T3a, T3b, T3c⟩ := Q3
      go_wp2_with fail
      refine bodyPost_ret (v := .tuple #[kv r, .int .i64 (errOf r)]) (results_key_slot Try.results16 _ _ _ rfl (by go_simp) (by go_simp) rfl) rfl ⟨by rw [Hh.out], ?_⟩
      exact below_setRow HB2.out (by omega) _
end Go.Proofs.Ytpilonikhokjeaa
