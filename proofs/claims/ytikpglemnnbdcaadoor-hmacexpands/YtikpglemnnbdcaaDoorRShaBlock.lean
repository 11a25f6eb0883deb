/-
  The reference of layer 3: the state behind 64 bytes.
-/
import Derived.Test.YtikpglemnnbdcaaDoorRShaSched
namespace Go.Proofs.YtikpglemnnbdcaaDoor
open Go.RowKit Go.Hold Go.Sh

/-- A state's words. -/
def stL (s : St) : List Int := [s.a, s.b, s.c, s.d, s.e, s.f, s.g, s.h]
theorem stL_A (s : St) : wosA (stL s) = stA s := rfl
/-- Words that may be written. -/
def SlW (w : World) (g : Nat) (l : List Int) : Prop := WordsAt w g l ∧ ∀ i, i < l.length → w.frozen? ⟨g, i, none⟩ = false
theorem SlW.grow {w w' : World} {g : Nat} {l : List Int} (h : SlW w g l) (hb : Below w.heap.size w w') : SlW w' g l :=
  ⟨h.1.grow hb, fun i hi => by rw [World.frozen?_of_block (hb.block g h.1.1)]; exact h.2 i hi⟩
theorem SlW.new (w : World) (s : St) : SlW (w.alloc (.cells (stA s) 49)) w.heap.size (stL s) := by
  have h := RowAt.of (block_new w (.cells (stA s) 49))
  exact ⟨words_row (by rw [stL_A]; exact h), fun i _ => h.frozenAt i⟩
theorem OwnW.slw {w : World} {B g cap k : Nat} {l : List Int} (h : OwnW w B (.slice (some ⟨g, 0, none⟩) k cap) l) (hg : g < w.heap.size) : SlW w g l := by
  refine ⟨h.words hg, fun i _ => ?_⟩
  rcases h.2 with ⟨h1, _⟩ | ⟨g', cap', cur, he, _, hb, _⟩
  · cases h1
  · cases he
    simp [World.frozen?, hb]
theorem SlW.set {w : World} {g i : Nat} {l : List Int} {x : Int} (h : SlW w g l) (hi : i < l.length) : SlW (w.setCell ⟨g, i, none⟩ (.int .u32 x)) g (l.set i x) := by
  refine ⟨⟨by rw [World.size_setCell]; exact h.1.1, fun j hj => ?_⟩, fun j hj => ?_⟩
  · rw [List.length_set] at hj
    by_cases e : i = j
    · subst e
      rw [World.cell?_setCell_same _ _ _ (h.1.2 i hi)]
      simp [List.getD, hi]
    · rw [World.cell?_setCell_other _ _ _ _ (by simp), h.1.2 j hj]
      simp [List.getD, e]
  · rw [List.length_set] at hj
    rw [World.frozen?_setCell]; exact h.2 j hj
/-- The first k words of a sum, and the letters. -/
def mixW (s r : St) (k : Nat) : List Int := (List.range 8).map fun j => if j < k then add32 ((stL r).getD j 0) ((stL s).getD j 0) else (stL r).getD j 0
theorem mixW_length (s r : St) (k : Nat) : (mixW s r k).length = 8 := by simp [mixW]
theorem mixW_get (s r : St) (k j : Nat) (h : j < 8) : (mixW s r k).getD j 0 = if j < k then add32 ((stL r).getD j 0) ((stL s).getD j 0) else (stL r).getD j 0 := by simp [mixW, List.getD, h]
theorem mixW_zero (s r : St) : mixW s r 0 = stL r := rfl
theorem mixW_set (s r : St) (k : Nat) (h : k < 8) : (mixW s r k).set k (add32 ((stL r).getD k 0) ((stL s).getD k 0)) = mixW s r (k + 1) := by
  apply List.ext_getElem?
  intro j
  rw [List.getElem?_set]
  by_cases hj : j < 8
  · have e1 : (mixW s r k)[j]? = some (if j < k then add32 ((stL r).getD j 0) ((stL s).getD j 0) else (stL r).getD j 0) := by simp [mixW, hj]
    have e2 : (mixW s r (k + 1))[j]? = some (if j < k + 1 then add32 ((stL r).getD j 0) ((stL s).getD j 0) else (stL r).getD j 0) := by simp [mixW, hj]
    rw [e1, e2]
    by_cases e : k = j
    · subst e; rw [if_pos rfl, if_pos (by rw [mixW_length]; exact h), if_pos (by omega)]
    · rw [if_neg e]
      by_cases h1 : j < k
      · rw [if_pos h1, if_pos (by omega)]
      · rw [if_neg h1, if_neg (by omega)]
  · rw [if_neg (by omega), List.getElem?_eq_none (by rw [mixW_length]; omega), List.getElem?_eq_none (by rw [mixW_length]; omega)]
theorem mixW_all (s r : St) : mixW s r 8 = stL (splus s r) := by
  show [add32 r.a s.a, add32 r.b s.b, add32 r.c s.c, add32 r.d s.d, add32 r.e s.e, add32 r.f s.f, add32 r.g s.g, add32 r.h s.h] = _
  rw [add32_comm r.a, add32_comm r.b, add32_comm r.c, add32_comm r.d, add32_comm r.e, add32_comm r.f, add32_comm r.g, add32_comm r.h]
  rfl

set_option maxHeartbeats 4000000 in
set_option maxRecDepth 100000 in
theorem block_c (gh ch b o cap : Nat) (s : St) (C : List Nat) (w : World) (hH : WordsAt w gh (stL s)) (hC : C.length = 64) (hCb : ∀ i, C.getD i 0 < 256) (hB : BytesAt w b o C) :
    Calls Tryd.prog 34 #[.slice (some ⟨gh, 0, none⟩) 8 ch, .slice (some ⟨b, o, none⟩) 64 cap] w fun e w' => ∃ g c, e = .returned (.slice (some ⟨g, 0, none⟩) 8 c) ∧ WordsAt w' g (stL (scmp s C)) ∧ Below w.heap.size w w' := by
  obtain ⟨ie, hi, hz0, hz1, hz2⟩ := info_parts info_u32
  obtain ⟨B, eB⟩ : ∃ B, B = w.heap.size := ⟨_, rfl⟩
  have HH := Lib.hid hH
  have HC := Lib.hid (schedule_c b o cap C w hC hCb hB)
  have EB := Lib.hid eB
  have hBw : B ≤ w.heap.size := by omega
  have hghB : gh < B := by rw [eB]; exact hH.1
  rw [← eB] at HC
  clear hH hB hCb eB
  go_enter Tryd.func34, Tryd.ntmps34
  go_wp2_with fail
  refine HC.out.mono ?_
  rintro e W1 ⟨g5, c5, rfl, hw5, hb1⟩
  have H5 := Lib.hid hw5
  have B1 := Lib.hid hb1
  have hs1 := hb1.size
  clear hw5 hb1 HC
  go_wp2_with fail
  refine (constants_c _).mono ?_
  rintro e W2 ⟨g6, rfl, hw6, hb2⟩
  have H5' := Lib.hid (H5.out.grow hb2)
  have H6 := Lib.hid hw6
  have B2 := Lib.hid (B1.out.trans (hb2.mono (by omega)))
  have hs2 := hb2.size
  clear hw6 hb2 H5 B1
  have hsz2 : B ≤ W2.heap.size := by omega
  have HHW := Lib.hid (show WordsAt (W2.alloc (.cells #[] 49)) gh (stL s) from ⟨by simp; omega, fun i hi => by rw [((B2.out.alloc hsz2 (.cells #[] 49))).cell hghB]; exact HH.out.2 i hi⟩)
  go_wp2_with (at_builtin; refine wpList_append_own _ rfl _ _ 61 rfl B 49 ie (.int .u32 0) 1 4 Tryd.underlying61 hi hz0 hz1 hz2 rfl (by decide) _ _ _ rfl (ownW_empty W2 B hsz2) ⟨gh, 0, none⟩ 8 ch (wos (stL s)) rfl rfl (wos_at HHW.out) (wos_one _) (maxLen_small (by decide)) (by decide) (by simp; omega) ?_)
  intro v3 w3 hown3 hgrow3 _
  have B3 := Lib.hid (grown_below (B2.out.alloc hsz2 _) (ownW_empty W2 B hsz2) (by simp; omega) hgrow3)
  have hO3 : OwnW w3 B v3 (stL s) := hown3
  obtain ⟨g7, c7, ev7, hg7, hgl7, _⟩ := hO3.addr (k := 8) rfl (by decide)
  subst ev7
  have S7 := Lib.hid (hO3.slw hgl7)
  have hkeep : ∀ g l, WordsAt W2 g l → WordsAt w3 g l := fun g l h => by
    have hne : g ≠ W2.heap.size := by have := h.1; omega
    have hlt := h.1
    have h1 : (W2.alloc (.cells #[] 49)).heap[g]? = W2.heap[g]? := block_old _ _ hlt
    have h2 : w3.heap[g]? = W2.heap[g]? := by rw [hgrow3.block g (by simp; omega) (by simp [Value.ownBlock]; omega), h1]
    refine ⟨by have := hgrow3.size; simp at this; omega, fun i hi => ?_⟩
    rw [World.cell?_of_block (w := W2) h2]; exact h.2 i hi
  have H5w := Lib.hid (hkeep _ _ H5'.out)
  have H6w := Lib.hid (hkeep _ _ H6.out)
  have hsz3 : B ≤ w3.heap.size := by have := hgrow3.size; simp at this; omega
  clear hown3 hO3 hgrow3 hkeep HHW H5' H6 B2 hs1 hs2 hsz2
  go_wp2_with fail
  go_loopw [7, 8] (fun v t wr => ∃ (k g c : Nat) (r : St), k ≤ 64 ∧ t = .int .i64 k ∧ r = srnds (sch C) s k ∧ v = .slice (some ⟨g, 0, none⟩) 8 c ∧ SlW wr g (stL r) ∧ B ≤ g ∧ Below w3.heap.size w3 wr) (fun _ t _ => 64 - (intOf t).toNat)
  case atStart => exact ⟨0, g7, c7, s, by decide, rfl, rfl, rfl, S7.out, hg7, Below.refl _ _⟩
  case round =>
    obtain ⟨k, g, c, r, hk, rfl, hr, rfl, hsl, hgB, hbel⟩ := hrel
    have hkk : (0 : Int) ≤ (k : Int) := by omega
    by_cases hk64 : k < 64
    · have hk1 : (k : Int) < 64 := by omega
      have hgl := hsl.1.1
      have hc0 : wr.cell? ⟨g, 0, none⟩ = some (.int .u32 r.a) := hsl.1.2 0 (show 0 < 8 by decide)
      have hc1 : wr.cell? ⟨g, 1, none⟩ = some (.int .u32 r.b) := hsl.1.2 1 (show 1 < 8 by decide)
      have hc2 : wr.cell? ⟨g, 2, none⟩ = some (.int .u32 r.c) := hsl.1.2 2 (show 2 < 8 by decide)
      have hc3 : wr.cell? ⟨g, 3, none⟩ = some (.int .u32 r.d) := hsl.1.2 3 (show 3 < 8 by decide)
      have hc4 : wr.cell? ⟨g, 4, none⟩ = some (.int .u32 r.e) := hsl.1.2 4 (show 4 < 8 by decide)
      have hc5 : wr.cell? ⟨g, 5, none⟩ = some (.int .u32 r.f) := hsl.1.2 5 (show 5 < 8 by decide)
      have hc6 : wr.cell? ⟨g, 6, none⟩ = some (.int .u32 r.g) := hsl.1.2 6 (show 6 < 8 by decide)
      have hc7 : wr.cell? ⟨g, 7, none⟩ = some (.int .u32 r.h) := hsl.1.2 7 (show 7 < 8 by decide)
      have h5 := H5w.out.grow hbel
      have h6 := H6w.out.grow hbel
      have hl5 := h5.1
      have hl6 := h6.1
      have hcw := h5.2 k (by rw [sch_length]; exact hk64)
      have hck := h6.2 k (by rw [Ks_length]; exact hk64)
      generalize eK : Ks.getD k 0 = kk at hck
      generalize eW : (sch C).getD k 0 = ww at hcw
      have Hr := Lib.hid (show srnd r kk ww = srnds (sch C) s (k + 1) by rw [hr, ← eK, ← eW]; rfl)
      have Hbel := Lib.hid hbel
      have hsz : B ≤ wr.heap.size := by have := hbel.size; omega
      clear eK eW hr h5 h6 hsl hbel
      go_wp2_with fail
      refine wp_region_fast (fun w' => ∃ o d, w' = wr.plus o d) (by kernel_rfl) (by kernel_rfl) ⟨#[], _, rfl⟩ ?_
      iterate 8 (refine wpHold_val ⟨_, #[], 0, rfl⟩ (wanted_none rfl) (by rintro K _ ⟨o, d, rfl⟩ hK; go_simp; exact hK _ ⟨o, d, rfl⟩) ?_)
      refine wpHold_nil ?_
      rintro _ ⟨o1, n1, rfl⟩
      go_wp2_with fail
      refine wp_region_fast (fun w' => ∃ o d, w' = wr.plus o d) (by kernel_rfl) (by kernel_rfl) ⟨_, _, rfl⟩ ?_
      iterate 4 (refine wpHold_val ⟨_, #[], 0, rfl⟩ (wanted_none rfl) (by rintro K _ ⟨o, d, rfl⟩ hK; go_simp; exact hK _ ⟨o, d, rfl⟩) ?_)
      refine wpHold_call (v := .int .u32 (rotr r.e 6)) (wanted_none rfl) (by rintro K _ ⟨o, d, rfl⟩ hK; go_simp; refine (turn_6 _ _).mono ?_; rintro e w' ⟨rfl, rfl⟩; exact ⟨_, rfl, hK _ ⟨o, d, rfl⟩⟩) ?_
      refine wpHold_val ⟨_, #[], 0, rfl⟩ (wanted_none rfl) (by rintro K _ ⟨o, d, rfl⟩ hK; go_simp; exact hK _ ⟨o, d, rfl⟩) ?_
      refine wpHold_call (v := .int .u32 (rotr r.e 11)) (wanted_none rfl) (by rintro K _ ⟨o, d, rfl⟩ hK; go_simp; refine (turn_11 _ _).mono ?_; rintro e w' ⟨rfl, rfl⟩; exact ⟨_, rfl, hK _ ⟨o, d, rfl⟩⟩) ?_
      iterate 2 (refine wpHold_val ⟨_, #[], 0, rfl⟩ (wanted_none rfl) (by rintro K _ ⟨o, d, rfl⟩ hK; go_simp; exact hK _ ⟨o, d, rfl⟩) ?_)
      refine wpHold_call (v := .int .u32 (rotr r.e 25)) (wanted_none rfl) (by rintro K _ ⟨o, d, rfl⟩ hK; go_simp; refine (turn_25 _ _).mono ?_; rintro e w' ⟨rfl, rfl⟩; exact ⟨_, rfl, hK _ ⟨o, d, rfl⟩⟩) ?_
      iterate 26 (refine wpHold_val ⟨_, #[], 0, rfl⟩ (wanted_none rfl) (by rintro K _ ⟨o, d, rfl⟩ hK; go_simp; exact hK _ ⟨o, d, rfl⟩) ?_)
      refine wpHold_nil ?_
      rintro _ ⟨o2, n2, rfl⟩
      generalize e1 : add32 (add32 (add32 (add32 r.h (x32 (x32 (rotr r.e 6) (rotr r.e 11)) (rotr r.e 25))) (x32 (a32 r.e r.f) (a32 (n32 r.e) r.g))) kk) ww = t1
      have He1 := Lib.hid (show T1 r kk ww = t1 from e1)
      clear e1
      go_wp2_with fail
      refine wp_region_fast (fun w' => ∃ o d, w' = wr.plus o d) (by kernel_rfl) (by kernel_rfl) ⟨_, _, rfl⟩ ?_
      refine wpHold_val ⟨_, #[], 0, rfl⟩ (wanted_none rfl) (by rintro K _ ⟨o, d, rfl⟩ hK; go_simp; exact hK _ ⟨o, d, rfl⟩) ?_
      refine wpHold_call (v := .int .u32 (rotr r.a 2)) (wanted_none rfl) (by rintro K _ ⟨o, d, rfl⟩ hK; go_simp; refine (turn_2 _ _).mono ?_; rintro e w' ⟨rfl, rfl⟩; exact ⟨_, rfl, hK _ ⟨o, d, rfl⟩⟩) ?_
      refine wpHold_val ⟨_, #[], 0, rfl⟩ (wanted_none rfl) (by rintro K _ ⟨o, d, rfl⟩ hK; go_simp; exact hK _ ⟨o, d, rfl⟩) ?_
      refine wpHold_call (v := .int .u32 (rotr r.a 13)) (wanted_none rfl) (by rintro K _ ⟨o, d, rfl⟩ hK; go_simp; refine (turn_13 _ _).mono ?_; rintro e w' ⟨rfl, rfl⟩; exact ⟨_, rfl, hK _ ⟨o, d, rfl⟩⟩) ?_
      iterate 2 (refine wpHold_val ⟨_, #[], 0, rfl⟩ (wanted_none rfl) (by rintro K _ ⟨o, d, rfl⟩ hK; go_simp; exact hK _ ⟨o, d, rfl⟩) ?_)
      refine wpHold_call (v := .int .u32 (rotr r.a 22)) (wanted_none rfl) (by rintro K _ ⟨o, d, rfl⟩ hK; go_simp; refine (turn_22 _ _).mono ?_; rintro e w' ⟨rfl, rfl⟩; exact ⟨_, rfl, hK _ ⟨o, d, rfl⟩⟩) ?_
      iterate 22 (refine wpHold_val ⟨_, #[], 0, rfl⟩ (wanted_none rfl) (by rintro K _ ⟨o, d, rfl⟩ hK; go_simp; exact hK _ ⟨o, d, rfl⟩) ?_)
      refine wpHold_nil ?_
      rintro _ ⟨o3, n3, rfl⟩
      generalize e2 : add32 (x32 (x32 (rotr r.a 2) (rotr r.a 13)) (rotr r.a 22)) (x32 (x32 (a32 r.a r.b) (a32 r.a r.c)) (a32 r.b r.c)) = t2
      have He2 := Lib.hid (show T2 r = t2 from e2)
      clear e2
      go_wp2_with fail
      refine wp_region_pick wr [0, 1, 2, 3, 4, 5, 6, 7, 8, 9, 10, 11, 12, 13, 14, 15, 16, 17, 18, 19, 20, 21, 22, 23, 24, 25] [false, false, false, false, false, false, false, false, false, false, false, false, false, false, false, false, false, false, false, false, false, false, false, false, false, false] [] [] 26 (by kernel_rfl) rfl (by kernel_rfl) (by intro c a d v w h; cases d <;> exact h) ((below_more (Below.refl _ _) _ _).drew) ?_
      simp only [pick, List.getElem?_cons_succ, List.getElem?_cons_zero, List.drop_succ_cons, List.drop_zero]
      iterate 26 (refine wpHoldF_val (wanted_none rfl) (by intro K o d hK; go_simp; exact hK _ (Below.refl _ _)) ?_)
      refine wpHoldF_nil ?_
      intro w2 hb2 _
      have eR : srnd r kk ww = ⟨add32 t1 t2, r.a, r.b, r.c, add32 r.d t1, r.e, r.f, r.g⟩ := by unfold srnd; rw [He1.out, He2.out]
      have HS2 := Lib.hid (show SlW (w2.alloc (.cells (stA ⟨add32 t1 t2, r.a, r.b, r.c, add32 r.d t1, r.e, r.f, r.g⟩) 49)) w2.heap.size (stL (srnd r kk ww)) by rw [eR]; exact SlW.new w2 _)
      clear eR
      have HB2 := Lib.hid ((Hbel.out.trans (hb2.mono Hbel.out.size)).alloc (by have := Hbel.out.size; have := hb2.size; omega) (.cells (stA ⟨add32 t1 t2, r.a, r.b, r.c, add32 r.d t1, r.e, r.f, r.g⟩) 49))
      have hBw2 : B ≤ w2.heap.size := by have := hb2.size; omega
      clear hb2
      go_wp2_with fail
      go_roundw
      case rel =>
        first
        | exact ⟨k + 1, _, _, srnd r kk ww, by omega, by go_num, Hr.out, rfl, HS2.out, hBw2, HB2.out⟩
        | exact ⟨_, _, _, _, _, _, _, _, _, _, _, _, _, _, _, _, _, _, _, _, _, _, _, _, _, _, _, _, _, _, _, _, _, _, _, _, _, _, _, _, _, _, _, _, _, _, _, _, _, _, _, _, _, _, _, _, _, _, _, _, _, _, _, _, _, _, _, _, _, _, _, _, _, _, _, _, _, _, _, _, _, _, _, _, _, _, _, _, _, _, _, _, _, _, _, _, _, _, _, _, _, _, _, _, _, _, ⟨k + 1, _, _, srnd r kk ww, by omega, by go_num, Hr.out, rfl, HS2.out, hBw2, HB2.out⟩, rfl⟩
      case measure => simp [intOf]; omega
    · obtain rfl : k = 64 := by omega
      have Hr := Lib.hid hr
      have S8 := Lib.hid hsl
      have hgl := hsl.1.1
      have B4 := Lib.hid (B3.out.trans (hbel.mono hsz3))
      have hsz : B ≤ wr.heap.size := by have := hbel.size; omega
      clear hr hsl hbel
      go_wp2_with fail
      obtain ⟨W4, eW4⟩ : ∃ x, x = wr := ⟨_, rfl⟩
      rw [← eW4] at S8 B4 hgl hsz ⊢
      clear eW4
      go_loopw [13] (fun i wr => ∃ k : Nat, k ≤ 8 ∧ i = .int .i64 k ∧ SlW wr g (mixW s r k) ∧ Below B w wr ∧ B ≤ wr.heap.size) (fun i _ => 8 - (intOf i).toNat)
      case atStart => exact ⟨0, by decide, rfl, S8.out, B4.out, hsz⟩
      case round =>
        obtain ⟨k, hk, rfl, hsl, hbel, hsz⟩ := hrel
        have hkk : (0 : Int) ≤ (k : Int) := by omega
        by_cases hk8 : k < 8
        · have hk1 : (k : Int) < 8 := by omega
          have hgl := hsl.1.1
          have hca := hsl.1.2 k (by rw [mixW_length]; exact hk8)
          rw [mixW_get _ _ _ _ hk8, if_neg (by omega)] at hca
          have hcb : wr.cell? ⟨gh, k, none⟩ = some (.int .u32 ((stL s).getD k 0)) := by rw [hbel.cell hghB]; exact HH.out.2 k hk8
          have hghl : gh < wr.heap.size := by omega
          have Hset := Lib.hid (mixW_set s r k hk8)
          generalize (stL r).getD k 0 = xr at hca Hset
          generalize (stL s).getD k 0 = xs at hcb Hset
          have HS := Lib.hid hsl
          have Hbel := Lib.hid hbel
          clear hsl hbel
          go_wp2_with fail
          refine wp_region_pick wr [0, 1, 2, 3, 4, 5, 6, 7, 8, 9, 10, 11] [false, false, false, false, false, false, false, false, false, false, false, false] [] [] 12 (by kernel_rfl) rfl (by kernel_rfl) (by intro c a d v w h; cases d <;> exact h) ((Below.refl _ _).drew) ?_
          simp only [pick, List.getElem?_cons_succ, List.getElem?_cons_zero, List.drop_succ_cons, List.drop_zero]
          iterate 12 (refine wpHoldF_val (wanted_none rfl) (by intro K o d hK; go_simp; exact hK _ (Below.refl _ _)) ?_)
          refine wpHoldF_nil ?_
          intro w2 hb2 _
          have HS2 := Lib.hid (HS.out.grow hb2)
          have hcc : w2.cell? ⟨g, k, none⟩ = some (.int .u32 xr) := by rw [hb2.cell hgl]; exact hca
          have hff := HS2.out.2 k (by rw [mixW_length]; exact hk8)
          have HB2 := Lib.hid (Hbel.out.trans (hb2.mono hsz))
          have hsz2 : B ≤ w2.heap.size := by have := hb2.size; omega
          clear hb2 hca hcb
          go_wp2_with fail
          go_roundw
          case rel =>
            have h1 := HS2.out.set (i := k) (x := add32 xr xs) (by rw [mixW_length]; exact hk8)
            rw [Hset.out] at h1
            exact ⟨_, _, _, _, _, _, _, _, _, _, _, _, _, _, _, _, _, ⟨k + 1, by omega, by go_num, h1, HB2.out.setCell (p := ⟨_, _, none⟩) hgB _, by rw [World.size_setCell]; exact hsz2⟩, rfl⟩
          case measure => simp [intOf]; omega
        · obtain rfl : k = 8 := by omega
          rw [mixW_all] at hsl
          have HS := Lib.hid hsl
          have Hbel := Lib.hid hbel
          clear hsl hbel
          go_wp2_with fail
          go_ret
          exact ⟨_, _, rfl, by have h := HS.out.1; rw [Hr.out] at h; exact h, by rw [← EB.out]; exact Hbel.out⟩
end Go.Proofs.YtikpglemnnbdcaaDoor
