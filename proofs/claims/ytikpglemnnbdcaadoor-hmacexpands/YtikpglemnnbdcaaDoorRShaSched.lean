/-
  The reference of layer 3: the schedule of a block.
-/
import Derived.Test.YtikpglemnnbdcaaDoorRShaConst
namespace Go.Proofs.YtikpglemnnbdcaaDoor
open Go.RowKit Go.Hold Go.Sh

theorem own_snoc_len {w : World} {B : Nat} {v : Value} {L : List Int} {x : Int} (h : w.ownsRow B 49 1 v (L.length + 1) (wos L ++ [.int .u32 x])) : OwnW w B v (L ++ [x]) := OwnW.snoc h
set_option maxHeartbeats 4000000 in
set_option maxRecDepth 100000 in
theorem schedule_c (b o cap : Nat) (C : List Nat) (w : World) (hC : C.length = 64) (hCb : ∀ i, C.getD i 0 < 256) (hB : BytesAt w b o C) :
    Calls Tryd.prog 38 #[.slice (some ⟨b, o, none⟩) 64 cap] w fun e w' => ∃ g c, e = .returned (.slice (some ⟨g, 0, none⟩) 64 c) ∧ WordsAt w' g (sch C) ∧ Below w.heap.size w w' := by
  obtain ⟨ie, hi, hz0, hz1, hz2⟩ := info_parts info_u32
  obtain ⟨B, eB⟩ : ∃ B, B = w.heap.size := ⟨_, rfl⟩
  have HB := Lib.hid hB
  have hbB : b < B := by rw [eB]; exact hB.1
  have EB := Lib.hid eB
  have hBw : B ≤ w.heap.size := by omega
  have hwB : w.heap.size ≤ B := by omega
  clear hB eB
  go_enter Tryd.func38, Tryd.ntmps38
  go_wp2_with fail
  go_loopw [3, 4] (fun v t wr => ∃ k : Nat, k ≤ 16 ∧ t = .int .i64 k ∧ OwnW wr B v ((List.range k).map (pk4 C)) ∧ Below B w wr ∧ B ≤ wr.heap.size) (fun _ t _ => 16 - (intOf t).toNat)
  case atStart => exact ⟨0, by decide, rfl, World.ownsRow_nil _ _ _ _, Below.refl _ _, hBw⟩
  case round =>
    obtain ⟨k, hk, rfl, hown, hbel, hsz⟩ := hrel
    have hkk : (0 : Int) ≤ (k : Int) := by omega
    have hlen : ((List.range k).map (pk4 C)).length = k := by simp
    by_cases hk16 : k < 16
    · have hk1 : (k : Int) < 16 := by omega
      obtain ⟨L, eL⟩ : ∃ L, L = (List.range k).map (pk4 C) := ⟨_, rfl⟩
      rw [← eL] at hown hlen
      have HL := Lib.hid eL
      have Hlen := Lib.hid hlen
      have Hown := Lib.hid hown
      have Hbel := Lib.hid hbel
      have hbl : b < wr.heap.size := by omega
      have hpk := pk4_eq C k
      obtain ⟨i0, e0⟩ : ∃ y, y = 4 * k + 0 := ⟨_, rfl⟩
      have hc0 : wr.cell? ⟨b, o + i0, none⟩ = some (.int .u8 ((C.getD i0 0 : Nat) : Int)) := by rw [hbel.cell hbB]; exact HB.out.2 i0 (by omega)
      have hb0 := hCb i0
      rw [← e0] at hpk
      generalize C.getD i0 0 = x0 at hc0 hb0 hpk
      have ha0 : (0 : Int) ≤ (i0 : Int) := by omega
      have hd0 : (i0 : Int) < 64 := by omega
      have hm0 : IntKind.u32.wrap (x0 : Int) = (x0 : Int) := by rw [IntWalk.u32_in _ (by omega)]
      obtain ⟨i1, e1⟩ : ∃ y, y = 4 * k + 1 := ⟨_, rfl⟩
      have hc1 : wr.cell? ⟨b, o + i1, none⟩ = some (.int .u8 ((C.getD i1 0 : Nat) : Int)) := by rw [hbel.cell hbB]; exact HB.out.2 i1 (by omega)
      have hb1 := hCb i1
      rw [← e1] at hpk
      generalize C.getD i1 0 = x1 at hc1 hb1 hpk
      have ha1 : (0 : Int) ≤ (i1 : Int) := by omega
      have hd1 : (i1 : Int) < 64 := by omega
      have hm1 : IntKind.u32.wrap (x1 : Int) = (x1 : Int) := by rw [IntWalk.u32_in _ (by omega)]
      obtain ⟨i2, e2⟩ : ∃ y, y = 4 * k + 2 := ⟨_, rfl⟩
      have hc2 : wr.cell? ⟨b, o + i2, none⟩ = some (.int .u8 ((C.getD i2 0 : Nat) : Int)) := by rw [hbel.cell hbB]; exact HB.out.2 i2 (by omega)
      have hb2 := hCb i2
      rw [← e2] at hpk
      generalize C.getD i2 0 = x2 at hc2 hb2 hpk
      have ha2 : (0 : Int) ≤ (i2 : Int) := by omega
      have hd2 : (i2 : Int) < 64 := by omega
      have hm2 : IntKind.u32.wrap (x2 : Int) = (x2 : Int) := by rw [IntWalk.u32_in _ (by omega)]
      obtain ⟨i3, e3⟩ : ∃ y, y = 4 * k + 3 := ⟨_, rfl⟩
      have hc3 : wr.cell? ⟨b, o + i3, none⟩ = some (.int .u8 ((C.getD i3 0 : Nat) : Int)) := by rw [hbel.cell hbB]; exact HB.out.2 i3 (by omega)
      have hb3 := hCb i3
      rw [← e3] at hpk
      generalize C.getD i3 0 = x3 at hc3 hb3 hpk
      have ha3 : (0 : Int) ≤ (i3 : Int) := by omega
      have hd3 : (i3 : Int) < 64 := by omega
      have hm3 : IntKind.u32.wrap (x3 : Int) = (x3 : Int) := by rw [IntWalk.u32_in _ (by omega)]
      have hw0 : IntKind.i64.wrap (4 * (k : Int)) = (i0 : Int) := by rw [IntWalk.i64_in _ (by omega)]; omega
      have hw1 : IntKind.i64.wrap ((i0 : Int) + 1) = (i1 : Int) := by rw [IntWalk.i64_in _ (by omega)]; omega
      have hw2 : IntKind.i64.wrap ((i0 : Int) + 2) = (i2 : Int) := by rw [IntWalk.i64_in _ (by omega)]; omega
      have hw3 : IntKind.i64.wrap ((i0 : Int) + 3) = (i3 : Int) := by rw [IntWalk.i64_in _ (by omega)]; omega
      rw [← pack4 x0 x1 x2 x3 hb0 hb1 hb2 hb3] at hpk
      have Hpk := Lib.hid hpk
      obtain ⟨y0, ey0⟩ : ∃ y, y = (x0 : Int) * 16777216 % 4294967296 := ⟨_, rfl⟩
      have hy0 : IntKind.u32.wrap ((x0 : Int) * 16777216) = y0 := by rw [IntKind.wrap_u32, ey0]
      rw [← ey0] at Hpk
      clear ey0
      obtain ⟨y1, ey1⟩ : ∃ y, y = (x1 : Int) * 65536 % 4294967296 := ⟨_, rfl⟩
      have hy1 : IntKind.u32.wrap ((x1 : Int) * 65536) = y1 := by rw [IntKind.wrap_u32, ey1]
      rw [← ey1] at Hpk
      clear ey1
      obtain ⟨y2, ey2⟩ : ∃ y, y = (x2 : Int) * 256 % 4294967296 := ⟨_, rfl⟩
      have hy2 : IntKind.u32.wrap ((x2 : Int) * 256) = y2 := by rw [IntKind.wrap_u32, ey2]
      rw [← ey2] at Hpk
      clear ey2
      generalize ev : o32 (o32 (o32 y0 y1) y2) (x3 : Int) = x at Hpk
      clear e0 e1 e2 e3 hpk eL hlen hown hbel hb0 hb1 hb2 hb3
      go_wp2_with fail
      refine wp_region_pick wr [0, 1, 2, 3, 4, 5, 6, 7, 8, 9, 10, 11, 12, 13, 14, 15, 16, 17, 18, 19, 20, 21, 22, 23, 24, 25, 26, 27, 28, 29, 30, 31, 32, 33] [true, false, false, false, false, false, false, false, false, false, false, false, false, false, false, false, false, false, false, false, false, false, false, false, false, false, false, false, false, false, false, false, false, false] [] [] 34 (by kernel_rfl) rfl (by kernel_rfl) (by intro c a d v w h; cases d <;> exact h) ((Below.refl _ _).drew) ?_
      simp only [pick, List.getElem?_cons_succ, List.getElem?_cons_zero, List.drop_succ_cons, List.drop_zero]
      refine wpHoldF_late (wanted_none rfl) (fun w => by go_simp; rfl) ?_
      iterate 33 (refine wpHoldF_val (wanted_none rfl) (by intro K o d hK; go_simp; exact hK _ (Below.refl _ _)) ?_)
      refine wpHoldF_nil ?_
      intro w2 hb2 _
      have hsz2 : B ≤ w2.heap.size := by have := hb2.size; omega
      have HO2 := Lib.hid (Hown.out.below hb2)
      have HB2 := Lib.hid (Hbel.out.trans (hb2.mono hsz))
      clear hb2
      go_wp2_with (at_builtin; refine wpList_append_own _ rfl _ _ 61 rfl B 49 ie (.int .u32 0) 1 4 Tryd.underlying61 hi hz0 hz1 hz2 rfl (by decide) _ _ _ rfl (owns_below HO2.out (below_alloc (Below.refl _ _) _)) ⟨w2.heap.size, 0, none⟩ 1 1 [.int .u32 x] rfl rfl one_cell (fun u hu => by simp at hu; subst hu; rfl) (maxLen_small (show L.length + 1 ≤ 16777216 by rw [Hlen.out]; omega)) (by have := (show L.length + 1 ≤ 16777216 by rw [Hlen.out]; omega); omega) (by simp; omega) ?_)
      intro v' w4 hown4 hgrow4 _
      have Hb4 := Lib.hid (grown_below (HB2.out.alloc hsz2 _) (owns_below HO2.out (below_alloc (Below.refl _ _) (.cells #[.int .u32 x] 49))) (by simp; omega) hgrow4)
      have Ho4 := Lib.hid (OwnW.snoc hown4)
      have hsz4 : B ≤ w4.heap.size := by have := hgrow4.size; simp at this; omega
      clear hown4 hgrow4
      go_wp2_with fail
      go_roundw
      case rel =>
        first
        | exact ⟨k + 1, by omega, by go_num, by rw [List.range_succ, List.map_append, ← HL.out]; show OwnW _ _ _ (L ++ [pk4 C k]); rw [Hpk.out]; exact Ho4.out, Hb4.out, hsz4⟩
        | exact ⟨_, _, _, _, _, _, _, _, _, _, _, _, _, _, _, _, _, _, _, _, _, _, _, _, _, _, _, _, _, _, _, _, _, _, _, _, _, _, ⟨k + 1, by omega, by go_num, by rw [List.range_succ, List.map_append, ← HL.out]; show OwnW _ _ _ (L ++ [pk4 C k]); rw [Hpk.out]; exact Ho4.out, Hb4.out, hsz4⟩, rfl⟩
      case measure => simp [intOf]; omega
    · obtain rfl : k = 16 := by omega
      obtain ⟨g, c, ev, hg, hgl, hc⟩ := OwnW.addr hown hlen (by decide)
      subst ev
      have Hown := Lib.hid (show OwnW wr B (.slice (some ⟨g, 0, none⟩) 16 c) (ws C (16 - 16)) from hown)
      have Hbel := Lib.hid hbel
      clear hown hbel hlen
      go_wp2_with fail
      obtain ⟨W2, eW2⟩ : ∃ x, x = wr := ⟨_, rfl⟩
      rw [← eW2] at Hown Hbel hsz hgl ⊢
      clear eW2
      go_loopw [3, 5] (fun v t wr => ∃ k g c : Nat, 16 ≤ k ∧ k ≤ 64 ∧ t = .int .i64 k ∧ v = .slice (some ⟨g, 0, none⟩) k c ∧ OwnW wr B v (ws C (k - 16)) ∧ g < wr.heap.size ∧ Below B w wr ∧ B ≤ wr.heap.size) (fun _ t _ => 64 - (intOf t).toNat)
      case atStart => exact ⟨16, g, c, by decide, by decide, rfl, rfl, Hown.out, hgl, Hbel.out, hsz⟩
      case round =>
        obtain ⟨k, g, c, hk0, hk, rfl, rfl, hown, hgl, hbel, hsz⟩ := hrel
        have hkk : (0 : Int) ≤ (k : Int) := by omega
        by_cases hk64 : k < 64
        · have hk1 : (k : Int) < 64 := by omega
          have hwd := hown.words hgl
          have hlen : (ws C (k - 16)).length = k := by rw [ws_length]; omega
          have Hn := Lib.hid (nxt_ws C k hk0)
          have Hws := Lib.hid (show ws C (k + 1 - 16) = ws C (k - 16) ++ [nxt (ws C (k - 16))] by rw [show k + 1 - 16 = (k - 16) + 1 by omega]; rfl)
          have hc2 := hwd.2 (k - 2) (by omega)
          generalize (ws C (k - 16)).getD (k - 2) 0 = x2 at hc2 Hn
          have hc7 := hwd.2 (k - 7) (by omega)
          generalize (ws C (k - 16)).getD (k - 7) 0 = x7 at hc7 Hn
          have hc15 := hwd.2 (k - 15) (by omega)
          generalize (ws C (k - 16)).getD (k - 15) 0 = x15 at hc15 Hn
          have hc16 := hwd.2 (k - 16) (by omega)
          generalize (ws C (k - 16)).getD (k - 16) 0 = x16 at hc16 Hn
          obtain ⟨k2, e2⟩ : ∃ y, y = k - 2 := ⟨_, rfl⟩
          rw [← e2] at hc2
          have hw2 : IntKind.i64.wrap ((k : Int) - 2) = (k2 : Int) := by rw [IntWalk.i64_in _ (by omega)]; omega
          have ha2 : (0 : Int) ≤ (k2 : Int) := by omega
          have hd2 : (k2 : Int) < (k : Int) := by omega
          obtain ⟨k7, e7⟩ : ∃ y, y = k - 7 := ⟨_, rfl⟩
          rw [← e7] at hc7
          have hw7 : IntKind.i64.wrap ((k : Int) - 7) = (k7 : Int) := by rw [IntWalk.i64_in _ (by omega)]; omega
          have ha7 : (0 : Int) ≤ (k7 : Int) := by omega
          have hd7 : (k7 : Int) < (k : Int) := by omega
          obtain ⟨k15, e15⟩ : ∃ y, y = k - 15 := ⟨_, rfl⟩
          rw [← e15] at hc15
          have hw15 : IntKind.i64.wrap ((k : Int) - 15) = (k15 : Int) := by rw [IntWalk.i64_in _ (by omega)]; omega
          have ha15 : (0 : Int) ≤ (k15 : Int) := by omega
          have hd15 : (k15 : Int) < (k : Int) := by omega
          obtain ⟨k16, e16⟩ : ∃ y, y = k - 16 := ⟨_, rfl⟩
          rw [← e16] at hc16
          have hw16 : IntKind.i64.wrap ((k : Int) - 16) = (k16 : Int) := by rw [IntWalk.i64_in _ (by omega)]; omega
          have ha16 : (0 : Int) ≤ (k16 : Int) := by omega
          have hd16 : (k16 : Int) < (k : Int) := by omega
          obtain ⟨y3, ey3⟩ : ∃ y, y = shrw x15 3 := ⟨_, rfl⟩
          have hs3 : x15 / 8 = y3 := by rw [ey3]; unfold shrw; rfl
          obtain ⟨y10, ey10⟩ : ∃ y, y = shrw x2 10 := ⟨_, rfl⟩
          have hs10 : x2 / 1024 = y10 := by rw [ey10]; unfold shrw; rfl
          obtain ⟨L, eL⟩ : ∃ L, L = ws C (k - 16) := ⟨_, rfl⟩
          rw [← eL] at hown hlen Hn Hws
          have Hs0 := Lib.hid (show s0 x15 = x32 (x32 (rotr x15 7) (rotr x15 18)) y3 by rw [ey3]; rfl)
          have Hs1 := Lib.hid (show s1 x2 = x32 (x32 (rotr x2 17) (rotr x2 19)) y10 by rw [ey10]; rfl)
          have Hlen := Lib.hid hlen
          have Hown := Lib.hid hown
          have Hbel := Lib.hid hbel
          clear e2 e7 e15 e16 ey3 ey10 eL hlen hown hbel hwd
          go_wp2_with fail
          refine wp_region_fast (fun w' => ∃ o d, w' = wr.plus o d) (by kernel_rfl) (by kernel_rfl) ⟨#[], _, rfl⟩ ?_
          iterate 12 (refine wpHold_val ⟨_, #[], 0, rfl⟩ (wanted_none rfl) (by rintro K _ ⟨o, d, rfl⟩ hK; go_simp; exact hK _ ⟨o, d, rfl⟩) ?_)
          refine wpHold_nil ?_
          rintro _ ⟨o5, n5, rfl⟩
          have hbw := below_more (Below.refl wr.heap.size wr) o5 n5
          replace hc2 : (wr.plus o5 n5).cell? ⟨g, k2, none⟩ = some (.int .u32 x2) := by rw [hbw.cell hgl]; exact hc2
          replace hc7 : (wr.plus o5 n5).cell? ⟨g, k7, none⟩ = some (.int .u32 x7) := by rw [hbw.cell hgl]; exact hc7
          replace hc15 : (wr.plus o5 n5).cell? ⟨g, k15, none⟩ = some (.int .u32 x15) := by rw [hbw.cell hgl]; exact hc15
          replace hc16 : (wr.plus o5 n5).cell? ⟨g, k16, none⟩ = some (.int .u32 x16) := by rw [hbw.cell hgl]; exact hc16
          have HO5 := Lib.hid (Hown.out.below hbw)
          have HB5 := Lib.hid (Hbel.out.trans (hbw.mono hsz))
          have hgl5 : g < (wr.plus o5 n5).heap.size := by have := hbw.size; omega
          have hsz5 : B ≤ (wr.plus o5 n5).heap.size := by have := hbw.size; omega
          clear hbw Hown Hbel
          generalize wr.plus o5 n5 = W5 at *
          go_wp2_with fail
          refine (turn_7 _ _).mono ?_
          rintro e w' ⟨rfl, hwE⟩
          rw [hwE]
          clear hwE w'
          go_wp2_with fail
          refine (turn_18 _ _).mono ?_
          rintro e w' ⟨rfl, hwE⟩
          rw [hwE]
          clear hwE w'
          go_wp2_with fail
          generalize ez0 : x32 (x32 (rotr x15 7) (rotr x15 18)) y3 = z0
          have Hz0 := Lib.hid ez0
          clear ez0
          refine (turn_17 _ _).mono ?_
          rintro e w' ⟨rfl, hwE⟩
          rw [hwE]
          clear hwE w'
          go_wp2_with fail
          refine (turn_19 _ _).mono ?_
          rintro e w' ⟨rfl, hwE⟩
          rw [hwE]
          clear hwE w'
          go_wp2_with fail
          generalize ez1 : x32 (x32 (rotr x2 17) (rotr x2 19)) y10 = z1
          have Hz1 := Lib.hid ez1
          clear ez1
          refine wp_region_pick W5 [0, 1, 2, 3, 4, 5, 6, 7, 8, 9, 10, 11, 12, 13, 14, 15] [true, false, false, false, false, false, false, false, false, false, false, false, false, false, false, false] [] [] 16 (by kernel_rfl) rfl (by kernel_rfl) (by intro c a d v w h; cases d <;> exact h) ((Below.refl _ _).drew) ?_
          simp only [pick, List.getElem?_cons_succ, List.getElem?_cons_zero, List.drop_succ_cons, List.drop_zero]
          refine wpHoldF_late (wanted_none rfl) (fun w => by go_simp; rfl) ?_
          iterate 15 (refine wpHoldF_val (wanted_none rfl) (by intro K o d hK; go_simp; exact hK _ (Below.refl _ _)) ?_)
          refine wpHoldF_nil ?_
          intro w2 hb2 _
          have hsz2 : B ≤ w2.heap.size := by have := hb2.size; omega
          have HO2 := Lib.hid (HO5.out.below hb2)
          have HB2 := Lib.hid (HB5.out.trans (hb2.mono hsz5))
          clear hb2
          generalize ex : add32 (add32 (add32 z1 x7) z0) x16 = x
          have Hx := Lib.hid ex
          clear ex
          go_wp2_with (at_builtin; refine wpList_append_own _ rfl _ _ 61 rfl B 49 ie (.int .u32 0) 1 4 Tryd.underlying61 hi hz0 hz1 hz2 rfl (by decide) _ _ _ rfl (owns_below HO2.out (below_alloc (Below.refl _ _) _)) ⟨w2.heap.size, 0, none⟩ 1 1 [.int .u32 x] rfl rfl one_cell (fun u hu => by simp at hu; subst hu; rfl) (maxLen_small (show L.length + 1 ≤ 16777216 by rw [Hlen.out]; omega)) (by have := (show L.length + 1 ≤ 16777216 by rw [Hlen.out]; omega); omega) (by simp; omega) ?_)
          intro v' w4 hown4 hgrow4 _
          have Hb4 := Lib.hid (grown_below (HB2.out.alloc hsz2 _) (owns_below HO2.out (below_alloc (Below.refl _ _) (.cells #[.int .u32 x] 49))) (by simp; omega) hgrow4)
          have Ho4 := Lib.hid (OwnW.snoc hown4)
          have hsz4 : B ≤ w4.heap.size := by have := hgrow4.size; simp at this; omega
          clear hown4 hgrow4
          obtain ⟨g4, c4, ev4, _, hgl4, _⟩ := Ho4.out.addr (k := k + 1) (by rw [List.length_append, Hlen.out]; rfl) (by omega)
          subst ev4
          have Hrel := Lib.hid (show OwnW w4 B (.slice (some ⟨g4, 0, none⟩) (k + 1) c4) (ws C (k + 1 - 16)) by rw [Hws.out, Hn.out, Hs0.out, Hs1.out, Hz0.out, Hz1.out, Hx.out]; exact Ho4.out)
          go_wp2_with fail
          go_roundw
          case rel =>
            first
            | exact ⟨k + 1, g4, c4, by omega, by omega, by go_num, rfl, Hrel.out, hgl4, Hb4.out, hsz4⟩
            | exact ⟨_, _, _, _, _, _, _, _, _, _, _, _, _, _, _, _, _, _, _, _, _, _, _, _, _, _, _, _, _, _, _, _, _, _, _, _, _, _, _, _, _, _, _, _, _, _, _, _, _, _, _, _, _, _, ⟨k + 1, g4, c4, by omega, by omega, by go_num, rfl, Hrel.out, hgl4, Hb4.out, hsz4⟩, rfl⟩
          case measure => simp [intOf]; omega
        · obtain rfl : k = 64 := by omega
          have Hw := Lib.hid (hown.words hgl)
          have Hbel := Lib.hid hbel
          clear hown hbel
          go_wp2_with fail
          go_ret
          exact ⟨_, _, rfl, Hw.out, by rw [← EB.out]; exact Hbel.out⟩
end Go.Proofs.YtikpglemnnbdcaaDoor
