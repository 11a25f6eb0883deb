/-
  Part 4 of the texts behind the theorem.
-/
import Derived.Test.YtnemlmlfhhahgaaDoorPart3
import Derived.Test.YtnemlmlfhhahgaaDoorPart2
import Derived.Laws.BitsAllLaws
/-
  The reference of layer 3: the schedule of a block.
-/
namespace Go.Proofs.YtnemlmlfhhahgaaDoor
open Go.RowKit Go.Hold Go.Sh

theorem own_snoc_len {w : World} {B : Nat} {v : Value} {L : List Int} {x : Int} (h : w.ownsRow B 45 1 v (L.length + 1) (wos L ++ [.int .u32 x])) : OwnW w B v (L ++ [x]) := OwnW.snoc h
set_option maxHeartbeats 4000000 in
set_option maxRecDepth 100000 in
theorem schedule_c (b o cap : Nat) (C : List Nat) (w : World) (hC : C.length = 64) (hCb : ∀ i, C.getD i 0 < 256) (hB : BytesAt w b o C) :
    Calls Tryd.prog 61 #[.slice (some ⟨b, o, none⟩) 64 cap] w fun e w' => ∃ g c, e = .returned (.slice (some ⟨g, 0, none⟩) 64 c) ∧ WordsAt w' g (sch C) ∧ Below w.heap.size w w' := by
  obtain ⟨ie, hi, hz0, hz1, hz2⟩ := info_parts info_u32
  obtain ⟨B, eB⟩ : ∃ B, B = w.heap.size := ⟨_, rfl⟩
  have HB := Lib.hid hB
  have hbB : b < B := by rw [eB]; exact hB.1
  have EB := Lib.hid eB
  have hBw : B ≤ w.heap.size := by omega
  have hwB : w.heap.size ≤ B := by omega
  clear hB eB
  go_enter Tryd.func61, Tryd.ntmps61
  go_wp2_with fail
  go_loopw [3, 4] (fun v t wr => ∃ k : Nat, k ≤ 16 ∧ t = .int .i64 k ∧ OwnW wr B v ((List.range k).map (pk4 C)) ∧ Below B w wr ∧ B ≤ wr.heap.size) (fun _ t _ => 16 - (intOf t).toNat)
  case atStart => exact ⟨0, by decide, rfl, World.ownsRow_nil _ _ _ _, Below.refl _ _, hBw⟩
  case round =>
    obtain ⟨k, hk, rfl, hown, hbel, hsz⟩ := hrel
    have hkk : (0 : Int) ≤ (k : Int) := by omega
    have hlen : ((List.range k).map (pk4 C)).length = k := by simp
    by_cases hk16 : k < 16
    · have hk1 : (k : Int) < 16 := by omega
      obtain ⟨L, eL⟩ : ∃ L, L = (List.range k).map (pk4 C) := ⟨_, rfl⟩
      rw [← eL] at hown hlen
      have HL := Lib.hid eL
      have Hlen := Lib.hid hlen
      have Hown := Lib.hid hown
      have Hbel := Lib.hid hbel
      have hbl : b < wr.heap.size := by omega
      have hpk := pk4_eq C k
      obtain ⟨i0, e0⟩ : ∃ y, y = 4 * k + 0 := ⟨_, rfl⟩
      have hc0 : wr.cell? ⟨b, o + i0, none⟩ = some (.int .u8 ((C.getD i0 0 : Nat) : Int)) := by rw [hbel.cell hbB]; exact HB.out.2 i0 (by omega)
      have hb0 := hCb i0
      rw [← e0] at hpk
      generalize C.getD i0 0 = x0 at hc0 hb0 hpk
      have ha0 : (0 : Int) ≤ (i0 : Int) := by omega
      have hd0 : (i0 : Int) < 64 := by omega
      have hm0 : IntKind.u32.wrap (x0 : Int) = (x0 : Int) := by rw [IntWalk.u32_in _ (by omega)]
      obtain ⟨i1, e1⟩ : ∃ y, y = 4 * k + 1 := ⟨_, rfl⟩
      have hc1 : wr.cell? ⟨b, o + i1, none⟩ = some (.int .u8 ((C.getD i1 0 : Nat) : Int)) := by rw [hbel.cell hbB]; exact HB.out.2 i1 (by omega)
      have hb1 := hCb i1
      rw [← e1] at hpk
      generalize C.getD i1 0 = x1 at hc1 hb1 hpk
      have ha1 : (0 : Int) ≤ (i1 : Int) := by omega
      have hd1 : (i1 : Int) < 64 := by omega
      have hm1 : IntKind.u32.wrap (x1 : Int) = (x1 : Int) := by rw [IntWalk.u32_in _ (by omega)]
      obtain ⟨i2, e2⟩ : ∃ y, y = 4 * k + 2 := ⟨_, rfl⟩
      have hc2 : wr.cell? ⟨b, o + i2, none⟩ = some (.int .u8 ((C.getD i2 0 : Nat) : Int)) := by rw [hbel.cell hbB]; exact HB.out.2 i2 (by omega)
      have hb2 := hCb i2
      rw [← e2] at hpk
      generalize C.getD i2 0 = x2 at hc2 hb2 hpk
      have ha2 : (0 : Int) ≤ (i2 : Int) := by omega
      have hd2 : (i2 : Int) < 64 := by omega
      have hm2 : IntKind.u32.wrap (x2 : Int) = (x2 : Int) := by rw [IntWalk.u32_in _ (by omega)]
      obtain ⟨i3, e3⟩ : ∃ y, y = 4 * k + 3 := ⟨_, rfl⟩
      have hc3 : wr.cell? ⟨b, o + i3, none⟩ = some (.int .u8 ((C.getD i3 0 : Nat) : Int)) := by rw [hbel.cell hbB]; exact HB.out.2 i3 (by omega)
      have hb3 := hCb i3
      rw [← e3] at hpk
      generalize C.getD i3 0 = x3 at hc3 hb3 hpk
      have ha3 : (0 : Int) ≤ (i3 : Int) := by omega
      have hd3 : (i3 : Int) < 64 := by omega
      have hm3 : IntKind.u32.wrap (x3 : Int) = (x3 : Int) := by rw [IntWalk.u32_in _ (by omega)]
      have hw0 : IntKind.i64.wrap (4 * (k : Int)) = (i0 : Int) := by rw [IntWalk.i64_in _ (by omega)]; omega
      have hw1 : IntKind.i64.wrap ((i0 : Int) + 1) = (i1 : Int) := by rw [IntWalk.i64_in _ (by omega)]; omega
      have hw2 : IntKind.i64.wrap ((i0 : Int) + 2) = (i2 : Int) := by rw [IntWalk.i64_in _ (by omega)]; omega
      have hw3 : IntKind.i64.wrap ((i0 : Int) + 3) = (i3 : Int) := by rw [IntWalk.i64_in _ (by omega)]; omega
      rw [← pack4 x0 x1 x2 x3 hb0 hb1 hb2 hb3] at hpk
      have Hpk := Lib.hid hpk
      obtain ⟨y0, ey0⟩ : ∃ y, y = (x0 : Int) * 16777216 % 4294967296 := ⟨_, rfl⟩
      have hy0 : IntKind.u32.wrap ((x0 : Int) * 16777216) = y0 := by rw [IntKind.wrap_u32, ey0]
      rw [← ey0] at Hpk
      clear ey0
      obtain ⟨y1, ey1⟩ : ∃ y, y = (x1 : Int) * 65536 % 4294967296 := ⟨_, rfl⟩
      have hy1 : IntKind.u32.wrap ((x1 : Int) * 65536) = y1 := by rw [IntKind.wrap_u32, ey1]
      rw [← ey1] at Hpk
      clear ey1
      obtain ⟨y2, ey2⟩ : ∃ y, y = (x2 : Int) * 256 % 4294967296 := ⟨_, rfl⟩
      have hy2 : IntKind.u32.wrap ((x2 : Int) * 256) = y2 := by rw [IntKind.wrap_u32, ey2]
      rw [← ey2] at Hpk
      clear ey2
      generalize ev : o32 (o32 (o32 y0 y1) y2) (x3 : Int) = x at Hpk
      clear e0 e1 e2 e3 hpk eL hlen hown hbel hb0 hb1 hb2 hb3
      go_wp2_with fail
      refine wp_region_pick wr [0, 1, 2, 3, 4, 5, 6, 7, 8, 9, 10, 11, 12, 13, 14, 15, 16, 17, 18, 19, 20, 21, 22, 23, 24, 25, 26, 27, 28, 29, 30, 31, 32, 33] [true, false, false, false, false, false, false, false, false, false, false, false, false, false, false, false, false, false, false, false, false, false, false, false, false, false, false, false, false, false, false, false, false, false] [] [] 34 (by kernel_rfl) rfl (by kernel_rfl) (by intro c a d v w h; cases d <;> exact h) ((Below.refl _ _).drew) ?_
      simp only [pick, List.getElem?_cons_succ, List.getElem?_cons_zero, List.drop_succ_cons, List.drop_zero]
      refine wpHoldF_late (wanted_none rfl) (fun w => by go_simp; rfl) ?_
      iterate 33 (refine wpHoldF_val (wanted_none rfl) (by intro K o d hK; go_simp; exact hK _ (Below.refl _ _)) ?_)
      refine wpHoldF_nil ?_
      intro w2 hb2 _
      have hsz2 : B ≤ w2.heap.size := by have := hb2.size; omega
      have HO2 := Lib.hid (Hown.out.below hb2)
      have HB2 := Lib.hid (Hbel.out.trans (hb2.mono hsz))
      clear hb2
      go_wp2_with (at_builtin; refine wpList_append_own _ rfl _ _ 80 rfl B 45 ie (.int .u32 0) 1 4 Tryd.underlying80 hi hz0 hz1 hz2 rfl (by decide) _ _ _ rfl (owns_below HO2.out (below_alloc (Below.refl _ _) _)) ⟨w2.heap.size, 0, none⟩ 1 1 [.int .u32 x] rfl rfl one_cell (fun u hu => by simp at hu; subst hu; rfl) (maxLen_small (show L.length + 1 ≤ 16777216 by rw [Hlen.out]; omega)) (by have := (show L.length + 1 ≤ 16777216 by rw [Hlen.out]; omega); omega) (by simp; omega) ?_)
      intro v' w4 hown4 hgrow4 _
      have Hb4 := Lib.hid (grown_below (HB2.out.alloc hsz2 _) (owns_below HO2.out (below_alloc (Below.refl _ _) (.cells #[.int .u32 x] 45))) (by simp; omega) hgrow4)
      have Ho4 := Lib.hid (OwnW.snoc hown4)
      have hsz4 : B ≤ w4.heap.size := by have := hgrow4.size; simp at this; omega
      clear hown4 hgrow4
      go_wp2_with fail
      go_roundw
      case rel =>
        first
        | exact ⟨k + 1, by omega, by go_num, by rw [List.range_succ, List.map_append, ← HL.out]; show OwnW _ _ _ (L ++ [pk4 C k]); rw [Hpk.out]; exact Ho4.out, Hb4.out, hsz4⟩
        | exact ⟨_, _, _, _, _, _, _, _, _, _, _, _, _, _, _, _, _, _, _, _, _, _, _, _, _, _, _, _, _, _, _, _, _, _, _, _, _, _, ⟨k + 1, by omega, by go_num, by rw [List.range_succ, List.map_append, ← HL.out]; show OwnW _ _ _ (L ++ [pk4 C k]); rw [Hpk.out]; exact Ho4.out, Hb4.out, hsz4⟩, rfl⟩
      case measure => simp [intOf]; omega
    · obtain rfl : k = 16 := by omega
      obtain ⟨g, c, ev, hg, hgl, hc⟩ := OwnW.addr hown hlen (by decide)
      subst ev
      have Hown := Lib.hid (show OwnW wr B (.slice (some ⟨g, 0, none⟩) 16 c) (ws C (16 - 16)) from hown)
      have Hbel := Lib.hid hbel
      clear hown hbel hlen
      go_wp2_with fail
      obtain ⟨W2, eW2⟩ : ∃ x, x = wr := ⟨_, rfl⟩
      rw [← eW2] at Hown Hbel hsz hgl ⊢
      clear eW2
      go_loopw [3, 5] (fun v t wr => ∃ k g c : Nat, 16 ≤ k ∧ k ≤ 64 ∧ t = .int .i64 k ∧ v = .slice (some ⟨g, 0, none⟩) k c ∧ OwnW wr B v (ws C (k - 16)) ∧ g < wr.heap.size ∧ Below B w wr ∧ B ≤ wr.heap.size) (fun _ t _ => 64 - (intOf t).toNat)
      case atStart => exact ⟨16, g, c, by decide, by decide, rfl, rfl, Hown.out, hgl, Hbel.out, hsz⟩
      case round =>
        obtain ⟨k, g, c, hk0, hk, rfl, rfl, hown, hgl, hbel, hsz⟩ := hrel
        have hkk : (0 : Int) ≤ (k : Int) := by omega
        by_cases hk64 : k < 64
        · have hk1 : (k : Int) < 64 := by omega
          have hwd := hown.words hgl
          have hlen : (ws C (k - 16)).length = k := by rw [ws_length]; omega
          have Hn := Lib.hid (nxt_ws C k hk0)
          have Hws := Lib.hid (show ws C (k + 1 - 16) = ws C (k - 16) ++ [nxt (ws C (k - 16))] by rw [show k + 1 - 16 = (k - 16) + 1 by omega]; rfl)
          have hc2 := hwd.2 (k - 2) (by omega)
          generalize (ws C (k - 16)).getD (k - 2) 0 = x2 at hc2 Hn
          have hc7 := hwd.2 (k - 7) (by omega)
          generalize (ws C (k - 16)).getD (k - 7) 0 = x7 at hc7 Hn
          have hc15 := hwd.2 (k - 15) (by omega)
          generalize (ws C (k - 16)).getD (k - 15) 0 = x15 at hc15 Hn
          have hc16 := hwd.2 (k - 16) (by omega)
          generalize (ws C (k - 16)).getD (k - 16) 0 = x16 at hc16 Hn
          obtain ⟨k2, e2⟩ : ∃ y, y = k - 2 := ⟨_, rfl⟩
          rw [← e2] at hc2
          have hw2 : IntKind.i64.wrap ((k : Int) - 2) = (k2 : Int) := by rw [IntWalk.i64_in _ (by omega)]; omega
          have ha2 : (0 : Int) ≤ (k2 : Int) := by omega
          have hd2 : (k2 : Int) < (k : Int) := by omega
          obtain ⟨k7, e7⟩ : ∃ y, y = k - 7 := ⟨_, rfl⟩
          rw [← e7] at hc7
          have hw7 : IntKind.i64.wrap ((k : Int) - 7) = (k7 : Int) := by rw [IntWalk.i64_in _ (by omega)]; omega
          have ha7 : (0 : Int) ≤ (k7 : Int) := by omega
          have hd7 : (k7 : Int) < (k : Int) := by omega
          obtain ⟨k15, e15⟩ : ∃ y, y = k - 15 := ⟨_, rfl⟩
          rw [← e15] at hc15
          have hw15 : IntKind.i64.wrap ((k : Int) - 15) = (k15 : Int) := by rw [IntWalk.i64_in _ (by omega)]; omega
          have ha15 : (0 : Int) ≤ (k15 : Int) := by omega
          have hd15 : (k15 : Int) < (k : Int) := by omega
          obtain ⟨k16, e16⟩ : ∃ y, y = k - 16 := ⟨_, rfl⟩
          rw [← e16] at hc16
          have hw16 : IntKind.i64.wrap ((k : Int) - 16) = (k16 : Int) := by rw [IntWalk.i64_in _ (by omega)]; omega
          have ha16 : (0 : Int) ≤ (k16 : Int) := by omega
          have hd16 : (k16 : Int) < (k : Int) := by omega
          obtain ⟨y3, ey3⟩ : ∃ y, y = shrw x15 3 := ⟨_, rfl⟩
          have hs3 : x15 / 8 = y3 := by rw [ey3]; unfold shrw; rfl
          obtain ⟨y10, ey10⟩ : ∃ y, y = shrw x2 10 := ⟨_, rfl⟩
          have hs10 : x2 / 1024 = y10 := by rw [ey10]; unfold shrw; rfl
          obtain ⟨L, eL⟩ : ∃ L, L = ws C (k - 16) := ⟨_, rfl⟩
          rw [← eL] at hown hlen Hn Hws
          have Hs0 := Lib.hid (show s0 x15 = x32 (x32 (rotr x15 7) (rotr x15 18)) y3 by rw [ey3]; rfl)
          have Hs1 := Lib.hid (show s1 x2 = x32 (x32 (rotr x2 17) (rotr x2 19)) y10 by rw [ey10]; rfl)
          have Hlen := Lib.hid hlen
          have Hown := Lib.hid hown
          have Hbel := Lib.hid hbel
          clear e2 e7 e15 e16 ey3 ey10 eL hlen hown hbel hwd
          go_wp2_with fail
          refine wp_region_fast (fun w' => ∃ o d, w' = wr.plus o d) (by kernel_rfl) (by kernel_rfl) ⟨#[], _, rfl⟩ ?_
          iterate 12 (refine wpHold_val ⟨_, #[], 0, rfl⟩ (wanted_none rfl) (by rintro K _ ⟨o, d, rfl⟩ hK; go_simp; exact hK _ ⟨o, d, rfl⟩) ?_)
          refine wpHold_nil ?_
          rintro _ ⟨o5, n5, rfl⟩
          have hbw := below_more (Below.refl wr.heap.size wr) o5 n5
          replace hc2 : (wr.plus o5 n5).cell? ⟨g, k2, none⟩ = some (.int .u32 x2) := by rw [hbw.cell hgl]; exact hc2
          replace hc7 : (wr.plus o5 n5).cell? ⟨g, k7, none⟩ = some (.int .u32 x7) := by rw [hbw.cell hgl]; exact hc7
          replace hc15 : (wr.plus o5 n5).cell? ⟨g, k15, none⟩ = some (.int .u32 x15) := by rw [hbw.cell hgl]; exact hc15
          replace hc16 : (wr.plus o5 n5).cell? ⟨g, k16, none⟩ = some (.int .u32 x16) := by rw [hbw.cell hgl]; exact hc16
          have HO5 := Lib.hid (Hown.out.below hbw)
          have HB5 := Lib.hid (Hbel.out.trans (hbw.mono hsz))
          have hgl5 : g < (wr.plus o5 n5).heap.size := by have := hbw.size; omega
          have hsz5 : B ≤ (wr.plus o5 n5).heap.size := by have := hbw.size; omega
          clear hbw Hown Hbel
          generalize wr.plus o5 n5 = W5 at *
          go_wp2_with fail
          refine (turn_7 _ _).mono ?_
          rintro e w' ⟨rfl, hwE⟩
          rw [hwE]
          clear hwE w'
          go_wp2_with fail
          refine (turn_18 _ _).mono ?_
          rintro e w' ⟨rfl, hwE⟩
          rw [hwE]
          clear hwE w'
          go_wp2_with fail
          generalize ez0 : x32 (x32 (rotr x15 7) (rotr x15 18)) y3 = z0
          have Hz0 := Lib.hid ez0
          clear ez0
          refine (turn_17 _ _).mono ?_
          rintro e w' ⟨rfl, hwE⟩
          rw [hwE]
          clear hwE w'
          go_wp2_with fail
          refine (turn_19 _ _).mono ?_
          rintro e w' ⟨rfl, hwE⟩
          rw [hwE]
          clear hwE w'
          go_wp2_with fail
          generalize ez1 : x32 (x32 (rotr x2 17) (rotr x2 19)) y10 = z1
          have Hz1 := Lib.hid ez1
          clear ez1
          refine wp_region_pick W5 [0, 1, 2, 3, 4, 5, 6, 7, 8, 9, 10, 11, 12, 13, 14, 15] [true, false, false, false, false, false, false, false, false, false, false, false, false, false, false, false] [] [] 16 (by kernel_rfl) rfl (by kernel_rfl) (by intro c a d v w h; cases d <;> exact h) ((Below.refl _ _).drew) ?_
          simp only [pick, List.getElem?_cons_succ, List.getElem?_cons_zero, List.drop_succ_cons, List.drop_zero]
          refine wpHoldF_late (wanted_none rfl) (fun w => by go_simp; rfl) ?_
          iterate 15 (refine wpHoldF_val (wanted_none rfl) (by intro K o d hK; go_simp; exact hK _ (Below.refl _ _)) ?_)
          refine wpHoldF_nil ?_
          intro w2 hb2 _
          have hsz2 : B ≤ w2.heap.size := by have := hb2.size; omega
          have HO2 := Lib.hid (HO5.out.below hb2)
          have HB2 := Lib.hid (HB5.out.trans (hb2.mono hsz5))
          clear hb2
          generalize ex : add32 (add32 (add32 z1 x7) z0) x16 = x
          have Hx := Lib.hid ex
          clear ex
          go_wp2_with (at_builtin; refine wpList_append_own _ rfl _ _ 80 rfl B 45 ie (.int .u32 0) 1 4 Tryd.underlying80 hi hz0 hz1 hz2 rfl (by decide) _ _ _ rfl (owns_below HO2.out (below_alloc (Below.refl _ _) _)) ⟨w2.heap.size, 0, none⟩ 1 1 [.int .u32 x] rfl rfl one_cell (fun u hu => by simp at hu; subst hu; rfl) (maxLen_small (show L.length + 1 ≤ 16777216 by rw [Hlen.out]; omega)) (by have := (show L.length + 1 ≤ 16777216 by rw [Hlen.out]; omega); omega) (by simp; omega) ?_)
          intro v' w4 hown4 hgrow4 _
          have Hb4 := Lib.hid (grown_below (HB2.out.alloc hsz2 _) (owns_below HO2.out (below_alloc (Below.refl _ _) (.cells #[.int .u32 x] 45))) (by simp; omega) hgrow4)
          have Ho4 := Lib.hid (OwnW.snoc hown4)
          have hsz4 : B ≤ w4.heap.size := by have := hgrow4.size; simp at this; omega
          clear hown4 hgrow4
          obtain ⟨g4, c4, ev4, _, hgl4, _⟩ := Ho4.out.addr (k := k + 1) (by rw [List.length_append, Hlen.out]; rfl) (by omega)
          subst ev4
          have Hrel := Lib.hid (show OwnW w4 B (.slice (some ⟨g4, 0, none⟩) (k + 1) c4) (ws C (k + 1 - 16)) by rw [Hws.out, Hn.out, Hs0.out, Hs1.out, Hz0.out, Hz1.out, Hx.out]; exact Ho4.out)
          go_wp2_with fail
          go_roundw
          case rel =>
            first
            | exact ⟨k + 1, g4, c4, by omega, by omega, by go_num, rfl, Hrel.out, hgl4, Hb4.out, hsz4⟩
            | exact ⟨_, _, _, _, _, _, _, _, _, _, _, _, _, _, _, _, _, _, _, _, _, _, _, _, _, _, _, _, _, _, _, _, _, _, _, _, _, _, _, _, _, _, _, _, _, _, _, _, _, _, _, _, _, _, ⟨k + 1, g4, c4, by omega, by omega, by go_num, rfl, Hrel.out, hgl4, Hb4.out, hsz4⟩, rfl⟩
          case measure => simp [intOf]; omega
        · obtain rfl : k = 64 := by omega
          have Hw := Lib.hid (hown.words hgl)
          have Hbel := Lib.hid hbel
          clear hown hbel
          go_wp2_with fail
          go_ret
          exact ⟨_, _, rfl, Hw.out, by rw [← EB.out]; exact Hbel.out⟩
end Go.Proofs.YtnemlmlfhhahgaaDoor

/-
  The reference of layer 3: the state behind 64 bytes.
-/
namespace Go.Proofs.YtnemlmlfhhahgaaDoor
open Go.RowKit Go.Hold Go.Sh

/-- A state's words. -/
def stL (s : St) : List Int := [s.a, s.b, s.c, s.d, s.e, s.f, s.g, s.h]
theorem stL_A (s : St) : wosA (stL s) = stA s := rfl
theorem SlW.new (w : World) (s : St) : SlW (w.alloc (.cells (stA s) 45)) w.heap.size (stL s) := by
  have h := RowAt.of (block_new w (.cells (stA s) 45))
  exact ⟨words_row (by rw [stL_A]; exact h), fun i _ => h.frozenAt i⟩
/-- The first k words of a sum, and the letters. -/
def mixW (s r : St) (k : Nat) : List Int := (List.range 8).map fun j => if j < k then add32 ((stL r).getD j 0) ((stL s).getD j 0) else (stL r).getD j 0
theorem mixW_length (s r : St) (k : Nat) : (mixW s r k).length = 8 := by simp [mixW]
theorem mixW_get (s r : St) (k j : Nat) (h : j < 8) : (mixW s r k).getD j 0 = if j < k then add32 ((stL r).getD j 0) ((stL s).getD j 0) else (stL r).getD j 0 := by simp [mixW, List.getD, h]
theorem mixW_zero (s r : St) : mixW s r 0 = stL r := rfl
theorem mixW_set (s r : St) (k : Nat) (h : k < 8) : (mixW s r k).set k (add32 ((stL r).getD k 0) ((stL s).getD k 0)) = mixW s r (k + 1) := by
  apply List.ext_getElem?
  intro j
  rw [List.getElem?_set]
  by_cases hj : j < 8
  · have e1 : (mixW s r k)[j]? = some (if j < k then add32 ((stL r).getD j 0) ((stL s).getD j 0) else (stL r).getD j 0) := by simp [mixW, hj]
    have e2 : (mixW s r (k + 1))[j]? = some (if j < k + 1 then add32 ((stL r).getD j 0) ((stL s).getD j 0) else (stL r).getD j 0) := by simp [mixW, hj]
    rw [e1, e2]
    by_cases e : k = j
    · subst e; rw [if_pos rfl, if_pos (by rw [mixW_length]; exact h), if_pos (by omega)]
    · rw [if_neg e]
      by_cases h1 : j < k
      · rw [if_pos h1, if_pos (by omega)]
      · rw [if_neg h1, if_neg (by omega)]
  · rw [if_neg (by omega), List.getElem?_eq_none (by rw [mixW_length]; omega), List.getElem?_eq_none (by rw [mixW_length]; omega)]
theorem mixW_all (s r : St) : mixW s r 8 = stL (splus s r) := by
  show [add32 r.a s.a, add32 r.b s.b, add32 r.c s.c, add32 r.d s.d, add32 r.e s.e, add32 r.f s.f, add32 r.g s.g, add32 r.h s.h] = _
  rw [add32_comm r.a, add32_comm r.b, add32_comm r.c, add32_comm r.d, add32_comm r.e, add32_comm r.f, add32_comm r.g, add32_comm r.h]
  rfl

set_option maxHeartbeats 4000000 in
set_option maxRecDepth 100000 in
theorem block_c (gh ch b o cap : Nat) (s : St) (C : List Nat) (w : World) (hH : WordsAt w gh (stL s)) (hC : C.length = 64) (hCb : ∀ i, C.getD i 0 < 256) (hB : BytesAt w b o C) :
    Calls Tryd.prog 52 #[.slice (some ⟨gh, 0, none⟩) 8 ch, .slice (some ⟨b, o, none⟩) 64 cap] w fun e w' => ∃ g c, e = .returned (.slice (some ⟨g, 0, none⟩) 8 c) ∧ WordsAt w' g (stL (scmp s C)) ∧ Below w.heap.size w w' := by
  obtain ⟨ie, hi, hz0, hz1, hz2⟩ := info_parts info_u32
  obtain ⟨B, eB⟩ : ∃ B, B = w.heap.size := ⟨_, rfl⟩
  have HH := Lib.hid hH
  have HC := Lib.hid (schedule_c b o cap C w hC hCb hB)
  have EB := Lib.hid eB
  have hBw : B ≤ w.heap.size := by omega
  have hghB : gh < B := by rw [eB]; exact hH.1
  rw [← eB] at HC
  clear hH hB hCb eB
  go_enter Tryd.func52, Tryd.ntmps52
  go_wp2_with fail
  refine HC.out.mono ?_
  rintro e W1 ⟨g5, c5, rfl, hw5, hb1⟩
  have H5 := Lib.hid hw5
  have B1 := Lib.hid hb1
  have hs1 := hb1.size
  clear hw5 hb1 HC
  go_wp2_with fail
  refine (constants_c _).mono ?_
  rintro e W2 ⟨g6, rfl, hw6, hb2⟩
  have H5' := Lib.hid (H5.out.grow hb2)
  have H6 := Lib.hid hw6
  have B2 := Lib.hid (B1.out.trans (hb2.mono (by omega)))
  have hs2 := hb2.size
  clear hw6 hb2 H5 B1
  have hsz2 : B ≤ W2.heap.size := by omega
  have HHW := Lib.hid (show WordsAt (W2.alloc (.cells #[] 45)) gh (stL s) from ⟨by simp; omega, fun i hi => by rw [((B2.out.alloc hsz2 (.cells #[] 45))).cell hghB]; exact HH.out.2 i hi⟩)
  go_wp2_with (at_builtin; refine wpList_append_own _ rfl _ _ 80 rfl B 45 ie (.int .u32 0) 1 4 Tryd.underlying80 hi hz0 hz1 hz2 rfl (by decide) _ _ _ rfl (ownW_empty W2 B hsz2) ⟨gh, 0, none⟩ 8 ch (wos (stL s)) rfl rfl (wos_at HHW.out) (wos_one _) (maxLen_small (by decide)) (by decide) (by simp; omega) ?_)
  intro v3 w3 hown3 hgrow3 _
  have B3 := Lib.hid (grown_below (B2.out.alloc hsz2 _) (ownW_empty W2 B hsz2) (by simp; omega) hgrow3)
  have hO3 : OwnW w3 B v3 (stL s) := hown3
  obtain ⟨g7, c7, ev7, hg7, hgl7, _⟩ := hO3.addr (k := 8) rfl (by decide)
  subst ev7
  have S7 := Lib.hid (hO3.slw hgl7)
  have hkeep : ∀ g l, WordsAt W2 g l → WordsAt w3 g l := fun g l h => by
    have hne : g ≠ W2.heap.size := by have := h.1; omega
    have hlt := h.1
    have h1 : (W2.alloc (.cells #[] 45)).heap[g]? = W2.heap[g]? := block_old _ _ hlt
    have h2 : w3.heap[g]? = W2.heap[g]? := by rw [hgrow3.block g (by simp; omega) (by simp [Value.ownBlock]; omega), h1]
    refine ⟨by have := hgrow3.size; simp at this; omega, fun i hi => ?_⟩
    rw [World.cell?_of_block (w := W2) h2]; exact h.2 i hi
  have H5w := Lib.hid (hkeep _ _ H5'.out)
  have H6w := Lib.hid (hkeep _ _ H6.out)
  have hsz3 : B ≤ w3.heap.size := by have := hgrow3.size; simp at this; omega
  clear hown3 hO3 hgrow3 hkeep HHW H5' H6 B2 hs1 hs2 hsz2
  go_wp2_with fail
  go_loopw [7, 8] (fun v t wr => ∃ (k g c : Nat) (r : St), k ≤ 64 ∧ t = .int .i64 k ∧ r = srnds (sch C) s k ∧ v = .slice (some ⟨g, 0, none⟩) 8 c ∧ SlW wr g (stL r) ∧ B ≤ g ∧ Below w3.heap.size w3 wr) (fun _ t _ => 64 - (intOf t).toNat)
  case atStart => exact ⟨0, g7, c7, s, by decide, rfl, rfl, rfl, S7.out, hg7, Below.refl _ _⟩
  case round =>
    obtain ⟨k, g, c, r, hk, rfl, hr, rfl, hsl, hgB, hbel⟩ := hrel
    have hkk : (0 : Int) ≤ (k : Int) := by omega
    by_cases hk64 : k < 64
    · have hk1 : (k : Int) < 64 := by omega
      have hgl := hsl.1.1
      have hc0 : wr.cell? ⟨g, 0, none⟩ = some (.int .u32 r.a) := hsl.1.2 0 (show 0 < 8 by decide)
      have hc1 : wr.cell? ⟨g, 1, none⟩ = some (.int .u32 r.b) := hsl.1.2 1 (show 1 < 8 by decide)
      have hc2 : wr.cell? ⟨g, 2, none⟩ = some (.int .u32 r.c) := hsl.1.2 2 (show 2 < 8 by decide)
      have hc3 : wr.cell? ⟨g, 3, none⟩ = some (.int .u32 r.d) := hsl.1.2 3 (show 3 < 8 by decide)
      have hc4 : wr.cell? ⟨g, 4, none⟩ = some (.int .u32 r.e) := hsl.1.2 4 (show 4 < 8 by decide)
      have hc5 : wr.cell? ⟨g, 5, none⟩ = some (.int .u32 r.f) := hsl.1.2 5 (show 5 < 8 by decide)
      have hc6 : wr.cell? ⟨g, 6, none⟩ = some (.int .u32 r.g) := hsl.1.2 6 (show 6 < 8 by decide)
      have hc7 : wr.cell? ⟨g, 7, none⟩ = some (.int .u32 r.h) := hsl.1.2 7 (show 7 < 8 by decide)
      have h5 := H5w.out.grow hbel
      have h6 := H6w.out.grow hbel
      have hl5 := h5.1
      have hl6 := h6.1
      have hcw := h5.2 k (by rw [sch_length]; exact hk64)
      have hck := h6.2 k (by rw [Ks_length]; exact hk64)
      generalize eK : Ks.getD k 0 = kk at hck
      generalize eW : (sch C).getD k 0 = ww at hcw
      have Hr := Lib.hid (show srnd r kk ww = srnds (sch C) s (k + 1) by rw [hr, ← eK, ← eW]; rfl)
      have Hbel := Lib.hid hbel
      have hsz : B ≤ wr.heap.size := by have := hbel.size; omega
      clear eK eW hr h5 h6 hsl hbel
      go_wp2_with fail
      refine wp_region_fast (fun w' => ∃ o d, w' = wr.plus o d) (by kernel_rfl) (by kernel_rfl) ⟨#[], _, rfl⟩ ?_
      iterate 8 (refine wpHold_val ⟨_, #[], 0, rfl⟩ (wanted_none rfl) (by rintro K _ ⟨o, d, rfl⟩ hK; go_simp; exact hK _ ⟨o, d, rfl⟩) ?_)
      refine wpHold_nil ?_
      rintro _ ⟨o1, n1, rfl⟩
      go_wp2_with fail
      refine wp_region_fast (fun w' => ∃ o d, w' = wr.plus o d) (by kernel_rfl) (by kernel_rfl) ⟨_, _, rfl⟩ ?_
      iterate 4 (refine wpHold_val ⟨_, #[], 0, rfl⟩ (wanted_none rfl) (by rintro K _ ⟨o, d, rfl⟩ hK; go_simp; exact hK _ ⟨o, d, rfl⟩) ?_)
      refine wpHold_call (v := .int .u32 (rotr r.e 6)) (wanted_none rfl) (by rintro K _ ⟨o, d, rfl⟩ hK; go_simp; refine (turn_6 _ _).mono ?_; rintro e w' ⟨rfl, rfl⟩; exact ⟨_, rfl, hK _ ⟨o, d, rfl⟩⟩) ?_
      refine wpHold_val ⟨_, #[], 0, rfl⟩ (wanted_none rfl) (by rintro K _ ⟨o, d, rfl⟩ hK; go_simp; exact hK _ ⟨o, d, rfl⟩) ?_
      refine wpHold_call (v := .int .u32 (rotr r.e 11)) (wanted_none rfl) (by rintro K _ ⟨o, d, rfl⟩ hK; go_simp; refine (turn_11 _ _).mono ?_; rintro e w' ⟨rfl, rfl⟩; exact ⟨_, rfl, hK _ ⟨o, d, rfl⟩⟩) ?_
      iterate 2 (refine wpHold_val ⟨_, #[], 0, rfl⟩ (wanted_none rfl) (by rintro K _ ⟨o, d, rfl⟩ hK; go_simp; exact hK _ ⟨o, d, rfl⟩) ?_)
      refine wpHold_call (v := .int .u32 (rotr r.e 25)) (wanted_none rfl) (by rintro K _ ⟨o, d, rfl⟩ hK; go_simp; refine (turn_25 _ _).mono ?_; rintro e w' ⟨rfl, rfl⟩; exact ⟨_, rfl, hK _ ⟨o, d, rfl⟩⟩) ?_
      iterate 26 (refine wpHold_val ⟨_, #[], 0, rfl⟩ (wanted_none rfl) (by rintro K _ ⟨o, d, rfl⟩ hK; go_simp; exact hK _ ⟨o, d, rfl⟩) ?_)
      refine wpHold_nil ?_
      rintro _ ⟨o2, n2, rfl⟩
      generalize e1 : add32 (add32 (add32 (add32 r.h (x32 (x32 (rotr r.e 6) (rotr r.e 11)) (rotr r.e 25))) (x32 (a32 r.e r.f) (a32 (n32 r.e) r.g))) kk) ww = t1
      have He1 := Lib.hid (show T1 r kk ww = t1 from e1)
      clear e1
      go_wp2_with fail
      refine wp_region_fast (fun w' => ∃ o d, w' = wr.plus o d) (by kernel_rfl) (by kernel_rfl) ⟨_, _, rfl⟩ ?_
      refine wpHold_val ⟨_, #[], 0, rfl⟩ (wanted_none rfl) (by rintro K _ ⟨o, d, rfl⟩ hK; go_simp; exact hK _ ⟨o, d, rfl⟩) ?_
      refine wpHold_call (v := .int .u32 (rotr r.a 2)) (wanted_none rfl) (by rintro K _ ⟨o, d, rfl⟩ hK; go_simp; refine (turn_2 _ _).mono ?_; rintro e w' ⟨rfl, rfl⟩; exact ⟨_, rfl, hK _ ⟨o, d, rfl⟩⟩) ?_
      refine wpHold_val ⟨_, #[], 0, rfl⟩ (wanted_none rfl) (by rintro K _ ⟨o, d, rfl⟩ hK; go_simp; exact hK _ ⟨o, d, rfl⟩) ?_
      refine wpHold_call (v := .int .u32 (rotr r.a 13)) (wanted_none rfl) (by rintro K _ ⟨o, d, rfl⟩ hK; go_simp; refine (turn_13 _ _).mono ?_; rintro e w' ⟨rfl, rfl⟩; exact ⟨_, rfl, hK _ ⟨o, d, rfl⟩⟩) ?_
      iterate 2 (refine wpHold_val ⟨_, #[], 0, rfl⟩ (wanted_none rfl) (by rintro K _ ⟨o, d, rfl⟩ hK; go_simp; exact hK _ ⟨o, d, rfl⟩) ?_)
      refine wpHold_call (v := .int .u32 (rotr r.a 22)) (wanted_none rfl) (by rintro K _ ⟨o, d, rfl⟩ hK; go_simp; refine (turn_22 _ _).mono ?_; rintro e w' ⟨rfl, rfl⟩; exact ⟨_, rfl, hK _ ⟨o, d, rfl⟩⟩) ?_
      iterate 22 (refine wpHold_val ⟨_, #[], 0, rfl⟩ (wanted_none rfl) (by rintro K _ ⟨o, d, rfl⟩ hK; go_simp; exact hK _ ⟨o, d, rfl⟩) ?_)
      refine wpHold_nil ?_
      rintro _ ⟨o3, n3, rfl⟩
      generalize e2 : add32 (x32 (x32 (rotr r.a 2) (rotr r.a 13)) (rotr r.a 22)) (x32 (x32 (a32 r.a r.b) (a32 r.a r.c)) (a32 r.b r.c)) = t2
      have He2 := Lib.hid (show T2 r = t2 from e2)
      clear e2
      go_wp2_with fail
      refine wp_region_pick wr [0, 1, 2, 3, 4, 5, 6, 7, 8, 9, 10, 11, 12, 13, 14, 15, 16, 17, 18, 19, 20, 21, 22, 23, 24, 25] [false, false, false, false, false, false, false, false, false, false, false, false, false, false, false, false, false, false, false, false, false, false, false, false, false, false] [] [] 26 (by kernel_rfl) rfl (by kernel_rfl) (by intro c a d v w h; cases d <;> exact h) ((below_more (Below.refl _ _) _ _).drew) ?_
      simp only [pick, List.getElem?_cons_succ, List.getElem?_cons_zero, List.drop_succ_cons, List.drop_zero]
      iterate 26 (refine wpHoldF_val (wanted_none rfl) (by intro K o d hK; go_simp; exact hK _ (Below.refl _ _)) ?_)
      refine wpHoldF_nil ?_
      intro w2 hb2 _
      have eR : srnd r kk ww = ⟨add32 t1 t2, r.a, r.b, r.c, add32 r.d t1, r.e, r.f, r.g⟩ := by unfold srnd; rw [He1.out, He2.out]
      have HS2 := Lib.hid (show SlW (w2.alloc (.cells (stA ⟨add32 t1 t2, r.a, r.b, r.c, add32 r.d t1, r.e, r.f, r.g⟩) 45)) w2.heap.size (stL (srnd r kk ww)) by rw [eR]; exact SlW.new w2 _)
      clear eR
      have HB2 := Lib.hid ((Hbel.out.trans (hb2.mono Hbel.out.size)).alloc (by have := Hbel.out.size; have := hb2.size; omega) (.cells (stA ⟨add32 t1 t2, r.a, r.b, r.c, add32 r.d t1, r.e, r.f, r.g⟩) 45))
      have hBw2 : B ≤ w2.heap.size := by have := hb2.size; omega
      clear hb2
      go_wp2_with fail
      go_roundw
      case rel =>
        first
        | exact ⟨k + 1, _, _, srnd r kk ww, by omega, by go_num, Hr.out, rfl, HS2.out, hBw2, HB2.out⟩
        | exact ⟨_, _, _, _, _, _, _, _, _, _, _, _, _, _, _, _, _, _, _, _, _, _, _, _, _, _, _, _, _, _, _, _, _, _, _, _, _, _, _, _, _, _, _, _, _, _, _, _, _, _, _, _, _, _, _, _, _, _, _, _, _, _, _, _, _, _, _, _, _, _, _, _, _, _, _, _, _, _, _, _, _, _, _, _, _, _, _, _, _, _, _, _, _, _, _, _, _, _, _, _, _, _, _, _, _, _, ⟨k + 1, _, _, srnd r kk ww, by omega, by go_num, Hr.out, rfl, HS2.out, hBw2, HB2.out⟩, rfl⟩
      case measure => simp [intOf]; omega
    · obtain rfl : k = 64 := by omega
      have Hr := Lib.hid hr
      have S8 := Lib.hid hsl
      have hgl := hsl.1.1
      have B4 := Lib.hid (B3.out.trans (hbel.mono hsz3))
      have hsz : B ≤ wr.heap.size := by have := hbel.size; omega
      clear hr hsl hbel
      go_wp2_with fail
      obtain ⟨W4, eW4⟩ : ∃ x, x = wr := ⟨_, rfl⟩
      rw [← eW4] at S8 B4 hgl hsz ⊢
      clear eW4
      go_loopw [13] (fun i wr => ∃ k : Nat, k ≤ 8 ∧ i = .int .i64 k ∧ SlW wr g (mixW s r k) ∧ Below B w wr ∧ B ≤ wr.heap.size) (fun i _ => 8 - (intOf i).toNat)
      case atStart => exact ⟨0, by decide, rfl, S8.out, B4.out, hsz⟩
      case round =>
        obtain ⟨k, hk, rfl, hsl, hbel, hsz⟩ := hrel
        have hkk : (0 : Int) ≤ (k : Int) := by omega
        by_cases hk8 : k < 8
        · have hk1 : (k : Int) < 8 := by omega
          have hgl := hsl.1.1
          have hca := hsl.1.2 k (by rw [mixW_length]; exact hk8)
          rw [mixW_get _ _ _ _ hk8, if_neg (by omega)] at hca
          have hcb : wr.cell? ⟨gh, k, none⟩ = some (.int .u32 ((stL s).getD k 0)) := by rw [hbel.cell hghB]; exact HH.out.2 k hk8
          have hghl : gh < wr.heap.size := by omega
          have Hset := Lib.hid (mixW_set s r k hk8)
          generalize (stL r).getD k 0 = xr at hca Hset
          generalize (stL s).getD k 0 = xs at hcb Hset
          have HS := Lib.hid hsl
          have Hbel := Lib.hid hbel
          clear hsl hbel
          go_wp2_with fail
          refine wp_region_pick wr [0, 1, 2, 3, 4, 5, 6, 7, 8, 9, 10, 11] [false, false, false, false, false, false, false, false, false, false, false, false] [] [] 12 (by kernel_rfl) rfl (by kernel_rfl) (by intro c a d v w h; cases d <;> exact h) ((Below.refl _ _).drew) ?_
          simp only [pick, List.getElem?_cons_succ, List.getElem?_cons_zero, List.drop_succ_cons, List.drop_zero]
          iterate 12 (refine wpHoldF_val (wanted_none rfl) (by intro K o d hK; go_simp; exact hK _ (Below.refl _ _)) ?_)
          refine wpHoldF_nil ?_
          intro w2 hb2 _
          have HS2 := Lib.hid (HS.out.grow hb2)
          have hcc : w2.cell? ⟨g, k, none⟩ = some (.int .u32 xr) := by rw [hb2.cell hgl]; exact hca
          have hff := HS2.out.2 k (by rw [mixW_length]; exact hk8)
          have HB2 := Lib.hid (Hbel.out.trans (hb2.mono hsz))
          have hsz2 : B ≤ w2.heap.size := by have := hb2.size; omega
          clear hb2 hca hcb
          go_wp2_with fail
          go_roundw
          case rel =>
            have h1 := HS2.out.set (i := k) (x := add32 xr xs) (by rw [mixW_length]; exact hk8)
            rw [Hset.out] at h1
            exact ⟨_, _, _, _, _, _, _, _, _, _, _, _, _, _, _, _, _, ⟨k + 1, by omega, by go_num, h1, HB2.out.setCell (p := ⟨_, _, none⟩) hgB _, by rw [World.size_setCell]; exact hsz2⟩, rfl⟩
          case measure => simp [intOf]; omega
        · obtain rfl : k = 8 := by omega
          rw [mixW_all] at hsl
          have HS := Lib.hid hsl
          have Hbel := Lib.hid hbel
          clear hsl hbel
          go_wp2_with fail
          go_ret
          exact ⟨_, _, rfl, by have h := HS.out.1; rw [Hr.out] at h; exact h, by rw [← EB.out]; exact Hbel.out⟩
end Go.Proofs.YtnemlmlfhhahgaaDoor

/-
  The reference of layer 3: the digest of bytes.
-/
namespace Go.Proofs.YtnemlmlfhhahgaaDoor
open Go.RowKit Go.Hold Go.Sh

theorem slB_lh (b o len cap lo hi : Nat) (h : lo ≤ hi) (h' : hi ≤ cap) (w : World) : (slB (.slice (some ⟨b, o, none⟩) len cap) (some (.int .i64 (lo : Int))) (some (.int .i64 (hi : Int))) none).run Tryd.prog w = .ok (.slice (some ⟨b, adv o lo cap, none⟩) (hi - lo) (cap - lo)) w := by
  unfold slB
  rw [run_sliceAt_slice _ _ _ _ _ _ elem8, run_slice_lh _ _ _ _ _ elem8 _ _ _ _ (by omega) (by omega) (by omega), size8]
  unfold adv
  by_cases e : cap = lo
  · simp [sliced, Result.andThen, e]
  · simp [sliced, Result.andThen, e, Addr.add_mid]
theorem pad_bts {l : List Nat} (h : ∀ i, l.getD i 0 < 256) : ∀ i, (pad l).getD i 0 < 256 := by
  unfold pad
  refine bts_app (bts_app h (getD_lt fun x hx => ?_)) (bts_len8 _)
  rcases List.mem_cons.1 hx with rfl | hx
  · decide
  · exact mem_lt (bts_zs _) x hx
theorem BytesAt.mid {w : World} {b o : Nat} {l : List Nat} (h : BytesAt w b o l) (n k : Nat) : BytesAt w b (o + n) ((l.drop n).take k) := by
  refine ⟨h.1, fun i hi => ?_⟩
  rw [List.length_take, List.length_drop] at hi
  rw [Nat.add_assoc, h.2 (n + i) (by omega)]
  simp [List.getD, List.getElem?_drop, show i < k by omega]
theorem WordsAt.word {w : World} {g : Nat} {s : St} (h : WordsAt w g (stL s)) (j : Nat) (hj : j < 8) : w.cell? ⟨g, j, none⟩ = some (.int .u32 (sWord s j)) := by
  rw [h.2 j hj]
  have : j = 0 ∨ j = 1 ∨ j = 2 ∨ j = 3 ∨ j = 4 ∨ j = 5 ∨ j = 6 ∨ j = 7 := by omega
  rcases this with rfl | rfl | rfl | rfl | rfl | rfl | rfl | rfl <;> rfl

set_option maxHeartbeats 1000000 in
set_option maxRecDepth 100000 in
theorem rsum_c (cap : Nat) (p : Option Addr) (l : List Nat) (w : World) (hl : l.length ≤ 100000) (hlb : ∀ i, l.getD i 0 < 256) (hB : Bs0 w p l) (hpc : p = none → cap = 0) :
    Calls Tryd.prog 41 #[.slice p l.length cap] w fun e w' => e = .returned (.agg (keA (dig l))) ∧ Below w.heap.size w w' := by
  have HB := Lib.hid hB
  have Hpl := Lib.hid (pad_length l)
  have Hpb := Lib.hid (pad_bts hlb)
  have hpl : (pad l).length ≤ 200000 := by rw [Hpl.out]; omega
  obtain ⟨N, eN⟩ : ∃ N, N = (pad l).length := ⟨_, rfl⟩
  obtain ⟨M, eM⟩ : ∃ M, M = (l.length + 72) / 64 := ⟨_, rfl⟩
  have hNM : N = 64 * M := by rw [eN, eM]; exact Hpl.out
  rw [← eN] at hpl
  have EN := Lib.hid eN
  have HP := Lib.hid (fun ob => padded_c cap p l (w.alloc ob) hl (hB.grow (below_alloc (Below.refl _ _) _)) hpc)
  have hrun : dig l = hruns st0 (pad l) M := by unfold dig hrun; rw [← eN, hNM, show 64 * M / 64 = M by omega]
  obtain ⟨D, eD⟩ : ∃ D, D = dig l := ⟨_, rfl⟩
  rw [← eD] at hrun ⊢
  have Hrun := Lib.hid hrun
  have HNM := Lib.hid hNM
  clear hB hrun eM eN hNM eD
  obtain ⟨n, en⟩ : ∃ n, n = l.length := ⟨_, rfl⟩
  rw [← en] at HP ⊢
  clear en hl
  go_enter Tryd.func41, Tryd.ntmps41
  go_wp2_with fail
  refine (HP.out _).mono ?_
  rintro e W1 ⟨g, c, rfl, hby, hcap, hb1⟩
  have hR1 := Lib.hid (show RowAt W1 w.heap.size (byI (keyZ st0 0)) from RowAt.grow (RowAt.of (block_new w _)) hb1)
  have B1 := Lib.hid ((below_alloc (Below.refl w.heap.size w) _).trans (hb1.mono (by simp)))
  have HY1 := Lib.hid hby
  rw [← EN.out] at hcap ⊢
  clear hby hb1 HP
  go_wp2_with fail
  refine (first_c _).mono ?_
  rintro e W2 ⟨g4, rfl, hrow4, _, hb2⟩
  have hR2 := Lib.hid (hR1.out.grow hb2)
  have B2 := Lib.hid (B1.out.trans (hb2.mono B1.out.size))
  have HY2 := Lib.hid (HY1.out.grow hb2)
  have HW2 := Lib.hid (show WordsAt W2 g4 (stL st0) from words_row hrow4)
  clear hrow4 hb2 hR1 B1 HY1
  go_wp2_with fail
  go_loopw [4, 5] (fun v t wr => ∃ j g4 c4 i : Nat, j ≤ M ∧ i = 64 * j ∧ t = .int .i64 i ∧ v = .slice (some ⟨g4, 0, none⟩) 8 c4 ∧ WordsAt wr g4 (stL (hruns st0 (pad l) j)) ∧ Below W2.heap.size W2 wr) (fun _ t _ => N - (intOf t).toNat)
  case atStart => exact ⟨0, g4, 8, 0, Nat.zero_le _, rfl, rfl, rfl, HW2.out, Below.refl _ _⟩
  case round =>
    obtain ⟨j, g4, c4, i, hj, hij, rfl, rfl, hwd, hbel⟩ := hrel
    have hi0 : (0 : Int) ≤ (i : Int) := by omega
    have hNM := HNM.out
    by_cases hjM : j < M
    · have hlt : (i : Int) < (N : Int) := by omega
      obtain ⟨i2, ei2⟩ : ∃ y, y = i + 64 := ⟨_, rfl⟩
      have hw1 : IntKind.i64.wrap ((i : Int) + 64) = (i2 : Int) := by rw [IntWalk.i64_in _ (by omega)]; omega
      have hsl := slB_lh g 0 N c i i2 (by omega) (by omega)
      rw [show i2 - i = 64 by omega] at hsl
      have hY := HY2.out.grow hbel
      have hadv : adv 0 i c = i := by unfold adv; rw [if_neg (by omega), Nat.zero_add]
      rw [hadv] at hsl
      obtain ⟨c6, ec6⟩ : ∃ y, y = c - i := ⟨_, rfl⟩
      rw [← ec6] at hsl
      have HBl := Lib.hid (block_c g4 c4 g i c6 (hruns st0 (pad l) j) (((pad l).drop (64 * j)).take 64) wr hwd (by rw [List.length_take, List.length_drop, ← EN.out]; omega) (bts_take (bts_drop Hpb.out _) _) (by have h := hY.mid (64 * j) 64; rw [← hij, Nat.zero_add] at h; rw [← hij]; exact h))
      have Hbel := Lib.hid hbel
      have Hij := Lib.hid hij
      have Hi2 := Lib.hid ei2
      clear hwd hbel hY hadv ec6 hij ei2 hNM
      go_wp2_with fail
      refine HBl.out.mono ?_
      rintro e W5 ⟨g5, c5, rfl, hwd5, hb5⟩
      have HW5 := Lib.hid (show WordsAt W5 g5 (stL (hruns st0 (pad l) (j + 1))) from hwd5)
      have HB5 := Lib.hid (Hbel.out.trans (hb5.mono Hbel.out.size))
      clear hwd5 hb5 HBl
      go_wp2_with fail
      go_roundw
      case rel => exact ⟨j + 1, g5, c5, i2, by omega, by have := Hij.out; have := Hi2.out; omega, rfl, rfl, HW5.out, HB5.out⟩
      case measure => have := Hi2.out; have := HNM.out; have := Hij.out; simp [intOf]; omega
    · obtain rfl : j = M := by omega
      have hlt : ¬ (i : Int) < (N : Int) := by omega
      have HW := Lib.hid hwd
      have hR3 := Lib.hid (hR2.out.grow hbel)
      have B3 := Lib.hid (B2.out.trans (hbel.mono B2.out.size))
      rw [← Hrun.out] at HW
      have hsb := B3.out.size
      clear hwd hbel hNM hij
      go_wp2_with fail
      generalize hW : World.alloc _ _ = W6
      have K6 := Lib.hid (show RowAt W6 wr.heap.size (byI (keyZ D 0)) by rw [← hW]; clear hW; exact ⟨by go_simp, by go_simp; rfl, by go_simp⟩)
      have R6 := Lib.hid (show RowAt W6 w.heap.size (byI (keyZ st0 0)) by rw [← hW]; exact hR3.out.grow (below_alloc (Below.refl _ _) _))
      have HW6 := Lib.hid (show WordsAt W6 g4 (stL D) by rw [← hW]; exact HW.out.grow (below_alloc (Below.refl _ _) _))
      have B6 := Lib.hid (show Below w.heap.size w W6 by rw [← hW]; exact below_alloc B3.out _)
      have hr6 : w.heap.size < wr.heap.size := hR3.out.2.2
      have hg6 : g4 < wr.heap.size := HW.out.1
      clear hW
      generalize wr.heap.size = x at *
      clear hR3 HW B3
      go_loopw [7] (fun i wr => ∃ k : Nat, k ≤ 32 ∧ i = .int .i64 k ∧ RowAt wr x (byI (keyZ D k)) ∧ Below x W6 wr) (fun i _ => 32 - (intOf i).toNat)
      case atStart => exact ⟨0, by decide, rfl, K6.out, Below.refl _ _⟩
      case round =>
        obtain ⟨k, hk, rfl, hrow, hbel⟩ := hrel
        by_cases hk32 : k < 32
        · have hk0 : (0 : Int) ≤ (k : Int) := by omega
          have hk1 : (k : Int) < 32 := by omega
          have hq : (k : Int).tdiv 4 = ((k / 4 : Nat) : Int) := rfl
          have hm := cast_tmod k
          have hc := HW6.out.word (k / 4) (by omega)
          rw [← hbel.cell hg6] at hc
          have hck := hrow.cellAt k (byI_get _ _ (keyZ_get D k k hk32))
          have hfk := hrow.frozenAt k
          have Hset := Lib.hid (keyZ_set D k hk32)
          have h0 : (0 : Int) ≤ ((k / 4 : Nat) : Int) := by omega
          have h8 : ((k / 4 : Nat) : Int) < 8 := by omega
          obtain ⟨m, em⟩ : ∃ y, y = k % 4 * 8 := ⟨_, rfl⟩
          obtain ⟨y, ey⟩ : ∃ y, y = 24 - k % 4 * 8 := ⟨_, rfl⟩
          have h1 : IntKind.i64.wrap (8 * ((k % 4 : Nat) : Int)) = (m : Int) := by rw [IntWalk.i64_in _ (by omega)]; omega
          have h2 : IntKind.i64.wrap (24 - (m : Int)) = (y : Int) := by rw [IntWalk.i64_in _ (by omega)]; omega
          have h3 : IntKind.u64.wrap (y : Int) = (y : Int) := by rw [IntWalk.u64_in _ (by omega)]
          have hy0 : (0 : Int) ≤ (y : Int) := by omega
          have hy1 : (y : Int) ≤ 32 := by omega
          obtain ⟨v, ev⟩ : ∃ v, v = sByte D k := ⟨_, rfl⟩
          rw [← ev] at Hset
          unfold sByte at ev
          rw [← ey] at ev
          have hv := ev.symm
          clear em ey ev
          generalize sWord D (k / 4) = z at hc hv
          generalize k / 4 = q at *
          generalize k % 4 = r4 at *
          have Hrow := Lib.hid hrow
          have Hbel := Lib.hid hbel
          clear hrow hbel
          go_wp2_with fail
          go_roundw
          case rel =>
            refine ⟨k + 1, by omega, by go_num, ?_, ?_⟩
            · rw [← Hset.out, ← byI_set]; exact Hrow.out.setCell _ _
            · exact Hbel.out.setCell (p := ⟨_, _, none⟩) (Nat.le_refl _) _
          case measure => simp [intOf]; omega
        · obtain rfl : k = 32 := by omega
          rw [keyZ_all] at hrow
          have hr : RowAt wr x (keA D) := hrow
          obtain ⟨q1, q2, q3⟩ := R6.out.keep hbel hr6
          obtain ⟨r1, r2, r3⟩ := hr
          have hz : (byI (keyZ st0 0)).size = 32 := by rw [byI_size, keyZ_length]
          have Hbel := Lib.hid hbel
          have hne : ¬ w.heap.size = x := by omega
          clear hrow hbel
          go_wp2_with fail
          refine bodyPost_ret (v := .agg (keA D)) (results_key Tryd.results41 (keA_size D) _ _ _ rfl (by go_simp) (by go_simp)) rfl ⟨rfl, ?_⟩
          exact below_setRow (B6.out.trans (Hbel.out.mono (by omega))) (Nat.le_refl _) _
end Go.Proofs.YtnemlmlfhhahgaaDoor

/-
  The reference of layer 4: the tag.
-/
namespace Go.Proofs.YtnemlmlfhhahgaaDoor
open Go.RowKit Go.Hold Go.Sh

set_option maxHeartbeats 800000 in
set_option maxRecDepth 100000 in
theorem rmac_c (kc bc nk nb : Nat) (kp bp : Option Addr) (k b : List Nat) (w : World) (hnk : nk = k.length) (hnb : nb = b.length) (hk : k.length ≤ 90000) (hkb : ∀ i, k.getD i 0 < 256) (hkB : Bs0 w kp k) (hkp : kp = none → kc = 0)
    (hb : b.length ≤ 90000) (hbb : ∀ i, b.getD i 0 < 256) (hbB : Bs0 w bp b) (hbp : bp = none → bc = 0) :
    Calls Tryd.prog 29 #[.slice kp nk kc, .slice bp nb bc] w fun e w' => e = .returned (.agg (keA (mac k b))) ∧ Below w.heap.size w w' := by
  have HkB := Lib.hid hkB
  have HbB := Lib.hid hbB
  have Hkp := Lib.hid hkp
  have Hbp := Lib.hid hbp
  have Hkb := Lib.hid hkb
  have Hbb := Lib.hid hbb
  have Enk := Lib.hid hnk
  have Enb := Lib.hid hnb
  have Hk := Lib.hid hk
  have Hb := Lib.hid hb
  obtain ⟨M, eM⟩ : ∃ M, M = mac k b := ⟨_, rfl⟩
  rw [← eM]
  unfold mac at eM
  have HFb := Lib.hid (fillK_bts hkb)
  have HFl := Lib.hid (fillK_length k)
  have HFs := Lib.hid (show fillK k = if 64 < k.length then keyN (dig k) ++ zs 32 else k ++ zs (64 - k.length) from rfl)
  have EM := Lib.hid eM
  generalize fillK k = F at *
  clear hkB hbB hkp hbp hkb hbb hnk hnb hk hb eM
  by_cases h64 : 64 < nk
  · have h64' : (64 : Int) < (nk : Int) := by omega
    go_enter Tryd.func29, Tryd.ntmps29
    go_wp2_with fail
    generalize hW : World.alloc _ _ = W0
    obtain ⟨z0, hz0, hR0⟩ : ∃ c, c.size = 32 ∧ RowAt W0 w.heap.size c := by rw [← hW]; clear hW; exact ⟨byI (List.replicate 32 0), by simp [byI], by go_simp, by go_simp; rfl, by go_simp⟩
    have R0 := Lib.hid hR0
    have B0 := Lib.hid (show Below w.heap.size w W0 by rw [← hW]; exact below_alloc (Below.refl _ _) _)
    clear hW hR0
    have HS := rsum_c kc kp k W0 (by have := Hk.out; omega) Hkb.out (HkB.out.grow B0.out) Hkp.out
    rw [← Enk.out] at HS
    obtain ⟨D, eD⟩ : ∃ D, D = dig k := ⟨_, rfl⟩
    rw [← eD] at HS
    have HFk := Lib.hid (show F = keyN D ++ zs (64 - 32) by rw [HFs.out, if_pos (by rw [← Enk.out]; exact h64), eD])
    clear eD
    refine HS.mono ?_
    rintro e W1 ⟨rfl, hb1⟩
    have R1 := Lib.hid (R0.out.grow hb1)
    have B1 := Lib.hid (B0.out.trans (hb1.mono B0.out.size))
    clear hb1 R0 HS
    go_wp2_with fail
    have HBy := rbytes_c (keyN D) (keyN_length D) W1
    rw [← keA_bys] at HBy
    refine HBy.mono ?_
    rintro e W2 ⟨v, rfl, hown, hb2⟩
    obtain ⟨pk, ck, rfl, hBk, hck, hpk⟩ := hown.bs
    rw [keyN_length] at hck ⊢
    obtain ⟨n1, en1⟩ : ∃ n, n = 32 := ⟨_, rfl⟩
    rw [← en1] at hck HFk ⊢
    have En1 := Lib.hid (show n1 = (keyN D).length by rw [keyN_length]; exact en1)
    have HK := Lib.hid hBk
    have R2 := Lib.hid (R1.out.grow hb2)
    have B2 := Lib.hid (B1.out.trans (hb2.mono B1.out.size))
    clear hb2 R1 HBy hown hBk hck hpk en1
    go_wp2_with fail
    have hxl54 := Lib.hid (show (xorL 54 F).length = 64 by rw [xorL_length, HFl.out])
    have hxl92 := Lib.hid (show (xorL 92 F).length = 64 by rw [xorL_length, HFl.out])
    go_loopw [5, 6, 7] (fun v u i wr => ∃ j : Nat, j ≤ 64 ∧ i = .int .i64 j ∧ OwnB wr W2.heap.size v ((xorL 54 F).take j) ∧ OwnB wr W2.heap.size u ((xorL 92 F).take j) ∧ Apart v u ∧ Below W2.heap.size W2 wr) (fun _ _ i _ => 64 - (intOf i).toNat)
    case atStart => exact ⟨0, by decide, rfl, own_nil W2 _, own_nil W2 _, .inl rfl, Below.refl _ _⟩
    case round =>
      obtain ⟨j, hj, rfl, hov, hou, hap, hbel⟩ := hrel
      by_cases hj64 : j < 64
      · have hj0 : (0 : Int) ≤ (j : Int) := by omega
        have hj1 : (j : Int) < 64 := by omega
        have hjF : j < F.length := by rw [HFl.out]; exact hj64
        have ht1 := take_one (xorL 54 F) j (by rw [xorL_length]; exact hjF)
        have ht2 := take_one (xorL 92 F) j (by rw [xorL_length]; exact hjF)
        rw [xorL_get 54 F j hjF] at ht1
        rw [xorL_get 92 F j hjF] at ht2
        have hx1 : bits .xor .u8 ((F.getD j 0 : Nat) : Int) 54 = ((F.getD j 0 ^^^ 54 : Nat) : Int) := u8_xor_nat (F.getD j 0) 54 (HFb.out j) (by decide)
        have hx2 : bits .xor .u8 ((F.getD j 0 : Nat) : Int) 92 = ((F.getD j 0 ^^^ 92 : Nat) : Int) := u8_xor_nat (F.getD j 0) 92 (HFb.out j) (by decide)
        obtain ⟨v', w1, u', w2, hr1, hr2, ho1, ho2, hap2, hb2⟩ := app_two (y := F.getD j 0 ^^^ 54) (z := F.getD j 0 ^^^ 92) hov hou hap hbel.size (by rw [List.length_take]; omega) (by rw [List.length_take]; omega)
        rw [ht1] at ho1
        rw [ht2] at ho2
        have Ho1 := Lib.hid ho1
        have Ho2 := Lib.hid ho2
        have Hap := Lib.hid hap2
        have Hb2 := Lib.hid (hbel.trans hb2)
        have hcF : j < n1 → wr.cell? ⟨(pk.getD ⟨0, 0, none⟩).block, (pk.getD ⟨0, 0, none⟩).off + j, none⟩ = some (.int .u8 ((F.getD j 0 : Nat) : Int)) ∧ pk = some ⟨(pk.getD ⟨0, 0, none⟩).block, (pk.getD ⟨0, 0, none⟩).off, none⟩ := fun hjn => by
          rcases HK.out.grow hbel with h | ⟨g, o, rfl, h⟩
          · exfalso; have := En1.out; rw [h] at this; simp at this; omega
          · refine ⟨?_, rfl⟩
            show wr.cell? ⟨g, o + j, none⟩ = _
            rw [h.2 j (by rw [← En1.out]; exact hjn), HFk.out]
            simp only [List.getD]
            rw [List.getElem?_append_left (by rw [← En1.out]; exact hjn)]
        have hF0 : ¬ j < n1 → F.getD j 0 = 0 := fun hjn => by
          rw [HFk.out]
          simp only [List.getD]
          rw [List.getElem?_append_right (by rw [← En1.out]; omega)]
          simp [zs, List.getElem?_replicate]
          split <;> rfl
        generalize F.getD j 0 = y at *
        generalize hy1 : y ^^^ 54 = y1 at *
        generalize hy2 : y ^^^ 92 = y2 at *
        clear ho1 ho2 hap2 hb2 hov hou hap hbel ht1 ht2 hjF
        by_cases hjn : j < n1
        · have hjn' : (j : Int) < (n1 : Int) := by omega
          obtain ⟨hc, hpk⟩ := hcF hjn
          generalize (pk.getD ⟨0, 0, none⟩).block = g at *
          generalize (pk.getD ⟨0, 0, none⟩).off = o at *
          subst hpk
          clear hcF hF0 hy1 hy2
          go_wp2_with (at_builtin; first | refine Lib.wpList_append_run _ rfl _ _ _ _ rfl _ _ rfl rfl _ _ hr1 ?_ | refine Lib.wpList_append_run _ rfl _ _ _ _ rfl _ _ rfl rfl _ _ hr2 ?_)
          go_wp2_with fail
          go_roundw
          case rel => exact ⟨j + 1, by omega, by go_num, Ho1.out, Ho2.out, Hap.out, Hb2.out⟩
          case measure => simp [intOf]; omega
        · have hjn' : ¬ (j : Int) < (n1 : Int) := by omega
          have hy0 := hF0 hjn
          have hx3 : bits .xor .u8 0 54 = (y1 : Int) := by rw [hy0] at hx1; exact hx1
          have hx4 : bits .xor .u8 0 92 = (y2 : Int) := by rw [hy0] at hx2; exact hx2
          clear hcF hF0 hy1 hy2 hx1 hx2 hy0
          go_wp2_with (at_builtin; first | refine Lib.wpList_append_run _ rfl _ _ _ _ rfl _ _ rfl rfl _ _ hr1 ?_ | refine Lib.wpList_append_run _ rfl _ _ _ _ rfl _ _ rfl rfl _ _ hr2 ?_)
          go_wp2_with fail
          go_roundw
          case rel => exact ⟨j + 1, by omega, by go_num, Ho1.out, Ho2.out, Hap.out, Hb2.out⟩
          case measure => simp [intOf]; omega
      · obtain rfl : j = 64 := by omega
        rw [List.take_of_length_le (by rw [hxl54.out]; exact Nat.le_refl _)] at hov
        rw [List.take_of_length_le (by rw [hxl92.out]; exact Nat.le_refl _)] at hou
        obtain ⟨pi, ci, rfl, hBi, _, hpi⟩ := hov.bs
        obtain ⟨po, co, rfl, hBo, _, hpo⟩ := hou.bs
        rw [hxl54.out, hxl92.out]
        have HBi := Lib.hid hBi
        have Hpi := Lib.hid hpi
        have HBo := Lib.hid hBo
        have Hpo := Lib.hid hpo
        have R3 := Lib.hid (R2.out.grow hbel)
        have B3 := Lib.hid (B2.out.trans (hbel.mono B2.out.size))
        clear hov hou hap hbel hBi hpi hBo hpo
        go_wp2_with fail
        refine (rjoin_c ci bc 64 nb pi bp (xorL 54 F) b wr hxl54.out.symm Enb.out HBi.out Hpi.out (HbB.out.grow B3.out) Hbp.out (by rw [hxl54.out]; have := Hb.out; omega)).mono ?_
        rintro e W4 ⟨v4, rfl, hown4, hb4⟩
        obtain ⟨p4, c4, rfl, hB4, _, hp4⟩ := hown4.bs
        have O4 := Lib.hid (HBo.out.grow hb4)
        have R4 := Lib.hid (R3.out.grow hb4)
        have B4 := Lib.hid (B3.out.trans (hb4.mono B3.out.size))
        obtain ⟨L1, eL1⟩ : ∃ L, L = xorL 54 F ++ b := ⟨_, rfl⟩
        rw [← eL1] at hB4 ⊢
        have HS1 := rsum_c c4 p4 L1 W4 (by rw [eL1, List.length_append, hxl54.out]; have := Hb.out; omega) (by rw [eL1]; exact bts_app (xorL_bts (by decide) HFb.out) Hbb.out) hB4 hp4
        obtain ⟨n4, en4⟩ : ∃ n, n = L1.length := ⟨_, rfl⟩
        obtain ⟨D1, eD1⟩ : ∃ D, D = dig L1 := ⟨_, rfl⟩
        rw [← en4, ← eD1] at HS1
        rw [← en4]
        have HS1 := Lib.hid HS1
        have ED1 := Lib.hid (show D1 = dig (xorL 54 F ++ b) by rw [eD1, eL1])
        clear hown4 hb4 hB4 hp4 en4 eD1 eL1 R3
        go_wp2_with fail
        refine HS1.out.mono ?_
        rintro e W5 ⟨rfl, hb5⟩
        have O5 := Lib.hid (O4.out.grow hb5)
        have R5 := Lib.hid (R4.out.grow hb5)
        have B5 := Lib.hid (B4.out.trans (hb5.mono B4.out.size))
        clear hb5 O4 R4 HS1
        go_wp2_with fail
        have HB1 := rbytes_c (keyN D1) (keyN_length D1) W5
        rw [← keA_bys] at HB1
        refine HB1.mono ?_
        rintro e W6 ⟨v6, rfl, hown6, hb6⟩
        obtain ⟨p6, c6, rfl, hB6, _, hp6⟩ := hown6.bs
        rw [keyN_length]
        have O6 := Lib.hid (O5.out.grow hb6)
        have R6 := Lib.hid (R5.out.grow hb6)
        have B6 := Lib.hid (B5.out.trans (hb6.mono B5.out.size))
        have HB6 := Lib.hid hB6
        have Hp6 := Lib.hid hp6
        clear hb6 O5 R5 HB1 hown6 hB6 hp6
        go_wp2_with fail
        refine (rjoin_c co c6 64 32 po p6 (xorL 92 F) (keyN D1) W6 hxl92.out.symm (keyN_length D1).symm O6.out Hpo.out HB6.out Hp6.out (by rw [hxl92.out, keyN_length]; decide)).mono ?_
        rintro e W7 ⟨v7, rfl, hown7, hb7⟩
        obtain ⟨p7, c7, rfl, hB7, _, hp7⟩ := hown7.bs
        have R7 := Lib.hid (R6.out.grow hb7)
        have B7 := Lib.hid (B6.out.trans (hb7.mono B6.out.size))
        obtain ⟨L2, eL2⟩ : ∃ L, L = xorL 92 F ++ keyN D1 := ⟨_, rfl⟩
        rw [← eL2] at hB7 ⊢
        have HS2 := rsum_c c7 p7 L2 W7 (by rw [eL2, List.length_append, hxl92.out, keyN_length]; decide) (by rw [eL2]; exact bts_app (xorL_bts (by decide) HFb.out) (keyN_bts _)) hB7 hp7
        rw [show dig L2 = M by rw [EM.out, eL2, ED1.out]] at HS2
        obtain ⟨n7, en7⟩ : ∃ n, n = L2.length := ⟨_, rfl⟩
        rw [← en7] at HS2 ⊢
        have HS2 := Lib.hid HS2
        clear hown7 hb7 hB7 hp7 en7 eL2 R6
        go_wp2_with fail
        refine HS2.out.mono ?_
        rintro e W8 ⟨rfl, hb8⟩
        obtain ⟨r1, r2, r3⟩ := R7.out.grow hb8
        have B8 := Lib.hid (B7.out.trans (hb8.mono B7.out.size))
        clear hb8 R7 HS2
        go_wp2_with fail
        refine bodyPost_ret (v := .agg (keA M)) (results_key Tryd.results29 (keA_size _) _ _ _ rfl (by go_simp) (by go_simp)) rfl ⟨rfl, ?_⟩
        exact below_setRow B8.out (Nat.le_refl _) _
  · have h64' : ¬ (64 : Int) < (nk : Int) := by omega
    have HFk := Lib.hid (show F = k ++ zs (64 - nk) by rw [HFs.out, if_neg (by rw [← Enk.out]; exact h64), Enk.out])
    go_enter Tryd.func29, Tryd.ntmps29
    go_wp2_with fail
    generalize hW : World.alloc _ _ = W2
    obtain ⟨z0, hz0, hR0⟩ : ∃ c, c.size = 32 ∧ RowAt W2 w.heap.size c := by rw [← hW]; clear hW; exact ⟨byI (List.replicate 32 0), by simp [byI], by go_simp, by go_simp; rfl, by go_simp⟩
    have R2 := Lib.hid hR0
    have B2 := Lib.hid (show Below w.heap.size w W2 by rw [← hW]; exact below_alloc (Below.refl _ _) _)
    clear hW hR0
    have HK := Lib.hid (HkB.out.grow B2.out)
    have En1 := Lib.hid Enk.out
    obtain ⟨pk, epk⟩ : ∃ y, y = kp := ⟨_, rfl⟩
    obtain ⟨n1, en1⟩ : ∃ y, y = nk := ⟨_, rfl⟩
    rw [← epk] at HK ⊢
    rw [← en1] at HFk En1 h64' ⊢
    clear epk en1
    have hxl54 := Lib.hid (show (xorL 54 F).length = 64 by rw [xorL_length, HFl.out])
    have hxl92 := Lib.hid (show (xorL 92 F).length = 64 by rw [xorL_length, HFl.out])
    go_loopw [5, 6, 7] (fun v u i wr => ∃ j : Nat, j ≤ 64 ∧ i = .int .i64 j ∧ OwnB wr W2.heap.size v ((xorL 54 F).take j) ∧ OwnB wr W2.heap.size u ((xorL 92 F).take j) ∧ Apart v u ∧ Below W2.heap.size W2 wr) (fun _ _ i _ => 64 - (intOf i).toNat)
    case atStart => exact ⟨0, by decide, rfl, own_nil W2 _, own_nil W2 _, .inl rfl, Below.refl _ _⟩
    case round =>
      obtain ⟨j, hj, rfl, hov, hou, hap, hbel⟩ := hrel
      by_cases hj64 : j < 64
      · have hj0 : (0 : Int) ≤ (j : Int) := by omega
        have hj1 : (j : Int) < 64 := by omega
        have hjF : j < F.length := by rw [HFl.out]; exact hj64
        have ht1 := take_one (xorL 54 F) j (by rw [xorL_length]; exact hjF)
        have ht2 := take_one (xorL 92 F) j (by rw [xorL_length]; exact hjF)
        rw [xorL_get 54 F j hjF] at ht1
        rw [xorL_get 92 F j hjF] at ht2
        have hx1 : bits .xor .u8 ((F.getD j 0 : Nat) : Int) 54 = ((F.getD j 0 ^^^ 54 : Nat) : Int) := u8_xor_nat (F.getD j 0) 54 (HFb.out j) (by decide)
        have hx2 : bits .xor .u8 ((F.getD j 0 : Nat) : Int) 92 = ((F.getD j 0 ^^^ 92 : Nat) : Int) := u8_xor_nat (F.getD j 0) 92 (HFb.out j) (by decide)
        obtain ⟨v', w1, u', w2, hr1, hr2, ho1, ho2, hap2, hb2⟩ := app_two (y := F.getD j 0 ^^^ 54) (z := F.getD j 0 ^^^ 92) hov hou hap hbel.size (by rw [List.length_take]; omega) (by rw [List.length_take]; omega)
        rw [ht1] at ho1
        rw [ht2] at ho2
        have Ho1 := Lib.hid ho1
        have Ho2 := Lib.hid ho2
        have Hap := Lib.hid hap2
        have Hb2 := Lib.hid (hbel.trans hb2)
        have hcF : j < n1 → wr.cell? ⟨(pk.getD ⟨0, 0, none⟩).block, (pk.getD ⟨0, 0, none⟩).off + j, none⟩ = some (.int .u8 ((F.getD j 0 : Nat) : Int)) ∧ pk = some ⟨(pk.getD ⟨0, 0, none⟩).block, (pk.getD ⟨0, 0, none⟩).off, none⟩ := fun hjn => by
          rcases HK.out.grow hbel with h | ⟨g, o, rfl, h⟩
          · exfalso; have := En1.out; rw [h] at this; simp at this; omega
          · refine ⟨?_, rfl⟩
            show wr.cell? ⟨g, o + j, none⟩ = _
            rw [h.2 j (by rw [← En1.out]; exact hjn), HFk.out]
            simp only [List.getD]
            rw [List.getElem?_append_left (by rw [← En1.out]; exact hjn)]
        have hF0 : ¬ j < n1 → F.getD j 0 = 0 := fun hjn => by
          rw [HFk.out]
          simp only [List.getD]
          rw [List.getElem?_append_right (by rw [← En1.out]; omega)]
          simp [zs, List.getElem?_replicate]
          split <;> rfl
        generalize F.getD j 0 = y at *
        generalize hy1 : y ^^^ 54 = y1 at *
        generalize hy2 : y ^^^ 92 = y2 at *
        clear ho1 ho2 hap2 hb2 hov hou hap hbel ht1 ht2 hjF
        by_cases hjn : j < n1
        · have hjn' : (j : Int) < (n1 : Int) := by omega
          obtain ⟨hc, hpk⟩ := hcF hjn
          generalize (pk.getD ⟨0, 0, none⟩).block = g at *
          generalize (pk.getD ⟨0, 0, none⟩).off = o at *
          subst hpk
          clear hcF hF0 hy1 hy2
          go_wp2_with (at_builtin; first | refine Lib.wpList_append_run _ rfl _ _ _ _ rfl _ _ rfl rfl _ _ hr1 ?_ | refine Lib.wpList_append_run _ rfl _ _ _ _ rfl _ _ rfl rfl _ _ hr2 ?_)
          go_wp2_with fail
          go_roundw
          case rel => exact ⟨j + 1, by omega, by go_num, Ho1.out, Ho2.out, Hap.out, Hb2.out⟩
          case measure => simp [intOf]; omega
        · have hjn' : ¬ (j : Int) < (n1 : Int) := by omega
          have hy0 := hF0 hjn
          have hx3 : bits .xor .u8 0 54 = (y1 : Int) := by rw [hy0] at hx1; exact hx1
          have hx4 : bits .xor .u8 0 92 = (y2 : Int) := by rw [hy0] at hx2; exact hx2
          clear hcF hF0 hy1 hy2 hx1 hx2 hy0
          go_wp2_with (at_builtin; first | refine Lib.wpList_append_run _ rfl _ _ _ _ rfl _ _ rfl rfl _ _ hr1 ?_ | refine Lib.wpList_append_run _ rfl _ _ _ _ rfl _ _ rfl rfl _ _ hr2 ?_)
          go_wp2_with fail
          go_roundw
          case rel => exact ⟨j + 1, by omega, by go_num, Ho1.out, Ho2.out, Hap.out, Hb2.out⟩
          case measure => simp [intOf]; omega
      · obtain rfl : j = 64 := by omega
        rw [List.take_of_length_le (by rw [hxl54.out]; exact Nat.le_refl _)] at hov
        rw [List.take_of_length_le (by rw [hxl92.out]; exact Nat.le_refl _)] at hou
        obtain ⟨pi, ci, rfl, hBi, _, hpi⟩ := hov.bs
        obtain ⟨po, co, rfl, hBo, _, hpo⟩ := hou.bs
        rw [hxl54.out, hxl92.out]
        have HBi := Lib.hid hBi
        have Hpi := Lib.hid hpi
        have HBo := Lib.hid hBo
        have Hpo := Lib.hid hpo
        have R3 := Lib.hid (R2.out.grow hbel)
        have B3 := Lib.hid (B2.out.trans (hbel.mono B2.out.size))
        clear hov hou hap hbel hBi hpi hBo hpo
        go_wp2_with fail
        refine (rjoin_c ci bc 64 nb pi bp (xorL 54 F) b wr hxl54.out.symm Enb.out HBi.out Hpi.out (HbB.out.grow B3.out) Hbp.out (by rw [hxl54.out]; have := Hb.out; omega)).mono ?_
        rintro e W4 ⟨v4, rfl, hown4, hb4⟩
        obtain ⟨p4, c4, rfl, hB4, _, hp4⟩ := hown4.bs
        have O4 := Lib.hid (HBo.out.grow hb4)
        have R4 := Lib.hid (R3.out.grow hb4)
        have B4 := Lib.hid (B3.out.trans (hb4.mono B3.out.size))
        obtain ⟨L1, eL1⟩ : ∃ L, L = xorL 54 F ++ b := ⟨_, rfl⟩
        rw [← eL1] at hB4 ⊢
        have HS1 := rsum_c c4 p4 L1 W4 (by rw [eL1, List.length_append, hxl54.out]; have := Hb.out; omega) (by rw [eL1]; exact bts_app (xorL_bts (by decide) HFb.out) Hbb.out) hB4 hp4
        obtain ⟨n4, en4⟩ : ∃ n, n = L1.length := ⟨_, rfl⟩
        obtain ⟨D1, eD1⟩ : ∃ D, D = dig L1 := ⟨_, rfl⟩
        rw [← en4, ← eD1] at HS1
        rw [← en4]
        have HS1 := Lib.hid HS1
        have ED1 := Lib.hid (show D1 = dig (xorL 54 F ++ b) by rw [eD1, eL1])
        clear hown4 hb4 hB4 hp4 en4 eD1 eL1 R3
        go_wp2_with fail
        refine HS1.out.mono ?_
        rintro e W5 ⟨rfl, hb5⟩
        have O5 := Lib.hid (O4.out.grow hb5)
        have R5 := Lib.hid (R4.out.grow hb5)
        have B5 := Lib.hid (B4.out.trans (hb5.mono B4.out.size))
        clear hb5 O4 R4 HS1
        go_wp2_with fail
        have HB1 := rbytes_c (keyN D1) (keyN_length D1) W5
        rw [← keA_bys] at HB1
        refine HB1.mono ?_
        rintro e W6 ⟨v6, rfl, hown6, hb6⟩
        obtain ⟨p6, c6, rfl, hB6, _, hp6⟩ := hown6.bs
        rw [keyN_length]
        have O6 := Lib.hid (O5.out.grow hb6)
        have R6 := Lib.hid (R5.out.grow hb6)
        have B6 := Lib.hid (B5.out.trans (hb6.mono B5.out.size))
        have HB6 := Lib.hid hB6
        have Hp6 := Lib.hid hp6
        clear hb6 O5 R5 HB1 hown6 hB6 hp6
        go_wp2_with fail
        refine (rjoin_c co c6 64 32 po p6 (xorL 92 F) (keyN D1) W6 hxl92.out.symm (keyN_length D1).symm O6.out Hpo.out HB6.out Hp6.out (by rw [hxl92.out, keyN_length]; decide)).mono ?_
        rintro e W7 ⟨v7, rfl, hown7, hb7⟩
        obtain ⟨p7, c7, rfl, hB7, _, hp7⟩ := hown7.bs
        have R7 := Lib.hid (R6.out.grow hb7)
        have B7 := Lib.hid (B6.out.trans (hb7.mono B6.out.size))
        obtain ⟨L2, eL2⟩ : ∃ L, L = xorL 92 F ++ keyN D1 := ⟨_, rfl⟩
        rw [← eL2] at hB7 ⊢
        have HS2 := rsum_c c7 p7 L2 W7 (by rw [eL2, List.length_append, hxl92.out, keyN_length]; decide) (by rw [eL2]; exact bts_app (xorL_bts (by decide) HFb.out) (keyN_bts _)) hB7 hp7
        rw [show dig L2 = M by rw [EM.out, eL2, ED1.out]] at HS2
        obtain ⟨n7, en7⟩ : ∃ n, n = L2.length := ⟨_, rfl⟩
        rw [← en7] at HS2 ⊢
        have HS2 := Lib.hid HS2
        clear hown7 hb7 hB7 hp7 en7 eL2 R6
        go_wp2_with fail
        refine HS2.out.mono ?_
        rintro e W8 ⟨rfl, hb8⟩
        obtain ⟨r1, r2, r3⟩ := R7.out.grow hb8
        have B8 := Lib.hid (B7.out.trans (hb8.mono B7.out.size))
        clear hb8 R7 HS2
        go_wp2_with fail
        refine bodyPost_ret (v := .agg (keA M)) (results_key Tryd.results29 (keA_size _) _ _ _ rfl (by go_simp) (by go_simp)) rfl ⟨rfl, ?_⟩
        exact below_setRow B8.out (Nat.le_refl _) _
end Go.Proofs.YtnemlmlfhhahgaaDoor

/-
  The reference of layer 4: as many bytes as one likes of a secret.
-/
namespace Go.Proofs.YtnemlmlfhhahgaaDoor
open Go.RowKit Go.Hold Go.Sh

set_option maxHeartbeats 1000000 in
set_option maxRecDepth 100000 in
theorem rexpand_c (ic n m : Nat) (ip : Option Addr) (s info : List Nat) (w : World) (hm : m = info.length) (hs : s.length = 32) (hsb : ∀ i, s.getD i 0 < 256) (hi : m ≤ 80000) (hib : ∀ i, info.getD i 0 < 256) (hiB : Bs0 w ip info) (hic : ip = none → ic = 0) (hn : n ≤ 8160) :
    Calls Tryd.prog 27 #[.agg (bysA s), .slice ip m ic, .int .i64 (n : Int)] w fun e w' => ∃ p c, e = .returned (.tuple #[.slice p n c, .int .i64 0]) ∧ Bs0 w' p (expN s info n) ∧ Below w.heap.size w w' := by
  have HI := Lib.hid hiB
  have HIc := Lib.hid hic
  have Hsb := Lib.hid hsb
  have Hib := Lib.hid hib
  have Hs := Lib.hid hs
  have h0 : ¬ (n : Int) < 0 := by omega
  have h1 : ¬ (8160 : Int) < (n : Int) := by omega
  have Em := Lib.hid hm
  have hsz : (bysA s).size = 32 := by rw [bysA_size, hs]
  clear hiB hic hsb hib hs hm
  go_enter Tryd.func27, Tryd.ntmps27
  go_wp2_with fail
  generalize hW : World.alloc _ _ = W0
  have R0 := Lib.hid (show RowAt W0 w.heap.size (bysA s) by rw [← hW]; exact RowAt.of (block_new w _))
  have B0 := Lib.hid (show Below w.heap.size w W0 by rw [← hW]; exact below_alloc (Below.refl _ _) _)
  clear hW
  obtain ⟨x, ex⟩ : ∃ x, x = w.heap.size := ⟨_, rfl⟩
  rw [← ex] at R0 ⊢
  have Ex := Lib.hid ex
  clear ex
  go_loopw [8, 9, 10] (fun all last i wr => ∃ j : Nat, i = .int .i64 ((j + 1 : Nat) : Int) ∧ 32 * j < n + 32 ∧ OwnB wr W0.heap.size all (exps s info j) ∧ SlV wr last (tagT s info j) ∧ Below W0.heap.size W0 wr) (fun _ _ i _ => 300 - (intOf i).toNat)
  case atStart => exact ⟨0, rfl, by omega, own_nil W0 _, ⟨none, 0, rfl, .inl rfl, Nat.le_refl _, fun _ => rfl⟩, Below.refl _ _⟩
  case round =>
    obtain ⟨j, rfl, hj, hown, hlast, hbel⟩ := hrel
    have hel := exps_length s info j
    obtain ⟨pa, ca, rfl, hBa, hca, hpa⟩ := hown.bs
    rw [hel] at hown hca ⊢
    obtain ⟨na, ena⟩ : ∃ y, y = 32 * j := ⟨_, rfl⟩
    rw [← ena] at hown hca hj ⊢
    have Hown := Lib.hid hown
    have Hlast := Lib.hid hlast
    have Hbel := Lib.hid hbel
    have Ena := Lib.hid ena
    have HBa := Lib.hid hBa
    clear hown hlast hbel ena hel hBa hpa
    obtain ⟨j1, ej1⟩ : ∃ y, y = j + 1 := ⟨_, rfl⟩
    rw [← ej1]
    by_cases hjn : na < n
    · have hlt : (na : Int) < (n : Int) := by omega
      have hw8 := u8_wrap j1
      obtain ⟨pl, cl, rfl, hBl, hcl, hpl⟩ := Hlast.out
      obtain ⟨nl, enl⟩ : ∃ y, y = (tagT s info j).length := ⟨_, rfl⟩
      have hnl := tagT_le s info j
      rw [← enl] at hcl hnl ⊢
      have Enl := Lib.hid enl
      have HBl := Lib.hid hBl
      have Hpl := Lib.hid hpl
      have Ej1 := Lib.hid ej1
      have hj1 : j1 ≤ 256 := by have := Ena.out; omega
      clear hBl hpl enl ej1 hcl Hlast
      obtain ⟨L, eL⟩ : ∃ y, y = tagT s info j ++ info ++ [j1 % 256] := ⟨_, rfl⟩
      obtain ⟨D, eD⟩ : ∃ y, y = mac s L := ⟨_, rfl⟩
      have Htag := Lib.hid (show tagT s info (j + 1) = keyN D by rw [tagT, eD, eL, Ej1.out])
      have HLb := Lib.hid (show ∀ i, L.getD i 0 < 256 by rw [eL]; exact bts_app (bts_app (tagT_bts _ _ _) Hib.out) (bts_1 _ (Nat.mod_lt _ (by decide))))
      have hLl : L.length ≤ 90000 := by rw [eL, List.length_append, List.length_append, ← Enl.out, ← Em.out]; simp only [List.length_cons, List.length_nil]; omega
      have EL := Lib.hid eL
      have ED := Lib.hid eD
      clear eL eD
      have R1 := Lib.hid (R0.out.grow Hbel.out)
      have I1 := Lib.hid ((HI.out.grow B0.out).grow Hbel.out)
      obtain ⟨r1, r2, r3⟩ := R1.out
      obtain ⟨b8, eb8⟩ : ∃ y, y = j1 % 256 := ⟨_, rfl⟩
      rw [← eb8] at hw8
      have Eb8 := Lib.hid eb8
      clear eb8
      go_wp2_with fail
      refine (rbytes_c s Hs.out wr).mono ?_
      rintro e W1 ⟨v1, rfl, ho1, hb1⟩
      obtain ⟨p1, c1, rfl, hB1, hc1, hp1⟩ := ho1.bs
      rw [Hs.out]
      have H1 := Lib.hid hB1
      have Hp1 := Lib.hid hp1
      have B1 := Lib.hid hb1
      clear ho1 hB1 hb1 hc1 hp1 r1 r2 r3
      go_wp2_with fail
      refine (rjoin_c cl ic nl m pl ip (tagT s info j) info W1 Enl.out Em.out (HBl.out.grow B1.out) Hpl.out (I1.out.grow B1.out) HIc.out (by rw [← Enl.out, ← Em.out]; omega)).mono ?_
      rintro e W2 ⟨v2, rfl, ho2, hb2⟩
      have B2 := Lib.hid (B1.out.trans (hb2.mono B1.out.size))
      have BA := below_alloc (Below.refl W2.heap.size W2) (.cells #[.int .u8 (b8 : Int)] 5)
      obtain ⟨v3, W3, hr3, ho3, hg3⟩ := app_own (k := 1) (cap := 1) (ho2.below BA) (Bs0.some (bytes_new W2 [b8] 5 (0, 0))) rfl (fun h => by cases h) (Nat.le_trans hb2.size BA.size) (by rw [List.length_append, ← Enl.out, ← Em.out]; simp only [List.length_cons, List.length_nil]; omega)
      have hb3 := own_below (hb2.alloc hb2.size (.cells #[.int .u8 (b8 : Int)] 5)) (ho2.below BA) (Nat.le_trans hb2.size BA.size) hg3
      have B3 := Lib.hid (B1.out.trans (hb3.mono B1.out.size))
      rw [Eb8.out, ← EL.out] at ho3
      obtain ⟨p3, c3, ev3, hB3, hc3, hp3⟩ := ho3.bs
      obtain ⟨n3, en3⟩ : ∃ y, y = L.length := ⟨_, rfl⟩
      rw [← en3] at ev3
      subst ev3
      have H3 := Lib.hid hB3
      have Hp3 := Lib.hid hp3
      have En3 := Lib.hid en3
      have H31 := Lib.hid (H1.out.grow hb3)
      clear ho2 hb2 BA ho3 hg3 hb3 hB3 hc3 hp3 en3 B2
      go_wp2_with (at_builtin; refine Lib.wpList_append_run _ rfl _ _ _ _ rfl _ _ rfl rfl _ _ hr3 ?_)
      have HM := rmac_c c1 c3 32 n3 p1 p3 s L W3 Hs.out.symm En3.out (by rw [Hs.out]; decide) Hsb.out H31.out Hp1.out hLl HLb.out H3.out Hp3.out
      rw [← ED.out, keA_bys] at HM
      refine HM.mono ?_
      rintro e W4 ⟨rfl, hb4⟩
      have B4 := Lib.hid (B3.out.trans (hb4.mono B3.out.size))
      clear hb4 HM
      go_wp2_with fail
      refine (rbytes_c (keyN D) (keyN_length D) W4).mono ?_
      rintro e W5 ⟨v5, rfl, ho5, hb5⟩
      have B5 := Lib.hid (B4.out.trans (hb5.mono B4.out.size))
      have hown5 : OwnB W5 W0.heap.size (.slice pa na ca) (exps s info j) := Hown.out.below B5.out
      obtain ⟨p5, c5, ev5, hB5, hc5, hp5⟩ := ho5.bs
      rw [keyN_length] at ev5
      have hb05 : Below W0.heap.size W0 W5 := Hbel.out.trans (B5.out.mono Hbel.out.size)
      obtain ⟨va, wa, hra, howna, hgra⟩ := app_own (cap := c5) (k := 32) hown5 hB5 (keyN_length D).symm hp5 hb05.size (by rw [exps_length, keyN_length]; have := Ena.out; omega)
      have Hba := Lib.hid (own_below hb05 hown5 hb05.size hgra)
      have Hoa := Lib.hid (show OwnB wa W0.heap.size va (exps s info (j + 1)) by rw [exps, Htag.out]; exact howna)
      have Hla := Lib.hid (show SlV wa (.slice p5 32 c5) (tagT s info (j + 1)) by
        rw [Htag.out, ← ev5]
        refine (ho5.kept hgra ?_).bs
        cases hvb : v5.ownBlock with
        | none => exact .inl rfl
        | some k =>
          right
          intro he
          have h1 := (ho5.ltb k hvb).1
          have h2 := (Hown.out.ltb k he.symm).2
          have := B4.out.size
          omega)
      subst ev5
      clear ho5 hb5 hown5 hB5 hc5 hp5 hb05 howna hgra
      go_wp2_with (at_builtin; refine Lib.wpList_append_run _ rfl _ _ _ _ rfl _ _ rfl rfl _ _ hra ?_)
      go_wp2_with fail
      go_roundw
      case rel => exact ⟨j + 1, by rw [← Ej1.out]; go_num, by have := Ena.out; omega, Hoa.out, Hla.out, Hba.out⟩
      case measure => simp [intOf]; omega
    · have hlt : ¬ (na : Int) < (n : Int) := by omega
      have hsl := slB_h pa na ca n (by omega)
      clear ej1
      go_wp2_with fail
      refine bodyPost_ret (v := .tuple #[.slice pa n ca, .int .i64 0]) (results_tmp2 Tryd.results27 _ _ _) rfl ⟨pa, ⟨ca, rfl⟩, ?_, B0.out.trans (Hbel.out.mono B0.out.size)⟩
      rw [expN_take s info n j (by have := Ena.out; omega)]
      exact Bs0.take HBa.out n

set_option maxHeartbeats 400000 in
set_option maxRecDepth 100000 in
theorem rexpand_bad (z : Int) (s : List Nat) (v : Value) (w : World) (hz : z < 0 ∨ 8160 < z) :
    Calls Tryd.prog 27 #[.agg (bysA s), v, .int .i64 z] w fun e w' => e = .returned (.tuple #[.slice none 0 0, .int .i64 3]) ∧ Below w.heap.size w w' := by
  rcases hz with h | h
  · go_enter Tryd.func27, Tryd.ntmps27
    go_wp2_with fail
    refine bodyPost_ret (v := .tuple #[.slice none 0 0, .int .i64 3]) (results_tmp2 Tryd.results27 _ _ _) rfl ⟨rfl, below_alloc (Below.refl _ _) _⟩
  · have h' : ¬ z < 0 := by omega
    go_enter Tryd.func27, Tryd.ntmps27
    go_wp2_with fail
    refine bodyPost_ret (v := .tuple #[.slice none 0 0, .int .i64 3]) (results_tmp2 Tryd.results27 _ _ _) rfl ⟨rfl, below_alloc (Below.refl _ _) _⟩
end Go.Proofs.YtnemlmlfhhahgaaDoor

/-
  The reference of layer 4: a key for a purpose.
-/
namespace Go.Proofs.YtnemlmlfhhahgaaDoor
open Go.RowKit Go.Hold Go.Sh

theorem tk_set32 (s : List Nat) (k : Nat) (h : k < 32) (hs : s.length = 32) : (s.take k ++ zs (32 - k)).set k (s.getD k 0) = s.take (k + 1) ++ zs (32 - (k + 1)) := by
  have hk : k < s.length := by omega
  have e : zs (32 - k) = 0 :: zs (32 - (k + 1)) := by
    obtain ⟨m, hm⟩ : ∃ m, 32 - k = m + 1 := ⟨31 - k, by omega⟩
    rw [hm, show 32 - (k + 1) = m by omega]; rfl
  have hlen : (s.take k).length = k := by rw [List.length_take]; omega
  rw [List.set_append, if_neg (by omega), hlen, Nat.sub_self, e, List.set_cons_zero, List.take_add_one, List.getElem?_eq_getElem hk, List.append_assoc]
  congr 2
  simp [List.getD, hk]
set_option maxHeartbeats 1000000 in
set_option maxRecDepth 100000 in
theorem rderive_c (s : List Nat) (lab : ByteArray) (w : World) (hs : s.length = 32) (hsb : ∀ i, s.getD i 0 < 256) (hl : lab.size ≤ 50000) :
    Calls Tryd.prog 17 #[.agg (bysA s), .string lab] w fun e w' => e = .returned (.agg (keA (drv s (purp ++ strB lab)))) ∧ Below w.heap.size w w' := by
  have hz : (bysA s).size = 32 := by rw [bysA_size, hs]
  have Hs := Lib.hid hs
  have Hsb := Lib.hid hsb
  obtain ⟨D, eD⟩ : ∃ y, y = drv s (purp ++ strB lab) := ⟨_, rfl⟩
  rw [← eD]
  have ED := Lib.hid eD
  clear hs hsb eD
  go_enter Tryd.func17, Tryd.ntmps17
  go_wp2_with fail
  generalize hS : ({ data := #[112, 105, 103, 101, 111, 110, 114, 121, 32] } : ByteArray) ++ lab = S0
  have HS0 := Lib.hid (show strB S0 = purp ++ strB lab by rw [← hS, strB_app, purp_str])
  have hS0 : S0.size ≤ 60000 := by
    have := congrArg List.length HS0.out
    rw [strB_length, List.length_append, strB_length] at this
    simp [purp] at this; omega
  clear hS
  generalize hW : World.alloc _ _ = W0
  obtain ⟨z0, hz0, hR0⟩ : ∃ c : Array Value, c.size = 32 ∧ RowAt W0 (w.heap.size + 1) c := by rw [← hW]; clear hW; exact ⟨byI (List.replicate 32 0), by simp [byI], by go_simp, by go_simp; rfl, by go_simp⟩
  have R0 := Lib.hid hR0
  have B0 := Lib.hid (show Below w.heap.size w W0 by rw [← hW]; repeat (first | apply below_more | apply below_alloc | exact Below.refl _ _))
  clear hW hR0
  have hg3 : w.heap.size ≤ w.heap.size + 1 := by omega
  generalize w.heap.size + 1 = r at *
  obtain ⟨c, W1, hr, hby, hb1, hc⟩ := run_cvSB S0 W0
  have HE := rexpand_c c 32 S0.size (some ⟨W0.heap.size, 0, none⟩) s (strB S0) W1 (strB_length _).symm Hs.out Hsb.out (by omega) (strB_bts _) (Bs0.some hby) (fun h => by cases h) (by decide)
  rw [expN_32, HS0.out, ← ED.out] at HE
  have HE := Lib.hid HE
  have R1 := Lib.hid (R0.out.grow hb1)
  have B1 := Lib.hid (B0.out.trans (hb1.mono B0.out.size))
  clear hby hb1 hc R0 hS0
  rw [hr]
  go_simp
  go_wp2_with fail
  refine HE.out.mono ?_
  rintro e W2 ⟨p, c2, rfl, hB2, hb2⟩
  have hD := keyN_length D
  obtain ⟨g, o, rfl, hby2⟩ : ∃ g o, p = some ⟨g, o, none⟩ ∧ BytesAt W2 g o (keyN D) := by
    rcases hB2 with h | h
    · rw [h] at hD; cases hD
    · exact h
  have HY := Lib.hid hby2
  have HDl := Lib.hid hD
  have R2 := Lib.hid (R1.out.grow hb2)
  have B2 := Lib.hid (B1.out.trans (hb2.mono B1.out.size))
  clear hb2 hB2 HE R1 hby2 hD
  go_wp2_with fail
  generalize hW : World.alloc _ _ = W3
  have BW := Lib.hid (show Below W2.heap.size W2 W3 by rw [← hW]; exact below_alloc (Below.refl _ _) _)
  have T0 := Lib.hid (show RowAt W3 W2.heap.size (bysA (zs 32)) by rw [← hW]; clear hW; exact ⟨by go_simp, by go_simp; rfl, by go_simp⟩)
  clear hW
  have hgt : g < W2.heap.size := HY.out.1
  have hrt : r < W2.heap.size := R2.out.2.2
  have hwt : w.heap.size ≤ W2.heap.size := B2.out.size
  have Y3 := Lib.hid (HY.out.grow BW.out)
  have R3 := Lib.hid (R2.out.grow BW.out)
  have B3 := Lib.hid (B2.out.trans (BW.out.mono B2.out.size))
  clear HY R2 B2 BW
  generalize W2.heap.size = t at *
  go_loopw [8] (fun i wr => ∃ k : Nat, k ≤ 32 ∧ i = .int .i64 k ∧ RowAt wr t (bysA ((keyN D).take k ++ zs (32 - k))) ∧ Below t W3 wr) (fun i _ => 32 - (intOf i).toNat)
  case atStart => exact ⟨0, by decide, rfl, T0.out, Below.refl _ _⟩
  case round =>
    obtain ⟨k, hk, rfl, hrow, hbel⟩ := hrel
    by_cases hk32 : k < 32
    · have hk0 : (0 : Int) ≤ (k : Int) := by omega
      have hk1 : (k : Int) < 32 := by omega
      have hc : wr.cell? ⟨g, o + k, none⟩ = some (.int .u8 (((keyN D).getD k 0 : Nat) : Int)) := by
        rw [hbel.cell hgt]; exact Y3.out.2 k (by rw [HDl.out]; exact hk32)
      have Hset := Lib.hid (tk_set32 (keyN D) k hk32 HDl.out)
      generalize (keyN D).getD k 0 = y at *
      have hlx : k < ((keyN D).take k ++ zs (32 - k)).length := by rw [List.length_append, List.length_take, zs_length, HDl.out]; omega
      have hcx := hrow.cellAt k (bysA_get _ k hlx)
      have hfx := hrow.frozenAt k
      have Hrow := Lib.hid hrow
      have Hbel := Lib.hid hbel
      clear hrow hbel hlx
      go_wp2_with fail
      go_roundw
      case rel =>
        refine ⟨k + 1, by omega, by go_num, ?_, ?_⟩
        · rw [← Hset.out, ← bysA_set]; exact Hrow.out.setCell _ _
        · exact Hbel.out.setCell (p := ⟨_, _, none⟩) (Nat.le_refl _) _
      case measure => simp [intOf]; omega
    · obtain rfl : k = 32 := by omega
      rw [show zs (32 - 32) = [] from rfl, List.append_nil, List.take_of_length_le (by rw [HDl.out]; exact Nat.le_refl _), ← keA_bys] at hrow
      obtain ⟨t1, t2, t3⟩ := hrow
      obtain ⟨r1, r2, r3⟩ := R3.out.keep hbel hrt
      have Hbel := Lib.hid hbel
      clear hbel
      go_wp2_with fail
      refine bodyPost_ret (v := .agg (keA D)) (results_key Tryd.results17 (keA_size _) _ _ _ rfl (by go_simp) (by go_simp)) rfl ⟨rfl, ?_⟩
      exact below_setRow (B3.out.trans (Hbel.out.mono hwt)) hg3 _
end Go.Proofs.YtnemlmlfhhahgaaDoor

/-
  The reference of layer 4: a tag's first half.
-/
namespace Go.Proofs.YtnemlmlfhhahgaaDoor
open Go.RowKit Go.Hold Go.Sh

theorem tk_set (s : List Nat) (k : Nat) (h : k < 16) (hs : s.length = 32) : (s.take k ++ zs (16 - k)).set k (s.getD k 0) = s.take (k + 1) ++ zs (16 - (k + 1)) := by
  have hk : k < s.length := by omega
  have e : zs (16 - k) = 0 :: zs (16 - (k + 1)) := by
    obtain ⟨m, hm⟩ : ∃ m, 16 - k = m + 1 := ⟨15 - k, by omega⟩
    rw [hm, show 16 - (k + 1) = m by omega]; rfl
  have hlen : (s.take k).length = k := by rw [List.length_take]; omega
  rw [List.set_append, if_neg (by omega), hlen, Nat.sub_self, e, List.set_cons_zero, List.take_add_one, List.getElem?_eq_getElem hk, List.append_assoc]
  congr 2
  simp [List.getD, hk]
set_option maxHeartbeats 400000 in
set_option maxRecDepth 100000 in
theorem rshort_c (s : List Nat) (hs : s.length = 32) (w : World) : Calls Tryd.prog 28 #[.agg (bysA s)] w fun e w' => e = .returned (.agg (bysA (s.take 16))) ∧ Below w.heap.size w w' := by
  have hz2 : (bysA (s.take 16)).size = 16 := by rw [bysA_size, List.length_take, hs]; rfl
  have Hs := Lib.hid hs
  clear hs
  go_enter Tryd.func28, Tryd.ntmps28
  go_wp2_with fail
  generalize hW : World.alloc _ _ = W0
  have K0 := Lib.hid (show RowAt W0 w.heap.size (bysA s) by rw [← hW]; clear hW; exact ⟨by go_simp, by go_simp, by go_simp⟩)
  obtain ⟨z0, hz0, hR0⟩ : ∃ c : Array Value, c.size = 16 ∧ RowAt W0 (w.heap.size + 1) c := by rw [← hW]; clear hW; exact ⟨bysA (zs 16), by rw [bysA_size, zs_length], by go_simp, by go_simp; rfl, by go_simp⟩
  have T0 := Lib.hid (show RowAt W0 (w.heap.size + 1 + 1) (bysA (zs 16)) by rw [← hW]; clear hW; exact ⟨by go_simp, by go_simp; rfl, by go_simp⟩)
  have R0 := Lib.hid hR0
  have B0 := Lib.hid (show Below w.heap.size w W0 by rw [← hW]; repeat (first | apply below_more | apply below_alloc | exact Below.refl _ _))
  clear hW hR0
  go_loopw [4] (fun i wr => ∃ k : Nat, k ≤ 16 ∧ i = .int .i64 k ∧ RowAt wr (w.heap.size + 1 + 1) (bysA (s.take k ++ zs (16 - k))) ∧ Below (w.heap.size + 1 + 1) W0 wr) (fun i _ => 16 - (intOf i).toNat)
  case atStart => exact ⟨0, by decide, rfl, T0.out, Below.refl _ _⟩
  case round =>
    obtain ⟨k, hk, rfl, hrow, hbel⟩ := hrel
    by_cases hk16 : k < 16
    · have hk0 : (0 : Int) ≤ (k : Int) := by omega
      have hk1 : (k : Int) < 16 := by omega
      have hk32 : (k : Int) < 32 := by omega
      have hc := (K0.out.keep hbel (by omega)).cellAt k (bysA_get s k (by rw [Hs.out]; omega))
      have Hset := Lib.hid (tk_set s k hk16 Hs.out)
      generalize s.getD k 0 = y at *
      have hlx : k < (s.take k ++ zs (16 - k)).length := by rw [List.length_append, List.length_take, zs_length, Hs.out]; omega
      have hcx := hrow.cellAt k (bysA_get _ k hlx)
      have hfx := hrow.frozenAt k
      have Hrow := Lib.hid hrow
      have Hbel := Lib.hid hbel
      clear hrow hbel hlx
      go_wp2_with fail
      go_roundw
      case rel =>
        refine ⟨k + 1, by omega, by go_num, ?_, ?_⟩
        · rw [← Hset.out, ← bysA_set]; exact Hrow.out.setCell _ _
        · exact Hbel.out.setCell (p := ⟨_, _, none⟩) (Nat.le_refl _) _
      case measure => simp [intOf]; omega
    · obtain rfl : k = 16 := by omega
      rw [show zs (16 - 16) = [] from rfl, List.append_nil] at hrow
      obtain ⟨t1, t2, t3⟩ := hrow
      obtain ⟨r1, r2, r3⟩ := R0.out.keep hbel (by omega)
      have Hbel := Lib.hid hbel
      clear hbel
      go_wp2_with fail
      refine bodyPost_ret (v := .agg (bysA (s.take 16))) (results_tag Tryd.results28 hz2 _ _ _ rfl (by go_simp) (by go_simp)) rfl ⟨rfl, ?_⟩
      exact below_setRow (B0.out.trans (Hbel.out.mono (by omega))) (by omega) _
end Go.Proofs.YtnemlmlfhhahgaaDoor

/-
  The reference of layer 6: the tag.
-/
namespace Go.Proofs.YtnemlmlfhhahgaaDoor
open Go.RowKit Go.Hold Go.Sh Go.Ch Go.Ae

theorem rhide_c (k : List Nat) (w : World) (hk : k.length = 32) (hkb : ∀ i, k.getD i 0 < 256) :
    Calls Tryd.prog 17 #[.agg (bysA k), .string ⟨#[104, 105, 100, 101]⟩] w fun e w' => e = .returned (.agg (bysA (kHide k))) ∧ Below w.heap.size w w' := by
  have h := rderive_c k ⟨#[104, 105, 100, 101]⟩ w hk hkb (by decide)
  rw [show strB ⟨#[104, 105, 100, 101]⟩ = [104, 105, 100, 101] by decide, keA_bys] at h
  exact h
theorem rprove_c (k : List Nat) (w : World) (hk : k.length = 32) (hkb : ∀ i, k.getD i 0 < 256) :
    Calls Tryd.prog 17 #[.agg (bysA k), .string ⟨#[112, 114, 111, 118, 101]⟩] w fun e w' => e = .returned (.agg (bysA (kProve k))) ∧ Below w.heap.size w w' := by
  have h := rderive_c k ⟨#[112, 114, 111, 118, 101]⟩ w hk hkb (by decide)
  rw [show strB ⟨#[112, 114, 111, 118, 101]⟩ = [112, 114, 111, 118, 101] by decide, keA_bys] at h
  exact h
set_option maxHeartbeats 600000 in
set_option maxRecDepth 100000 in
theorem rtag_c (k n o h : List Nat) (no nh oc hc : Nat) (op hp : Option Addr) (hk : k.length = 32) (hkb : ∀ i, k.getD i 0 < 256) (hn : n.length = 12) (hnb : ∀ i, n.getD i 0 < 256) (hno : no = o.length) (hob : ∀ i, o.getD i 0 < 256) (hnh : nh = h.length) (hhb : ∀ i, h.getD i 0 < 256)
    (hol : no + nh ≤ 80000) (w : World) (hoB : Bs0 w op o) (hhB : Bs0 w hp h) (hoc : op = none → oc = 0) (hhc : hp = none → hc = 0) :
    Calls Tryd.prog 18 #[.agg (bysA k), .agg (bysA n), .slice op no oc, .slice hp nh hc] w fun e w' => e = .returned (.agg (bysA (tagL k n o h))) ∧ Below w.heap.size w w' := by
  have hks := bysA_size' hk
  have hns := bysA_size' hn
  have hts := bysA_size' (tagL_length k n o h)
  have HD := Lib.hid (fun (W : World) => rprove_c k W hk hkb)
  have HP := Lib.hid (fun (W : World) (hW : Below w.heap.size w W) => rproof_c n o h no nh oc hc op hp W hn hno hnh (by omega) (by omega) (hoB.grow hW) (hhB.grow hW) hoc hhc)
  have HY := Lib.hid (fun (W : World) => rbytes_c (kProve k) (kProve_length k) W)
  have hPl := kProve_length k
  have hPs := bysA_size' hPl
  have HPl := Lib.hid hPl
  have hpl : (pf n o h).length ≤ 90000 := by rw [pf_length, hn, ← hno, ← hnh]; omega
  have HM := Lib.hid (fun (W : World) (kc bc : Nat) (kp bp : Option Addr) (hkB : Bs0 W kp (kProve k)) (hkp : kp = none → kc = 0) (hbB : Bs0 W bp (pf n o h)) (hbp : bp = none → bc = 0) =>
    rmac_c kc bc (kProve k).length (pf n o h).length kp bp (kProve k) (pf n o h) W rfl rfl (by rw [kProve_length]; decide) (kProve_bts k) hkB hkp hpl (pf_bts hnb hob hhb) hbB hbp)
  have HS := Lib.hid (fun W => rshort_c (keyN (mac (kProve k) (pf n o h))) (keyN_length _) W)
  rw [show (keyN (mac (kProve k) (pf n o h))).take 16 = tagL k n o h from rfl] at HS
  rw [← keA_bys] at HS
  generalize tagL k n o h = TT at *
  generalize mac (kProve k) (pf n o h) = M at *
  generalize pf n o h = L at *
  generalize kProve k = kp' at *
  clear hk hkb hn hnb hno hob hnh hhb hoB hhB hoc hhc hol hpl hPl
  go_enter Tryd.func18, Tryd.ntmps18
  go_wp2_with fail
  generalize hW : World.alloc _ _ = W0
  have N0 := Lib.hid (show RowAt W0 (w.heap.size + 1) (bysA n) by rw [← hW]; clear hW; exact ⟨by go_simp, by go_simp, by go_simp⟩)
  have T0 := Lib.hid (show RowAt W0 (w.heap.size + 1 + 1) (bysA (zs 16)) by rw [← hW]; clear hW; exact ⟨by go_simp, by go_simp; rfl, by go_simp⟩)
  have B0 := Lib.hid (show Below w.heap.size w W0 by rw [← hW]; repeat (first | apply below_more | apply below_alloc | exact Below.refl _ _))
  clear hW
  have hzs : (bysA (zs 16)).size = 16 := by rw [bysA_size, zs_length]
  have hgt : w.heap.size ≤ w.heap.size + 1 + 1 := by omega
  generalize w.heap.size + 1 + 1 = t at *
  generalize w.heap.size + 1 = ng at *
  refine (HD.out W0).mono ?_
  rintro e W1 ⟨rfl, hb1⟩
  have N1 := Lib.hid (N0.out.grow hb1)
  have T1 := Lib.hid (T0.out.grow hb1)
  have B1 := Lib.hid (B0.out.trans (hb1.mono B0.out.size))
  clear hb1 N0 T0 B0
  go_wp2_with fail
  have BA := below_alloc (Below.refl W1.heap.size W1) (.cells (bysA kp') 23)
  have P2 := Lib.hid (RowAt.of (block_new W1 (.cells (bysA kp') 23)))
  have N2 := Lib.hid (N1.out.grow BA)
  have T2 := Lib.hid (T1.out.grow BA)
  have B2 := Lib.hid (B1.out.trans (BA.mono B1.out.size))
  clear BA N1 T1 B1
  generalize W1.alloc (.cells (bysA kp') 23) = W2 at *
  generalize W1.heap.size = gp at *
  refine wp_region_grows W2 8 (fun w w' => Below w.heap.size w w') (listR [fixV (.agg (bysA kp')), slV kp', fixV (.agg (bysA n)), fixV (.slice op no oc), fixV (.slice hp nh hc), slV L, fixV (.agg (keA M)), fixV (.agg (bysA TT))]) [8] [0, 1, 2, 3, 4, 5, 6, 7] [some 12, some 13, some 14, some 15, some 16, some 17, some 18, some 19] (by kernel_rfl) (by kernel_rfl) (by kernel_rfl) (by kernel_rfl) ((Below.refl _ _).drew) (fun w w' h h' => h.trans (h'.mono h.size)) (listR_mono ⟨stays_fix _, stays_sl _, stays_fix _, stays_fix _, stays_fix _, stays_sl _, stays_fix _, stays_fix _, trivial⟩) ?_
  intro vals
  simp only [List.take_succ_cons, List.take_zero]
  refine ⟨grow_val [] [] (by kernel_rfl) rfl (fun K w hb hd hK => ⟨wanted_none rfl, ?_⟩), ?_⟩
  · obtain ⟨k1, k2, k3⟩ := P2.out.grow hb
    simp only [putZ]
    go_simp
    exact hK _ _ _ (Below.refl _ _) rfl
  refine ⟨grow_call [0] [some 12] (by kernel_rfl) (by kernel_rfl) (fun K w hb hd hK => ⟨wanted_none rfl, ?_⟩), ?_⟩
  · have d0 : vals 0 = .agg (bysA kp') := hd 0 (by simp)
    simp only [List.map_cons, List.map_nil, putZ, d0]
    go_simp
    refine (HY.out w).mono ?_
    rintro e w' ⟨v, rfl, ho, hb'⟩
    exact ⟨_, rfl, hK _ _ hb' (show SlV w' v kp' from ho.bs)⟩
  refine ⟨grow_val [] [] (by kernel_rfl) rfl (fun K w hb hd hK => ⟨wanted_none rfl, ?_⟩), ?_⟩
  · obtain ⟨k1, k2, k3⟩ := N2.out.grow hb
    simp only [putZ]
    go_simp
    exact hK _ _ _ (Below.refl _ _) rfl
  refine ⟨grow_val [] [] (by kernel_rfl) rfl (fun K w hb hd hK => ⟨wanted_none rfl, ?_⟩), ?_⟩
  · simp only [putZ]
    go_simp
    exact hK _ _ _ (Below.refl _ _) rfl
  refine ⟨grow_val [] [] (by kernel_rfl) rfl (fun K w hb hd hK => ⟨wanted_none rfl, ?_⟩), ?_⟩
  · simp only [putZ]
    go_simp
    exact hK _ _ _ (Below.refl _ _) rfl
  refine ⟨grow_call [2, 3, 4] [some 14, some 15, some 16] (by kernel_rfl) (by kernel_rfl) (fun K w hb hd hK => ⟨wanted_none rfl, ?_⟩), ?_⟩
  · have d2 : vals 2 = .agg (bysA n) := hd 2 (by simp)
    have d3 : vals 3 = .slice op no oc := hd 3 (by simp)
    have d4 : vals 4 = .slice hp nh hc := hd 4 (by simp)
    simp only [List.map_cons, List.map_nil, putZ, d2, d3, d4]
    go_simp
    refine (HP.out w (B2.out.trans (hb.mono B2.out.size))).mono ?_
    rintro e w' ⟨v, rfl, ho, hb'⟩
    exact ⟨_, rfl, hK _ _ hb' (show SlV w' v L from ho.bs)⟩
  refine ⟨grow_call [1, 5] [some 13, some 17] (by kernel_rfl) (by kernel_rfl) (fun K w hb hd hK => ⟨wanted_none rfl, ?_⟩), ?_⟩
  · obtain ⟨p1, c1, d1, hs1, _, hp1⟩ : SlV w (vals 1) kp' := hd 1 (by simp)
    obtain ⟨p5, c5, d5, hs5, _, hp5⟩ : SlV w (vals 5) L := hd 5 (by simp)
    simp only [List.map_cons, List.map_nil, putZ, d1, d5]
    go_simp
    refine (HM.out w _ _ _ _ hs1 hp1 hs5 hp5).mono ?_
    rintro e w' ⟨rfl, hb'⟩
    exact ⟨_, rfl, hK _ _ hb' rfl⟩
  refine ⟨grow_call [6] [some 18] (by kernel_rfl) (by kernel_rfl) (fun K w hb hd hK => ⟨wanted_none rfl, ?_⟩), ?_⟩
  · have d6 : vals 6 = .agg (keA M) := hd 6 (by simp)
    simp only [List.map_cons, List.map_nil, putZ, d6]
    go_simp
    refine (HS.out w).mono ?_
    rintro e w' ⟨rfl, hb'⟩
    exact ⟨_, rfl, hK _ _ hb' rfl⟩
  intro W3 hbg hR
  obtain d7 : vals 7 = .agg (bysA TT) := hR 7 (by simp)
  clear hR
  simp only [List.map_cons, List.map_nil, putZ, d7, pick, List.getElem?_cons_succ, List.getElem?_cons_zero]
  generalize vals 0 = e0
  generalize vals 1 = e1
  generalize vals 2 = e2
  generalize vals 3 = e3
  generalize vals 4 = e4
  generalize vals 5 = e5
  generalize vals 6 = e6
  clear d7
  obtain ⟨t1, t2, t3⟩ := T2.out.grow hbg
  have B3 := Lib.hid (B2.out.trans (hbg.mono B2.out.size))
  clear hbg
  go_wp2_with fail
  refine bodyPost_ret (v := .agg (bysA TT)) (results_tag Tryd.results18 hts _ _ _ rfl (by go_simp) (by go_simp)) rfl ⟨rfl, ?_⟩
  exact below_setRow B3.out hgt _

set_option maxHeartbeats 600000 in
set_option maxRecDepth 100000 in
theorem rTag_c (k n o h : List Nat) (no nh oc hc : Nat) (op hp : Option Addr) (hk : k.length = 32) (hkb : ∀ i, k.getD i 0 < 256) (hn : n.length = 12) (hnb : ∀ i, n.getD i 0 < 256) (hno : no = o.length) (hob : ∀ i, o.getD i 0 < 256) (hnh : nh = h.length) (hhb : ∀ i, h.getD i 0 < 256)
    (hol : no ≤ 40000) (hhl : nh ≤ 40000) (w : World) (hoB : Bs0 w op o) (hhB : Bs0 w hp h) (hoc : op = none → oc = 0) (hhc : hp = none → hc = 0) :
    Calls Tryd.prog 12 #[.agg (bysA k), .agg (bysA n), .slice op no oc, .slice hp nh hc] w fun e w' => e = .returned (.tuple #[.agg (bysA (tagL k n o h)), .int .i64 0]) ∧ Below w.heap.size w w' := by
  have hks := bysA_size' hk
  have hns := bysA_size' hn
  have hts := bysA_size' (tagL_length k n o h)
  have HT := Lib.hid (fun (W : World) (hW : Below w.heap.size w W) => rtag_c k n o h no nh oc hc op hp hk hkb hn hnb hno hob hnh hhb (by omega) W (hoB.grow hW) (hhB.grow hW) hoc hhc)
  have h1 : ¬ (65520 : Int) < (no : Int) := by omega
  have h2 : ¬ (65520 : Int) < (nh : Int) := by omega
  generalize tagL k n o h = TT at *
  clear hk hkb hn hnb hno hob hnh hhb hoB hhB hoc hhc hol hhl
  go_enter Tryd.func12, Tryd.ntmps12
  go_wp2_with fail
  generalize hW : World.alloc _ _ = W0
  have T0 := Lib.hid (show RowAt W0 (w.heap.size + 1 + 1) (bysA (zs 16)) by rw [← hW]; clear hW; exact ⟨by go_simp, by go_simp; rfl, by go_simp⟩)
  have B0 := Lib.hid (show Below w.heap.size w W0 by rw [← hW]; repeat (first | apply below_more | apply below_alloc | exact Below.refl _ _))
  clear hW
  have hzs : (bysA (zs 16)).size = 16 := by rw [bysA_size, zs_length]
  have hgt : w.heap.size ≤ w.heap.size + 1 + 1 := by omega
  generalize w.heap.size + 1 + 1 = t at *
  refine (HT.out W0 B0.out).mono ?_
  rintro e W1 ⟨rfl, hb1⟩
  obtain ⟨t1, t2, t3⟩ := T0.out.grow hb1
  have B1 := Lib.hid (B0.out.trans (hb1.mono B0.out.size))
  clear hb1 T0 B0
  go_wp2_with fail
  refine bodyPost_ret (v := .tuple #[.agg (bysA TT), .int .i64 0]) (results_tag_slot Tryd.results12 hts _ _ _ rfl (by go_simp) (by go_simp) rfl) rfl ⟨rfl, ?_⟩
  exact below_setRow B1.out hgt _
end Go.Proofs.YtnemlmlfhhahgaaDoor

/-
  The reference of layer 5: a word that is turned, a word out of bytes, a quarter.
-/
namespace Go.Proofs.YtnemlmlfhhahgaaDoor
open Go.RowKit Go.Hold Go.Sh Go.Ch

set_option maxHeartbeats 400000 in
theorem left_c (x : Int) (n k : Nat) (hk : n + k = 32) (w : World) : Calls Tryd.prog 60 #[.int .u32 x, .int .i64 (n : Int)] w fun e w' => e = .returned (.int .u32 (rl x n)) ∧ w' = w := by
  have hs : IntKind.i64.wrap (32 - (n : Int)) = (k : Int) := by rw [IntWalk.i64_in _ (by omega)]; omega
  have hw : IntKind.u64.wrap (n : Int) = (n : Int) := IntWalk.u64_in _ (by omega)
  have hv : IntKind.u64.wrap (k : Int) = (k : Int) := IntWalk.u64_in _ (by omega)
  have h1 : (0 : Int) ≤ (k : Int) := by omega
  have h2 : (k : Int) ≤ 32 := by omega
  have h3 : (0 : Int) ≤ (n : Int) := by omega
  have h4 : (n : Int) ≤ 32 := by omega
  have hr := rl_eq x n k hk
  go_enter Tryd.func60, Tryd.ntmps60
  go_wp2_with fail
  go_ret
  exact ⟨rfl, rfl⟩
theorem left_16 (x : Int) (w : World) : Calls Tryd.prog 60 #[.int .u32 x, .int .i64 16] w fun e w' => e = .returned (.int .u32 (rl x 16)) ∧ w' = w := left_c x 16 16 rfl w
theorem left_12 (x : Int) (w : World) : Calls Tryd.prog 60 #[.int .u32 x, .int .i64 12] w fun e w' => e = .returned (.int .u32 (rl x 12)) ∧ w' = w := left_c x 12 20 rfl w
theorem left_8 (x : Int) (w : World) : Calls Tryd.prog 60 #[.int .u32 x, .int .i64 8] w fun e w' => e = .returned (.int .u32 (rl x 8)) ∧ w' = w := left_c x 8 24 rfl w
theorem left_7 (x : Int) (w : World) : Calls Tryd.prog 60 #[.int .u32 x, .int .i64 7] w fun e w' => e = .returned (.int .u32 (rl x 7)) ∧ w' = w := left_c x 7 25 rfl w

/-! ### A word out of bytes -/
theorem packL (x0 x1 x2 x3 : Nat) (h0 : x0 < 256) (h1 : x1 < 256) (h2 : x2 < 256) (h3 : x3 < 256) :
    o32 (o32 (o32 (x0 : Int) ((x1 : Int) * 256 % 4294967296)) ((x2 : Int) * 65536 % 4294967296)) ((x3 : Int) * 16777216 % 4294967296) = ((x0 + x1 * 256 + x2 * 65536 + x3 * 16777216 : Nat) : Int) := by
  have e1 := byte_on x0 x1 1 (by simpa using h0) h1 (by decide)
  have e2 := byte_on (x0 + x1 * 256) x2 2 (by omega) h2 (by decide)
  have e3 := byte_on (x0 + x1 * 256 + x2 * 65536) x3 3 (by omega) h3 (by decide)
  have p1 : (2 : Int) ^ (1 * 8) = 256 := by decide
  have p2 : (2 : Int) ^ (2 * 8) = 65536 := by decide
  have p3 : (2 : Int) ^ (3 * 8) = 16777216 := by decide
  rw [p1] at e1
  rw [p2] at e2
  rw [p3] at e3
  rw [e1]
  simp only [Nat.pow_one] at *
  rw [e2]
  rw [show (256 : Nat) ^ 2 = 65536 by decide]
  rw [e3]
set_option maxHeartbeats 1000000 in
set_option maxRecDepth 100000 in
theorem word_c (g cap x0 x1 x2 x3 : Nat) (h0 : x0 < 256) (h1 : x1 < 256) (h2 : x2 < 256) (h3 : x3 < 256) (w : World) (hB : BytesAt w g 0 [x0, x1, x2, x3]) :
    Calls Tryd.prog 59 #[.slice (some ⟨g, 0, none⟩) 4 cap] w fun e w' => e = .returned (.int .u32 ((x0 + x1 * 256 + x2 * 65536 + x3 * 16777216 : Nat) : Int)) ∧ Below w.heap.size w w' := by
  have hc0 : w.cell? ⟨g, 0, none⟩ = some (.int .u8 (x0 : Int)) := hB.2 0 (show 0 < 4 by decide)
  have hc1 : w.cell? ⟨g, 1, none⟩ = some (.int .u8 (x1 : Int)) := hB.2 1 (show 1 < 4 by decide)
  have hc2 : w.cell? ⟨g, 2, none⟩ = some (.int .u8 (x2 : Int)) := hB.2 2 (show 2 < 4 by decide)
  have hc3 : w.cell? ⟨g, 3, none⟩ = some (.int .u8 (x3 : Int)) := hB.2 3 (show 3 < 4 by decide)
  have hgl := hB.1
  have hp := packL x0 x1 x2 x3 h0 h1 h2 h3
  have hm0 : IntKind.u32.wrap (x0 : Int) = (x0 : Int) := IntWalk.u32_in _ (by omega)
  have hm1 : IntKind.u32.wrap (x1 : Int) = (x1 : Int) := IntWalk.u32_in _ (by omega)
  have hm2 : IntKind.u32.wrap (x2 : Int) = (x2 : Int) := IntWalk.u32_in _ (by omega)
  have hm3 : IntKind.u32.wrap (x3 : Int) = (x3 : Int) := IntWalk.u32_in _ (by omega)
  obtain ⟨y1, ey1⟩ : ∃ y, y = (x1 : Int) * 256 % 4294967296 := ⟨_, rfl⟩
  have hy1 : IntKind.u32.wrap ((x1 : Int) * 256) = y1 := by rw [IntKind.wrap_u32, ey1]
  obtain ⟨y2, ey2⟩ : ∃ y, y = (x2 : Int) * 65536 % 4294967296 := ⟨_, rfl⟩
  have hy2 : IntKind.u32.wrap ((x2 : Int) * 65536) = y2 := by rw [IntKind.wrap_u32, ey2]
  obtain ⟨y3, ey3⟩ : ∃ y, y = (x3 : Int) * 16777216 % 4294967296 := ⟨_, rfl⟩
  have hy3 : IntKind.u32.wrap ((x3 : Int) * 16777216) = y3 := by rw [IntKind.wrap_u32, ey3]
  rw [← ey1, ← ey2, ← ey3] at hp
  generalize ((x0 + x1 * 256 + x2 * 65536 + x3 * 16777216 : Nat) : Int) = x at *
  clear ey1 ey2 ey3 hB h0 h1 h2 h3
  go_enter Tryd.func59, Tryd.ntmps59
  go_wp2_with fail
  refine wp_region_fast (fun w' => ∃ o d, w' = w.plus o d) (by kernel_rfl) (by kernel_rfl) ⟨#[], _, rfl⟩ ?_
  iterate 23 (refine wpHold_val ⟨_, #[], 0, rfl⟩ (wanted_none rfl) (by rintro K _ ⟨o, d, rfl⟩ hK; go_simp; exact hK _ ⟨o, d, rfl⟩) ?_)
  refine wpHold_nil ?_
  rintro _ ⟨o1, n1, rfl⟩
  go_wp2_with fail
  go_ret
  exact ⟨rfl, below_more (Below.refl _ _) _ _⟩

/-! ### A quarter -/
theorem quartW_eq (s : List Int) (i j k l : Nat) : quart s i j k l = (((s.set i (qr (s.getD i 0) (s.getD j 0) (s.getD k 0) (s.getD l 0)).a).set j (qr (s.getD i 0) (s.getD j 0) (s.getD k 0) (s.getD l 0)).b).set k (qr (s.getD i 0) (s.getD j 0) (s.getD k 0) (s.getD l 0)).c).set l (qr (s.getD i 0) (s.getD j 0) (s.getD k 0) (s.getD l 0)).d := rfl
set_option maxHeartbeats 1000000 in
set_option maxRecDepth 100000 in
theorem rquarter_c (g cap i j k l : Nat) (s : List Int) (w : World) (hs : s.length = 16) (hi : i < j) (hj : j < k) (hk : k < l) (hl : l < 16) (h : WordsAt w g s) :
    Calls Tryd.prog 49 #[.slice (some ⟨g, 0, none⟩) 16 cap, .int .i64 (i : Int), .int .i64 (j : Int), .int .i64 (k : Int), .int .i64 (l : Int)] w fun e w' => ∃ g' c', e = .returned (.slice (some ⟨g', 0, none⟩) 16 c') ∧ WordsAt w' g' (quart s i j k l) ∧ Below w.heap.size w w' := by
  obtain ⟨ie, hie, hz0, hz1, hz2⟩ := info_parts info_u32
  have H := Lib.hid h
  have Hq := Lib.hid (quartW_eq s i j k l)
  have Hs := Lib.hid hs
  have hi0 : (0 : Int) ≤ (i : Int) := by omega
  have hi1 : (i : Int) < 16 := by omega
  have hj0 : (0 : Int) ≤ (j : Int) := by omega
  have hj1 : (j : Int) < 16 := by omega
  have hk0 : (0 : Int) ≤ (k : Int) := by omega
  have hk1 : (k : Int) < 16 := by omega
  have hl0 : (0 : Int) ≤ (l : Int) := by omega
  have hl1 : (l : Int) < 16 := by omega
  have hci := h.2 i (by omega)
  have hcj := h.2 j (by omega)
  have hck := h.2 k (by omega)
  have hcl := h.2 l (by omega)
  have hgl := h.1
  generalize s.getD i 0 = a0 at *
  generalize s.getD j 0 = b0 at *
  generalize s.getD k 0 = c0 at *
  generalize s.getD l 0 = d0 at *
  have n1 : ¬ i = j := by omega
  have n2 : ¬ i = k := by omega
  have n3 : ¬ i = l := by omega
  have n4 : ¬ j = k := by omega
  have n5 : ¬ j = l := by omega
  have n6 : ¬ k = l := by omega
  clear h hs
  go_enter Tryd.func49, Tryd.ntmps49
  go_wp2_with fail
  refine wp_region_fast (fun w' => ∃ o d, w' = w.plus o d) (by kernel_rfl) (by kernel_rfl) ⟨#[], _, rfl⟩ ?_
  iterate 20 (refine wpHold_val ⟨_, #[], 0, rfl⟩ (wanted_none rfl) (by rintro K _ ⟨o, d, rfl⟩ hK; go_simp; exact hK _ ⟨o, d, rfl⟩) ?_)
  refine wpHold_nil ?_
  rintro _ ⟨o1, n1, rfl⟩
  have B1 := Lib.hid (below_more (Below.refl w.heap.size w) o1 n1)
  have H1 := Lib.hid (H.out.grow B1.out)
  clear hci hcj hck hcl
  generalize w.plus o1 n1 = W1 at *
  go_wp2_with fail
  refine (left_16 _ _).mono ?_
  rintro e w' ⟨rfl, hwE⟩
  rw [hwE]
  clear hwE w'
  go_wp2_with fail
  refine (left_12 _ _).mono ?_
  rintro e w' ⟨rfl, hwE⟩
  rw [hwE]
  clear hwE w'
  go_wp2_with fail
  refine (left_8 _ _).mono ?_
  rintro e w' ⟨rfl, hwE⟩
  rw [hwE]
  clear hwE w'
  go_wp2_with fail
  refine (left_7 _ _).mono ?_
  rintro e w' ⟨rfl, hwE⟩
  rw [hwE]
  clear hwE w'
  have hsz1 := B1.out.size
  have BA := Lib.hid (below_alloc B1.out (.cells #[] 45))
  have HW := Lib.hid (H1.out.grow (below_alloc (Below.refl _ _) (.cells #[] 45)))
  obtain ⟨v3, w3, hr3, hO3, hgrow3⟩ := app_ownW (k := 16) (cap := cap) (ownW_empty W1 w.heap.size hsz1) HW.out Hs.out.symm (by simp; omega) (by rw [Hs.out]; decide)
  have B3 := Lib.hid (ownW_below BA.out (ownW_empty W1 w.heap.size hsz1) (by simp; omega) hgrow3)
  rw [List.nil_append] at hO3
  obtain ⟨g7, c7, ev7, hg7, hgl7, _⟩ := hO3.addr (k := 16) Hs.out (by decide)
  subst ev7
  have S7 := Lib.hid (hO3.slw hgl7)
  have hcw : ∀ x, x < 16 → w3.cell? ⟨g7, x, none⟩ = some (.int .u32 (s.getD x 0)) := fun x hx => S7.out.1.2 x (by rw [Hs.out]; exact hx)
  have hfw : ∀ x, x < 16 → w3.frozen? ⟨g7, x, none⟩ = false := fun x hx => S7.out.2 x (by rw [Hs.out]; exact hx)
  have hci := hcw i (by omega)
  have hcj := hcw j (by omega)
  have hck := hcw k (by omega)
  have hcl := hcw l (by omega)
  have hfi := hfw i (by omega)
  have hfj := hfw j (by omega)
  have hfk := hfw k (by omega)
  have hfl := hfw l (by omega)
  clear hcw hfw hO3 hgrow3 BA HW H1 B1 hsz1
  go_wp2_with (at_builtin; refine Lib.wpList_append_run _ rfl _ _ _ _ rfl _ _ rfl rfl _ _ hr3 ?_)
  go_wp2_with fail
  go_ret
  refine ⟨g7, c7, rfl, ?_, ?_⟩
  · have h4 := (((S7.out.set (i := i) (x := (qr a0 b0 c0 d0).a) (by rw [Hs.out]; omega)).set (i := j) (x := (qr a0 b0 c0 d0).b) (by rw [List.length_set, Hs.out]; omega)).set (i := k) (x := (qr a0 b0 c0 d0).c) (by rw [List.length_set, List.length_set, Hs.out]; omega)).set (i := l) (x := (qr a0 b0 c0 d0).d) (by rw [List.length_set, List.length_set, List.length_set, Hs.out]; omega)
    rw [← Hq.out] at h4
    exact h4.1
  · exact (((B3.out.setCell (p := ⟨_, _, none⟩) hg7 _).setCell (p := ⟨_, _, none⟩) hg7 _).setCell (p := ⟨_, _, none⟩) hg7 _).setCell (p := ⟨_, _, none⟩) hg7 _
end Go.Proofs.YtnemlmlfhhahgaaDoor

/-
  The reference of layer 5: a block's first words.
-/
namespace Go.Proofs.YtnemlmlfhhahgaaDoor
open Go.RowKit Go.Hold Go.Sh Go.Ch

set_option maxRecDepth 100000 in
@[go_sem] theorem run_bldB4 (w : World) (a b c d : Nat) : (bldB 4 #[(0, .int .u8 (a : Int)), (1, .int .u8 (b : Int)), (2, .int .u8 (c : Int)), (3, .int .u8 (d : Int))]).run Tryd.prog w = .ok (.slice (some ⟨w.heap.size, 0, none⟩) 4 4) (w.alloc (.cells (bysA [a, b, c, d]) 5)) := by
  obtain ⟨ie, h1, h2, h3, _⟩ := info_parts info_u8
  refine run_buildSlice w _ _ 4 _ (bysA [a, b, c, d]) ie _ Tryd.underlying24 h1 h2 (by rw [h3]; decide) (by rw [h3]; decide) ?_
  rw [h3]; kernel_rfl
@[go_sem ↓] theorem fold_bldC (ps : Array (Nat × Value)) : Instr.buildSlice 80 4 ps = bldS 80 4 ps := rfl
set_option maxRecDepth 100000 in
@[go_sem] theorem run_bldC (w : World) : (bldS 80 4 #[(0, .int .u32 1634760805), (1, .int .u32 857760878), (2, .int .u32 2036477234), (3, .int .u32 1797285236)]).run Tryd.prog w = .ok (.slice (some ⟨w.heap.size, 0, none⟩) 4 4) (w.alloc (.cells (wosA cst) 45)) := by
  obtain ⟨ie, h1, h2, h3, _⟩ := info_parts info_u32
  refine run_buildSlice w _ _ 4 _ (wosA cst) ie _ Tryd.underlying80 h1 h2 (by rw [h3]; decide) (by rw [h3]; decide) ?_
  rw [h3]; kernel_rfl
theorem snoc_range (p : List Int) (f : Nat → Int) (j : Nat) : p ++ (List.range j).map f ++ [f j] = p ++ (List.range (j + 1)).map f := by rw [List.range_succ, List.map_append, List.map_singleton, ← List.append_assoc]
theorem ownW_new (w : World) (l : List Int) (hl : l.length ≤ 16777216) : OwnW (w.alloc (.cells (wosA l) 45)) w.heap.size (.slice (some ⟨w.heap.size, 0, none⟩) l.length l.length) l := by
  refine ⟨by rw [wos_length, Nat.mul_one], .inr ⟨w.heap.size, l.length, wosA l, rfl, Nat.le_refl _, block_new w _, Nat.le_refl _, maxLen_small hl, by rw [wosA_size, Nat.mul_one], ?_⟩⟩
  rw [Nat.mul_one]
  show List.take l.length (wos l) = wos l
  rw [List.take_of_length_le (by rw [wos_length]; exact Nat.le_refl _)]
set_option maxHeartbeats 2000000 in
set_option maxRecDepth 100000 in
theorem rfirst_c (k n : List Nat) (c : Int) (hk : k.length = 32) (hkb : ∀ i, k.getD i 0 < 256) (hn : n.length = 12) (hnb : ∀ i, n.getD i 0 < 256) (w : World) :
    Calls Tryd.prog 48 #[.agg (bysA k), .agg (bysA n), .int .u32 c] w fun e w' => ∃ g cp, e = .returned (.slice (some ⟨g, 0, none⟩) 16 cp) ∧ WordsAt w' g (fst k n c) ∧ Below w.heap.size w w' := by
  have hks := bysA_size' hk
  have hns := bysA_size' hn
  have Hkl := Lib.hid hk
  have Hnl := Lib.hid hn
  clear hk hn
  go_enter Tryd.func48, Tryd.ntmps48
  go_wp2_with fail
  have K1 := Lib.hid (show RowAt ((w.alloc (.cells (bysA k) 23)).alloc (.cells (bysA n) 26)) w.heap.size (bysA k) from (RowAt.of (block_new w _)).grow (below_alloc (Below.refl _ _) _))
  have N1 := Lib.hid (show RowAt ((w.alloc (.cells (bysA k) 23)).alloc (.cells (bysA n) 26)) (w.heap.size + 1) (bysA n) by have h := RowAt.of (block_new (w.alloc (.cells (bysA k) 23)) (.cells (bysA n) 26)); simpa using h)
  have B1 := Lib.hid (below_alloc (below_alloc (Below.refl w.heap.size w) (.cells (bysA k) 23)) (.cells (bysA n) 26))
  have O0 := Lib.hid (ownW_new ((w.alloc (.cells (bysA k) 23)).alloc (.cells (bysA n) 26)) cst (by decide))
  have B0 := Lib.hid (below_alloc (Below.refl _ ((w.alloc (.cells (bysA k) 23)).alloc (.cells (bysA n) 26))) (.cells (wosA cst) 45))
  have hsz1 : ((w.alloc (.cells (bysA k) 23)).alloc (.cells (bysA n) 26)).heap.size = w.heap.size + 1 + 1 := by simp
  rw [← hsz1]
  generalize (w.alloc (.cells (bysA k) 23)).alloc (.cells (bysA n) 26) = W1 at *
  clear hsz1
  generalize w.heap.size + 1 = gn at *
  go_loopw [7, 8] (fun v t wr => ∃ j : Nat, j ≤ 8 ∧ t = .int .i64 j ∧ OwnW wr W1.heap.size v (cst ++ (List.range j).map (wd k)) ∧ Below W1.heap.size W1 wr) (fun _ t _ => 8 - (intOf t).toNat)
  case atStart => exact ⟨0, Nat.zero_le _, rfl, by rw [List.range_zero, List.map_nil, List.append_nil]; exact O0.out, B0.out⟩
  case round =>
    obtain ⟨j, hj, rfl, hown, hbel⟩ := hrel
    have hj0 : (0 : Int) ≤ (j : Int) := by omega
    by_cases hjn : j < 8
    · have hj1 : (j : Int) < 8 := by omega
      have hrow := K1.out.grow hbel
      have hgl := hrow.2.2
      obtain ⟨i0, e0⟩ : ∃ y, y = 4 * j + 0 := ⟨_, rfl⟩
      have hc0 := hrow.cellAt i0 (bysA_get k i0 (by rw [Hkl.out]; omega))
      have hb0 := hkb i0
      obtain ⟨i1, e1⟩ : ∃ y, y = 4 * j + 1 := ⟨_, rfl⟩
      have hc1 := hrow.cellAt i1 (bysA_get k i1 (by rw [Hkl.out]; omega))
      have hb1 := hkb i1
      obtain ⟨i2, e2⟩ : ∃ y, y = 4 * j + 2 := ⟨_, rfl⟩
      have hc2 := hrow.cellAt i2 (bysA_get k i2 (by rw [Hkl.out]; omega))
      have hq2 := hkb i2
      obtain ⟨i3, e3⟩ : ∃ y, y = 4 * j + 3 := ⟨_, rfl⟩
      have hc3 := hrow.cellAt i3 (bysA_get k i3 (by rw [Hkl.out]; omega))
      have hb3 := hkb i3
      have Hw := Lib.hid (show (((k.getD i0 0 + k.getD i1 0 * 256 + k.getD i2 0 * 65536 + k.getD i3 0 * 16777216 : Nat)) : Int) = wd k j by unfold wd; rw [wd_eq, e0, e1, e2, e3]; rfl)
      generalize k.getD i0 0 = x0 at *
      have ha0 : (0 : Int) ≤ (i0 : Int) := by omega
      have hd0 : (i0 : Int) < 32 := by omega
      generalize k.getD i1 0 = x1 at *
      have ha1 : (0 : Int) ≤ (i1 : Int) := by omega
      have hd1 : (i1 : Int) < 32 := by omega
      generalize k.getD i2 0 = x2 at *
      have ha2 : (0 : Int) ≤ (i2 : Int) := by omega
      have hd2 : (i2 : Int) < 32 := by omega
      generalize k.getD i3 0 = x3 at *
      have ha3 : (0 : Int) ≤ (i3 : Int) := by omega
      have hd3 : (i3 : Int) < 32 := by omega
      have hw0 : IntKind.i64.wrap (4 * (j : Int)) = (i0 : Int) := by rw [IntWalk.i64_in _ (by omega)]; omega
      have hw1 : IntKind.i64.wrap ((i0 : Int) + 1) = (i1 : Int) := by rw [IntWalk.i64_in _ (by omega)]; omega
      have hw2 : IntKind.i64.wrap ((i0 : Int) + 2) = (i2 : Int) := by rw [IntWalk.i64_in _ (by omega)]; omega
      have hw3 : IntKind.i64.wrap ((i0 : Int) + 3) = (i3 : Int) := by rw [IntWalk.i64_in _ (by omega)]; omega
      have hlen : (cst ++ (List.range j).map (wd k)).length ≤ 16 := by simp [cst]; omega
      have HL := Lib.hid (show cst ++ (List.range j).map (wd k) ++ [wd k j] = cst ++ (List.range (j + 1)).map (wd k) from snoc_range _ _ _)
      generalize cst ++ (List.range j).map (wd k) = L at *
      have Hlen := Lib.hid hlen
      have Hown := Lib.hid hown
      have Hbel := Lib.hid hbel
      clear e0 e1 e2 e3 hlen hown hbel hrow
      go_wp2_with fail
      refine wp_region_pick wr [0, 1, 2, 3, 4, 5, 6, 7, 8, 9, 10, 11, 12, 13, 14, 15, 16, 17, 18, 19] [true, false, false, false, false, false, false, false, false, false, false, false, false, false, false, false, false, false, false, false] [] [] 20 (by kernel_rfl) rfl (by kernel_rfl) (by intro c a d v w h; cases d <;> exact h) ((Below.refl _ _).drew) ?_
      simp only [pick, List.getElem?_cons_succ, List.getElem?_cons_zero, List.drop_succ_cons, List.drop_zero]
      refine wpHoldF_late (wanted_none rfl) (fun w => by go_simp; rfl) ?_
      iterate 19 (refine wpHoldF_val (wanted_none rfl) (by intro K o d hK; go_simp; exact hK _ (Below.refl _ _)) ?_)
      refine wpHoldF_nil ?_
      intro w2 hb2 _
      have Ho2 := Lib.hid (Hown.out.below hb2)
      have Hb2 := Lib.hid (Hbel.out.trans (hb2.mono Hbel.out.size))
      clear hb2 hc0 hc1 hc2 hc3 Hown Hbel
      go_wp2_with fail
      refine (word_c _ 4 x0 x1 x2 x3 hb0 hb1 hq2 hb3 _ (bytes_new w2 [x0, x1, x2, x3] 5 (0, 0))).mono ?_
      rintro e w3 ⟨rfl, hb3'⟩
      rw [Hw.out]
      have hbA := below_alloc (Below.refl w2.heap.size w2) (.cells (bysA [x0, x1, x2, x3]) 5)
      have hb23 : Below w2.heap.size w2 w3 := hbA.trans (hb3'.mono hbA.size)
      have Ho3 := Lib.hid (Ho2.out.below hb23)
      have Hb3 := Lib.hid (Hb2.out.trans (hb23.mono Hb2.out.size))
      clear hbA hb23 hb3' Ho2 Hb2
      generalize wd k j = x at *
      have hbB := below_alloc (Below.refl w3.heap.size w3) (.cells (wosA [x]) 45)
      have hsz3 := Hb3.out.size
      obtain ⟨v4, w4, hr4, hO4, hg4⟩ := app_ownW (k := 1) (cap := 1) (Ho3.out.below hbB) (words_new w3 [x] 45) rfl (by simp; omega) (by have := Hlen.out; simp only [List.length_cons, List.length_nil]; omega)
      have Hb4 := Lib.hid (ownW_below (Hb3.out.alloc hsz3 (.cells (wosA [x]) 45)) (Ho3.out.below hbB) (by simp; omega) hg4)
      have Ho4 := Lib.hid hO4
      rw [HL.out] at Ho4
      have hr5 : (Builtin.append_ #[80, 80] 80 #[u7, .slice (some ⟨w3.heap.size, 0, none⟩) 1 1]).run Tryd.prog (w3.alloc (.cells #[.int .u32 x] 45)) = .ok v4 w4 := hr4
      clear hbB hO4 hg4 Ho3 Hb3 hsz3 hr4
      go_wp2_with (at_builtin; refine Lib.wpList_append_run _ rfl _ _ _ _ rfl _ _ rfl rfl _ _ hr5 ?_)
      go_wp2_with fail
      go_roundw
      case rel => exact ⟨j + 1, by omega, by go_num, Ho4.out, Hb4.out⟩
      case measure => simp [intOf]; omega
    · obtain rfl : j = 8 := by omega
      rw [show ((8 : Nat) : Int) = 8 from rfl]
      have hlen8 : (cst ++ (List.range 8).map (wd k)).length = 12 := by simp [cst]
      have hbB := below_alloc (Below.refl wr.heap.size wr) (.cells (wosA [c]) 45)
      have hsz3 := hbel.size
      obtain ⟨v4, w4, hr4, hO4, hg4⟩ := app_ownW (k := 1) (cap := 1) (hown.below hbB) (words_new wr [c] 45) rfl (by simp; omega) (by rw [hlen8]; show 13 ≤ 16777216; decide)
      have B2 := Lib.hid (ownW_below (hbel.alloc hsz3 (.cells (wosA [c]) 45)) (hown.below hbB) (by simp; omega) hg4)
      have O2 := Lib.hid hO4
      have hr5 : (Builtin.append_ #[80, 80] 80 #[u7, .slice (some ⟨wr.heap.size, 0, none⟩) 1 1]).run Tryd.prog (wr.alloc (.cells #[.int .u32 c] 45)) = .ok v4 w4 := hr4
      clear hbB hO4 hg4 hsz3 hr4 hown hbel hlen8
      go_wp2_with (at_builtin; refine Lib.wpList_append_run _ rfl _ _ _ _ rfl _ _ rfl rfl _ _ hr5 ?_)
      go_wp2_with fail
      clear O0 B0
      have O0 := O2
      have B0 := B2
      go_loopw [7, 9] (fun v t wr => ∃ j : Nat, j ≤ 3 ∧ t = .int .i64 j ∧ OwnW wr W1.heap.size v ((cst ++ (List.range 8).map (wd k) ++ [c]) ++ (List.range j).map (wd n)) ∧ Below W1.heap.size W1 wr) (fun _ t _ => 3 - (intOf t).toNat)
      case atStart => exact ⟨0, Nat.zero_le _, rfl, by rw [List.range_zero, List.map_nil, List.append_nil]; exact O0.out, B0.out⟩
      case round =>
        obtain ⟨j, hj, rfl, hown, hbel⟩ := hrel
        have hj0 : (0 : Int) ≤ (j : Int) := by omega
        by_cases hjn : j < 3
        · have hj1 : (j : Int) < 3 := by omega
          have hrow := N1.out.grow hbel
          have hgl := hrow.2.2
          obtain ⟨i0, e0⟩ : ∃ y, y = 4 * j + 0 := ⟨_, rfl⟩
          have hc0 := hrow.cellAt i0 (bysA_get n i0 (by rw [Hnl.out]; omega))
          have hb0 := hnb i0
          obtain ⟨i1, e1⟩ : ∃ y, y = 4 * j + 1 := ⟨_, rfl⟩
          have hc1 := hrow.cellAt i1 (bysA_get n i1 (by rw [Hnl.out]; omega))
          have hb1 := hnb i1
          obtain ⟨i2, e2⟩ : ∃ y, y = 4 * j + 2 := ⟨_, rfl⟩
          have hc2 := hrow.cellAt i2 (bysA_get n i2 (by rw [Hnl.out]; omega))
          have hq2 := hnb i2
          obtain ⟨i3, e3⟩ : ∃ y, y = 4 * j + 3 := ⟨_, rfl⟩
          have hc3 := hrow.cellAt i3 (bysA_get n i3 (by rw [Hnl.out]; omega))
          have hb3 := hnb i3
          have Hw := Lib.hid (show (((n.getD i0 0 + n.getD i1 0 * 256 + n.getD i2 0 * 65536 + n.getD i3 0 * 16777216 : Nat)) : Int) = wd n j by unfold wd; rw [wd_eq, e0, e1, e2, e3]; rfl)
          generalize n.getD i0 0 = x0 at *
          have ha0 : (0 : Int) ≤ (i0 : Int) := by omega
          have hd0 : (i0 : Int) < 12 := by omega
          generalize n.getD i1 0 = x1 at *
          have ha1 : (0 : Int) ≤ (i1 : Int) := by omega
          have hd1 : (i1 : Int) < 12 := by omega
          generalize n.getD i2 0 = x2 at *
          have ha2 : (0 : Int) ≤ (i2 : Int) := by omega
          have hd2 : (i2 : Int) < 12 := by omega
          generalize n.getD i3 0 = x3 at *
          have ha3 : (0 : Int) ≤ (i3 : Int) := by omega
          have hd3 : (i3 : Int) < 12 := by omega
          have hw0 : IntKind.i64.wrap (4 * (j : Int)) = (i0 : Int) := by rw [IntWalk.i64_in _ (by omega)]; omega
          have hw1 : IntKind.i64.wrap ((i0 : Int) + 1) = (i1 : Int) := by rw [IntWalk.i64_in _ (by omega)]; omega
          have hw2 : IntKind.i64.wrap ((i0 : Int) + 2) = (i2 : Int) := by rw [IntWalk.i64_in _ (by omega)]; omega
          have hw3 : IntKind.i64.wrap ((i0 : Int) + 3) = (i3 : Int) := by rw [IntWalk.i64_in _ (by omega)]; omega
          have hlen : ((cst ++ (List.range 8).map (wd k) ++ [c]) ++ (List.range j).map (wd n)).length ≤ 16 := by simp [cst]; omega
          have HL := Lib.hid (show (cst ++ (List.range 8).map (wd k) ++ [c]) ++ (List.range j).map (wd n) ++ [wd n j] = (cst ++ (List.range 8).map (wd k) ++ [c]) ++ (List.range (j + 1)).map (wd n) from snoc_range _ _ _)
          generalize (cst ++ (List.range 8).map (wd k) ++ [c]) ++ (List.range j).map (wd n) = L at *
          have Hlen := Lib.hid hlen
          have Hown := Lib.hid hown
          have Hbel := Lib.hid hbel
          clear e0 e1 e2 e3 hlen hown hbel hrow
          go_wp2_with fail
          refine wp_region_pick wr [0, 1, 2, 3, 4, 5, 6, 7, 8, 9, 10, 11, 12, 13, 14, 15, 16, 17, 18, 19] [true, false, false, false, false, false, false, false, false, false, false, false, false, false, false, false, false, false, false, false] [] [] 20 (by kernel_rfl) rfl (by kernel_rfl) (by intro c a d v w h; cases d <;> exact h) ((Below.refl _ _).drew) ?_
          simp only [pick, List.getElem?_cons_succ, List.getElem?_cons_zero, List.drop_succ_cons, List.drop_zero]
          refine wpHoldF_late (wanted_none rfl) (fun w => by go_simp; rfl) ?_
          iterate 19 (refine wpHoldF_val (wanted_none rfl) (by intro K o d hK; go_simp; exact hK _ (Below.refl _ _)) ?_)
          refine wpHoldF_nil ?_
          intro w2 hb2 _
          have Ho2 := Lib.hid (Hown.out.below hb2)
          have Hb2 := Lib.hid (Hbel.out.trans (hb2.mono Hbel.out.size))
          clear hb2 hc0 hc1 hc2 hc3 Hown Hbel
          go_wp2_with fail
          refine (word_c _ 4 x0 x1 x2 x3 hb0 hb1 hq2 hb3 _ (bytes_new w2 [x0, x1, x2, x3] 5 (0, 0))).mono ?_
          rintro e w3 ⟨rfl, hb3'⟩
          rw [Hw.out]
          have hbA := below_alloc (Below.refl w2.heap.size w2) (.cells (bysA [x0, x1, x2, x3]) 5)
          have hb23 : Below w2.heap.size w2 w3 := hbA.trans (hb3'.mono hbA.size)
          have Ho3 := Lib.hid (Ho2.out.below hb23)
          have Hb3 := Lib.hid (Hb2.out.trans (hb23.mono Hb2.out.size))
          clear hbA hb23 hb3' Ho2 Hb2
          generalize wd n j = x at *
          have hbB := below_alloc (Below.refl w3.heap.size w3) (.cells (wosA [x]) 45)
          have hsz3 := Hb3.out.size
          obtain ⟨v4, w4, hr4, hO4, hg4⟩ := app_ownW (k := 1) (cap := 1) (Ho3.out.below hbB) (words_new w3 [x] 45) rfl (by simp; omega) (by have := Hlen.out; simp only [List.length_cons, List.length_nil]; omega)
          have Hb4 := Lib.hid (ownW_below (Hb3.out.alloc hsz3 (.cells (wosA [x]) 45)) (Ho3.out.below hbB) (by simp; omega) hg4)
          have Ho4 := Lib.hid hO4
          rw [HL.out] at Ho4
          have hr5 : (Builtin.append_ #[80, 80] 80 #[u7, .slice (some ⟨w3.heap.size, 0, none⟩) 1 1]).run Tryd.prog (w3.alloc (.cells #[.int .u32 x] 45)) = .ok v4 w4 := hr4
          clear hbB hO4 hg4 Ho3 Hb3 hsz3 hr4
          go_wp2_with (at_builtin; refine Lib.wpList_append_run _ rfl _ _ _ _ rfl _ _ rfl rfl _ _ hr5 ?_)
          go_wp2_with fail
          go_roundw
          case rel => exact ⟨j + 1, by omega, by go_num, Ho4.out, Hb4.out⟩
          case measure => simp [intOf]; omega
        · obtain rfl : j = 3 := by omega
          obtain ⟨g, cp, ev, hg, hgl, hc⟩ := OwnW.addr (k := 16) hown (by simp [cst]) (by decide)
          subst ev
          have HW := Lib.hid (show WordsAt wr g (fst k n c) from hown.words hgl)
          have HB := Lib.hid (B1.out.trans (hbel.mono B1.out.size))
          clear hown hbel
          go_wp2_with fail
          go_ret
          exact ⟨_, _, rfl, HW.out, HB.out⟩
end Go.Proofs.YtnemlmlfhhahgaaDoor

/-
  The reference of layer 5: a block.
-/
namespace Go.Proofs.YtnemlmlfhhahgaaDoor
open Go.RowKit Go.Hold Go.Sh Go.Ch

theorem Sets.words {w w' : World} {g b : Nat} {c : Array Value} {l : List Int} (s : Sets w g c w') (h : WordsAt w b l) (hn : b ≠ g) : WordsAt w' b l := by
  obtain ⟨os, d, rfl⟩ := s
  have h1 : WordsAt (w.setRow g c) b l := ⟨by rw [size_setRow]; exact h.1, fun i hi => by rw [World.cell?_of_block (w := w) (setRow_other w g b c hn)]; exact h.2 i hi⟩
  exact h1.grow (below_more (Below.refl _ _) os d)
set_option maxHeartbeats 2000000 in
set_option maxRecDepth 100000 in
theorem rblock_c (k n : List Nat) (c : Nat) (hk : k.length = 32) (hkb : ∀ i, k.getD i 0 < 256) (hn : n.length = 12) (hnb : ∀ i, n.getD i 0 < 256) (w : World) :
    Calls Tryd.prog 39 #[.agg (bysA k), .agg (bysA n), .int .u32 (c : Int)] w fun e w' => e = .returned (.agg (bysA (blk k n c))) ∧ Below w.heap.size w w' := by
  have hks := bysA_size' hk
  have hns := bysA_size' hn
  have HF := Lib.hid (rfirst_c k n (c : Int) hk hkb hn hnb)
  have Hb := Lib.hid (blk_eq k n c)
  have hlf := fst_length k n (c : Int)
  generalize fst k n (c : Int) = F at *
  have Hlf := Lib.hid hlf
  clear hlf hk hkb hn hnb
  go_enter Tryd.func39, Tryd.ntmps39
  go_wp2_with fail
  generalize hW : World.alloc _ _ = W1
  obtain ⟨z0, hz0, hR0⟩ : ∃ c : Array Value, c.size = 64 ∧ RowAt W1 (w.heap.size + 1 + 1) c := by rw [← hW]; clear hW; exact ⟨bysA (zs 64), by rw [bysA_size]; rfl, by go_simp, by go_simp; rfl, by go_simp⟩
  have R1 := Lib.hid hR0
  have B1 := Lib.hid (show Below w.heap.size w W1 by rw [← hW]; repeat (first | apply below_more | apply below_alloc | apply Below.drew | exact Below.refl _ _))
  clear hW hR0
  have l1 : w.heap.size ≤ w.heap.size + 1 + 1 := by omega
  generalize w.heap.size + 1 + 1 = gr at *
  refine (HF.out _).mono ?_
  rintro e W2 ⟨gw, cw, rfl, hw2, hb2⟩
  have R2 := Lib.hid (R1.out.grow hb2)
  have B2 := Lib.hid (B1.out.trans (hb2.mono B1.out.size))
  have F2 := Lib.hid hw2
  clear hb2 hw2 R1 B1 HF
  go_wp2_with fail
  go_loopw [8, 9] (fun v t wr => ∃ (m g cg : Nat), m ≤ 10 ∧ t = .int .i64 m ∧ v = .slice (some ⟨g, 0, none⟩) 16 cg ∧ WordsAt wr g (drnds F m) ∧ Below W2.heap.size W2 wr) (fun _ t _ => 10 - (intOf t).toNat)
  case atStart => exact ⟨0, gw, cw, Nat.zero_le _, rfl, rfl, F2.out, Below.refl _ _⟩
  case round =>
    obtain ⟨m, g, cg, hm, rfl, rfl, hwd, hbel⟩ := hrel
    by_cases hm10 : m < 10
    · have hm1 : (m : Int) < 10 := by omega
      have HE := Lib.hid (show drnds F (m + 1) = dias (cols (drnds F m) 4) 4 from rfl)
      have hlD : (drnds F m).length = 16 := by rw [drnds_length, Hlf.out]
      have HlD := Lib.hid hlD
      generalize drnds F m = D at *
      have HW := Lib.hid hwd
      have HB := Lib.hid hbel
      clear hwd hbel hlD
      obtain ⟨W3, eW3⟩ : ∃ x, x = wr := ⟨_, rfl⟩
      rw [← eW3] at HW HB ⊢
      clear eW3
      go_wp2_with fail
      go_loopw [8, 10] (fun v t wr => ∃ (i g cg : Nat), i ≤ 4 ∧ t = .int .i64 i ∧ v = .slice (some ⟨g, 0, none⟩) 16 cg ∧ WordsAt wr g (cols D i) ∧ Below W2.heap.size W2 wr) (fun _ t _ => 4 - (intOf t).toNat)
      case atStart => exact ⟨0, g, cg, Nat.zero_le _, rfl, rfl, HW.out, HB.out⟩
      case round =>
        obtain ⟨i, g, cg, hi, rfl, rfl, hwd, hbel⟩ := hrel
        by_cases hi4 : i < 4
        · have hi0 : (i : Int) < 4 := by omega
          have h1 : IntKind.i64.wrap ((i : Int) + 4) = ((4 + i : Nat) : Int) := by rw [IntWalk.i64_in _ (by omega)]; omega
          have h2 : IntKind.i64.wrap ((i : Int) + 8) = ((8 + i : Nat) : Int) := by rw [IntWalk.i64_in _ (by omega)]; omega
          have h3 : IntKind.i64.wrap ((i : Int) + 12) = ((12 + i : Nat) : Int) := by rw [IntWalk.i64_in _ (by omega)]; omega
          have HQ := Lib.hid (rquarter_c g cg i (4 + i) (8 + i) (12 + i) (cols D i) wr (by rw [cols_length, HlD.out]) (by omega) (by omega) (by omega) (by omega) hwd)
          have HE2 := Lib.hid (show cols D (i + 1) = quart (cols D i) i (4 + i) (8 + i) (12 + i) from rfl)
          generalize ((4 + i : Nat) : Int) = x1 at *
          generalize ((8 + i : Nat) : Int) = x2 at *
          generalize ((12 + i : Nat) : Int) = x3 at *
          have HB3 := Lib.hid hbel
          clear hbel hwd
          go_wp2_with fail
          refine HQ.out.mono ?_
          rintro e W ⟨g2, c2, rfl, hw3, hb3⟩
          have HW4 := Lib.hid hw3
          have HB4 := Lib.hid (HB3.out.trans (hb3.mono HB3.out.size))
          clear hw3 hb3
          go_wp2_with fail
          go_roundw
          case rel => exact ⟨i + 1, g2, c2, by omega, by go_num, rfl, by rw [HE2.out]; exact HW4.out, HB4.out⟩
          case measure => simp [intOf]; omega
        · obtain rfl : i = 4 := by omega
          rw [show ((4 : Nat) : Int) = 4 from rfl]
          have HW4 := Lib.hid hwd
          have HB4 := Lib.hid hbel
          clear hwd hbel
          obtain ⟨W4, eW4⟩ : ∃ x, x = wr := ⟨_, rfl⟩
          rw [← eW4] at HW4 HB4 ⊢
          clear eW4
          go_wp2_with fail
          go_loopw [8, 11] (fun v t wr => ∃ (i g cg : Nat), i ≤ 4 ∧ t = .int .i64 i ∧ v = .slice (some ⟨g, 0, none⟩) 16 cg ∧ WordsAt wr g (dias (cols D 4) i) ∧ Below W2.heap.size W2 wr) (fun _ t _ => 4 - (intOf t).toNat)
          case atStart => exact ⟨0, g, cg, Nat.zero_le _, rfl, rfl, HW4.out, HB4.out⟩
          case round =>
            obtain ⟨i, g, cg, hi, rfl, rfl, hwd, hbel⟩ := hrel
            by_cases hi4 : i < 4
            · have hn0 : (i : Int) < 4 := by omega
              have h1 : IntKind.i64.wrap ((i : Int) + 1) = ((i + 1 : Nat) : Int) := by rw [IntWalk.i64_in _ (by omega)]; omega
              have h2 : IntKind.i64.wrap ((i : Int) + 2) = ((i + 2 : Nat) : Int) := by rw [IntWalk.i64_in _ (by omega)]; omega
              have h3 : IntKind.i64.wrap ((i : Int) + 3) = ((i + 3 : Nat) : Int) := by rw [IntWalk.i64_in _ (by omega)]; omega
              have t1 : ((i + 1 : Nat) : Int).tmod 4 = (((i + 1) % 4 : Nat) : Int) := rfl
              have t2 : ((i + 2 : Nat) : Int).tmod 4 = (((i + 2) % 4 : Nat) : Int) := rfl
              have t3 : ((i + 3 : Nat) : Int).tmod 4 = (((i + 3) % 4 : Nat) : Int) := rfl
              have m1 : IntKind.i64.wrap (4 + (((i + 1) % 4 : Nat) : Int)) = ((4 + (i + 1) % 4 : Nat) : Int) := by rw [IntWalk.i64_in _ (by omega)]; omega
              have m2 : IntKind.i64.wrap (8 + (((i + 2) % 4 : Nat) : Int)) = ((8 + (i + 2) % 4 : Nat) : Int) := by rw [IntWalk.i64_in _ (by omega)]; omega
              have m3 : IntKind.i64.wrap (12 + (((i + 3) % 4 : Nat) : Int)) = ((12 + (i + 3) % 4 : Nat) : Int) := by rw [IntWalk.i64_in _ (by omega)]; omega
              have HQ := Lib.hid (rquarter_c g cg i (4 + (i + 1) % 4) (8 + (i + 2) % 4) (12 + (i + 3) % 4) (dias (cols D 4) i) wr (by rw [dias_length, cols_length, HlD.out]) (by omega) (by omega) (by omega) (by omega) hwd)
              have HE2 := Lib.hid (show dias (cols D 4) (i + 1) = quart (dias (cols D 4) i) i (4 + (i + 1) % 4) (8 + (i + 2) % 4) (12 + (i + 3) % 4) from rfl)
              generalize ((4 + (i + 1) % 4 : Nat) : Int) = x1 at *
              generalize ((8 + (i + 2) % 4 : Nat) : Int) = x2 at *
              generalize ((12 + (i + 3) % 4 : Nat) : Int) = x3 at *
              generalize (((i + 1) % 4 : Nat) : Int) = y1 at *
              generalize (((i + 2) % 4 : Nat) : Int) = y2 at *
              generalize (((i + 3) % 4 : Nat) : Int) = y3 at *
              generalize ez1 : ((i + 1 : Nat) : Int) = z1 at *
              have Ez1 := Lib.hid ez1
              clear ez1
              generalize ((i + 2 : Nat) : Int) = z2 at *
              generalize ((i + 3 : Nat) : Int) = z3 at *
              have HB5 := Lib.hid hbel
              clear hwd hbel
              go_wp2_with fail
              refine HQ.out.mono ?_
              rintro e W ⟨g2, c2, rfl, hw3, hb3⟩
              have HW6 := Lib.hid hw3
              have HB6 := Lib.hid (HB5.out.trans (hb3.mono HB5.out.size))
              clear hw3 hb3
              go_wp2_with fail
              go_roundw
              case rel => exact ⟨i + 1, g2, c2, by omega, by rw [Ez1.out], rfl, by rw [HE2.out]; exact HW6.out, HB6.out⟩
              case measure => have := Ez1.out; simp [intOf]; omega
            · obtain rfl : i = 4 := by omega
              have HW5 := Lib.hid hwd
              have HB5 := Lib.hid hbel
              clear hwd hbel
              go_wp2_with fail
              go_roundw
              case rel => exact ⟨m + 1, g, cg, by omega, by go_num, rfl, by rw [HE.out]; exact HW5.out, HB5.out⟩
              case measure => simp [intOf]; omega
    · obtain rfl : m = 10 := by omega
      rw [show ((10 : Nat) : Int) = 10 from rfl]
      have hlD : (drnds F 10).length = 16 := by rw [drnds_length, Hlf.out]
      have HlD := Lib.hid hlD
      generalize drnds F 10 = D at *
      have HW := Lib.hid hwd
      have HB := Lib.hid hbel
      clear hwd hbel hlD
      obtain ⟨W3, eW3⟩ : ∃ x, x = wr := ⟨_, rfl⟩
      rw [← eW3] at HW HB ⊢
      clear eW3
      go_wp2_with fail
      generalize hW : World.alloc _ _ = W4
      have O4 := Lib.hid (show RowAt W4 W3.heap.size (bysA (outP (sum16 D F) 0)) by rw [← hW, outP_zero]; clear hW; exact ⟨by go_simp, by go_simp; rfl, by go_simp⟩)
      have hbA : Below W3.heap.size W3 W4 := by rw [← hW]; exact below_alloc (Below.refl _ _) _
      have D4 := Lib.hid (HW.out.grow hbA)
      have F4 := Lib.hid ((F2.out.grow HB.out).grow hbA)
      have R4 := Lib.hid ((R2.out.grow HB.out).grow hbA)
      have B4 := Lib.hid ((B2.out.trans (HB.out.mono B2.out.size)).trans (hbA.mono (Nat.le_trans B2.out.size HB.out.size)))
      have q1 : g ≠ W3.heap.size := by have := HW.out.1; omega
      have q2 : gw ≠ W3.heap.size := by have := (F2.out.grow HB.out).1; omega
      have q3 : gr ≠ W3.heap.size := by have := (R2.out.grow HB.out).2.2; omega
      have q4 : w.heap.size ≤ W3.heap.size := by have := B2.out.size; have := HB.out.size; omega
      clear hW hbA HW HB
      generalize W3.heap.size = go at *
      go_loopw [13] (fun t wr => ∃ i : Nat, i ≤ 64 ∧ t = .int .i64 i ∧ Sets W4 go (bysA (outP (sum16 D F) i)) wr) (fun t _ => 64 - (intOf t).toNat)
      case atStart => exact ⟨0, Nat.zero_le _, rfl, Sets.refl O4.out⟩
      case round =>
        obtain ⟨i, hi, rfl, hset⟩ := hrel
        by_cases hi64 : i < 64
        · have hi0 : (0 : Int) ≤ (i : Int) := by omega
          have hi1 : (i : Int) < 64 := by omega
          have hq : (i : Int).tdiv 4 = ((i / 4 : Nat) : Int) := rfl
          have hm : (i : Int).tmod 4 = ((i % 4 : Nat) : Int) := rfl
          have hrow := hset.row O4.out
          have hcd := (hset.words D4.out q1).2 (i / 4) (by rw [HlD.out]; omega)
          have hcf := (hset.words F4.out q2).2 (i / 4) (by rw [Hlf.out]; omega)
          have hgd := (hset.words D4.out q1).1
          have hgf := (hset.words F4.out q2).1
          have hck := hrow.cellAt i (bysA_get _ i (by rw [outP_length]; exact hi64))
          have hgo := hrow.2.2
          have Hset := Lib.hid (outP_set (sum16 D F) i hi64)
          have h0 : (0 : Int) ≤ ((i / 4 : Nat) : Int) := by omega
          have h8 : ((i / 4 : Nat) : Int) < 16 := by omega
          obtain ⟨x, ex⟩ : ∃ y, y = i % 4 * 8 := ⟨_, rfl⟩
          have h1 : IntKind.i64.wrap (8 * ((i % 4 : Nat) : Int)) = (x : Int) := by rw [IntWalk.i64_in _ (by omega)]; omega
          have h2 : IntKind.u64.wrap (x : Int) = (x : Int) := IntWalk.u64_in _ (by omega)
          have hm0 : (0 : Int) ≤ (x : Int) := by omega
          have hm1 : (x : Int) ≤ 32 := by omega
          obtain ⟨v, ev⟩ : ∃ v, v = oB (sum16 D F) i := ⟨_, rfl⟩
          rw [← ev] at Hset
          have hv : add32 (D.getD (i / 4) 0) (F.getD (i / 4) 0) / 2 ^ x % 256 = (v : Int) := by rw [ev, oI_nat, ex, ← sum16_get D F (i / 4) (by omega)]; rfl
          clear ex ev
          generalize D.getD (i / 4) 0 = xd at hcd hv
          generalize F.getD (i / 4) 0 = xf at hcf hv
          have hqw : IntKind.i64.wrap ((i / 4 : Nat) : Int) = ((i / 4 : Nat) : Int) := IntWalk.i64_in _ (by omega)
          generalize i / 4 = q at *
          generalize i % 4 = r4 at *
          have HS := Lib.hid hset
          clear hset hrow
          go_wp2_with fail
          refine wp_region_pick wr [0, 1, 2, 3, 4, 5, 6, 7, 8, 9, 10, 11, 12, 13, 14, 15, 16, 17, 18] [false, false, false, false, false, false, false, false, false, false, false, false, false, false, false, false, false, false, false] [] [] 19 (by kernel_rfl) rfl (by kernel_rfl) (by intro c a d v w h; cases d <;> exact h) ((Below.refl _ _).drew) ?_
          simp only [pick, List.getElem?_cons_succ, List.getElem?_cons_zero, List.drop_succ_cons, List.drop_zero]
          iterate 19 (refine wpHoldF_val (wanted_none rfl) (by intro K o d hK; go_simp; exact hK _ (Below.refl _ _)) ?_)
          refine wpHoldF_nil ?_
          intro w2 hb2 _
          have S2 := Lib.hid (HS.out.grow hb2)
          have hc2 := (S2.out.row O4.out).cellAt i (bysA_get _ i (by rw [outP_length]; exact hi64))
          have hf2 := (S2.out.row O4.out).frozenAt i
          clear hb2 hck hcd hcf HS
          go_wp2_with fail
          go_roundw
          case rel =>
            refine ⟨i + 1, by omega, by go_num, ?_⟩
            rw [← Hset.out, ← bysA_set]; exact S2.out.cell O4.out
          case measure => simp [intOf]; omega
        · obtain rfl : i = 64 := by omega
          rw [outP_all] at hset
          obtain ⟨c1, c2, c3⟩ := hset.row O4.out
          obtain ⟨r1, r2, r3⟩ := hset.old R4.out q3
          have B5 := Lib.hid (hset.below B4.out q4 B4.out.size)
          have hy := bysA_size' (outB_length (sum16 D F))
          clear hset
          go_wp2_with fail
          refine bodyPost_ret (v := .agg (bysA (outB (sum16 D F)))) (results_b64 Tryd.results39 hy _ _ _ rfl (by go_simp) (by go_simp)) rfl ⟨by rw [Hb.out], ?_⟩
          exact below_setRow B5.out l1 _
end Go.Proofs.YtnemlmlfhhahgaaDoor

/-
  The reference of layer 5: so many bytes of a stream, bytes that are turned.
-/
namespace Go.Ch
open Go Go.Sh
theorem strm_pre (k n : List Nat) (c a b : Nat) (h : b ≤ a) : (strm k n c a).take b = strm k n c b := by
  unfold strm
  rw [← List.map_take, List.take_range, Nat.min_eq_left h]
theorem strm_next (k n : List Nat) (c j : Nat) : strm k n c (64 * j) ++ blk k n (c + j) = strm k n c (64 * (j + 1)) := by
  have hb := blk_length k n (c + j)
  apply List.ext_getElem?
  intro i
  by_cases h : i < 64 * j
  · rw [List.getElem?_append_left (by rw [strm_length]; exact h)]
    simp only [strm, List.getElem?_map, List.getElem?_range h, List.getElem?_range (show i < 64 * (j + 1) by omega)]
  · rw [List.getElem?_append_right (by rw [strm_length]; omega), strm_length]
    by_cases h2 : i < 64 * (j + 1)
    · rw [List.getElem?_eq_getElem (show i - 64 * j < (blk k n (c + j)).length by omega)]
      simp only [strm, List.getElem?_map, List.getElem?_range h2, Option.map_some]
      unfold stB
      rw [show c + i / 64 = c + j by omega, show i % 64 = i - 64 * j by omega]
      simp [List.getD, hb, show i - 64 * j < 64 by omega]
    · rw [List.getElem?_eq_none (by omega), List.getElem?_eq_none (by rw [strm_length]; omega)]
theorem mixd_snoc (a b : List Nat) (j : Nat) (h : j < b.length) : (mixd a b).take j ++ [a.getD j 0 ^^^ b.getD j 0] = (mixd a b).take (j + 1) := by
  rw [List.take_add_one, List.getElem?_eq_getElem (by rw [mixd_length]; exact h)]
  simp [mixd]
end Go.Ch
namespace Go.Proofs.YtnemlmlfhhahgaaDoor
open Go.RowKit Go.Hold Go.Sh Go.Ch

theorem rowAt_grown {w w' : World} {g : Nat} {c : Array Value} {r : Option Nat} (h : RowAt w g c) (hg : w.grownBy w' r) (hn : r ≠ some g) : RowAt w' g c := by
  obtain ⟨t, ht⟩ := h.block
  exact RowAt.of (t := t) (by rw [hg.block g h.2.2 (by intro e; exact hn (by rw [e]))]; exact ht)
set_option maxHeartbeats 400000 in
set_option maxRecDepth 100000 in
/-- What is refused. -/
theorem rstream_bad (k n : List Nat) (c : Nat) (z er : Int) (hc : c < 4294967296) (w : World)
    (h : z < 0 ∧ er = 2 ∨ 65536 < z ∧ er = 3 ∨ 0 ≤ z ∧ z ≤ 65536 ∧ 4294967296 < c + (z.toNat + 63) / 64 ∧ er = 3) :
    Calls Tryd.prog 25 #[.agg (bysA k), .agg (bysA n), .int .u32 (c : Int), .int .i64 z] w fun e w' => e = .returned (.tuple #[.slice none 0 0, .int .i64 er]) ∧ Below w.heap.size w w' := by
  rcases h with ⟨h1, rfl⟩ | ⟨h1, rfl⟩ | ⟨h0, h1, h2, rfl⟩
  · go_enter Tryd.func25, Tryd.ntmps25
    go_wp2_with fail
    refine bodyPost_ret (v := .tuple #[.slice none 0 0, .int .i64 2]) (results_tmp2 Tryd.results25 _ _ _) rfl ⟨rfl, by repeat (first | apply below_alloc | exact Below.refl _ _)⟩
  · have h0 : ¬ z < 0 := by omega
    go_enter Tryd.func25, Tryd.ntmps25
    go_wp2_with fail
    refine bodyPost_ret (v := .tuple #[.slice none 0 0, .int .i64 3]) (results_tmp2 Tryd.results25 _ _ _) rfl ⟨rfl, by repeat (first | apply below_alloc | exact Below.refl _ _)⟩
  · obtain ⟨m, rfl⟩ : ∃ m : Nat, z = (m : Int) := ⟨z.toNat, by omega⟩
    rw [Int.toNat_natCast] at h2
    have h3 : ¬ (m : Int) < 0 := by omega
    have h4 : ¬ (65536 : Int) < (m : Int) := by omega
    have k1 : IntKind.i64.wrap ((m : Int) + 63) = ((m + 63 : Nat) : Int) := by rw [IntWalk.i64_in _ (by omega)]; omega
    have k2 : ((m + 63 : Nat) : Int).tdiv 64 = (((m + 63) / 64 : Nat) : Int) := rfl
    obtain ⟨x, ex⟩ : ∃ x, x = (m + 63) / 64 := ⟨_, rfl⟩
    rw [← ex] at h2 k2
    generalize ((m + 63 : Nat) : Int) = y1 at *
    have h5 : IntKind.u64.wrap (c : Int) = (c : Int) := IntWalk.u64_in _ (by omega)
    have h6 : IntKind.u64.wrap (x : Int) = (x : Int) := IntWalk.u64_in _ (by omega)
    have h6i : IntKind.i64.wrap (x : Int) = (x : Int) := IntWalk.i64_in _ (by omega)
    have h7 : IntKind.u64.wrap ((c : Int) + (x : Int)) = ((c + x : Nat) : Int) := by rw [IntWalk.u64_in _ (by omega)]; omega
    have h8 : (4294967296 : Int) < ((c + x : Nat) : Int) := by omega
    generalize ((c + x : Nat) : Int) = y at *
    clear ex
    go_enter Tryd.func25, Tryd.ntmps25
    go_wp2_with fail
    refine bodyPost_ret (v := .tuple #[.slice none 0 0, .int .i64 3]) (results_tmp2 Tryd.results25 _ _ _) rfl ⟨rfl, by repeat (first | apply below_alloc | exact Below.refl _ _)⟩

set_option maxHeartbeats 2000000 in
set_option maxRecDepth 100000 in
theorem rstream_c (k n : List Nat) (c m : Nat) (hk : k.length = 32) (hkb : ∀ i, k.getD i 0 < 256) (hn : n.length = 12) (hnb : ∀ i, n.getD i 0 < 256) (hm : m ≤ 65536) (hc : c + (m + 63) / 64 ≤ 4294967296) (hc' : c < 4294967296) (w : World) :
    Calls Tryd.prog 25 #[.agg (bysA k), .agg (bysA n), .int .u32 (c : Int), .int .i64 (m : Int)] w fun e w' => ∃ p cp, e = .returned (.tuple #[.slice p m cp, .int .i64 0]) ∧ Bs0 w' p (strm k n c m) ∧ Below w.heap.size w w' := by
  have hks := bysA_size' hk
  have hns := bysA_size' hn
  have h3 : ¬ (m : Int) < 0 := by omega
  have h4 : ¬ (65536 : Int) < (m : Int) := by omega
  have k1 : IntKind.i64.wrap ((m : Int) + 63) = ((m + 63 : Nat) : Int) := by rw [IntWalk.i64_in _ (by omega)]; omega
  have k2 : ((m + 63 : Nat) : Int).tdiv 64 = (((m + 63) / 64 : Nat) : Int) := rfl
  obtain ⟨x, ex⟩ : ∃ x, x = (m + 63) / 64 := ⟨_, rfl⟩
  rw [← ex] at hc k2
  generalize ((m + 63 : Nat) : Int) = y1 at *
  have h5 : IntKind.u64.wrap (c : Int) = (c : Int) := IntWalk.u64_in _ (by omega)
  have h6 : IntKind.u64.wrap (x : Int) = (x : Int) := IntWalk.u64_in _ (by omega)
  have h6i : IntKind.i64.wrap (x : Int) = (x : Int) := IntWalk.i64_in _ (by omega)
  have h7 : IntKind.u64.wrap ((c : Int) + (x : Int)) = ((c + x : Nat) : Int) := by rw [IntWalk.u64_in _ (by omega)]; omega
  have h8 : ¬ (4294967296 : Int) < ((c + x : Nat) : Int) := by omega
  generalize ((c + x : Nat) : Int) = y at *
  have Ex := Lib.hid ex
  have Hc := Lib.hid hc
  have Hm := Lib.hid hm
  have hxb : (x : Int) ≤ 2000 := by omega
  clear ex hc hm
  have HBl := Lib.hid (fun c' => rblock_c k n c' hk hkb hn hnb)
  clear hk hkb hn hnb
  go_enter Tryd.func25, Tryd.ntmps25
  go_wp2_with fail
  generalize hW : World.alloc _ _ = W1
  have K1 := Lib.hid (show RowAt W1 w.heap.size (bysA k) by rw [← hW]; clear hW; exact ⟨by go_simp, by go_simp, by go_simp⟩)
  have N1 := Lib.hid (show RowAt W1 (w.heap.size + 1) (bysA n) by rw [← hW]; clear hW; exact ⟨by go_simp, by go_simp, by go_simp⟩)
  have B1 := Lib.hid (show Below w.heap.size w W1 by rw [← hW]; repeat (first | apply below_more | apply below_alloc | apply Below.drew | exact Below.refl _ _))
  clear hW
  generalize w.heap.size + 1 = gn at *
  go_loopw [10, 11] (fun v t wr => ∃ j : Nat, j ≤ x ∧ t = .int .i64 ((64 * j : Nat) : Int) ∧ OwnB wr W1.heap.size v (strm k n c (64 * j)) ∧ Below W1.heap.size W1 wr) (fun _ t _ => 64 * x - (intOf t).toNat)
  case atStart => exact ⟨0, Nat.zero_le _, rfl, own_nil W1 _, Below.refl _ _⟩
  case round =>
    obtain ⟨j, hj, rfl, hown, hbel⟩ := hrel
    obtain ⟨u, eu⟩ : ∃ u, u = 64 * j := ⟨_, rfl⟩
    by_cases hjx : j < x
    · have hju : (u : Int) < (m : Int) := by have := Ex.out; omega
      have hqu : (u : Int).tdiv 64 = (j : Int) := by rw [eu]; show (((64 * j) / 64 : Nat) : Int) = _; rw [Nat.mul_div_cancel_left _ (by decide)]
      have hjw : IntKind.u32.wrap (j : Int) = (j : Int) := IntWalk.u32_in _ (by omega)
      have hjw2 : IntKind.i64.wrap (j : Int) = (j : Int) := IntWalk.i64_in _ (by omega)
      obtain ⟨cj, ecj⟩ : ∃ y, y = c + j := ⟨_, rfl⟩
      have hcj : add32 (c : Int) (j : Int) = (cj : Int) := by unfold add32; rw [IntWalk.u32_in _ (by have := Hc.out; omega), ecj]; omega
      obtain ⟨a1, a2, a3⟩ := K1.out.grow hbel
      obtain ⟨b1, b2, b3⟩ := N1.out.grow hbel
      have HN := Lib.hid (strm_next k n c j)
      rw [← ecj, ← eu] at HN
      rw [← eu] at hown ⊢
      have hlT := strm_length k n c u
      have hbl := blk_length k n cj
      have hbz := bysA_size' hbl
      have HBj := Lib.hid (HBl.out cj wr)
      generalize blk k n cj = b at *
      generalize strm k n c u = T at *
      have HlT := Lib.hid hlT
      have Hbl := Lib.hid hbl
      have Eu := Lib.hid eu
      have hu : (u : Int) ≤ 65536 := by have := Hm.out; omega
      have Ho := Lib.hid hown
      have Hb := Lib.hid hbel
      obtain ⟨W2, eW2⟩ : ∃ x, x = wr := ⟨_, rfl⟩
      clear ecj eu hlT hbl hown hbel eW2
      go_wp2_with fail
      refine HBj.out.mono ?_
      rintro e W3 ⟨rfl, hb3⟩
      have Ho3 := Lib.hid (Ho.out.below hb3)
      have Hb3 := Lib.hid (Hb.out.trans (hb3.mono Hb.out.size))
      clear hb3 a1 a2 a3 b1 b2 b3 Ho Hb HBj
      go_wp2_with fail
      generalize hW : World.alloc _ _ = W4
      have R4 := Lib.hid (show RowAt W4 W3.heap.size (bysA b) by rw [← hW]; clear hW; exact ⟨by go_simp, by go_simp, by go_simp⟩)
      have hbA : Below W3.heap.size W3 W4 := by rw [← hW]; exact below_alloc (Below.refl _ _) _
      have Ho4 := Lib.hid (Ho3.out.below hbA)
      have Hb4 := Lib.hid (Hb3.out.trans (hbA.mono Hb3.out.size))
      have hgb : W1.heap.size ≤ W3.heap.size := Hb3.out.size
      clear hW hbA Hb3
      have hne : u10.ownBlock ≠ some W3.heap.size := fun h => by have := (Ho3.out.ltb _ h).2; omega
      clear Ho3
      generalize W3.heap.size = gb at *
      go_loopw [10, 13] (fun v t wr => ∃ i : Nat, i ≤ 64 ∧ t = .int .i64 i ∧ OwnB wr W1.heap.size v (T ++ b.take i) ∧ v.ownBlock ≠ some gb ∧ RowAt wr gb (bysA b) ∧ Below W1.heap.size W1 wr) (fun _ t _ => 64 - (intOf t).toNat)
      case atStart => exact ⟨0, Nat.zero_le _, rfl, by rw [List.take_zero, List.append_nil]; exact Ho4.out, hne, R4.out, Hb4.out⟩
      case round =>
        obtain ⟨i, hi, rfl, hown, hne, hrow, hbel⟩ := hrel
        by_cases hi64 : i < 64
        · have hi0 : (0 : Int) ≤ (i : Int) := by omega
          have hi1 : (i : Int) < 64 := by omega
          have hib : i < b.length := by rw [Hbl.out]; exact hi64
          have hc := hrow.cellAt i (bysA_get b i hib)
          have ht := take_one b i hib
          have hgl := hrow.2.2
          generalize b.getD i 0 = y at *
          have BA := below_alloc (Below.refl wr.heap.size wr) (.cells #[.int .u8 (y : Int)] 5)
          obtain ⟨v2, w2, hr2, hown2, hgr2, hd2⟩ := app_at (hown.below BA) (bytes_new wr [y] 5 (0, 0)) (Nat.le_trans hbel.size BA.size) (by rw [List.length_append, List.length_take, HlT.out, Hbl.out]; omega)
          have Hb5 := Lib.hid (own_below (hbel.alloc hbel.size (.cells #[.int .u8 (y : Int)] 5)) (hown.below BA) (Nat.le_trans hbel.size BA.size) hgr2)
          have Ho5 := Lib.hid (show OwnB w2 W1.heap.size v2 (T ++ b.take (i + 1)) by rw [← ht, ← List.append_assoc]; exact hown2)
          have hne5 : v2.ownBlock ≠ some gb := by
            rcases hd2 with h | h
            · rw [h]; exact hne
            · rw [h]
              intro h'
              cases h'
              rw [World.size_alloc] at hgl
              omega
          have R5 := Lib.hid (rowAt_grown (hrow.grow BA) hgr2 hne)
          clear hown2 hgr2 BA hown hbel ht hib hd2 hrow
          go_wp2_with (at_builtin; refine Lib.wpList_append_run _ rfl _ _ _ _ rfl _ _ rfl rfl _ _ hr2 ?_)
          go_wp2_with fail
          go_roundw
          case rel => exact ⟨i + 1, by omega, by go_num, Ho5.out, hne5, R5.out, Hb5.out⟩
          case measure => simp [intOf]; omega
        · obtain rfl : i = 64 := by omega
          have Ho5 := Lib.hid (show OwnB wr W1.heap.size u10 (T ++ b) by rw [List.take_of_length_le (by rw [Hbl.out]; exact Nat.le_refl _)] at hown; exact hown)
          rw [HN.out] at Ho5
          have Hb5 := Lib.hid hbel
          clear hown hbel hrow
          go_wp2_with fail
          go_roundw
          case rel => exact ⟨j + 1, by omega, by rw [Eu.out]; go_num, Ho5.out, Hb5.out⟩
          case measure => have := Eu.out; simp [intOf]; omega
    · obtain rfl : j = x := by omega
      have hju : ¬ (u : Int) < (m : Int) := by have := Ex.out; omega
      have Hpre := Lib.hid (strm_pre k n c u m (by omega))
      rw [← eu] at hown ⊢
      have hlT := strm_length k n c u
      generalize strm k n c u = T at *
      obtain ⟨p, cp, rfl, hbs, hcp, hpn⟩ := hown.bs
      have hsl := slB_h p T.length cp m (by omega)
      rw [hlT] at hsl ⊢
      have Hbs := Lib.hid (hbs.take m)
      rw [Hpre.out] at Hbs
      have Hb := Lib.hid (B1.out.trans (hbel.mono B1.out.size))
      clear hown hbel hbs hcp hpn hlT eu
      go_wp2_with fail
      refine bodyPost_ret (v := .tuple #[.slice p m cp, .int .i64 0]) (results_tmp2 Tryd.results25 _ _ _) rfl ⟨p, ⟨cp, rfl⟩, Hbs.out, Hb.out⟩

set_option maxHeartbeats 1000000 in
set_option maxRecDepth 100000 in
theorem rmixed_c (ac bc m : Nat) (ap bp : Option Addr) (a b : List Nat) (w : World) (ha : m = a.length) (hb : m = b.length) (hab : ∀ i, a.getD i 0 < 256) (hbb : ∀ i, b.getD i 0 < 256) (haB : Bs0 w ap a) (hbB : Bs0 w bp b) (hm : m ≤ 65536) :
    Calls Tryd.prog 26 #[.slice ap m ac, .slice bp m bc] w fun e w' => ∃ v, e = .returned v ∧ OwnB w' w.heap.size v (mixd a b) ∧ Below w.heap.size w w' := by
  have Ha := Lib.hid ha
  have Hb := Lib.hid hb
  have HA := Lib.hid haB
  have HB := Lib.hid hbB
  have hmi : (m : Int) ≤ 65536 := by omega
  clear ha hb haB hbB
  go_enter Tryd.func26, Tryd.ntmps26
  go_wp2_with fail
  go_loopw [5, 6] (fun v t wr => ∃ j : Nat, j ≤ m ∧ t = .int .i64 j ∧ OwnB wr w.heap.size v ((mixd a b).take j) ∧ Below w.heap.size w wr) (fun _ t _ => m - (intOf t).toNat)
  case atStart => exact ⟨0, Nat.zero_le _, rfl, own_nil w _, Below.refl _ _⟩
  case round =>
    obtain ⟨j, hj, rfl, hown, hbel⟩ := hrel
    by_cases hjm : j < m
    · have hj0 : (j : Int) < (m : Int) := by omega
      have hj1 : (0 : Int) ≤ (j : Int) := by omega
      have hja : j < a.length := by rw [← Ha.out]; exact hjm
      have hjb : j < b.length := by rw [← Hb.out]; exact hjm
      obtain ⟨g1, o1, rfl, hA⟩ : ∃ b o, ap = some ⟨b, o, none⟩ ∧ BytesAt w b o a := by
        rcases HA.out with h | h
        · rw [h] at hja; simp at hja
        · exact h
      obtain ⟨g2, o2, rfl, hB⟩ : ∃ x o, bp = some ⟨x, o, none⟩ ∧ BytesAt w x o b := by
        rcases HB.out with h | h
        · rw [h] at hjb; simp at hjb
        · exact h
      have hca := (hA.grow hbel).2 j hja
      have hcb := (hB.grow hbel).2 j hjb
      have hga := (hA.grow hbel).1
      have hgb := (hB.grow hbel).1
      have hx := u8_xor_nat (a.getD j 0) (b.getD j 0) (hab j) (hbb j)
      have Hsn := Lib.hid (mixd_snoc a b j hjb)
      generalize a.getD j 0 = y at *
      generalize b.getD j 0 = z at *
      generalize y ^^^ z = v at *
      have hlen : ((mixd a b).take j).length ≤ 65536 := by rw [List.length_take]; omega
      have Hlen := Lib.hid hlen
      have Hown := Lib.hid hown
      have Hbel := Lib.hid hbel
      clear hA hB hja hjb hown hbel hlen
      go_wp2_with fail
      refine wp_region_pick wr [0, 1, 2, 3, 4, 5, 6, 7, 8, 9] [true, false, false, false, false, false, false, false, false, false] [] [] 10 (by kernel_rfl) rfl (by kernel_rfl) (by intro c a d v w h; cases d <;> exact h) ((Below.refl _ _).drew) ?_
      simp only [pick, List.getElem?_cons_succ, List.getElem?_cons_zero, List.drop_succ_cons, List.drop_zero]
      refine wpHoldF_late (wanted_none rfl) (fun w => by go_simp; rfl) ?_
      iterate 9 (refine wpHoldF_val (wanted_none rfl) (by intro K o d hK; go_simp; exact hK _ (Below.refl _ _)) ?_)
      refine wpHoldF_nil ?_
      intro w2 hb2 _
      have BA := below_alloc (Below.refl w2.heap.size w2) (.cells #[.int .u8 (v : Int)] 5)
      have hb3 := Hbel.out.trans (hb2.mono Hbel.out.size)
      have ho3 := Hown.out.below hb2
      obtain ⟨v4, w4, hr4, hown4, hgr4⟩ := app_own (k := 1) (cap := 1) (ho3.below BA) (Bs0.some (bytes_new w2 [v] 5 (0, 0))) rfl (fun h => by cases h) (Nat.le_trans hb3.size BA.size) (by have := Hlen.out; simp only [List.length_cons, List.length_nil]; omega)
      have Hb4 := Lib.hid (own_below (hb3.alloc hb3.size (.cells #[.int .u8 (v : Int)] 5)) (ho3.below BA) (Nat.le_trans hb3.size BA.size) hgr4)
      have Ho4 := Lib.hid hown4
      rw [Hsn.out] at Ho4
      clear hown4 hgr4 BA hb3 ho3 hb2 hca hcb
      go_wp2_with (at_builtin; refine Lib.wpList_append_run _ rfl _ _ _ _ rfl _ _ rfl rfl _ _ hr4 ?_)
      go_wp2_with fail
      go_roundw
      case rel => exact ⟨j + 1, by omega, by go_num, Ho4.out, Hb4.out⟩
      case measure => simp [intOf]; omega
    · obtain rfl : j = m := by omega
      have Ho := Lib.hid hown
      have Hbe := Lib.hid hbel
      clear hown hbel
      go_wp2_with fail
      go_ret
      refine ⟨_, rfl, ?_, Hbe.out⟩
      have h1 := Ho.out
      rw [List.take_of_length_le (by rw [mixd_length, ← Hb.out]; exact Nat.le_refl _)] at h1
      exact h1

set_option maxHeartbeats 400000 in
set_option maxRecDepth 100000 in
/-- What is refused. -/
theorem rxor_bad (k n : List Nat) (c m cap : Nat) (p : Option Addr) (hk : k.length = 32) (hn : n.length = 12) (hc : c < 4294967296) (w : World) (h : 65536 < m ∨ m ≤ 65536 ∧ 4294967296 < c + (m + 63) / 64) :
    Calls Tryd.prog 16 #[.agg (bysA k), .agg (bysA n), .int .u32 (c : Int), .slice p m cap] w fun e w' => e = .returned (.tuple #[.slice none 0 0, .int .i64 3]) ∧ Below w.heap.size w w' := by
  have hks := bysA_size' hk
  have hns := bysA_size' hn
  have HS := Lib.hid (fun W => rstream_bad k n c (m : Int) 3 hc W (by omega))
  go_enter Tryd.func16, Tryd.ntmps16
  go_wp2_with fail
  refine (HS.out _).mono ?_
  rintro e W2 ⟨rfl, hb2⟩
  have B2 := Lib.hid ((below_alloc (below_alloc (Below.refl w.heap.size w) (.cells (bysA k) 23)) (.cells (bysA n) 26)).trans (hb2.mono (by simp; omega)))
  clear hb2
  go_wp2_with fail
  refine bodyPost_ret (v := .tuple #[.slice none 0 0, .int .i64 3]) (results_tmp2 Tryd.results16 _ _ _) rfl ⟨rfl, B2.out⟩

set_option maxHeartbeats 1000000 in
set_option maxRecDepth 100000 in
theorem rxor_own (k n l : List Nat) (c m cap : Nat) (p : Option Addr) (hk : k.length = 32) (hkb : ∀ i, k.getD i 0 < 256) (hn : n.length = 12) (hnb : ∀ i, n.getD i 0 < 256) (hl : m = l.length) (hlb : ∀ i, l.getD i 0 < 256)
    (hm : m ≤ 65536) (hc : c + (m + 63) / 64 ≤ 4294967296) (hc' : c < 4294967296) (w : World) (hB : Bs0 w p l) :
    Calls Tryd.prog 16 #[.agg (bysA k), .agg (bysA n), .int .u32 (c : Int), .slice p m cap] w fun e w' => ∃ v, e = .returned (.tuple #[v, .int .i64 0]) ∧ OwnB w' w.heap.size v (mixd (strm k n c m) l) ∧ Below w.heap.size w w' := by
  have hks := bysA_size' hk
  have hns := bysA_size' hn
  have HS := Lib.hid (fun W => rstream_c k n c m hk hkb hn hnb hm hc hc' W)
  have hTl := strm_length k n c m
  have hTb := strm_bts k n c m
  generalize strm k n c m = T at *
  have HB := Lib.hid hB
  have Hl := Lib.hid hl
  have HTl := Lib.hid hTl
  have HTb := Lib.hid hTb
  have Hlb := Lib.hid hlb
  have Hm := Lib.hid hm
  clear hk hkb hn hnb hc hc' hB hl hTl hTb hlb hm
  go_enter Tryd.func16, Tryd.ntmps16
  go_wp2_with fail
  refine (HS.out _).mono ?_
  rintro e W2 ⟨q, cq, rfl, hbs, hb2⟩
  have B2 := Lib.hid ((below_alloc (below_alloc (Below.refl w.heap.size w) (.cells (bysA k) 23)) (.cells (bysA n) 26)).trans (hb2.mono (by simp; omega)))
  have HM := Lib.hid (rmixed_c cq cap m q p T l W2 HTl.out.symm Hl.out HTb.out Hlb.out hbs (HB.out.grow B2.out) Hm.out)
  clear hb2 hbs HS
  go_wp2_with fail
  refine HM.out.mono ?_
  rintro e W3 ⟨v, rfl, hown, hb3⟩
  have HX := Lib.hid (hown.base B2.out.size)
  have B3 := Lib.hid (B2.out.trans (hb3.mono B2.out.size))
  clear hown hb3
  go_wp2_with fail
  refine bodyPost_ret (v := .tuple #[v, .int .i64 0]) (results_tmp2 Tryd.results16 _ _ _) rfl ⟨v, rfl, HX.out, B3.out⟩
theorem rxor_c (k n l : List Nat) (c m cap : Nat) (p : Option Addr) (hk : k.length = 32) (hkb : ∀ i, k.getD i 0 < 256) (hn : n.length = 12) (hnb : ∀ i, n.getD i 0 < 256) (hl : m = l.length) (hlb : ∀ i, l.getD i 0 < 256)
    (hm : m ≤ 65536) (hc : c + (m + 63) / 64 ≤ 4294967296) (hc' : c < 4294967296) (w : World) (hB : Bs0 w p l) :
    Calls Tryd.prog 16 #[.agg (bysA k), .agg (bysA n), .int .u32 (c : Int), .slice p m cap] w fun e w' => ∃ q cq, e = .returned (.tuple #[.slice q m cq, .int .i64 0]) ∧ Bs0 w' q (mixd (strm k n c m) l) ∧ Below w.heap.size w w' := by
  refine (rxor_own k n l c m cap p hk hkb hn hnb hl hlb hm hc hc' w hB).mono ?_
  rintro e w' ⟨v, rfl, hown, hb⟩
  obtain ⟨q, cq, rfl, hbs, _⟩ := hown.bs
  exact ⟨q, cq, by rw [mixd_length, ← hl], hbs, hb⟩
end Go.Proofs.YtnemlmlfhhahgaaDoor

/-
  The reference of layer 6: bytes, sealed.
-/
namespace Go.Proofs.YtnemlmlfhhahgaaDoor
open Go.RowKit Go.Hold Go.Sh Go.Ch Go.Ae

theorem row_grown {w w' : World} {n : Nat} {c : Array Value} {row : Option Nat} (h : RowAt w n c) (hg : w.grownBy w' row) (hne : some n ≠ row) : RowAt w' n c := by
  obtain ⟨t, ht⟩ := h.block
  exact RowAt.of (t := t) (by rw [hg.block n h.2.2 hne]; exact ht)
/-- Bytes, hidden: a slice of one's own. -/
theorem rhidden_c (k n l : List Nat) (m cap : Nat) (p : Option Addr) (hn : n.length = 12) (hnb : ∀ i, n.getD i 0 < 256) (hl : m = l.length) (hlb : ∀ i, l.getD i 0 < 256) (hm : m ≤ 65536) (w : World) (hB : Bs0 w p l) :
    Calls Tryd.prog 16 #[.agg (bysA (kHide k)), .agg (bysA n), .int .u32 0, .slice p m cap] w fun e w' => ∃ v, e = .returned (.tuple #[v, .int .i64 0]) ∧ OwnB w' w.heap.size v (hideL k n l) ∧ Below w.heap.size w w' := by
  have h := rxor_own (kHide k) n l 0 m cap p (kHide_length k) (kHide_bts k) hn hnb hl hlb hm (by omega) (by decide) w hB
  rw [show mixd (strm (kHide k) n 0 m) l = hideL k n l by rw [hl]; rfl] at h
  exact h
set_option maxHeartbeats 1000000 in
set_option maxRecDepth 100000 in
theorem rseal_c (k n o b : List Nat) (no nb oc bc : Nat) (op bp : Option Addr) (hk : k.length = 32) (hkb : ∀ i, k.getD i 0 < 256) (hn : n.length = 12) (hnb : ∀ i, n.getD i 0 < 256) (hno : no = o.length) (hob : ∀ i, o.getD i 0 < 256) (hnb' : nb = b.length) (hbb : ∀ i, b.getD i 0 < 256)
    (hol : no ≤ 40000) (hbl : nb ≤ 40000) (w : World) (hoB : Bs0 w op o) (hbB : Bs0 w bp b) (hoc : op = none → oc = 0) :
    Calls Tryd.prog 10 #[.agg (bysA k), .agg (bysA n), .slice op no oc, .slice bp nb bc] w fun e w' => ∃ v, e = .returned (.tuple #[v, .int .i64 0]) ∧ OwnB w' w.heap.size v (sealL k n o b) ∧ Below w.heap.size w w' := by
  have hks := bysA_size' hk
  have hns := bysA_size' hn
  have HD := Lib.hid (fun (W : World) => rhide_c k W hk hkb)
  have HX := Lib.hid (fun (W : World) (hW : Below w.heap.size w W) => rhidden_c k n b nb bc bp hn hnb hnb' hbb (by omega) W (hbB.grow hW))
  have hHl := hideL_length k n b
  have HHb := Lib.hid (hideL_bts (k := k) (n := n) hbb)
  have Hse := Lib.hid (show sealL k n o b = hideL k n b ++ tagL k n o (hideL k n b) from rfl)
  generalize sealL k n o b = SS at *
  generalize hideL k n b = H at *
  generalize kHide k = hk' at *
  have HHl := Lib.hid (show H.length = nb by rw [hHl]; exact hnb'.symm)
  have HTg := Lib.hid (fun (W : World) (hW : Below w.heap.size w W) (p : Option Addr) (c : Nat) (hB : Bs0 W p H) (hp : p = none → c = 0) => rtag_c k n o H no H.length oc c op p hk hkb hn hnb hno hob rfl HHb.out (by rw [HHl.out]; omega) W (hoB.grow hW) hB hoc hp)
  have HTl := Lib.hid (tagL_length k n o H)
  generalize tagL k n o H = TT at *
  have hts := bysA_size' HTl.out
  have h1 : ¬ (65520 : Int) < (no : Int) := by omega
  have h2 : ¬ (65520 : Int) < (nb : Int) := by omega
  clear hk hkb hn hnb hno hob hnb' hbb hoB hbB hoc hol hHl
  go_enter Tryd.func10, Tryd.ntmps10
  go_wp2_with fail
  generalize hW : World.alloc _ _ = W0
  have K0 := Lib.hid (show RowAt W0 w.heap.size (bysA k) by rw [← hW]; clear hW; exact ⟨by go_simp, by go_simp, by go_simp⟩)
  have N0 := Lib.hid (show RowAt W0 (w.heap.size + 1) (bysA n) by rw [← hW]; clear hW; exact ⟨by go_simp, by go_simp, by go_simp⟩)
  have B0 := Lib.hid (show Below w.heap.size w W0 by rw [← hW]; repeat (first | apply below_more | apply below_alloc | exact Below.refl _ _))
  clear hW
  have hz := B0.out.size
  generalize w.heap.size + 1 = gn at *
  obtain ⟨z, ez⟩ : ∃ z, z = w.heap.size := ⟨_, rfl⟩
  rw [← ez] at K0 hz ⊢
  have Ez := Lib.hid ez
  clear ez
  refine wp_region_grows W0 9 (fun w w' => Below w.heap.size w w') (listR [fixV (.agg (bysA k)), fixV (.agg (bysA hk')), fixV (.agg (bysA n)), fixV (.slice bp nb bc), ownT z H, ownT z H, ownV z H, fixV (.int .i64 0), ownV z H]) [9] [0, 1, 2, 3, 4, 5, 6, 7, 8] [some 23, some 24, some 25, some 26, some 27, some 22, some 28, some 29, some 10] (by kernel_rfl) (by kernel_rfl) (by kernel_rfl) (by kernel_rfl) ((Below.refl _ _).drew) (fun w w' h h' => h.trans (h'.mono h.size)) (listR_mono ⟨stays_fix _, stays_fix _, stays_fix _, stays_fix _, stays_ownT _ _, stays_ownT _ _, stays_own _ _, stays_fix _, stays_own _ _, trivial⟩) ?_
  intro vals
  simp only [List.take_succ_cons, List.take_zero]
  refine ⟨grow_val [] [] (by kernel_rfl) rfl (fun K w hb hd hK => ⟨wanted_none rfl, ?_⟩), ?_⟩
  · obtain ⟨k1, k2, k3⟩ := K0.out.grow hb
    simp only [putZ]
    go_simp
    exact hK _ _ _ (Below.refl _ _) rfl
  refine ⟨grow_call [0] [some 23] (by kernel_rfl) (by kernel_rfl) (fun K w hb hd hK => ⟨wanted_none rfl, ?_⟩), ?_⟩
  · have d0 : vals 0 = .agg (bysA k) := hd 0 (by simp)
    simp only [List.map_cons, List.map_nil, putZ, d0]
    go_simp
    refine (HD.out w).mono ?_
    rintro e w' ⟨rfl, hb'⟩
    exact ⟨_, rfl, hK _ _ hb' rfl⟩
  refine ⟨grow_val [] [] (by kernel_rfl) rfl (fun K w hb hd hK => ⟨wanted_none rfl, ?_⟩), ?_⟩
  · obtain ⟨k1, k2, k3⟩ := N0.out.grow hb
    simp only [putZ]
    go_simp
    exact hK _ _ _ (Below.refl _ _) rfl
  refine ⟨grow_val [] [] (by kernel_rfl) rfl (fun K w hb hd hK => ⟨wanted_none rfl, ?_⟩), ?_⟩
  · simp only [putZ]
    go_simp
    exact hK _ _ _ (Below.refl _ _) rfl
  refine ⟨grow_call [1, 2, 3] [some 24, some 25, some 26] (by kernel_rfl) (by kernel_rfl) (fun K w hb hd hK => ⟨wanted_none rfl, ?_⟩), ?_⟩
  · have d1 : vals 1 = .agg (bysA hk') := hd 1 (by simp)
    have d2 : vals 2 = .agg (bysA n) := hd 2 (by simp)
    have d3 : vals 3 = .slice bp nb bc := hd 3 (by simp)
    simp only [List.map_cons, List.map_nil, putZ, d1, d2, d3]
    go_simp
    refine (HX.out w (B0.out.trans (hb.mono B0.out.size))).mono ?_
    rintro e w' ⟨v, rfl, ho, hb'⟩
    exact ⟨_, rfl, hK _ _ hb' ⟨v, rfl, ho.base (Nat.le_trans hz hb.size)⟩⟩
  refine ⟨grow_val [4] [some 27] (by kernel_rfl) (by kernel_rfl) (fun K w hb hd hK => ⟨wanted_none rfl, ?_⟩), ?_⟩
  · obtain ⟨u4, d4, ho4⟩ : ∃ u, vals 4 = .tuple #[u, .int .i64 0] ∧ OwnB w z u H := hd 4 (by simp)
    simp only [List.map_cons, List.map_nil, putZ, d4]
    go_simp
    exact hK _ _ _ (Below.refl _ _) ⟨u4, rfl, ho4⟩
  refine ⟨grow_val [5] [some 22] (by kernel_rfl) (by kernel_rfl) (fun K w hb hd hK => ⟨wanted_none rfl, ?_⟩), ?_⟩
  · obtain ⟨u5, d5, ho5⟩ : ∃ u, vals 5 = .tuple #[u, .int .i64 0] ∧ OwnB w z u H := hd 5 (by simp)
    simp only [List.map_cons, List.map_nil, putZ, d5]
    go_simp
    exact hK _ _ _ (Below.refl _ _) ho5
  refine ⟨grow_val [5] [some 22] (by kernel_rfl) (by kernel_rfl) (fun K w hb hd hK => ⟨wanted_none rfl, ?_⟩), ?_⟩
  · obtain ⟨u5, d5, ho5⟩ : ∃ u, vals 5 = .tuple #[u, .int .i64 0] ∧ OwnB w z u H := hd 5 (by simp)
    simp only [List.map_cons, List.map_nil, putZ, d5]
    go_simp
    exact hK _ _ _ (Below.refl _ _) rfl
  refine ⟨grow_val [6] [some 28] (by kernel_rfl) (by kernel_rfl) (fun K w hb hd hK => ⟨wanted_none rfl, ?_⟩), ?_⟩
  · have ho6 : OwnB w z (vals 6) H := hd 6 (by simp)
    simp only [List.map_cons, List.map_nil, putZ]
    go_simp
    exact hK _ _ _ (Below.refl _ _) ho6
  intro W1 hbg hR
  obtain ho8 : OwnB W1 z (vals 8) H := hR 8 (by simp)
  obtain d7 : vals 7 = .int .i64 0 := hR 7 (by simp)
  clear hR
  simp only [List.map_cons, List.map_nil, putZ, d7, pick, List.getElem?_cons_succ, List.getElem?_cons_zero]
  generalize vals 0 = e0
  generalize vals 1 = e1
  generalize vals 2 = e2
  generalize vals 3 = e3
  generalize vals 4 = e4
  generalize vals 5 = e5
  generalize vals 6 = e6
  generalize vals 8 = e8 at ho8 ⊢
  clear d7
  obtain ⟨p1, c1, rfl, hs1, _, hp1⟩ := ho8.bs
  have O1 := Lib.hid ho8
  have K1 := Lib.hid (K0.out.grow hbg)
  have N1 := Lib.hid (N0.out.grow hbg)
  have B1 := Lib.hid (B0.out.trans (hbg.mono B0.out.size))
  have HTh := Lib.hid (HTg.out W1 B1.out p1 c1 hs1 hp1)
  rw [HHl.out] at HTh O1 ⊢
  clear hbg ho8 hs1 hp1 HTg HX
  obtain ⟨k1, k2, k3⟩ := K1.out
  obtain ⟨n1, n2, n3⟩ := N1.out
  go_wp2_with fail
  refine HTh.out.mono ?_
  rintro e W2 ⟨rfl, hb2⟩
  have O2 := Lib.hid (O1.out.below hb2)
  have B2 := Lib.hid (B1.out.trans (hb2.mono B1.out.size))
  clear hb2 k1 k2 k3 n1 n2 n3 K1 N1 O1 B1 HTh
  go_wp2_with fail
  have BA := below_alloc (Below.refl W2.heap.size W2) (.cells (bysA TT) 34)
  have T3 := Lib.hid (RowAt.of (block_new W2 (.cells (bysA TT) 34)))
  have O3 := Lib.hid (O2.out.below BA)
  have B3 := Lib.hid (B2.out.trans (BA.mono B2.out.size))
  have A3 := Lib.hid (show some W2.heap.size ≠ (Value.slice p1 nb c1).ownBlock from fun h => by have := (O2.out.ltb _ h.symm).2; omega)
  clear BA O2 B2
  generalize W2.alloc (.cells (bysA TT) 34) = W3 at *
  generalize W2.heap.size = gt at *
  go_loopw [10, 13] (fun v i wr => ∃ j : Nat, j ≤ 16 ∧ i = .int .i64 j ∧ OwnB wr z v (H ++ TT.take j) ∧ some gt ≠ v.ownBlock ∧ RowAt wr gt (bysA TT) ∧ Below z w wr) (fun _ i _ => 16 - (intOf i).toNat)
  case atStart => exact ⟨0, by decide, rfl, by rw [List.take_zero, List.append_nil]; exact O3.out, A3.out, T3.out, by rw [Ez.out]; exact B3.out⟩
  case round =>
    obtain ⟨j, hj, rfl, hown, hap, hrow, hbel⟩ := hrel
    by_cases hj16 : j < 16
    · have hj0 : (0 : Int) ≤ (j : Int) := by omega
      have hj1 : (j : Int) < 16 := by omega
      have hjl : j < TT.length := by rw [HTl.out]; exact hj16
      have hc := hrow.cellAt j (bysA_get TT j hjl)
      have ht := take_one TT j hjl
      generalize TT.getD j 0 = x at *
      have hzw : z ≤ wr.heap.size := by rw [Ez.out]; exact hbel.size
      have hlt : (H ++ TT.take j).length + 1 ≤ 16777216 := by rw [List.length_append, HHl.out, List.length_take]; omega
      have BA := below_alloc (Below.refl wr.heap.size wr) (.cells #[.int .u8 (x : Int)] 5)
      obtain ⟨v2, w2, hr2, hown2, hgr2, hd2⟩ := app_at (hown.below BA) (bytes_new wr [x] 5 (0, 0)) (Nat.le_trans hzw BA.size) hlt
      have Hb2 := Lib.hid (own_below (hbel.alloc hzw (.cells #[.int .u8 (x : Int)] 5)) (hown.below BA) (Nat.le_trans hzw BA.size) hgr2)
      have Ho2 := Lib.hid (show OwnB w2 z v2 (H ++ TT.take (j + 1)) by rw [← ht, ← List.append_assoc]; exact hown2)
      have Hr2 := Lib.hid (row_grown (hrow.grow BA) hgr2 hap)
      have Ha2 := Lib.hid (show some gt ≠ v2.ownBlock by
        rcases hd2 with h | h
        · rw [h]; exact hap
        · rw [h, World.size_alloc]; intro e; have h1 := Option.some.inj e; have h2 := hrow.2.2; omega)
      clear hown2 hgr2 hd2 BA hown hbel ht hlt hjl hap hrow
      go_wp2_with (at_builtin; refine Lib.wpList_append_run _ rfl _ _ _ _ rfl _ _ rfl rfl _ _ hr2 ?_)
      go_wp2_with fail
      go_roundw
      case rel => exact ⟨j + 1, by omega, by go_num, Ho2.out, Ha2.out, Hr2.out, Hb2.out⟩
      case measure => simp [intOf]; omega
    · obtain rfl : j = 16 := by omega
      rw [List.take_of_length_le (by rw [HTl.out]; exact Nat.le_refl _), ← Hse.out] at hown
      have O4 := Lib.hid hown
      have B4 := Lib.hid hbel
      rename_i v4
      clear hown hbel hap hrow
      go_wp2_with fail
      refine bodyPost_ret (v := .tuple #[_, .int .i64 0]) (results_tmp2 Tryd.results10 _ _ _) rfl ⟨_, rfl, by rw [← Ez.out]; exact O4.out, by rw [← Ez.out]; exact B4.out⟩
end Go.Proofs.YtnemlmlfhhahgaaDoor

/-
  The reference of layer 6: what was sealed, opened.
-/
namespace Go.Proofs.YtnemlmlfhhahgaaDoor
open Go.RowKit Go.Hold Go.Sh Go.Ch Go.Ae

set_option maxHeartbeats 1000000 in
set_option maxRecDepth 100000 in
theorem ropen_c (k n o b X : List Nat) (er : Int) (no nb oc bc : Nat) (op bp : Option Addr) (hk : k.length = 32) (hkb : ∀ i, k.getD i 0 < 256) (hn : n.length = 12) (hnb : ∀ i, n.getD i 0 < 256) (hno : no = o.length) (hob : ∀ i, o.getD i 0 < 256) (hnb' : nb = b.length) (hbb : ∀ i, b.getD i 0 < 256)
    (hol : no ≤ 40000) (hbl : nb ≤ 40000) (hbc : nb ≤ bc) (w : World) (hoB : Bs0 w op o) (hbB : Bs0 w bp b) (hoc : op = none → oc = 0) (hX : openL k n o b = (X, er)) :
    Calls Tryd.prog 14 #[.agg (bysA k), .agg (bysA n), .slice op no oc, .slice bp nb bc] w fun e w' => ∃ p c, e = .returned (.tuple #[.slice p X.length c, .int .i64 er]) ∧ Bs0 w' p X ∧ Below w.heap.size w w' := by
  obtain ⟨q, eq⟩ : ∃ q : Int, q = (nb : Int) - 16 := ⟨_, rfl⟩
  have h2 : IntKind.i64.wrap ((nb : Int) - 16) = q := by rw [IntWalk.i64_in _ (by omega)]; exact eq.symm
  by_cases hsh : nb < 16
  · have h1 : q < 0 := by omega
    obtain ⟨rfl, rfl⟩ : [] = X ∧ (4 : Int) = er := by
      unfold openL at hX; rw [if_pos (by omega)] at hX; simpa using hX
    clear hk hkb hn hnb hno hob hnb' hbb hoB hbB hoc hol hX hsh eq
    go_enter Tryd.func14, Tryd.ntmps14
    go_wp2_with fail
    refine bodyPost_ret (v := .tuple #[.slice none 0 0, .int .i64 4]) (results_tmp2 Tryd.results14 _ _ _) rfl ⟨none, 0, rfl, .inl rfl, by repeat (first | apply below_alloc | exact Below.refl _ _)⟩
  obtain ⟨m, em⟩ : ∃ m, m = nb - 16 := ⟨_, rfl⟩
  obtain rfl : q = (m : Int) := by omega
  clear eq
  have h1 : ¬ (m : Int) < 0 := by omega
  have h3 : ¬ (65520 : Int) < (no : Int) := by omega
  have h4 : ¬ (65520 : Int) < (m : Int) := by omega
  obtain ⟨gb, ob, rfl, hbA⟩ : ∃ g o, bp = some ⟨g, o, none⟩ ∧ BytesAt w g o b := by
    rcases hbB with h | h
    · rw [h] at hnb'; simp at hnb'; omega
    · exact h
  have hks := bysA_size' hk
  have hns := bysA_size' hn
  have hs1 : ∀ W, (slB (.slice (some ⟨gb, ob, none⟩) nb bc) none (some (.int .i64 (m : Int))) none).run Tryd.prog W = .ok (.slice (some ⟨gb, ob, none⟩) m bc) W := fun W => slB_h _ nb bc m (by omega) W
  have htl : m = (b.take m).length := by rw [List.length_take]; omega
  have hdl : 16 = (b.drop m).length := by rw [List.length_drop]; omega
  have HTg := Lib.hid (fun (W : World) (hW : Below w.heap.size w W) => rtag_c k n o (b.take m) no m oc bc op (some ⟨gb, ob, none⟩) hk hkb hn hnb hno hob htl (bts_take hbb m) (by omega) W (hoB.grow hW) ((Bs0.some (hbA.grow hW)).take m) hoc (fun h => by cases h))
  have HD := Lib.hid (fun (W : World) => rhide_c k W hk hkb)
  have HTr := Lib.hid (fun (W : World) (hW : Below w.heap.size w W) => rhidden_c k n (b.take m) m bc (some ⟨gb, ob, none⟩) hn hnb htl (bts_take hbb m) (by omega) W ((Bs0.some (hbA.grow hW)).take m))
  have HBy := Lib.hid (fun (W : World) (hW : Below w.heap.size w W) (i : Nat) (hi : i < 16) => show W.cell? ⟨gb, ob + (m + i), none⟩ = some (.int .u8 (((b.drop m).getD i 0 : Nat) : Int)) by
    have h := (hbA.grow hW).2 (m + i) (by omega)
    rw [h]; simp [List.getD])
  have HGb := Lib.hid (fun (W : World) (hW : Below w.heap.size w W) => (hbA.grow hW).1)
  have HTl := Lib.hid (tagL_length k n o (b.take m))
  have HDl := Lib.hid hdl
  have hX' : (if tagL k n o (b.take m) = b.drop m then (hideL k n (b.take m), (0 : Int)) else ([], 6)) = (X, er) := by
    have h := hX
    rw [openL, if_neg (by omega), ← hnb', ← em] at h
    exact h
  have hHl : (hideL k n (b.take m)).length = m := by rw [hideL_length]; exact htl.symm
  have Hnbm := Lib.hid (show nb = m + 16 by omega)
  generalize hideL k n (b.take m) = H at *
  generalize tagL k n o (b.take m) = TT at *
  generalize b.drop m = D at *
  generalize kHide k = hk' at *
  have HX' := Lib.hid hX'
  have HHl := Lib.hid hHl
  have hts := bysA_size' HTl.out
  clear hk hkb hn hnb hno hob hnb' hbb hoB hbB hoc hol hX hsh em htl hdl hX' hHl hbA
  go_enter Tryd.func14, Tryd.ntmps14
  go_wp2_with fail
  generalize hW : World.alloc _ _ = W0
  have K0 := Lib.hid (show RowAt W0 w.heap.size (bysA k) by rw [← hW]; clear hW; exact ⟨by go_simp, by go_simp, by go_simp⟩)
  have N0 := Lib.hid (show RowAt W0 (w.heap.size + 1) (bysA n) by rw [← hW]; clear hW; exact ⟨by go_simp, by go_simp, by go_simp⟩)
  have B0 := Lib.hid (show Below w.heap.size w W0 by rw [← hW]; repeat (first | apply below_more | apply below_alloc | exact Below.refl _ _))
  clear hW
  generalize w.heap.size + 1 = gn at *
  obtain ⟨gk, ez⟩ : ∃ z, z = w.heap.size := ⟨_, rfl⟩
  rw [← ez] at K0 ⊢
  clear ez
  obtain ⟨k1, k2, k3⟩ := K0.out
  obtain ⟨n1, n2, n3⟩ := N0.out
  refine wp_region_pick W0 [0, 1, 2, 3, 4, 5, 6] [false, false, false, false, false, false, false] [7] [(34, #[.int .u8 0, .int .u8 0, .int .u8 0, .int .u8 0, .int .u8 0, .int .u8 0, .int .u8 0, .int .u8 0, .int .u8 0, .int .u8 0, .int .u8 0, .int .u8 0, .int .u8 0, .int .u8 0, .int .u8 0, .int .u8 0])] 8 (by kernel_rfl) rfl (by kernel_rfl) (by intro c a d v w h; cases d <;> exact h) ((Below.refl _ _).drew) ?_
  simp only [pick, List.getElem?_cons_succ, List.getElem?_cons_zero, List.drop_succ_cons, List.drop_zero]
  iterate 6 (refine wpHoldF_val (wanted_none rfl) (by intro K o d hK; go_simp; exact hK _ (Below.refl _ _)) ?_)
  refine wpHoldF_call (v := .agg (bysA TT)) (wanted_none rfl) (by intro K o d hK; go_simp; refine (HTg.out _ (below_plus_of _ _ _ B0.out B0.out.size)).mono ?_; rintro e w' ⟨rfl, hbw⟩; exact ⟨_, rfl, hK _ hbw⟩) ?_
  refine wpHoldF_nil ?_
  refine ⟨lays_tag _ rfl rfl, fun gt hgt hnt => ?_⟩
  intro W1 hb1 hblk
  have T1 := RowAt.of (hblk 0 gt _ _ rfl rfl)
  have K1 := (K0.out.grow hb1).other (show gk ≠ gt by omega) (bysA TT)
  have N1 := (N0.out.grow hb1).other (show gn ≠ gt by omega) (bysA TT)
  have T2 := Lib.hid (T1.set (bysA TT))
  have B1 := Lib.hid (below_setRow (B0.out.trans (hb1.mono B0.out.size)) (Nat.le_trans B0.out.size hgt) (bysA TT))
  have K2 := Lib.hid K1
  have N2 := Lib.hid N1
  clear hb1 hblk hgt hnt k1 k2 k3 n1 n2 n3 K0 N0 B0 K1 N1
  obtain ⟨t1, t2, t3⟩ := T1
  go_wp2_with fail
  clear t1 t2 t3
  generalize World.setRow _ _ _ = W2 at *
  go_loopw [12] (fun i wr => ∃ j : Nat, j ≤ 16 ∧ i = .int .i64 j ∧ (∀ a, a < j → TT.getD a 0 = D.getD a 0) ∧ Below W2.heap.size W2 wr) (fun i _ => 16 - (intOf i).toNat)
  case atStart => exact ⟨0, by decide, rfl, fun a h => absurd h (Nat.not_lt_zero _), Below.refl _ _⟩
  case round =>
    obtain ⟨j, hj, rfl, hall, hbel⟩ := hrel
    have Hall := Lib.hid hall
    have Hbel := Lib.hid hbel
    clear hall hbel
    by_cases hj16 : j < 16
    · have hj0 : (0 : Int) ≤ (j : Int) := by omega
      have hj1 : (j : Int) < 16 := by omega
      have hrow := T2.out.grow Hbel.out
      have hct := hrow.cellAt j (bysA_get TT j (by rw [HTl.out]; exact hj16))
      have hcb := HBy.out wr (B1.out.trans (Hbel.out.mono B1.out.size)) j hj16
      obtain ⟨q, eq⟩ : ∃ q, q = m + j := ⟨_, rfl⟩
      rw [← eq] at hcb
      have hq : IntKind.i64.wrap ((m : Int) + (j : Int)) = (q : Int) := by rw [IntWalk.i64_in _ (by omega)]; omega
      have hq0 : (0 : Int) ≤ (q : Int) := by omega
      have hq1 : (q : Int) < (nb : Int) := by have := Hnbm.out; omega
      have hgl := hrow.2.2
      have hgb := HGb.out wr (B1.out.trans (Hbel.out.mono B1.out.size))
      obtain ⟨x, ex⟩ : ∃ x, x = D.getD j 0 := ⟨_, rfl⟩
      obtain ⟨y, ey⟩ : ∃ y, y = TT.getD j 0 := ⟨_, rfl⟩
      rw [← ex] at hcb
      rw [← ey] at hct
      have Ex := Lib.hid ex
      have Ey := Lib.hid ey
      obtain ⟨rr, er'⟩ : ∃ rr, ((x : Int) != (y : Int)) = rr := ⟨_, rfl⟩
      clear hrow eq ex ey
      go_wp2_with fail
      refine wp_region_pickT wr [0, 1, 2, 3, 4, 5, 6, 7, 8, 9] [false, false, false, false, false, false, false, false, false, false] [] (by kernel_rfl) (by kernel_rfl) (by intro c a d v w h; cases d <;> exact h) ((Below.refl _ _).drew) ?_
      simp only [pick, List.getElem?_cons_succ, List.getElem?_cons_zero]
      iterate 10 (refine wpHoldF_val (wanted_none rfl) (by intro K o d hK; go_simp; exact hK _ (Below.refl _ _)) ?_)
      refine wpHoldF_nil ?_
      intro W3 hb3
      have B3 := Lib.hid (Hbel.out.trans (hb3.mono Hbel.out.size))
      clear hb3 hct hcb
      cases rr with
      | true =>
        obtain ⟨rfl, rfl⟩ : [] = X ∧ (6 : Int) = er := by
          have h := HX'.out
          rw [if_neg (fun e => by
            have h5 : x = y := by rw [Ex.out, Ey.out, e]
            rw [h5] at er'; simp at er')] at h
          simpa using h
        go_wp2_with fail
        refine bodyPost_ret (v := .tuple #[.slice none 0 0, .int .i64 6]) (results_tmp2 Tryd.results14 _ _ _) rfl ⟨none, 0, rfl, .inl rfl, B1.out.trans (B3.out.mono B1.out.size)⟩
      | false =>
        have Hxy := Lib.hid (show y = x by simp at er'; omega)
        go_wp2_with fail
        go_roundw
        case rel =>
          refine ⟨j + 1, by omega, by go_num, fun a ha => ?_, B3.out⟩
          by_cases e : a < j
          · exact Hall.out a e
          · obtain rfl : a = j := by omega
            rw [← Ex.out, ← Ey.out, Hxy.out]
        case measure => simp [intOf]; omega
    · obtain rfl : j = 16 := by omega
      have hTD : TT = D := by
        apply List.ext_getElem (by rw [HTl.out]; exact HDl.out)
        intro i i1 i2
        have h := Hall.out i (by rw [← HTl.out]; exact i1)
        simpa [List.getD, i1, i2] using h
      obtain ⟨rfl, rfl⟩ : H = X ∧ (0 : Int) = er := by
        have h := HX'.out
        rw [if_pos hTD] at h; simpa using h
      have K3 := Lib.hid (K2.out.grow Hbel.out)
      have N3 := Lib.hid (N2.out.grow Hbel.out)
      have B3 := Lib.hid (B1.out.trans (Hbel.out.mono B1.out.size))
      obtain ⟨W3, eW⟩ : ∃ x, x = wr := ⟨_, rfl⟩
      rw [← eW] at K3 N3 B3 ⊢
      obtain ⟨z, ez⟩ : ∃ z, z = W3.heap.size := ⟨_, rfl⟩
      have hz : z ≤ W3.heap.size := by omega
      clear hTD eW ez Hbel Hall T2 B1 K2 N2 HTg HBy
      rw [show ((16 : Nat) : Int) = 16 from rfl]
      go_wp2_with fail
      refine wp_region_grows W3 11 (fun w w' => Below w.heap.size w w') (listR [fixV (.agg (bysA k)), fixV (.agg (bysA hk')), fixV (.agg (bysA n)), fixV (.slice (some ⟨gb, ob, none⟩) nb bc), fixV (.int .i64 (m : Int)), fixV (.slice (some ⟨gb, ob, none⟩) m bc), ownT z H, ownT z H, ownV z H, fixV (.int .i64 0), ownV z H]) [11] [0, 1, 2, 3, 4, 5, 6, 7, 8, 9, 10] [some 51, some 52, some 53, some 54, some 55, some 56, some 57, some 50, some 58, some 59, some 13] (by kernel_rfl) (by kernel_rfl) (by kernel_rfl) (by kernel_rfl) ((Below.refl _ _).drew) (fun w w' h h' => h.trans (h'.mono h.size)) (listR_mono ⟨stays_fix _, stays_fix _, stays_fix _, stays_fix _, stays_fix _, stays_fix _, stays_ownT _ _, stays_ownT _ _, stays_own _ _, stays_fix _, stays_own _ _, trivial⟩) ?_
      intro vals
      simp only [List.take_succ_cons, List.take_zero]
      refine ⟨grow_val [] [] (by kernel_rfl) rfl (fun K w hb hd hK => ⟨wanted_none rfl, ?_⟩), ?_⟩
      · obtain ⟨k1, k2, k3⟩ := K3.out.grow hb
        simp only [putZ]
        go_simp
        exact hK _ _ _ (Below.refl _ _) rfl
      refine ⟨grow_call [0] [some 51] (by kernel_rfl) (by kernel_rfl) (fun K w hb hd hK => ⟨wanted_none rfl, ?_⟩), ?_⟩
      · have d0 : vals 0 = .agg (bysA k) := hd 0 (by simp)
        simp only [List.map_cons, List.map_nil, putZ, d0]
        go_simp
        refine (HD.out w).mono ?_
        rintro e w' ⟨rfl, hb'⟩
        exact ⟨_, rfl, hK _ _ hb' rfl⟩
      refine ⟨grow_val [] [] (by kernel_rfl) rfl (fun K w hb hd hK => ⟨wanted_none rfl, ?_⟩), ?_⟩
      · obtain ⟨k1, k2, k3⟩ := N3.out.grow hb
        simp only [putZ]
        go_simp
        exact hK _ _ _ (Below.refl _ _) rfl
      refine ⟨grow_val [] [] (by kernel_rfl) rfl (fun K w hb hd hK => ⟨wanted_none rfl, ?_⟩), ?_⟩
      · simp only [putZ]
        go_simp
        exact hK _ _ _ (Below.refl _ _) rfl
      refine ⟨grow_val [] [] (by kernel_rfl) rfl (fun K w hb hd hK => ⟨wanted_none rfl, ?_⟩), ?_⟩
      · simp only [putZ]
        go_simp
        exact hK _ _ _ (Below.refl _ _) rfl
      refine ⟨grow_val [3, 4] [some 54, some 55] (by kernel_rfl) (by kernel_rfl) (fun K w hb hd hK => ⟨wanted_none rfl, ?_⟩), ?_⟩
      · have d3 : vals 3 = .slice (some ⟨gb, ob, none⟩) nb bc := hd 3 (by simp)
        have d4 : vals 4 = .int .i64 (m : Int) := hd 4 (by simp)
        simp only [List.map_cons, List.map_nil, putZ, d3, d4]
        go_simp
        exact hK _ _ _ (Below.refl _ _) rfl
      refine ⟨grow_call [1, 2, 5] [some 52, some 53, some 56] (by kernel_rfl) (by kernel_rfl) (fun K w hb hd hK => ⟨wanted_none rfl, ?_⟩), ?_⟩
      · have d1 : vals 1 = .agg (bysA hk') := hd 1 (by simp)
        have d2 : vals 2 = .agg (bysA n) := hd 2 (by simp)
        have d5 : vals 5 = .slice (some ⟨gb, ob, none⟩) m bc := hd 5 (by simp)
        simp only [List.map_cons, List.map_nil, putZ, d1, d2, d5]
        go_simp
        refine (HTr.out w (B3.out.trans (hb.mono B3.out.size))).mono ?_
        rintro e w' ⟨v, rfl, ho, hb'⟩
        exact ⟨_, rfl, hK _ _ hb' ⟨v, rfl, ho.base (Nat.le_trans hz hb.size)⟩⟩
      refine ⟨grow_val [6] [some 57] (by kernel_rfl) (by kernel_rfl) (fun K w hb hd hK => ⟨wanted_none rfl, ?_⟩), ?_⟩
      · obtain ⟨u6, d6, ho6⟩ : ∃ u, vals 6 = .tuple #[u, .int .i64 0] ∧ OwnB w z u H := hd 6 (by simp)
        simp only [List.map_cons, List.map_nil, putZ, d6]
        go_simp
        exact hK _ _ _ (Below.refl _ _) ⟨u6, rfl, ho6⟩
      refine ⟨grow_val [7] [some 50] (by kernel_rfl) (by kernel_rfl) (fun K w hb hd hK => ⟨wanted_none rfl, ?_⟩), ?_⟩
      · obtain ⟨u7, d7, ho7⟩ : ∃ u, vals 7 = .tuple #[u, .int .i64 0] ∧ OwnB w z u H := hd 7 (by simp)
        simp only [List.map_cons, List.map_nil, putZ, d7]
        go_simp
        exact hK _ _ _ (Below.refl _ _) ho7
      refine ⟨grow_val [7] [some 50] (by kernel_rfl) (by kernel_rfl) (fun K w hb hd hK => ⟨wanted_none rfl, ?_⟩), ?_⟩
      · obtain ⟨u7, d7, ho7⟩ : ∃ u, vals 7 = .tuple #[u, .int .i64 0] ∧ OwnB w z u H := hd 7 (by simp)
        simp only [List.map_cons, List.map_nil, putZ, d7]
        go_simp
        exact hK _ _ _ (Below.refl _ _) rfl
      refine ⟨grow_val [8] [some 58] (by kernel_rfl) (by kernel_rfl) (fun K w hb hd hK => ⟨wanted_none rfl, ?_⟩), ?_⟩
      · have ho8 : OwnB w z (vals 8) H := hd 8 (by simp)
        simp only [List.map_cons, List.map_nil, putZ]
        go_simp
        exact hK _ _ _ (Below.refl _ _) ho8
      intro W4 hbg hR
      obtain ho10 : OwnB W4 z (vals 10) H := hR 10 (by simp)
      obtain d9 : vals 9 = .int .i64 0 := hR 9 (by simp)
      clear hR
      simp only [List.map_cons, List.map_nil, putZ, d9, pick, List.getElem?_cons_succ, List.getElem?_cons_zero]
      generalize vals 0 = e0
      generalize vals 1 = e1
      generalize vals 2 = e2
      generalize vals 3 = e3
      generalize vals 4 = e4
      generalize vals 5 = e5
      generalize vals 6 = e6
      generalize vals 7 = e7
      generalize vals 8 = e8
      generalize vals 10 = e10 at ho10 ⊢
      clear d9
      obtain ⟨p4, c4, rfl, hs4, _, _⟩ := ho10.bs
      have S4 := Lib.hid hs4
      have B4 := Lib.hid (B3.out.trans (hbg.mono B3.out.size))
      rw [HHl.out]
      clear hbg ho10 hs4
      go_wp2_with fail
      exact bodyPost_ret (v := .tuple #[.slice p4 m c4, .int .i64 0]) (results_tmp2 Tryd.results14 _ _ _) rfl ⟨p4, c4, by rw [HHl.out], S4.out, B4.out⟩
end Go.Proofs.YtnemlmlfhhahgaaDoor

/-
  What any bytes are opened as is the document's, or refused.
-/
namespace Go.Proofs.YtnemlmlfhhahgaaDoor
open Go.RowKit Go.Hold Go.Sh Go.Ch Go.Ae

set_option maxHeartbeats 1000000 in
set_option maxRecDepth 100000 in
theorem opens_any (oc bc : Nat) (op bp : Option Addr) (k o b : List Nat) (w : World) (hT : Tabs w) (hk : k.length = 32) (hkb : ∀ i, k.getD i 0 < 256) (hob : ∀ i, o.getD i 0 < 256) (hoB : Bs0 w op o) (hoc : op = none → oc = 0) (hbb : ∀ i, b.getD i 0 < 256) (hbB : Bs0 w bp b) (hbc : b.length ≤ bc) :
    Calls Tryd.prog 4 #[.agg (bysA k), .slice op o.length oc, .slice bp b.length bc] w fun e w' => e = .returned (.bool true) ∧ Below w.heap.size w w' := by
  have hks := bysA_size' hk
  obtain ⟨no, eno⟩ : ∃ m, m = o.length := ⟨_, rfl⟩
  obtain ⟨nb, enb⟩ : ∃ m, m = b.length := ⟨_, rfl⟩
  rw [← eno, ← enb]
  rw [← enb] at hbc
  have Eno := Lib.hid eno
  have Enb := Lib.hid enb
  have HT := Lib.hid hT
  have HO := Lib.hid hoB
  have HB := Lib.hid hbB
  clear eno enb
  go_enter Tryd.func4, Tryd.ntmps4
  go_wp2_with fail
  have hA := below_alloc (Below.refl w.heap.size w) (.cells (bysA k) 23)
  refine (alive6_c _ (HT.out.grow hA)).mono ?_
  rintro e W1 ⟨rfl, hb1⟩
  have K1 := Lib.hid ((RowAt.of (block_new w (.cells (bysA k) 23))).grow hb1)
  have B1 := Lib.hid (hA.trans (hb1.mono hA.size))
  clear hA hb1
  by_cases h1 : 1500 < no
  · have h1' : (1500 : Int) < (no : Int) := by omega
    go_wp2_with fail
    go_ret
    exact ⟨rfl, B1.out⟩
  have h1' : ¬ (1500 : Int) < (no : Int) := by omega
  by_cases h2 : 1500 < nb
  · have h2' : (1500 : Int) < (nb : Int) := by omega
    go_wp2_with fail
    go_ret
    exact ⟨rfl, B1.out⟩
  have h2' : ¬ (1500 : Int) < (nb : Int) := by omega
  have hn : (k.drop 20).length = 12 := by rw [List.length_drop, hk]
  have hnb := bts_drop hkb 20
  have hns := bysA_size' hn
  have hld := load_non (bytes20 (bytes_row K1.out)) (by rw [hn]; exact Nat.le_refl _)
  rw [List.take_of_length_le (by rw [hn]; exact Nat.le_refl _)] at hld
  generalize k.drop 20 = n at *
  have harr := fun g W => arr_non g 20 12 W
  obtain ⟨X, er, hX⟩ : ∃ X er, openL k n o b = (X, er) := ⟨_, _, rfl⟩
  have HOp := Lib.hid (fun (W : World) (hW : Below w.heap.size w W) => open_c k n o b X er no nb oc bc op bp hk hkb hn hnb Eno.out hob Enb.out hbb (by omega) (by omega) hbc W (HT.out.grow hW) (HO.out.grow hW) (HB.out.grow hW) hoc hX)
  have HRO := Lib.hid (fun (W : World) (hW : Below w.heap.size w W) => ropen_c k n o b X er no nb oc bc op bp hk hkb hn hnb Eno.out hob Enb.out hbb (by omega) (by omega) hbc W (HO.out.grow hW) (HB.out.grow hW) hoc hX)
  obtain ⟨nx, enx⟩ : ∃ nx, nx = X.length := ⟨_, rfl⟩
  rw [← enx] at HOp HRO
  have Enx := Lib.hid enx
  clear enx hX
  clear hk hkb hn hnb hob hoB hoc hbb hbB hT h1 h2
  generalize ez : w.heap.size = gk at K1 hld ⊢
  clear ez
  obtain ⟨k1, k2, k3⟩ := K1.out
  go_wp2_with fail
  have hA := below_alloc (Below.refl W1.heap.size W1) (.cells (bysA n) 27)
  have K2 := Lib.hid (K1.out.grow hA)
  have V2 := Lib.hid (RowAt.of (block_new W1 (.cells (bysA n) 27)))
  have B2 := Lib.hid (B1.out.trans (hA.mono B1.out.size))
  clear hA k1 k2 k3 hld harr K1 B1
  generalize W1.heap.size = gv at *
  generalize W1.alloc (.cells (bysA n) 27) = W2 at *
  refine (HOp.out W2 B2.out).mono ?_
  rintro e W3 ⟨p3, c3, rfl, hs3, hc3, hb3⟩
  have S3 := Lib.hid hs3
  clear hs3 hc3 HOp
  have K3 := Lib.hid (K2.out.grow hb3)
  have V3 := Lib.hid (V2.out.grow hb3)
  have B3 := Lib.hid (B2.out.trans (hb3.mono B2.out.size))
  clear hb3 K2 V2 B2
  obtain ⟨k1, k2, k3⟩ := K3.out
  obtain ⟨v1, v2, v3⟩ := V3.out
  go_wp2_with fail
  refine (HRO.out W3 B3.out).mono ?_
  rintro e W4 ⟨p4, c4, rfl, hs4, hb4⟩
  have B4 := Lib.hid (B3.out.trans (hb4.mono B3.out.size))
  have hcv1 : (cvBS (.slice p3 nx c3)).run Tryd.prog W4 = .ok (.string (toS X)) W4 := run_cvBS (S3.out.grow hb4) Enx.out
  have hcv2 : (cvBS (.slice p4 nx c4)).run Tryd.prog W4 = .ok (.string (toS X)) W4 := run_cvBS hs4 Enx.out
  generalize toS X = Q0 at *
  clear hb4 hs4 k1 k2 k3 v1 v2 v3 K3 V3 B3 S3 HRO
  go_wp2_with fail
  go_ret
  exact ⟨rfl, B4.out⟩
end Go.Proofs.YtnemlmlfhhahgaaDoor
