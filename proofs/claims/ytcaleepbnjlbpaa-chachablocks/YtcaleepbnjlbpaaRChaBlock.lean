/-
  The reference of layer 5: a block.
-/
import Derived.Test.YtcaleepbnjlbpaaRChaFirst
namespace Go.Proofs.Ytcaleepbnjlbpaa
open Go.RowKit Go.Hold Go.Sh Go.Ch

theorem Sets.words {w w' : World} {g b : Nat} {c : Array Value} {l : List Int} (s : Sets w g c w') (h : WordsAt w b l) (hn : b ≠ g) : WordsAt w' b l := by
  obtain ⟨os, d, rfl⟩ := s
  have h1 : WordsAt (w.setRow g c) b l := ⟨by rw [size_setRow]; exact h.1, fun i hi => by rw [World.cell?_of_block (w := w) (setRow_other w g b c hn)]; exact h.2 i hi⟩
  exact h1.grow (below_more (Below.refl _ _) os d)
set_option maxHeartbeats 2000000 in
set_option maxRecDepth 100000 in
theorem rblock_c (k n : List Nat) (c : Nat) (hk : k.length = 32) (hkb : ∀ i, k.getD i 0 < 256) (hn : n.length = 12) (hnb : ∀ i, n.getD i 0 < 256) (w : World) :
    Calls Try.prog 10 #[.agg (bysA k), .agg (bysA n), .int .u32 (c : Int)] w fun e w' => e = .returned (.agg (bysA (blk k n c))) ∧ Below w.heap.size w w' := by
  have hks := bysA_size' hk
  have hns := bysA_size' hn
  have HF := Lib.hid (rfirst_c k n (c : Int) hk hkb hn hnb)
  have Hb := Lib.hid (blk_eq k n c)
  have hlf := fst_length k n (c : Int)
  generalize fst k n (c : Int) = F at *
  have Hlf := Lib.hid hlf
  clear hlf hk hkb hn hnb
  go_enter Try.func10, Try.ntmps10
  go_wp2_with fail
  generalize hW : World.alloc _ _ = W1
  obtain ⟨z0, hz0, hR0⟩ : ∃ c : Array Value, c.size = 64 ∧ RowAt W1 (w.heap.size + 1 + 1) c := by rw [← hW]; clear hW; exact ⟨bysA (zs 64), by rw [bysA_size]; rfl, by go_simp, by go_simp; rfl, by go_simp⟩
  have R1 := Lib.hid hR0
  have B1 := Lib.hid (show Below w.heap.size w W1 by rw [← hW]; repeat (first | apply below_more | apply below_alloc | apply Below.drew | exact Below.refl _ _))
  clear hW hR0
  have l1 : w.heap.size ≤ w.heap.size + 1 + 1 := by omega
  generalize w.heap.size + 1 + 1 = gr at *
  refine (HF.out _).mono ?_
  rintro e W2 ⟨gw, cw, rfl, hw2, hb2⟩
  have R2 := Lib.hid (R1.out.grow hb2)
  have B2 := Lib.hid (B1.out.trans (hb2.mono B1.out.size))
  have F2 := Lib.hid hw2
  clear hb2 hw2 R1 B1 HF
  go_wp2_with fail
  go_loopw [8, 9] (fun v t wr => ∃ (m g cg : Nat), m ≤ 10 ∧ t = .int .i64 m ∧ v = .slice (some ⟨g, 0, none⟩) 16 cg ∧ WordsAt wr g (drnds F m) ∧ Below W2.heap.size W2 wr) (fun _ t _ => 10 - (intOf t).toNat)
  case atStart => exact ⟨0, gw, cw, Nat.zero_le _, rfl, rfl, F2.out, Below.refl _ _⟩
  case round =>
    obtain ⟨m, g, cg, hm, rfl, rfl, hwd, hbel⟩ := hrel
    by_cases hm10 : m < 10
    · have hm1 : (m : Int) < 10 := by omega
      have HE := Lib.hid (show drnds F (m + 1) = dias (cols (drnds F m) 4) 4 from rfl)
      have hlD : (drnds F m).length = 16 := by rw [drnds_length, Hlf.out]
      have HlD := Lib.hid hlD
      generalize drnds F m = D at *
      have HW := Lib.hid hwd
      have HB := Lib.hid hbel
      clear hwd hbel hlD
      obtain ⟨W3, eW3⟩ : ∃ x, x = wr := ⟨_, rfl⟩
      rw [← eW3] at HW HB ⊢
      clear eW3
      go_wp2_with fail
      go_loopw [8, 10] (fun v t wr => ∃ (i g cg : Nat), i ≤ 4 ∧ t = .int .i64 i ∧ v = .slice (some ⟨g, 0, none⟩) 16 cg ∧ WordsAt wr g (cols D i) ∧ Below W2.heap.size W2 wr) (fun _ t _ => 4 - (intOf t).toNat)
      case atStart => exact ⟨0, g, cg, Nat.zero_le _, rfl, rfl, HW.out, HB.out⟩
      case round =>
        obtain ⟨i, g, cg, hi, rfl, rfl, hwd, hbel⟩ := hrel
        by_cases hi4 : i < 4
        · have hi0 : (i : Int) < 4 := by omega
          have h1 : IntKind.i64.wrap ((i : Int) + 4) = ((4 + i : Nat) : Int) := by rw [IntWalk.i64_in _ (by omega)]; omega
          have h2 : IntKind.i64.wrap ((i : Int) + 8) = ((8 + i : Nat) : Int) := by rw [IntWalk.i64_in _ (by omega)]; omega
          have h3 : IntKind.i64.wrap ((i : Int) + 12) = ((12 + i : Nat) : Int) := by rw [IntWalk.i64_in _ (by omega)]; omega
          have HQ := Lib.hid (rquarter_c g cg i (4 + i) (8 + i) (12 + i) (cols D i) wr (by rw [cols_length, HlD.out]) (by omega) (by omega) (by omega) (by omega) hwd)
          have HE2 := Lib.hid (show cols D (i + 1) = quart (cols D i) i (4 + i) (8 + i) (12 + i) from rfl)
          generalize ((4 + i : Nat) : Int) = x1 at *
          generalize ((8 + i : Nat) : Int) = x2 at *
          generalize ((12 + i : Nat) : Int) = x3 at *
          have HB3 := Lib.hid hbel
          clear hbel hwd
          go_wp2_with fail
          refine HQ.out.mono ?_
          rintro e W ⟨g2, c2, rfl, hw3, hb3⟩
          have HW4 := Lib.hid hw3
          have HB4 := Lib.hid (HB3.out.trans (hb3.mono HB3.out.size))
          clear hw3 hb3
          go_wp2_with fail
          go_roundw
          case rel => exact ⟨i + 1, g2, c2, by omega, by go_num, rfl, by rw [HE2.out]; exact HW4.out, HB4.out⟩
          case measure => simp [intOf]; omega
        · obtain rfl : i = 4 := by omega
          rw [show ((4 : Nat) : Int) = 4 from rfl]
          have HW4 := Lib.hid hwd
          have HB4 := Lib.hid hbel
          clear hwd hbel
          obtain ⟨W4, eW4⟩ : ∃ x, x = wr := ⟨_, rfl⟩
          rw [← eW4] at HW4 HB4 ⊢
          clear eW4
          go_wp2_with fail
          go_loopw [8, 11] (fun v t wr => ∃ (i g cg : Nat), i ≤ 4 ∧ t = .int .i64 i ∧ v = .slice (some ⟨g, 0, none⟩) 16 cg ∧ WordsAt wr g (dias (cols D 4) i) ∧ Below W2.heap.size W2 wr) (fun _ t _ => 4 - (intOf t).toNat)
          case atStart => exact ⟨0, g, cg, Nat.zero_le _, rfl, rfl, HW4.out, HB4.out⟩
          case round =>
            obtain ⟨i, g, cg, hi, rfl, rfl, hwd, hbel⟩ := hrel
            by_cases hi4 : i < 4
            · have hn0 : (i : Int) < 4 := by omega
              have h1 : IntKind.i64.wrap ((i : Int) + 1) = ((i + 1 : Nat) : Int) := by rw [IntWalk.i64_in _ (by omega)]; omega
              have h2 : IntKind.i64.wrap ((i : Int) + 2) = ((i + 2 : Nat) : Int) := by rw [IntWalk.i64_in _ (by omega)]; omega
              have h3 : IntKind.i64.wrap ((i : Int) + 3) = ((i + 3 : Nat) : Int) := by rw [IntWalk.i64_in _ (by omega)]; omega
              have t1 : ((i + 1 : Nat) : Int).tmod 4 = (((i + 1) % 4 : Nat) : Int) := rfl
              have t2 : ((i + 2 : Nat) : Int).tmod 4 = (((i + 2) % 4 : Nat) : Int) := rfl
              have t3 : ((i + 3 : Nat) : Int).tmod 4 = (((i + 3) % 4 : Nat) : Int) := rfl
              have m1 : IntKind.i64.wrap (4 + (((i + 1) % 4 : Nat) : Int)) = ((4 + (i + 1) % 4 : Nat) : Int) := by rw [IntWalk.i64_in _ (by omega)]; omega
              have m2 : IntKind.i64.wrap (8 + (((i + 2) % 4 : Nat) : Int)) = ((8 + (i + 2) % 4 : Nat) : Int) := by rw [IntWalk.i64_in _ (by omega)]; omega
              have m3 : IntKind.i64.wrap (12 + (((i + 3) % 4 : Nat) : Int)) = ((12 + (i + 3) % 4 : Nat) : Int) := by rw [IntWalk.i64_in _ (by omega)]; omega
              have HQ := Lib.hid (rquarter_c g cg i (4 + (i + 1) % 4) (8 + (i + 2) % 4) (12 + (i + 3) % 4) (dias (cols D 4) i) wr (by rw [dias_length, cols_length, HlD.out]) (by omega) (by omega) (by omega) (by omega) hwd)
              have HE2 := Lib.hid (show dias (cols D 4) (i + 1) = quart (dias (cols D 4) i) i (4 + (i + 1) % 4) (8 + (i + 2) % 4) (12 + (i + 3) % 4) from rfl)
              generalize ((4 + (i + 1) % 4 : Nat) : Int) = x1 at *
              generalize ((8 + (i + 2) % 4 : Nat) : Int) = x2 at *
              generalize ((12 + (i + 3) % 4 : Nat) : Int) = x3 at *
              generalize (((i + 1) % 4 : Nat) : Int) = y1 at *
              generalize (((i + 2) % 4 : Nat) : Int) = y2 at *
              generalize (((i + 3) % 4 : Nat) : Int) = y3 at *
              generalize ez1 : ((i + 1 : Nat) : Int) = z1 at *
              have Ez1 := Lib.hid ez1
              clear ez1
              generalize ((i + 2 : Nat) : Int) = z2 at *
              generalize ((i + 3 : Nat) : Int) = z3 at *
              have HB5 := Lib.hid hbel
              clear hwd hbel
              go_wp2_with fail
              refine HQ.out.mono ?_
              rintro e W ⟨g2, c2, rfl, hw3, hb3⟩
              have HW6 := Lib.hid hw3
              have HB6 := Lib.hid (HB5.out.trans (hb3.mono HB5.out.size))
              clear hw3 hb3
              go_wp2_with fail
              go_roundw
              case rel => exact ⟨i + 1, g2, c2, by omega, by rw [Ez1.out], rfl, by rw [HE2.out]; exact HW6.out, HB6.out⟩
              case measure => have := Ez1.out; simp [intOf]; omega
            · obtain rfl : i = 4 := by omega
              have HW5 := Lib.hid hwd
              have HB5 := Lib.hid hbel
              clear hwd hbel
              go_wp2_with fail
              go_roundw
              case rel => exact ⟨m + 1, g, cg, by omega, by go_num, rfl, by rw [HE.out]; exact HW5.out, HB5.out⟩
              case measure => simp [intOf]; omega
    · obtain rfl : m = 10 := by omega
      rw [show ((10 : Nat) : Int) = 10 from rfl]
      have hlD : (drnds F 10).length = 16 := by rw [drnds_length, Hlf.out]
      have HlD := Lib.hid hlD
      generalize drnds F 10 = D at *
      have HW := Lib.hid hwd
      have HB := Lib.hid hbel
      clear hwd hbel hlD
      obtain ⟨W3, eW3⟩ : ∃ x, x = wr := ⟨_, rfl⟩
      rw [← eW3] at HW HB ⊢
      clear eW3
      go_wp2_with fail
      generalize hW : World.alloc _ _ = W4
      have O4 := Lib.hid (show RowAt W4 W3.heap.size (bysA (outP (sum16 D F) 0)) by rw [← hW, outP_zero]; clear hW; exact ⟨by go_simp, by go_simp; rfl, by go_simp⟩)
      have hbA : Below W3.heap.size W3 W4 := by rw [← hW]; exact below_alloc (Below.refl _ _) _
      have D4 := Lib.hid (HW.out.grow hbA)
      have F4 := Lib.hid ((F2.out.grow HB.out).grow hbA)
      have R4 := Lib.hid ((R2.out.grow HB.out).grow hbA)
      have B4 := Lib.hid ((B2.out.trans (HB.out.mono B2.out.size)).trans (hbA.mono (Nat.le_trans B2.out.size HB.out.size)))
      have q1 : g ≠ W3.heap.size := by have := HW.out.1; omega
      have q2 : gw ≠ W3.heap.size := by have := (F2.out.grow HB.out).1; omega
      have q3 : gr ≠ W3.heap.size := by have := (R2.out.grow HB.out).2.2; omega
      have q4 : w.heap.size ≤ W3.heap.size := by have := B2.out.size; have := HB.out.size; omega
      clear hW hbA HW HB
      generalize W3.heap.size = go at *
      go_loopw [13] (fun t wr => ∃ i : Nat, i ≤ 64 ∧ t = .int .i64 i ∧ Sets W4 go (bysA (outP (sum16 D F) i)) wr) (fun t _ => 64 - (intOf t).toNat)
      case atStart => exact ⟨0, Nat.zero_le _, rfl, Sets.refl O4.out⟩
      case round =>
        obtain ⟨i, hi, rfl, hset⟩ := hrel
        by_cases hi64 : i < 64
        · have hi0 : (0 : Int) ≤ (i : Int) := by omega
          have hi1 : (i : Int) < 64 := by omega
          have hq : (i : Int).tdiv 4 = ((i / 4 : Nat) : Int) := rfl
          have hm : (i : Int).tmod 4 = ((i % 4 : Nat) : Int) := rfl
          have hrow := hset.row O4.out
          have hcd := (hset.words D4.out q1).2 (i / 4) (by rw [HlD.out]; omega)
          have hcf := (hset.words F4.out q2).2 (i / 4) (by rw [Hlf.out]; omega)
          have hgd := (hset.words D4.out q1).1
          have hgf := (hset.words F4.out q2).1
          have hck := hrow.cellAt i (bysA_get _ i (by rw [outP_length]; exact hi64))
          have hgo := hrow.2.2
          have Hset := Lib.hid (outP_set (sum16 D F) i hi64)
          have h0 : (0 : Int) ≤ ((i / 4 : Nat) : Int) := by omega
          have h8 : ((i / 4 : Nat) : Int) < 16 := by omega
          obtain ⟨x, ex⟩ : ∃ y, y = i % 4 * 8 := ⟨_, rfl⟩
          have h1 : IntKind.i64.wrap (8 * ((i % 4 : Nat) : Int)) = (x : Int) := by rw [IntWalk.i64_in _ (by omega)]; omega
          have h2 : IntKind.u64.wrap (x : Int) = (x : Int) := IntWalk.u64_in _ (by omega)
          have hm0 : (0 : Int) ≤ (x : Int) := by omega
          have hm1 : (x : Int) ≤ 32 := by omega
          obtain ⟨v, ev⟩ : ∃ v, v = oB (sum16 D F) i := ⟨_, rfl⟩
          rw [← ev] at Hset
          have hv : add32 (D.getD (i / 4) 0) (F.getD (i / 4) 0) / 2 ^ x % 256 = (v : Int) := by rw [ev, oI_nat, ex, ← sum16_get D F (i / 4) (by omega)]; rfl
          clear ex ev
          generalize D.getD (i / 4) 0 = xd at hcd hv
          generalize F.getD (i / 4) 0 = xf at hcf hv
          have hqw : IntKind.i64.wrap ((i / 4 : Nat) : Int) = ((i / 4 : Nat) : Int) := IntWalk.i64_in _ (by omega)
          generalize i / 4 = q at *
          generalize i % 4 = r4 at *
          have HS := Lib.hid hset
          clear hset hrow
          go_wp2_with fail
          refine wp_region_pick wr [0, 1, 2, 3, 4, 5, 6, 7, 8, 9, 10, 11, 12, 13, 14, 15, 16, 17, 18] [false, false, false, false, false, false, false, false, false, false, false, false, false, false, false, false, false, false, false] [] [] 19 (by kernel_rfl) rfl (by kernel_rfl) (by intro c a d v w h; cases d <;> exact h) ((Below.refl _ _).drew) ?_
          simp only [pick, List.getElem?_cons_succ, List.getElem?_cons_zero, List.drop_succ_cons, List.drop_zero]
          iterate 19 (refine wpHoldF_val (wanted_none rfl) (by intro K o d hK; go_simp; exact hK _ (Below.refl _ _)) ?_)
          refine wpHoldF_nil ?_
          intro w2 hb2 _
          have S2 := Lib.hid (HS.out.grow hb2)
          have hc2 := (S2.out.row O4.out).cellAt i (bysA_get _ i (by rw [outP_length]; exact hi64))
          have hf2 := (S2.out.row O4.out).frozenAt i
          clear hb2 hck hcd hcf HS
          go_wp2_with fail
          go_roundw
          case rel =>
            refine ⟨i + 1, by omega, by go_num, ?_⟩
            rw [← Hset.out, ← bysA_set]; exact S2.out.cell O4.out
          case measure => simp [intOf]; omega
        · obtain rfl : i = 64 := by omega
          rw [outP_all] at hset
          obtain ⟨c1, c2, c3⟩ := hset.row O4.out
          obtain ⟨r1, r2, r3⟩ := hset.old R4.out q3
          have B5 := Lib.hid (hset.below B4.out q4 B4.out.size)
          have hy := bysA_size' (outB_length (sum16 D F))
          clear hset
          go_wp2_with fail
          refine bodyPost_ret (v := .agg (bysA (outB (sum16 D F)))) (results_b64 Try.results10 hy _ _ _ rfl (by go_simp) (by go_simp)) rfl ⟨by rw [Hb.out], ?_⟩
          exact below_setRow B5.out l1 _
end Go.Proofs.Ytcaleepbnjlbpaa
