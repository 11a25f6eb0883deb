/-
  Package sha: the state behind one more block.
-/
import Derived.Test.YtikpglemnnbdcaaDoorShaSpread
namespace Go.Proofs.YtikpglemnnbdcaaDoor
open Go.RowKit Go.Hold Go.Sh

/-- The two tables, as the program's text lays them. -/
def Tabs (w : World) : Prop := 1 < w.heap.size ∧ (∀ i, i < 8 → w.cell? ⟨0, i, none⟩ = some (.int .u32 (Hs.getD i 0))) ∧ (∀ i, i < 64 → w.cell? ⟨1, i, none⟩ = some (.int .u32 (Ks.getD i 0)))
theorem Tabs.below {w w' : World} {B : Nat} (h : Tabs w) (hb : Below B w w') (hB : 1 < B) : Tabs w' :=
  ⟨Nat.lt_of_lt_of_le h.1 hb.size, fun i hi => by rw [hb.cell (show 0 < B by omega)]; exact h.2.1 i hi, fun i hi => by rw [hb.cell (show 1 < B by omega)]; exact h.2.2 i hi⟩
theorem Tabs.grow {w w' : World} (h : Tabs w) (hb : Below w.heap.size w w') : Tabs w' := h.below hb h.1

set_option maxHeartbeats 1000000 in
set_option maxRecDepth 100000 in
theorem behind_c (s : St) (b : List Nat) (hl : b.length = 64) (hb : ∀ i, b.getD i 0 < 256) (w : World) (hT : Tabs w) :
    Calls Tryd.prog 35 #[.agg (stA s), .agg (bysA b)] w fun e w' => e = .returned (.agg (stA (scmp s b))) ∧ Below w.heap.size w w' := by
  have hs : (bysA b).size = 64 := by rw [bysA_size, hl]
  have hw : (wosA (sch b)).size = 64 := by rw [wosA_size, sch_length]
  have HT := Lib.hid hT
  clear hT
  go_enter Tryd.func35, Tryd.ntmps35
  go_wp2_with fail
  refine (spread_c b hl hb _).mono ?_
  rintro e w' ⟨rfl, hbw⟩
  obtain ⟨oc, nc, rfl⟩ := below_plus hbw
  clear hbw
  go_wp2_with fail
  -- the letters
  generalize hW : World.alloc _ _ = W1
  have R0 := Lib.hid (show RowAt W1 w.heap.size (stA s) by rw [← hW]; clear hW; exact ⟨by go_simp, by go_simp, by go_simp⟩)
  have R1 := Lib.hid (show ∃ c, c.size = 8 ∧ RowAt W1 (w.heap.size + 1 + 1) c by rw [← hW]; clear hW; exact ⟨#[.int .u32 0, .int .u32 0, .int .u32 0, .int .u32 0, .int .u32 0, .int .u32 0, .int .u32 0, .int .u32 0], rfl, by go_simp, by go_simp, by go_simp⟩)
  have R2 := Lib.hid (show RowAt W1 (w.heap.size + 1 + 1 + 1 + oc.size) (wosA (sch b)) by rw [← hW]; clear hW; exact ⟨by go_simp, by go_simp, by go_simp⟩)
  have B0 := Lib.hid (show Below w.heap.size w W1 by rw [← hW]; repeat (first | apply below_more | apply below_alloc | apply Below.drew | exact Below.refl _ _))
  clear hW
  have hg2 : w.heap.size + 1 + 1 < w.heap.size + 1 + 1 + 1 + oc.size := by omega
  generalize w.heap.size + 1 + 1 + 1 + oc.size = g at *
  have hlt := R0.out.2.2
  have hc0 := R0.out.cellAt 0 (show (stA s)[0]? = some (.int .u32 s.a) from rfl)
  have hc1 := R0.out.cellAt 1 (show (stA s)[1]? = some (.int .u32 s.b) from rfl)
  have hc2 := R0.out.cellAt 2 (show (stA s)[2]? = some (.int .u32 s.c) from rfl)
  have hc3 := R0.out.cellAt 3 (show (stA s)[3]? = some (.int .u32 s.d) from rfl)
  have hc4 := R0.out.cellAt 4 (show (stA s)[4]? = some (.int .u32 s.e) from rfl)
  have hc5 := R0.out.cellAt 5 (show (stA s)[5]? = some (.int .u32 s.f) from rfl)
  have hc6 := R0.out.cellAt 6 (show (stA s)[6]? = some (.int .u32 s.g) from rfl)
  have hc7 := R0.out.cellAt 7 (show (stA s)[7]? = some (.int .u32 s.h) from rfl)
  refine wp_region_fast (fun w' => ∃ o d, w' = W1.plus o d) (by kernel_rfl) (by kernel_rfl) ⟨#[], _, rfl⟩ ?_
  iterate 24 (refine wpHold_val ⟨_, #[], 0, rfl⟩ (wanted_none rfl) (by rintro K _ ⟨o, d, rfl⟩ hK; go_simp; exact hK _ ⟨o, d, rfl⟩) ?_)
  refine wpHold_nil ?_
  rintro _ ⟨o2, n2, rfl⟩
  clear hc0 hc1 hc2 hc3 hc4 hc5 hc6 hc7
  generalize hW : W1.plus o2 n2 = W2
  have hb1 := Lib.hid (show Below W1.heap.size W1 W2 by rw [← hW]; exact below_more (Below.refl _ _) _ _)
  clear hW
  replace R0 := Lib.hid (R0.out.grow hb1.out)
  replace R2 := Lib.hid (R2.out.grow hb1.out)
  obtain ⟨c1, hs1, r1⟩ := R1.out
  replace r1 := Lib.hid (r1.grow hb1.out)
  replace B0 := Lib.hid (B0.out.trans (hb1.out.mono B0.out.size))
  clear hb1 R1 hlt
  go_wp2_with fail
  go_loopw [6, 7, 8, 9, 10, 11, 12, 13, 35] (fun va vb vc vd ve vf vg vh i wr => ∃ (k : Nat) (r : St), k ≤ 64 ∧ i = .int .i64 k ∧ r = srnds (sch b) s k ∧ va = .int .u32 r.a ∧ vb = .int .u32 r.b ∧ vc = .int .u32 r.c ∧ vd = .int .u32 r.d ∧ ve = .int .u32 r.e ∧ vf = .int .u32 r.f ∧ vg = .int .u32 r.g ∧ vh = .int .u32 r.h ∧ Below W2.heap.size W2 wr) (fun _ _ _ _ _ _ _ _ i _ => 64 - (intOf i).toNat)
  case atStart => exact ⟨0, s, by decide, rfl, rfl, rfl, rfl, rfl, rfl, rfl, rfl, rfl, rfl, Below.refl _ _⟩
  case round =>
    obtain ⟨k, r, hk, rfl, hr, rfl, rfl, rfl, rfl, rfl, rfl, rfl, rfl, hbel⟩ := hrel
    by_cases hk64 : k < 64
    · have hk0 : (0 : Int) ≤ (k : Int) := by omega
      have hk1 : (k : Int) < 64 := by omega
      have Hr := Lib.hid hr
      have Hbel := Lib.hid hbel
      have hT := HT.out.grow (B0.out.trans (hbel.mono B0.out.size))
      have ht1 := hT.1
      have hck := hT.2.2 k hk64
      have hrow := R2.out.grow hbel
      have hg := hrow.2.2
      have hcw := hrow.cellAt k (wosA_get _ k (by rw [sch_length]; exact hk64))
      generalize eK : Ks.getD k 0 = kk at hck
      generalize eW : (sch b).getD k 0 = ww at hcw
      have HeK := Lib.hid eK
      have HeW := Lib.hid eW
      clear eK eW hrow hT hbel hr
      go_wp2_with fail
      refine wp_region_fast (fun w' => ∃ o d, w' = wr.plus o d) (by kernel_rfl) (by kernel_rfl) ⟨#[], _, rfl⟩ ?_
      iterate 2 (refine wpHold_val ⟨_, #[], 0, rfl⟩ (wanted_none rfl) (by rintro K _ ⟨o, d, rfl⟩ hK; go_simp; exact hK _ ⟨o, d, rfl⟩) ?_)
      refine wpHold_call (v := .int .u32 (S1 r.e)) (wanted_none rfl) (by rintro K _ ⟨o, d, rfl⟩ hK; go_simp; refine (sig_S1 _ _).mono ?_; rintro e w' ⟨rfl, rfl⟩; exact ⟨_, rfl, hK _ ⟨o, d, rfl⟩⟩) ?_
      iterate 19 (refine wpHold_val ⟨_, #[], 0, rfl⟩ (wanted_none rfl) (by rintro K _ ⟨o, d, rfl⟩ hK; go_simp; exact hK _ ⟨o, d, rfl⟩) ?_)
      refine wpHold_nil ?_
      rintro _ ⟨o3, n3, rfl⟩
      generalize e1 : add32 (add32 (add32 (add32 r.h (S1 r.e)) (x32 (a32 r.e r.f) (a32 (n32 r.e) r.g))) kk) ww = t1
      have He1 := Lib.hid e1
      clear e1
      go_wp2_with fail
      refine (sig_S0 _ _).mono ?_
      rintro e w' ⟨rfl, rfl⟩
      go_wp2_with fail
      obtain rfl := He1.out
      refine ⟨⟨k + 1, srnd r kk ww, by omega, by go_num, ?_, rfl, rfl, rfl, rfl, rfl, rfl, rfl, rfl, ?_⟩, by simp [intOf]; omega⟩
      · show srnd r kk ww = srnd (srnds (sch b) s k) (Ks.getD k 0) ((sch b).getD k 0)
        rw [← Hr.out, HeK.out, HeW.out]
      · exact below_more Hbel.out _ _
    · obtain rfl : k = 64 := by omega
      have R3 := R0.out.grow hbel
      have hlt := R3.2.2
      have hc0 := R3.cellAt 0 (show (stA s)[0]? = some (.int .u32 s.a) from rfl)
      have hc1 := R3.cellAt 1 (show (stA s)[1]? = some (.int .u32 s.b) from rfl)
      have hc2 := R3.cellAt 2 (show (stA s)[2]? = some (.int .u32 s.c) from rfl)
      have hc3 := R3.cellAt 3 (show (stA s)[3]? = some (.int .u32 s.d) from rfl)
      have hc4 := R3.cellAt 4 (show (stA s)[4]? = some (.int .u32 s.e) from rfl)
      have hc5 := R3.cellAt 5 (show (stA s)[5]? = some (.int .u32 s.f) from rfl)
      have hc6 := R3.cellAt 6 (show (stA s)[6]? = some (.int .u32 s.g) from rfl)
      have hc7 := R3.cellAt 7 (show (stA s)[7]? = some (.int .u32 s.h) from rfl)
      obtain ⟨q1, q2, q3⟩ := r1.out.grow hbel
      have B1 := Lib.hid (B0.out.trans (hbel.mono B0.out.size))
      have Hr := Lib.hid hr
      clear R3 hbel hr
      go_wp2_with fail
      refine bodyPost_ret (v := .agg (stA (scmp s b))) (results_words Tryd.results35 rfl _ _ _ rfl (by go_simp) (by go_simp; rw [Hr.out]; rfl)) rfl ⟨rfl, ?_⟩
      exact below_setRow B1.out (by omega) _
end Go.Proofs.YtikpglemnnbdcaaDoor
