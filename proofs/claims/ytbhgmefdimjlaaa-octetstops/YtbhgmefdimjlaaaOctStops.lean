/-
  Behind an error each call answers that error, and nothing is told any more.
-/
import Derived.Test.YtbhgmefdimjlaaaOctActs
namespace Go.Proofs.Ytbhgmefdimjlaaa
open Go.RowKit Go.Hold Go.Sh Go.Oc

set_option maxHeartbeats 2000000 in
set_option maxRecDepth 100000 in
theorem stops_any (k1 k2 n1 n2 : Nat) (z1 z2 : Int) (p1 p2 p3 : Option Addr) (l1 l2 l3 : List Nat) (c1 c2 c3 : Nat) (w : World)
    (hp1 : Bs0 w p1 l1) (hc1 : p1 = none → c1 = 0) (hp3 : Bs0 w p3 l3) (hc3 : p3 = none → c3 = 0) (hb3 : ∀ i, l3.getD i 0 < 256) :
    Calls Try.prog 7 #[.agg (arow k1 n1 z1 (.slice p1 l1.length c1)), .agg (arow k2 n2 z2 (.slice p2 l2.length c2)), .slice p3 l3.length c3] w fun e w' => e = .returned (.bool true) ∧ Below w.heap.size w w' := by
  obtain ⟨m1, e1⟩ : ∃ m, m = l1.length := ⟨_, rfl⟩
  obtain ⟨m2, e2⟩ : ∃ m, m = l2.length := ⟨_, rfl⟩
  obtain ⟨m3, e3⟩ : ∃ m, m = l3.length := ⟨_, rfl⟩
  rw [← e1, ← e2, ← e3]
  have HP1 := Lib.hid hp1
  have HC1 := Lib.hid hc1
  have HP3 := Lib.hid hp3
  have HC3 := Lib.hid hc3
  have HB3 := Lib.hid hb3
  have E1 := Lib.hid e1
  have E3 := Lib.hid e3
  have R0 := Lib.hid (show RowAt ((w.alloc (.cells (arow k1 n1 z1 (.slice p1 m1 c1)) 31)).alloc (.cells (arow k2 n2 z2 (.slice p2 m2 c2)) 31)) w.heap.size (arow k1 n1 z1 (.slice p1 m1 c1)) from ⟨by go_simp, by go_simp, by go_simp⟩)
  have S0 := Lib.hid (show RowAt ((w.alloc (.cells (arow k1 n1 z1 (.slice p1 m1 c1)) 31)).alloc (.cells (arow k2 n2 z2 (.slice p2 m2 c2)) 31)) (w.heap.size + 1) (arow k2 n2 z2 (.slice p2 m2 c2)) from ⟨by go_simp, by go_simp, by go_simp⟩)
  have B0 := Lib.hid (below_alloc (below_alloc (Below.refl w.heap.size w) (.cells (arow k1 n1 z1 (.slice p1 m1 c1)) 31)) (.cells (arow k2 n2 z2 (.slice p2 m2 c2)) 31))
  clear hp1 hc1 hp3 hc3 hb3 e1 e2 e3
  go_enter Try.func7, Try.ntmps7
  go_wp2_with fail
  generalize World.alloc _ _ = w0 at *
  refine (alive7_c w0).mono ?_
  rintro e w1 ⟨rfl, hb1⟩
  have R1 := Lib.hid (R0.out.grow hb1)
  have S1 := Lib.hid (S0.out.grow hb1)
  have B1 := Lib.hid (B0.out.trans (hb1.mono B0.out.size))
  have L1 := Lib.hid (show w.heap.size + 1 < w1.heap.size from Nat.lt_of_lt_of_le S0.out.2.2 hb1.size)
  clear hb1 R0 S0 B0 w0
  have hr3 := R1.out.cellAt 3 (show (arow k1 n1 z1 (.slice p1 m1 c1))[3]? = some (.slice p1 m1 c1) from rfl)
  have hs3 := S1.out.cellAt 3 (show (arow k2 n2 z2 (.slice p2 m2 c2))[3]? = some (.slice p2 m2 c2) from rfl)
  by_cases h1 : (1000 : Int) < (m1 : Int)
  · go_wp2_with fail
    go_ret
    exact ⟨rfl, B1.out⟩
  by_cases h2 : (1000 : Int) < (m2 : Int)
  · go_wp2_with fail
    go_ret
    exact ⟨rfl, B1.out⟩
  by_cases h3 : (1000 : Int) < (m3 : Int)
  · go_wp2_with fail
    go_ret
    exact ⟨rfl, B1.out⟩
  have H3 := Lib.hid h3
  go_wp2_with fail
  clear hr3 hs3
  refine (newWriter_c 4 (by decide) w1).mono ?_
  rintro e w2 ⟨g, rfl, hw2, hb2⟩
  have W2 := Lib.hid hw2
  have K2 := Lib.hid hb2
  clear hw2 hb2
  go_wp2_with fail
  have hb3' := B1.out.trans (K2.out.mono B1.out.size)
  refine (newReader_c p3 l3 m3 c3 w2 E3.out (by rw [← E3.out]; have := H3.out; omega) (HP3.out.grow hb3') HC3.out).mono ?_
  rintro e w3 ⟨g6, bb, rfl, hr, hg6, hbb, hb3⟩
  have K3 := Lib.hid (K2.out.trans (hb3.mono K2.out.size))
  have V3 := Lib.hid (show WRd w3 w1.heap.size g none 4 (0, []) g6 bb (0, l3) from
    ⟨W2.out.grow hb3, hr, by have := W2.out.lt.1; omega, (fun e => by cases e), (fun e => by have := hbb _ e; have := W2.out.lt.1; omega), (fun _ _ e => by cases e), Nat.le_trans K2.out.size hg6⟩)
  clear hb3 hr hg6 hbb hb3' K2 W2
  have hr1 := (R1.out.keep K3.out (by have := L1.out; omega)).cellAt 1 (show (arow k1 n1 z1 (.slice p1 m1 c1))[1]? = some (.int .u64 (n1 : Int)) from rfl)
  have hr2 := (R1.out.keep K3.out (by have := L1.out; omega)).cellAt 2 (show (arow k1 n1 z1 (.slice p1 m1 c1))[2]? = some (.int .i64 z1) from rfl)
  go_wp2_with fail
  refine (wnum_c _ g none 4 (0, []) n1 z1 w3 V3.out.1).mono ?_
  rintro e w4 ⟨rfl, hst⟩
  obtain ⟨ob4, hv4⟩ := V3.out.step hst
  have V4 := Lib.hid hv4
  have K4 := Lib.hid (hst.below V3.out.1 K3.out K3.out.size)
  clear hst hv4 V3 K3 hr1 hr2
  obtain ⟨T1, eT1⟩ : ∃ T, T = numS 4 (0, []) n1 z1 := ⟨_, rfl⟩
  rw [← eT1] at V4 ⊢
  obtain ⟨er, lw⟩ := T1
  clear eT1
  have hs1 := (S1.out.keep K4.out L1.out).cellAt 1 (show (arow k2 n2 z2 (.slice p2 m2 c2))[1]? = some (.int .u64 (n2 : Int)) from rfl)
  have hs2 := (S1.out.keep K4.out L1.out).cellAt 2 (show (arow k2 n2 z2 (.slice p2 m2 c2))[2]? = some (.int .i64 z2) from rfl)
  go_wp2_with fail
  refine (wnum_c _ g ob4 4 (er, lw) n2 z2 w4 V4.out.1).mono ?_
  rintro e w5 ⟨rfl, hst⟩
  obtain ⟨ob5, hv5⟩ := V4.out.step hst
  have V5 := Lib.hid hv5
  have K5 := Lib.hid (hst.below V4.out.1 K4.out K4.out.size)
  clear hst hv5 V4 K4 hs1 hs2
  obtain ⟨T2, eT2⟩ : ∃ T, T = numS 4 (er, lw) n2 z2 := ⟨_, rfl⟩
  rw [← eT2] at V5 ⊢
  have ET2 := Lib.hid eT2
  obtain ⟨er2, lw2⟩ := T2
  clear eT2
  go_wp2_with fail
  refine (wall_c _ g ob5 4 (er2, lw2) w5 V5.out.1).mono ?_
  rintro e w6 ⟨v, rfl, ho, hb6⟩
  have V6 := Lib.hid (V5.out.grow hb6)
  have K6 := Lib.hid (K5.out.trans (hb6.mono K5.out.size))
  obtain ⟨pv, cv, rfl, _⟩ := ho.bs
  clear ho hb6 V5 K5
  by_cases her : er = 0
  · subst her
    have hr2 := (R1.out.keep K6.out (by have := L1.out; omega)).cellAt 2 (show (arow k1 n1 z1 (.slice p1 m1 c1))[2]? = some (.int .i64 z1) from rfl)
    go_wp2_with fail
    refine (rdBytes_c g6 bb (0, l3) z1 w6 V6.out.2.1).mono ?_
    rintro e w7 ⟨u, rfl, _, hst⟩
    have R7 := Lib.hid hst.1
    have K7 := Lib.hid (hst.below K6.out K6.out.size V6.out.2.2.2.2.2.2)
    have HB7 := Lib.hid (rbytS_bts (s := (0, l3)) HB3.out z1)
    clear hst hr2 K6
    generalize rbytS (0, l3) z1 = T3 at *
    obtain ⟨er3, l4⟩ := T3
    have hs2 := (S1.out.keep K7.out L1.out).cellAt 2 (show (arow k2 n2 z2 (.slice p2 m2 c2))[2]? = some (.int .i64 z2) from rfl)
    go_wp2_with fail
    refine (rdNum_c g6 bb (er3, l4) z2 w7 R7.out HB7.out).mono ?_
    rintro e w8 ⟨rfl, hst⟩
    have R8 := Lib.hid hst.1
    have K8 := Lib.hid (hst.below K7.out K7.out.size V6.out.2.2.2.2.2.2)
    clear hst hs2 K7
    have HF := Lib.hid (B1.out.trans (K8.out.mono B1.out.size))
    by_cases her3 : er3 = 0
    · subst her3
      go_wp2_with fail
      go_ret
      exact ⟨rfl, HF.out⟩
    · have e3' : (er3 == 0) = false := by simpa using her3
      have hT : rnumS (er3, l4) z2 = (er3, l4) := by unfold rnumS; rw [if_pos her3]
      have hV : rnumV (er3, l4) z2 = 0 := by unfold rnumV; rw [if_neg (fun e => her3 e.1)]
      rw [hT] at R8
      have hst8 := R8.out.stop
      have HS8 := Lib.hid (show RStop w8 (.pointer (some ⟨g6, 0, none⟩)) er3 from hst8)
      rw [hT, hV]
      clear hst8 hT hV
      go_wp2_with fail
      refine (rdLeft_stop _ er3 her3 w8 HS8.out).mono ?_
      rintro e w' ⟨rfl, hww⟩
      rw [hww]
      clear hww w'
      go_wp2_with fail
      refine (rdDone_stop _ er3 her3 w8 HS8.out).mono ?_
      rintro e w' ⟨rfl, hww⟩
      rw [hww]
      clear hww w'
      go_wp2_with fail
      go_ret
      exact ⟨rfl, HF.out⟩
  · have e1' : (er != 0) = true := by simpa using her
    have hT2 : (er2, lw2) = (er, lw) := by rw [ET2.out]; unfold numS; rw [if_pos her]
    obtain ⟨rfl, rfl⟩ : er2 = er ∧ lw2 = lw := by simpa using hT2
    have hal : (allL (er2, lw2)).length = 0 := by unfold allL; rw [if_pos her]; rfl
    rw [hal]
    have HS6 := Lib.hid (show WStop w6 (.pointer (some ⟨g, 0, none⟩)) er2 from V6.out.1.stop)
    have hr3 := (R1.out.keep K6.out (by have := L1.out; omega)).cellAt 3 (show (arow k1 n1 z1 (.slice p1 m1 c1))[3]? = some (.slice p1 m1 c1) from rfl)
    have hr2 := (R1.out.keep K6.out (by have := L1.out; omega)).cellAt 2 (show (arow k1 n1 z1 (.slice p1 m1 c1))[2]? = some (.int .i64 z1) from rfl)
    have hs2 := (S1.out.keep K6.out L1.out).cellAt 2 (show (arow k2 n2 z2 (.slice p2 m2 c2))[2]? = some (.int .i64 z2) from rfl)
    clear hT2 hal
    go_wp2_with fail
    refine (wbytes_stop _ er2 her _ w6 HS6.out).mono ?_
    rintro e w' ⟨rfl, hww⟩
    rw [hww]
    clear hww w'
    go_wp2_with fail
    refine (wfill_stop _ er2 her _ w6 HS6.out).mono ?_
    rintro e w' ⟨rfl, hww⟩
    rw [hww]
    clear hww w'
    go_wp2_with fail
    clear hr3 hs2
    refine (rdBytes_c g6 bb (0, l3) z1 w6 V6.out.2.1).mono ?_
    rintro e w7 ⟨u, rfl, _, hst⟩
    have R7 := Lib.hid hst.1
    have K7 := Lib.hid (hst.below K6.out K6.out.size V6.out.2.2.2.2.2.2)
    have HB7 := Lib.hid (rbytS_bts (s := (0, l3)) HB3.out z1)
    clear hst hr2 K6
    generalize rbytS (0, l3) z1 = T3 at *
    obtain ⟨er3, l4⟩ := T3
    have hs2 := (S1.out.keep K7.out L1.out).cellAt 2 (show (arow k2 n2 z2 (.slice p2 m2 c2))[2]? = some (.int .i64 z2) from rfl)
    go_wp2_with fail
    refine (rdNum_c g6 bb (er3, l4) z2 w7 R7.out HB7.out).mono ?_
    rintro e w8 ⟨rfl, hst⟩
    have R8 := Lib.hid hst.1
    have K8 := Lib.hid (hst.below K7.out K7.out.size V6.out.2.2.2.2.2.2)
    clear hst hs2 K7
    have HF := Lib.hid (B1.out.trans (K8.out.mono B1.out.size))
    by_cases her3 : er3 = 0
    · subst her3
      go_wp2_with fail
      go_ret
      exact ⟨rfl, HF.out⟩
    · have e3' : (er3 == 0) = false := by simpa using her3
      have hT : rnumS (er3, l4) z2 = (er3, l4) := by unfold rnumS; rw [if_pos her3]
      have hV : rnumV (er3, l4) z2 = 0 := by unfold rnumV; rw [if_neg (fun e => her3 e.1)]
      rw [hT] at R8
      have hst8 := R8.out.stop
      have HS8 := Lib.hid (show RStop w8 (.pointer (some ⟨g6, 0, none⟩)) er3 from hst8)
      rw [hT, hV]
      clear hst8 hT hV
      go_wp2_with fail
      refine (rdLeft_stop _ er3 her3 w8 HS8.out).mono ?_
      rintro e w' ⟨rfl, hww⟩
      rw [hww]
      clear hww w'
      go_wp2_with fail
      refine (rdDone_stop _ er3 her3 w8 HS8.out).mono ?_
      rintro e w' ⟨rfl, hww⟩
      rw [hww]
      clear hww w'
      go_wp2_with fail
      go_ret
      exact ⟨rfl, HF.out⟩
end Go.Proofs.Ytbhgmefdimjlaaa
