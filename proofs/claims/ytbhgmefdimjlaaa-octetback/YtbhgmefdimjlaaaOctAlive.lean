/-
  The laws of layer 7 ask first for answers that the document fixes: they are so.
-/
import Derived.Test.YtbhgmefdimjlaaaOctWMore
import Derived.Test.YtbhgmefdimjlaaaOctRCalls
namespace Go.Proofs.Ytbhgmefdimjlaaa
open Go.RowKit Go.Hold Go.Sh Go.Oc

theorem WStep.out {w w' : World} {B g room : Nat} {ob : Option Nat} {s s' s2 : Ws} (h : WStep w B g ob room s' w') (h0 : Wr w B g ob room s) (e : s' = s2) {w0 : World} (hb : Below B w0 w) (hB : B ≤ w.heap.size) : ∃ ob', Wr w' B g ob' room s2 ∧ Below B w0 w' := by
  subst e
  have h2 := h.below h0 hb hB
  obtain ⟨ob', h1, _⟩ := h
  exact ⟨ob', h1, h2⟩
set_option maxHeartbeats 2000000 in
set_option maxRecDepth 100000 in
theorem alive7_c (w : World) : Calls Try.prog 8 #[] w fun e w' => e = .returned (.bool true) ∧ Below w.heap.size w w' := by
  go_enter Try.func8, Try.ntmps8
  go_wp2_with fail
  refine (newWriter_c 4 (by decide) _).mono ?_
  rintro e w1 ⟨g, rfl, hw1, hb1⟩
  have W1 := Lib.hid hw1
  have B1 := Lib.hid hb1
  clear hw1 hb1
  go_wp2_with fail
  refine (wnum_c _ g none 4 (0, []) 258 2 w1 W1.out).mono ?_
  rintro e w2 ⟨rfl, hst⟩
  obtain ⟨ob2, hw2, hb2⟩ := hst.out W1.out (s2 := (0, [1, 2])) (by decide) B1.out B1.out.size
  have W2 := Lib.hid hw2
  have B2 := Lib.hid hb2
  rw [show (numS 4 (0, []) 258 2).1 = 0 from by decide]
  clear hst hw2 hb2 B1 W1
  go_wp2_with fail
  have ha2 := below_alloc (Below.refl w2.heap.size w2) (.cells #[.int .u8 7] 5)
  refine (wbytes_c _ g ob2 4 (0, [1, 2]) [7] (some ⟨w2.heap.size, 0, none⟩) 1 1 _ (W2.out.grow ha2) rfl (Bs0.some (bytes_new w2 [7] _ _)) (fun h => by cases h)).mono ?_
  rintro e w3 ⟨rfl, hst⟩
  obtain ⟨ob3, hw3, hb3⟩ := hst.out (W2.out.grow ha2) (s2 := (0, [1, 2, 7])) (by decide) (B2.out.trans (ha2.mono B2.out.size)) (Nat.le_trans B2.out.size ha2.size)
  have W3 := Lib.hid hw3
  have B3 := Lib.hid hb3
  rw [show (bytS 4 (0, [1, 2]) [7]).1 = 0 from by decide]
  clear hst hw3 hb3 B2 W2 ha2
  go_wp2_with fail
  refine (wfill_c _ g ob3 4 (0, [1, 2, 7]) 4 w3 W3.out).mono ?_
  rintro e w4 ⟨rfl, hst⟩
  obtain ⟨ob4, hw4, hb4⟩ := hst.out W3.out (s2 := (0, [1, 2, 7, 0])) (by decide) B3.out B3.out.size
  have W4 := Lib.hid hw4
  have B4 := Lib.hid hb4
  rw [show (filS 4 (0, [1, 2, 7]) 4).1 = 0 from by decide]
  clear hst hw4 hb4 B3 W3
  go_wp2_with fail
  refine (wall_c _ g ob4 4 (0, [1, 2, 7, 0]) w4 W4.out).mono ?_
  rintro e w5 ⟨v, rfl, ho5, hb5⟩
  have B5 := Lib.hid (B4.out.trans (hb5.mono B4.out.size))
  have O5 := Lib.hid ho5
  obtain ⟨p, c, rfl, hp5, _, hc5⟩ := ho5.bs
  have HP := Lib.hid hp5
  have HC := Lib.hid hc5
  rw [show (allL (0, [1, 2, 7, 0])).length = 4 from by decide]
  clear ho5 hb5 hp5 hc5 B4 W4 O5
  go_wp2_with fail
  refine (newReader_c p (allL (0, [1, 2, 7, 0])) 4 c w5 (by decide) (by decide) HP.out HC.out).mono ?_
  rintro e w6 ⟨g6, bb, rfl, hr6, hg6, _, hb6⟩
  have R6 := Lib.hid hr6
  have B6 := Lib.hid (B5.out.trans (hb6.mono B5.out.size))
  have G6 := Lib.hid (Nat.le_trans B5.out.size hg6)
  clear hr6 hb6 hg6 B5
  go_wp2_with fail
  refine (rdNum_c g6 bb (0, allL (0, [1, 2, 7, 0])) 2 w6 R6.out (getD_lt (by decide))).mono ?_
  rintro e w7 ⟨rfl, hst⟩
  have hr7 := hst.1
  rw [show rnumS (0, allL (0, [1, 2, 7, 0])) 2 = (0, [7, 0]) from by decide] at hr7 ⊢
  rw [show rnumV (0, allL (0, [1, 2, 7, 0])) 2 = 258 from by decide]
  rw [show ((258 : Nat) : Int) = 258 from rfl]
  have R7 := Lib.hid hr7
  have B7 := Lib.hid (hst.2.below B6.out B6.out.size G6.out (fun _ e => by cases e))
  clear hst hr7 B6 R6
  go_wp2_with fail
  refine (rdLeft_c g6 bb (0, [7, 0]) w7 R7.out).mono ?_
  rintro e w' ⟨rfl, hww⟩
  rw [hww]
  clear hww w'
  rw [show ((leftS (0, [7, 0]) : Nat) : Int) = 2 from by decide]
  go_wp2_with fail
  refine (rdDone_c g6 bb (0, [7, 0]) w7 R7.out).mono ?_
  rintro e w' ⟨rfl, hww⟩
  rw [hww]
  clear hww w'
  rw [show doneS (0, [7, 0]) = false from by decide]
  go_wp2_with fail
  go_ret
  exact ⟨rfl, B7.out⟩
end Go.Proofs.Ytbhgmefdimjlaaa
