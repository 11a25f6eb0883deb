/-
  As many bytes as one likes of any secret are the document's, or refused; so is a key for a purpose.
-/
import Derived.Test.YtikpglemnnbdcaaDoorHmacRDrv
import Derived.Test.YtikpglemnnbdcaaDoorHmacAt
namespace Go.Proofs.YtikpglemnnbdcaaDoor
open Go.RowKit Go.Hold Go.Sh

/-- What both answer: the same bytes, and the same error. -/
theorem expand_both (ic m : Nat) (z : Int) (ip : Option Addr) (s info : List Nat) (hm : m = info.length) (hs : s.length = 32) (hsb : ∀ i, s.getD i 0 < 256) (hi : m ≤ 1000) (hib : ∀ i, info.getD i 0 < 256) (hic : ip = none → ic = 0) (hz : ¬ 500 < z ∨ ¬ z ≤ 8160) :
    ∃ (X : List Nat) (er : Int), (∀ w, Tabs w → Bs0 w ip info → Calls Tryd.prog 14 #[.agg (bysA s), .slice ip m ic, .int .i64 z] w fun e w' => ∃ p c, e = .returned (.tuple #[.slice p X.length c, .int .i64 er]) ∧ Bs0 w' p X ∧ Below w.heap.size w w') ∧
      (∀ w, Bs0 w ip info → Calls Tryd.prog 15 #[.agg (bysA s), .slice ip m ic, .int .i64 z] w fun e w' => ∃ p c, e = .returned (.tuple #[.slice p X.length c, .int .i64 er]) ∧ Bs0 w' p X ∧ Below w.heap.size w w') := by
  subst hm
  by_cases hb : z < 0 ∨ 8160 < z
  · refine ⟨[], 3, fun w _ _ => (expand_bad z s _ w hb).mono ?_, fun w _ => (rexpand_bad z s _ w hb).mono ?_⟩
    · rintro e w' ⟨rfl, h⟩
      exact ⟨none, 0, rfl, .inl rfl, h⟩
    · rintro e w' ⟨rfl, h⟩
      exact ⟨none, 0, rfl, .inl rfl, h⟩
  · obtain ⟨n, rfl⟩ : ∃ n : Nat, z = (n : Int) := ⟨z.toNat, by omega⟩
    have hn : n ≤ 8160 := by omega
    refine ⟨expN s info n, 0, fun w hT hB => (expand_c ic n ip s info w hT hs hsb (by omega) hib hB hic hn).mono ?_, fun w hB => (rexpand_c ic n info.length ip s info w rfl hs hsb (by omega) hib hB hic hn).mono ?_⟩
    · rintro e w' ⟨p, rfl, h1, _, h2⟩
      rw [expN_length]
      exact ⟨p, n, rfl, h1, h2⟩
    · rintro e w' ⟨p, c, rfl, h1, h2⟩
      rw [expN_length]
      exact ⟨p, c, rfl, h1, h2⟩
set_option maxHeartbeats 1000000 in
set_option maxRecDepth 100000 in
theorem expands_any (ic : Nat) (z : Int) (ip : Option Addr) (s info : List Nat) (w : World) (hT : Tabs w) (hs : s.length = 32) (hsb : ∀ i, s.getD i 0 < 256)
    (hib : ∀ i, info.getD i 0 < 256) (hiB : Bs0 w ip info) (_hc : info.length ≤ ic) (hip : ip = none → ic = 0) (_wz : (Lit.int .i64 z).wf = true) :
    Calls Tryd.prog 4 #[.agg (bysA s), .slice ip info.length ic, .int .i64 z] w fun e w' => e = .returned (.bool true) ∧ Below w.heap.size w w' := by
  have HT := Lib.hid hT
  have HI := Lib.hid hiB
  have Hib := Lib.hid hib
  have Hip := Lib.hid hip
  have Hs := Lib.hid hs
  have Hsb := Lib.hid hsb
  have hsz : (bysA s).size = 32 := by rw [bysA_size, hs]
  obtain ⟨m, em⟩ : ∃ n, n = info.length := ⟨_, rfl⟩
  rw [← em]
  have Em := Lib.hid em
  clear hT hiB hib hip hs hsb em
  go_enter Tryd.func4, Tryd.ntmps4
  go_wp2_with fail
  have R0 := Lib.hid (show RowAt (w.alloc (.cells (bysA s) 25)) w.heap.size (bysA s) from RowAt.of (block_new w _))
  have B0 := Lib.hid (below_alloc (Below.refl w.heap.size w) (.cells (bysA s) 25))
  refine (alive_c _ (HT.out.grow B0.out)).mono ?_
  rintro e W1 ⟨rfl, hb1⟩
  have R1 := Lib.hid (R0.out.grow hb1)
  have B1 := Lib.hid (B0.out.trans (hb1.mono B0.out.size))
  clear hb1 R0 B0
  by_cases h1 : 1000 < m
  · have h1' : (1000 : Int) < (m : Int) := by omega
    go_wp2_with fail
    go_ret
    exact ⟨rfl, B1.out⟩
  have h1' : ¬ (1000 : Int) < (m : Int) := by omega
  by_cases h2 : 500 < z ∧ z ≤ 8160
  · obtain ⟨h2, h3⟩ := h2
    go_wp2_with fail
    go_ret
    exact ⟨rfl, B1.out⟩
  have hz : ¬ 500 < z ∨ (500 < z ∧ ¬ z ≤ 8160) := by omega
  obtain ⟨X, er, hE, hR⟩ := expand_both ic m z ip s info Em.out Hs.out Hsb.out (by omega) Hib.out Hip.out (by omega)
  have HE := Lib.hid (hE W1 (HT.out.grow B1.out) (HI.out.grow B1.out))
  have HR := Lib.hid (fun W (hW : Below w.heap.size w W) => hR W (HI.out.grow hW))
  obtain ⟨nx, enx⟩ : ∃ n, n = X.length := ⟨_, rfl⟩
  rw [← enx] at HE HR
  have Enx := Lib.hid enx
  obtain ⟨lab, el⟩ : ∃ l, l = toS info := ⟨_, rfl⟩
  have hlab : lab.size ≤ 50000 := by rw [el, toS_size, ← Em.out]; omega
  have HD := Lib.hid (fun W (hW : Below w.heap.size w W) => derive_c s lab W (HT.out.grow hW) Hs.out Hsb.out hlab)
  have HRD := Lib.hid (fun (W : World) => rderive_c s lab W Hs.out Hsb.out hlab)
  generalize drv s (purp ++ strB lab) = D at HD HRD
  have El := Lib.hid el
  clear hE hR enx el hlab h2
  obtain ⟨r1, r2, r3⟩ := R1.out
  generalize w.heap.size = x at R1 r1 r2 r3 ⊢
  rcases hz with h2 | ⟨h2, h3⟩
  all_goals
    go_wp2_with fail
    refine HE.out.mono ?_
    rintro e W2 ⟨p1, c1, rfl, hX1, hb2⟩
    have R2 := Lib.hid (R1.out.grow hb2)
    have B2 := Lib.hid (B1.out.trans (hb2.mono B1.out.size))
    have HX1 := Lib.hid hX1
    clear hb2 r1 r2 r3 R1 HE hX1
    obtain ⟨r1, r2, r3⟩ := R2.out
    go_wp2_with fail
    refine (HR.out W2 B2.out).mono ?_
    rintro e W3 ⟨p2, c2, rfl, hX2, hb3⟩
    have R3 := Lib.hid (R2.out.grow hb3)
    have B3 := Lib.hid (B2.out.trans (hb3.mono B2.out.size))
    have hcv1 : ∀ o d, (cvBS (.slice p1 nx c1)).run Tryd.prog (W3.plus o d) = .ok (.string (toS X)) (W3.plus o d) := fun o d => run_cvBS ((HX1.out.grow hb3).grow (below_more (Below.refl _ _) o d)) Enx.out
    have hcv2 : ∀ o d, (cvBS (.slice p2 nx c2)).run Tryd.prog (W3.plus o d) = .ok (.string (toS X)) (W3.plus o d) := fun o d => run_cvBS (hX2.grow (below_more (Below.refl _ _) o d)) Enx.out
    have hcv3 : ∀ o d, (cvBS (.slice ip m ic)).run Tryd.prog (W3.plus o d) = .ok (.string lab) (W3.plus o d) := fun o d => by rw [El.out]; exact run_cvBS ((HI.out.grow B3.out).grow (below_more (Below.refl _ _) o d)) Em.out
    have HD3 := Lib.hid (fun o d => HD.out (W3.plus o d) (below_more B3.out o d))
    have HRD3 := Lib.hid (fun o d => HRD.out (W3.plus o d))
    generalize toS X = K0 at *
    clear hb3 r1 r2 r3 R2 HR HX1 hX2 HD HRD
    obtain ⟨r1, r2, r3⟩ := R3.out
    go_wp2_with fail
    refine wp_region_pickT W3 [0, 1, 2, 3, 4, 5, 6, 7, 8, 9, 10, 11, 12, 13, 14, 15, 16, 17, 18, 19, 20] [false, false, false, false, false, false, false, false, false, false, false, false, false, false, false, false, false, false, false, false, false] [21] (by kernel_rfl) (by kernel_rfl) (by intro c a d v w h; cases d <;> exact h) ((Below.refl _ _).drew) ?_
    simp only [pick, List.getElem?_cons_succ, List.getElem?_cons_zero]
    refine wpHoldF_val (wanted_none rfl) (by intro K o d hK; go_simp; exact hK _ (Below.refl _ _)) ?_
    refine wpHoldF_val (wanted_none rfl) (by intro K o d hK; go_simp; exact hK _ (Below.refl _ _)) ?_
    refine wpHoldF_val (wanted_none rfl) (by intro K o d hK; go_simp; exact hK _ (Below.refl _ _)) ?_
    refine wpHoldF_val (wanted_none rfl) (by intro K o d hK; go_simp; exact hK _ (Below.refl _ _)) ?_
    refine wpHoldF_val (wanted_none rfl) (by intro K o d hK; go_simp; exact hK _ (Below.refl _ _)) ?_
    refine wpHoldF_val (wanted_none rfl) (by intro K o d hK; go_simp; exact hK _ (Below.refl _ _)) ?_
    refine wpHoldF_val (wanted_some rfl rfl rfl) (by intro K o d hK; go_simp; exact hK _ (Below.refl _ _)) ?_
    refine wpHoldF_val (wanted_some rfl rfl rfl) (by intro K o d hK; go_simp; exact hK _ (Below.refl _ _)) ?_
    refine wpHoldF_val (wanted_some rfl rfl rfl) (by intro K o d hK; go_simp; exact hK _ (Below.refl _ _)) ?_
    refine wpHoldF_val (wanted_none rfl) (by intro K o d hK; go_simp; exact hK _ (Below.refl _ _)) ?_
    refine wpHoldF_val (wanted_none rfl) (by intro K o d hK; go_simp; exact hK _ (Below.refl _ _)) ?_
    refine wpHoldF_val (wanted_some rfl rfl rfl) (by intro K o d hK; go_simp; exact hK _ (Below.refl _ _)) ?_
    refine wpHoldF_val (wanted_some rfl rfl rfl) (by intro K o d hK; go_simp; exact hK _ (Below.refl _ _)) ?_
    refine wpHoldF_val (wanted_some rfl rfl rfl) (by intro K o d hK; go_simp; exact hK _ (Below.refl _ _)) ?_
    refine wpHoldF_call (v := .agg (keA D)) (wanted_some rfl rfl rfl) (by intro K o d hK; go_simp; refine (HD3.out o d).mono ?_; rintro e w' ⟨rfl, hbw⟩; exact ⟨_, rfl, hK _ hbw⟩) ?_
    refine wpHoldF_val (wanted_some rfl rfl rfl) (by intro K o d hK; go_simp; exact hK _ (Below.refl _ _)) ?_
    refine wpHoldF_val (wanted_some rfl rfl rfl) (by intro K o d hK; go_simp; exact hK _ (Below.refl _ _)) ?_
    refine wpHoldF_val (wanted_some rfl rfl rfl) (by intro K o d hK; go_simp; exact hK _ (Below.refl _ _)) ?_
    refine wpHoldF_call (v := .agg (keA D)) (wanted_some rfl rfl rfl) (by intro K o d hK; go_simp; refine (HRD3.out o d).mono ?_; rintro e w' ⟨rfl, hbw⟩; exact ⟨_, rfl, hK _ hbw⟩) ?_
    refine wpHoldF_val (wanted_some rfl rfl rfl) (by intro K o d hK; go_simp; exact hK _ (Below.refl _ _)) ?_
    refine wpHoldF_val (wanted_none rfl) (by intro K o d hK; go_simp; exact hK _ (Below.refl _ _)) ?_
    refine wpHoldF_nil ?_
    intro W6 hb6
    have B6 := Lib.hid (B3.out.trans (hb6.mono B3.out.size))
    clear hb6
    go_wp2_with fail
    go_ret
    exact ⟨rfl, B6.out⟩
end Go.Proofs.YtikpglemnnbdcaaDoor
