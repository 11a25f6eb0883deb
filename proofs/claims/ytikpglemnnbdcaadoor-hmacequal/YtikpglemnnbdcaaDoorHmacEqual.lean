/-
  Bytes are alike just if they are the same; a short tag is a tag's first half.
-/
import Derived.Test.YtikpglemnnbdcaaDoorHmacRShort
namespace Go.Proofs.YtikpglemnnbdcaaDoor
open Go.RowKit Go.Hold Go.Sh

@[go_sem] theorem eqGuard_tag (op : BinOp) (x y : Operand) (xs ys : Array Value) (w : World) : (eqGuard op 36 x y (.agg xs) (.agg ys)).run Tryd.prog w = .ok () w := run_eqGuard_agg w op 36 x y xs ys (by kernel_rfl)
theorem run_equalIn_tag (l : List Nat) (hl : l.length = 16) (w : World) : (Op.equalIn 10000 36 (.agg (bysA l)) (.agg (bysA l))).run Tryd.prog w = .ok true w := by
  obtain ⟨i, hi⟩ : ∃ i, Tryd.prog.info? 5 = some i := Option.isSome_iff_exists.1 (by kernel_rfl)
  rw [run_equalIn_array w 9999 (bysA l) (bysA l) Tryd.underlying36 hi, show Tryd.prog.cellsOf 5 = 1 from by kernel_rfl]
  have := run_eqItems_int (P := Tryd.prog) (k := .u8) 9998 Tryd.underlying5 (bysA l) (bysA l) (fun i => ((l.getD i 0 : Nat) : Int)) (fun i => ((l.getD i 0 : Nat) : Int)) w (List.range 16) fun j hj => by
    have hj' : j < l.length := by rw [hl]; exact List.mem_range.1 hj
    exact ⟨bysA_get l j hj', bysA_get l j hj'⟩
  rw [this]
  simp
theorem toS_beq {a b : List Nat} (ha : ∀ i, a.getD i 0 < 256) (hb : ∀ i, b.getD i 0 < 256) : ((toS a).toList == (toS b).toList) = decide (a = b) := by
  rw [ByteArray.toList_eq, ByteArray.toList_eq]
  by_cases h : a = b
  · subst h; simp
  · have h1 : ¬ (toS a).data.toList = (toS b).data.toList := fun e => h ((toS_inj ha hb).1 (ByteArray.ext (Array.toList_inj.1 e)))
    rw [decide_eq_false h]
    exact beq_eq_false_iff_ne.2 h1
set_option maxHeartbeats 1000000 in
set_option maxRecDepth 100000 in
theorem equal_any (ac bc : Nat) (ap bp : Option Addr) (a b s : List Nat) (w : World) (hT : Tabs w) (hab : ∀ i, a.getD i 0 < 256) (haB : Bs0 w ap a)
    (hbb : ∀ i, b.getD i 0 < 256) (hbB : Bs0 w bp b) (hs : s.length = 32) (_hsb : ∀ i, s.getD i 0 < 256) :
    Calls Tryd.prog 5 #[.slice ap a.length ac, .slice bp b.length bc, .agg (bysA s)] w fun e w' => e = .returned (.bool true) ∧ Below w.heap.size w w' := by
  have HT := Lib.hid hT
  have Hs := Lib.hid hs
  have hz : (bysA s).size = 32 := by rw [bysA_size, hs]
  obtain ⟨na, ena⟩ : ∃ n, n = a.length := ⟨_, rfl⟩
  obtain ⟨nb, enb⟩ : ∃ n, n = b.length := ⟨_, rfl⟩
  have HA := Lib.hid haB
  have HB := Lib.hid hbB
  have Hab := Lib.hid hab
  have Hbb := Lib.hid hbb
  have Ena := Lib.hid ena
  have Enb := Lib.hid enb
  rw [← ena, ← enb]
  clear hT hs haB hbB hab hbb ena enb
  go_enter Tryd.func5, Tryd.ntmps5
  go_wp2_with fail
  have R0 := Lib.hid (show RowAt (w.alloc (.cells (bysA s) 25)) w.heap.size (bysA s) from RowAt.of (block_new w _))
  have B0 := Lib.hid (below_alloc (Below.refl w.heap.size w) (.cells (bysA s) 25))
  refine (alive_c _ (HT.out.grow B0.out)).mono ?_
  rintro e W1 ⟨rfl, hb1⟩
  have R1 := Lib.hid (R0.out.grow hb1)
  have B1 := Lib.hid (B0.out.trans (hb1.mono B0.out.size))
  clear hb1 R0 B0
  by_cases h1 : 1000 < na
  · have h1' : (1000 : Int) < (na : Int) := by omega
    go_wp2_with fail
    go_ret
    exact ⟨rfl, B1.out⟩
  by_cases h2 : 1000 < nb
  · have h1' : ¬ (1000 : Int) < (na : Int) := by omega
    have h2' : (1000 : Int) < (nb : Int) := by omega
    go_wp2_with fail
    go_ret
    exact ⟨rfl, B1.out⟩
  have h1' : ¬ (1000 : Int) < (na : Int) := by omega
  have h2' : ¬ (1000 : Int) < (nb : Int) := by omega
  obtain ⟨r1, r2, r3⟩ := R1.out
  generalize w.heap.size = x at R1 r1 r2 r3 ⊢
  have hcva : ∀ o d, (cvBS (.slice ap na ac)).run Tryd.prog (W1.plus o d) = .ok (.string (toS a)) (W1.plus o d) := fun o d => run_cvBS ((HA.out.grow B1.out).grow (below_more (Below.refl _ _) o d)) Ena.out
  have hcvb : ∀ o d, (cvBS (.slice bp nb bc)).run Tryd.prog (W1.plus o d) = .ok (.string (toS b)) (W1.plus o d) := fun o d => run_cvBS ((HB.out.grow B1.out).grow (below_more (Below.refl _ _) o d)) Enb.out
  obtain ⟨q, eq⟩ : ∃ q, q = decide (a = b) := ⟨_, rfl⟩
  have hbq : ((toS a).toList == (toS b).toList) = q := by rw [eq]; exact toS_beq Hab.out Hbb.out
  have HE := Lib.hid (fun o d => equal_at (ac := ac) (bc := bc) (w := W1.plus o d) Ena.out Enb.out eq.symm (by rw [← Ena.out]; omega) Hab.out ((HA.out.grow B1.out).grow (below_more (Below.refl _ _) o d)) Hbb.out ((HB.out.grow B1.out).grow (below_more (Below.refl _ _) o d)))
  have HE2 := Lib.hid (fun o d => equal_at (ac := ac) (bc := ac) (w := W1.plus o d) Ena.out Ena.out (r := true) (decide_eq_true rfl) (by rw [← Ena.out]; omega) Hab.out ((HA.out.grow B1.out).grow (below_more (Below.refl _ _) o d)) Hab.out ((HA.out.grow B1.out).grow (below_more (Below.refl _ _) o d)))
  have HSh := Lib.hid (fun o d => short_c s Hs.out (W1.plus o d))
  have HSr := Lib.hid (fun o d => rshort_c s Hs.out (W1.plus o d))
  have htag := run_equalIn_tag (s.take 16) (by rw [List.length_take, Hs.out]; rfl)
  generalize bysA (s.take 16) = Z at *
  generalize toS a = sa at *
  generalize toS b = sb at *
  clear eq
  go_wp2_with fail
  refine wp_region_pickT W1 [0, 1, 2, 3, 4, 5, 6, 7, 8, 9, 10, 11, 12, 13, 14, 15, 16, 17, 18, 19, 20] [false, false, false, false, false, false, false, false, false, false, false, false, false, false, false, false, false, false, false, false, false] [21] (by kernel_rfl) (by kernel_rfl) (by intro c a d v w h; cases d <;> exact h) ((Below.refl _ _).drew) ?_
  simp only [pick, List.getElem?_cons_succ, List.getElem?_cons_zero]
  refine wpHoldF_val (wanted_none rfl) (by intro K o d hK; go_simp; exact hK _ (Below.refl _ _)) ?_
  refine wpHoldF_val (wanted_none rfl) (by intro K o d hK; go_simp; exact hK _ (Below.refl _ _)) ?_
  refine wpHoldF_call (v := .bool q) (wanted_none rfl) (by intro K o d hK; go_simp; refine (HE.out o d).mono ?_; rintro e w' ⟨rfl, hbw⟩; exact ⟨_, rfl, hK _ hbw⟩) ?_
  refine wpHoldF_val (wanted_none rfl) (by intro K o d hK; go_simp; exact hK _ (Below.refl _ _)) ?_
  refine wpHoldF_val (wanted_none rfl) (by intro K o d hK; go_simp; exact hK _ (Below.refl _ _)) ?_
  refine wpHoldF_val (wanted_none rfl) (by intro K o d hK; go_simp; exact hK _ (Below.refl _ _)) ?_
  refine wpHoldF_val (wanted_none rfl) (by intro K o d hK; go_simp; exact hK _ (Below.refl _ _)) ?_
  refine wpHoldF_val (wanted_none rfl) (by intro K o d hK; go_simp; exact hK _ (Below.refl _ _)) ?_
  refine wpHoldF_val (wanted_none rfl) (by intro K o d hK; go_simp; exact hK _ (Below.refl _ _)) ?_
  refine wpHoldF_val (wanted_none rfl) (by intro K o d hK; go_simp; exact hK _ (Below.refl _ _)) ?_
  refine wpHoldF_val (wanted_some rfl rfl rfl) (by intro K o d hK; go_simp; exact hK _ (Below.refl _ _)) ?_
  refine wpHoldF_val (wanted_some rfl rfl rfl) (by intro K o d hK; go_simp; exact hK _ (Below.refl _ _)) ?_
  refine wpHoldF_call (v := .bool true) (wanted_some rfl rfl rfl) (by intro K o d hK; go_simp; refine (HE2.out o d).mono ?_; rintro e w' ⟨rfl, hbw⟩; exact ⟨_, rfl, hK _ hbw⟩) ?_
  refine wpHoldF_val (wanted_none rfl) (by intro K o d hK; go_simp; exact hK _ (Below.refl _ _)) ?_
  refine wpHoldF_val (wanted_none rfl) (by intro K o d hK; go_simp; exact hK _ (Below.refl _ _)) ?_
  refine wpHoldF_val (wanted_some rfl rfl rfl) (by intro K o d hK; go_simp; exact hK _ (Below.refl _ _)) ?_
  refine wpHoldF_call (v := .agg Z) (wanted_some rfl rfl rfl) (by intro K o d hK; go_simp; refine (HSh.out o d).mono ?_; rintro e w' ⟨rfl, hbw⟩; exact ⟨_, rfl, hK _ hbw⟩) ?_
  refine wpHoldF_val (wanted_some rfl rfl rfl) (by intro K o d hK; go_simp; exact hK _ (Below.refl _ _)) ?_
  refine wpHoldF_call (v := .agg Z) (wanted_some rfl rfl rfl) (by intro K o d hK; go_simp; refine (HSr.out o d).mono ?_; rintro e w' ⟨rfl, hbw⟩; exact ⟨_, rfl, hK _ hbw⟩) ?_
  refine wpHoldF_val (wanted_some rfl rfl rfl) (by intro K o d hK; go_simp; exact hK _ (Below.refl _ _)) ?_
  refine wpHoldF_val (wanted_none rfl) (by intro K o d hK; go_simp; exact hK _ (Below.refl _ _)) ?_
  refine wpHoldF_nil ?_
  intro W6 hb6
  have B6 := Lib.hid (B1.out.trans (hb6.mono B1.out.size))
  clear hb6
  go_wp2_with fail
  go_ret
  exact ⟨rfl, B6.out⟩
end Go.Proofs.YtikpglemnnbdcaaDoor
