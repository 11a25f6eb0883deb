/-
  Part 11 of the texts behind the theorem.
-/
import Derived.Test.YtddmjddlbhdcpaaGreatDoorPart7
import Derived.Test.YtddmjddlbhdcpaaGreatDoorPart10
import Derived.Test.YtddmjddlbhdcpaaGreatDoorPart9
import Derived.Test.YtddmjddlbhdcpaaGreatDoorPart6
import Derived.Test.YtddmjddlbhdcpaaGreatDoorPart5
import Derived.Test.YtddmjddlbhdcpaaGreatDoorPart8
/-
  The laws of layer 9: the program's commands and the reference's are the same.
-/
namespace Go.Proofs.YtddmjddlbhdcpaaGreatDoor
open Go.RowKit Go.Hold Go.Sh Go.Cm

set_option maxHeartbeats 1000000 in
set_option maxRecDepth 100000 in
theorem theirs_c (c : Cmd) (hid : c.id.length = 8) (w : World) :
    Calls Tryz.prog 28 #[.agg (cmdA c)] w fun e w' => e = .returned (.agg (cmdA c)) ∧ Below w.heap.size w w' := by
  have hcs := cmdA_size hid
  have hzs : (cmdA .zero).size = 11 := cmdA_size rfl
  have hbd := fun W => run_bldCmd4 c hid W
  go_enter Tryz.func28, Tryz.ntmps28
  go_wp2_with fail
  refine bodyPost_ret (v := .agg (cmdA c)) (results_cmd1 Tryz.results28 c hid _ _ (w.heap.size + 1) rfl (by go_simp) (by go_simp)) rfl ⟨rfl, ?_⟩
  repeat (first | apply below_alloc | exact Below.refl _ _)
end Go.Proofs.YtddmjddlbhdcpaaGreatDoor

/-
  The laws of layer 10: the same hops.
-/
namespace Go.Proofs.YtddmjddlbhdcpaaGreatDoor
open Go.RowKit Go.Hold Go.Sh Go.Ch Go.Cm Go.Hd

set_option maxRecDepth 100000 in
theorem info_hop3 : (Tryz.prog.info? 77).map (fun i => (i.zero, i.size, i.bytes)) = some (some (.agg hopZ), 43, 64) := by kernel_rfl
theorem hopZ_size : (Value.agg hopZ).cells.size = 43 := by show (hopA (zs 32) .zero).size = 43; exact hopA_size (zs_length 32) rfl
theorem run_bldHs1 {k : List Nat} {c : Cmd} (hk : k.length = 32) (hc : c.id.length = 8) (w : World) : (bldHs 1 #[(0, .agg (hopA k c))]).run Tryz.prog w = .ok (.slice (some ⟨w.heap.size, 0, none⟩) 1 1) (w.alloc (.cells (hopA k c) 77)) := by
  have := run_bldRows (P := Tryz.prog) Tryz.underlying36 info_hop3 [.agg (hopA k c)] (fun v hv => by rw [List.mem_singleton.1 hv]; exact hopA_size hk hc) (rfl : _ = 1) (by decide) (by decide) #[(0, .agg (hopA k c))] rfl w
  rwa [show (cellsAll [.agg (hopA k c)]).toArray = hopA k c by
    show ((hopA k c).toList ++ []).toArray = _
    rw [List.append_nil, Array.toArray_toList]] at this
theorem app_hop {w : World} {B gn o : Nat} {v : Value} {ls : List Hop} {x : Hop} (h : OwnR w B 77 43 v (hopR ls)) (hn : w.rangeAt gn o (hopA x.k x.c).toList) (hx : HopOk x) (hBw : B ≤ w.heap.size) (hlen : ls.length ≤ 1000) :
    ∃ v' w', (Builtin.append_ #[36, 36] 36 #[v, .slice (some ⟨gn, o, none⟩) 1 1]).run Tryz.prog w = .ok v' w' ∧ OwnR w' B 77 43 v' (hopR (ls ++ [x])) ∧ w.grownBy w' v.ownBlock ∧ NewB w v.ownBlock v'.ownBlock := by
  have := app_row (C := 43) (Y := 64) (z := .agg hopZ) Tryz.underlying36 info_hop3 hopZ_size (by decide) (by decide) h hn (hopA_size hx.k hx.i) (hopA_one _ _) hBw (by unfold hopR; rw [List.length_map]; exact hlen)
  rwa [show hopR (ls ++ [x]) = hopR ls ++ [hopA x.k x.c] by simp [hopR]]
theorem loadRHop {w : World} {p : Option Addr} {L : List Hop} (hR : RowsAt 43 w p (hopR L)) {j : Nat} {h : Hop} (hj : L[j]? = some h) (ho : HopOk h) :
    ∃ g o, p = some ⟨g, o, none⟩ ∧ g < w.heap.size ∧ (loadRow 84 (.pointer (some ⟨g, o + j * 43, none⟩))).run Tryz.prog w = .ok (.agg (hopA h.k h.c)) w :=
  hR.load Tryz.underlying84 rfl (by kernel_rfl) (hopR_get hj) (hopA_size ho.k ho.i)
set_option maxHeartbeats 2000000 in
set_option maxRecDepth 100000 in
theorem hops_c (L : List Hop) (p : Option Addr) (n cap : Nat) (hok : ∀ h ∈ L, HopOk h) (hn : n = L.length) (h20 : n ≤ 20) (w : World) (hR : RowsAt 43 w p (hopR L)) :
    Calls Tryz.prog 12 #[.slice p n cap] w fun e w' => ∃ v, e = .returned v ∧ OwnR w' w.heap.size 77 43 v (hopR L) ∧ Below w.heap.size w w' := by
  have HR := Lib.hid hR
  have Hn := Lib.hid (And.intro hn h20)
  have Hok := Lib.hid hok
  have i20 : ¬ (20 : Int) < (n : Int) := by omega
  clear hR hn h20 hok
  go_enter Tryz.func12, Tryz.ntmps12
  go_wp2_with fail
  go_loopw [3, 8] (fun f i wr => ∃ (v : Value) (k : Nat), v = f ∧ k ≤ n ∧ i = .int .i64 k ∧ OwnR wr w.heap.size 77 43 v (hopR (L.take k)) ∧ Below w.heap.size w wr) (fun _ i _ => n - (intOf i).toNat)
  case atStart => exact ⟨_, 0, rfl, Nat.zero_le _, rfl, OwnR.nil _ _ _ _, Below.refl _ _⟩
  case round =>
    obtain ⟨v, k, rfl, hk, rfl, hown, hbel⟩ := hrel
    by_cases hkn : k < n
    · have hk1 : (k : Int) < (n : Int) := by omega
      obtain ⟨h, hj⟩ : ∃ h, L[k]? = some h := ⟨_, List.getElem?_eq_getElem (by rw [← Hn.out.1]; exact hkn)⟩
      have ho := Hok.out h (List.mem_of_getElem? hj)
      obtain ⟨g, o, ep, hg, hld⟩ := loadRHop (HR.out.grow hbel) hj ho
      subst ep
      have hks := ho.k
      have his := ho.i
      have hsz := hopA_size hks his
      have hkey := bysA_size' hks
      have hcs := cmdA_size his
      have KT := Lib.hid (fun (W : World) => theirs_c h.c his W)
      have hbh := fun W => run_bldHop hks his W
      have hbs := fun W => run_bldHs1 hks his W
      have Ht := Lib.hid (show L.take (k + 1) = L.take k ++ [h] by rw [List.take_add_one, hj]; rfl)
      have Ho := Lib.hid ho
      have Hlen := Lib.hid (show (L.take k).length ≤ 1000 by rw [List.length_take]; have := Hn.out.2; omega)
      have Hown := Lib.hid hown
      have Hbel := Lib.hid hbel
      clear hown hbel hj ho
      go_wp2_with fail
      have m0_hb : v.ownBlock ≠ some wr.heap.size := fun e => by have := (Hown.out.ltb _ e).2; omega
      have l_hb : w.heap.size ≤ wr.heap.size := Hbel.out.size
      have hb11 := below_alloc (Below.refl wr.heap.size wr) (.cells (hopA h.k h.c) 84)
      have N11 := Lib.hid (RowAt.of (block_new wr (.cells (hopA h.k h.c) 84)))
      have O11x0 := Lib.hid (Hown.out.grow hb11)
      clear Hown
      have B11 := Lib.hid (Hbel.out.trans (hb11.mono Hbel.out.size))
      clear hb11 Hbel hld hg
      generalize wr.heap.size = hb at *
      generalize wr.alloc (.cells (hopA h.k h.c) 84) = W11 at *
      obtain ⟨N11a, N11b, N11c⟩ := N11.out
      refine wp_region_pick W11 [0, 1, 2, 3, 4, 5, 6] [true, false, false, false, false, false, false] [] [] 7 (by kernel_rfl) rfl (by kernel_rfl) (by intro c a d v w h; cases d <;> exact h) (by first | exact (Below.refl _ _).drew | exact Below.refl _ _) ?_
      simp only [pick, List.getElem?_cons_succ, List.getElem?_cons_zero, List.drop_succ_cons, List.drop_zero]
      refine wpHoldF_late (wanted_none rfl) (fun w => by go_simp; rfl) ?_
      refine wpHoldF_val (wanted_none rfl) (by intro K o d hK; go_simp; exact hK _ (Below.refl _ _)) ?_
      refine wpHoldF_val (wanted_none rfl) (by intro K o d hK; go_simp; exact hK _ (Below.refl _ _)) ?_
      refine wpHoldF_val (wanted_none rfl) (by intro K o d hK; go_simp; exact hK _ (Below.refl _ _)) ?_
      refine wpHoldF_val (wanted_none rfl) (by intro K o d hK; go_simp; exact hK _ (Below.refl _ _)) ?_
      refine wpHoldF_call (v := .agg (cmdA h.c)) (wanted_none rfl) (by intro K o d hK; go_simp; refine (KT.out _).mono ?_; rintro e w' ⟨rfl, hbw⟩; exact ⟨_, rfl, hK _ hbw⟩) ?_
      refine wpHoldF_val (wanted_none rfl) (by intro K o d hK; go_simp; exact hK _ (Below.refl _ _)) ?_
      refine wpHoldF_nil ?_
      intro W12 hb12 hblk
      clear hblk
      clear N11a N11b N11c
      have O12x0 := Lib.hid (O11x0.out.grow hb12)
      clear O11x0
      have R12x0 := Lib.hid (N11.out.grow hb12)
      have B12 := Lib.hid (B11.out.trans (hb12.mono B11.out.size))
      clear hb12 B11 N11
      have hb13 := below_alloc (Below.refl W12.heap.size W12) (.cells (hopA h.k h.c) 77)
      have O13x0 := Lib.hid (O12x0.out.grow hb13)
      have n_hb_tb : hb ≠ W12.heap.size := Nat.ne_of_lt R12x0.out.2.2
      have R13x0 := Lib.hid (R12x0.out.grow hb13)
      have m0_tb : v.ownBlock ≠ some W12.heap.size := fun e => by have := (O12x0.out.ltb _ e).2; omega
      have R13n := Lib.hid (RowAt.of (block_new W12 (.cells (hopA h.k h.c) 77)))
      have l_tb : w.heap.size ≤ W12.heap.size := B12.out.size
      have B13 := Lib.hid (B12.out.trans (hb13.mono B12.out.size))
      clear hb13
      obtain ⟨tb, etb⟩ : ∃ z, z = W12.heap.size := ⟨_, rfl⟩
      obtain ⟨W13, eW13⟩ : ∃ z, z = W12.alloc (.cells (hopA h.k h.c) 77) := ⟨_, rfl⟩
      rw [← etb] at R13n l_tb n_hb_tb m0_tb
      rw [← eW13] at R13x0 R13n O13x0 B13
      have hW13 := eW13.symm
      have htb := etb.symm
      clear eW13 etb
      obtain ⟨v2, W14, hr14, ho14, hg14, hn14⟩ := app_hop O13x0.out (range_of_row R13n.out) Ho.out B13.out.size Hlen.out
      have P14 := Lib.hid ho14
      have A14 := Lib.hid (own_belowR B13.out O13x0.out B13.out.size hg14)
      have N14 := Lib.hid hn14
      have Q14x0 := Lib.hid (rowAt_grown R13x0.out hg14 m0_hb)
      have Q14x1 := Lib.hid (rowAt_grown R13n.out hg14 m0_tb)
      have G14 := Lib.hid hg14.size
      clear ho14 hg14 hn14
      go_wp2_with (at_builtin; refine Lib.wpList_append_run _ rfl _ _ _ _ rfl _ _ rfl rfl _ _ hr14 ?_)
      go_roundw
      case rel => exact ⟨v2, k + 1, rfl, by omega, by go_num, by rw [Ht.out]; exact P14.out, A14.out⟩
      case measure => simp [intOf]; omega
    · obtain rfl : k = n := by omega
      rw [List.take_of_length_le (by rw [← Hn.out.1]; exact Nat.le_refl _)] at hown
      have Hown := Lib.hid hown
      have Hbel := Lib.hid hbel
      clear hbel hown
      go_wp2_with fail
      go_ret
      exact ⟨v, rfl, Hown.out, Hbel.out⟩
end Go.Proofs.YtddmjddlbhdcpaaGreatDoor

/-
  What a header that was built begins with: the first hop's secret. Of no program.
-/
namespace Go.Proofs.YtddmjddlbhdcpaaGreatDoor
open Go.RowKit Go.Hold Go.Sh Go.Ch Go.Cm Go.Hd

theorem chB_one (k x : List Nat) : chB k [x] = shB x k := by
  unfold chB shB
  show F.chN (F.ptN (numB k) % Fp.P) [numB x] = _
  rw [F.chN_one]
  unfold F.shN
  rw [F.ptN_small (Nat.mod_lt _ Fp.P_pos)]
theorem first_pure {x : List Nat} {L : List Hop} (hok : ∀ h ∈ L, HopOk h) : (hbE x L ≠ 0 ∧ hbH x L = zs 208 ∧ hbK x L = []) ∨
    (hbE x L = 0 ∧ ∃ (h : Hop) (r : List Hop) (sr : List (List Nat)) (b : List Nat), L = h :: r ∧ hbK x L = keyB (shB x h.k) :: sr ∧ sr.length = r.length ∧ shB x h.k ≠ 0 ∧ hbH x L = puB x ++ b ++ prf (keyB (shB x h.k)) b ∧ b.length = 160 ∧ ∀ i, b.getD i 0 < 256) := by
  by_cases hr : isRt L = true
  · cases hs : hbS x L with
    | none =>
      refine .inl ⟨?_, ?_, ?_⟩
      · unfold hbE; rw [if_pos hr, hs]; decide
      · unfold hbH; rw [if_pos hr, hs]
      · unfold hbK; rw [if_pos hr, hs]; rfl
    | some ss =>
      have hl := secF_length hs
      have hb := beta0_ok hr hok hl
      have hK : hbK x L = ss := by unfold hbK; rw [if_pos hr, hs]; rfl
      have hH : hbH x L = puB x ++ beta0 ss L ++ prf (ss.headD []) (beta0 ss L) := by unfold hbH; rw [if_pos hr, hs]
      refine .inr ⟨by unfold hbE; rw [if_pos hr, hs]; rfl, ?_⟩
      match L, hl with
      | [], _ => exact absurd hr (by decide)
      | h :: r, hl =>
        unfold hbS at hs
        simp only [secF] at hs
        rw [chB_one] at hs
        split at hs
        · cases hs
        next h0 =>
        split at hs
        · cases hs
        obtain ⟨sr, _, rfl⟩ := Option.map_eq_some_iff.1 hs
        exact ⟨h, r, sr, beta0 (keyB (shB x h.k) :: sr) (h :: r), rfl, hK, by simpa using hl, h0, hH, hb.1, hb.2⟩
  · refine .inl ⟨?_, ?_, ?_⟩
    · unfold hbE; rw [if_neg hr]; decide
    · unfold hbH; rw [if_neg hr]
    · unfold hbK; rw [if_neg hr]
end Go.Proofs.YtddmjddlbhdcpaaGreatDoor

/-
  As in Grow: a region that draws its order, whose operations make new memory; but the last of them (an answer's second part) may come behind the first that stores. Nothing is assumed.
-/
namespace Go.Hold
open Go Go.RowKit
section
variable {P : Program} {md : Region.Mode} {W : World} {Q : Exit → Act → World → Prop} {ops : Array Oper} {R : Nat → Value → World → Prop} {G : World → World → Prop}

theorem doneA_eq {listed : Array Bool} {D : List Nat} {n : Nat} (hls : listed.size = ops.size) (hl : ∀ i, i < ops.size → listed.getD i false = decide (i ∈ D)) (h1 : ∀ i, i ∈ D → i < n) (h2 : ∀ i, i < n → i ∈ D) : listed = doneA n ops.size := by
  apply Array.ext_getElem?
  intro i
  by_cases hi : i < ops.size
  · have e1 := hl i hi
    have e2 : listed[i]? = some (listed.getD i false) := by simp [hls, hi]
    rw [e2, e1]
    unfold doneA
    rw [Array.getElem?_map, Array.getElem?_range, if_pos hi]
    simp only [Option.map_some, Option.some.injEq]
    by_cases e : i < n
    · rw [decide_eq_true (h2 i e)]; exact ((show Nat.blt i n = true from by rw [Nat.blt_eq]; exact e)).symm
    · rw [decide_eq_false fun h => e (h1 i h)]
      cases hx : Nat.blt i n
      · rfl
      · exact absurd ((by rw [Nat.blt_eq] at hx; exact hx)) e
  · rw [Array.getElem?_eq_none (by omega), Array.getElem?_eq_none (by simp [doneA]; omega)]
def growLB (md : Region.Mode) (ops : Array Oper) (m t0 : Nat) (tr : List Nat) : Bool :=
  Region.noSelect ops && decide (m + 1 + (t0 :: tr).length = ops.size) && ((t0 :: tr).all fun i => decide (i < ops.size)) &&
  ((List.range (m + 1)).all fun i => match ops[i]? with
    | some o => edgesOk md i o && ((List.range (m + 1)).all fun j => !looksB ops o j || boundB md o j)
    | none => false) &&
  ((List.range (m + 1)).all fun i => (List.range (m + 1)).all fun j => Nat.beq i j || apartD (dstOf ops i) (dstOf ops j)) &&
  ((List.range ops.size).all fun t => Nat.blt t (m + 1) || match ops[t]? with
    | some o => (List.range m).all fun j => boundB md o j
    | none => false) &&
  seqT md ops (t0 :: tr) (doneA (m + 1) ops.size) &&
  ((Region.ready md ops (doneA m ops.size)).all fun i => Nat.beq i m || Nat.beq i t0) &&
  seqT md ops (m :: tr) ((doneA m ops.size).setIfInBounds t0 true)

end
end Go.Hold

/-
  As in Grow: a region that draws its order, whose operations make new memory; but some of them (that only part what is there already) may come behind those that store. Nothing is assumed.
-/
namespace Go.Hold
open Go Go.RowKit
section
variable {P : Program} {md : Region.Mode} {W : World} {Q : Exit → Act → World → Prop} {ops : Array Oper} {n : Nat} {R : Nat → Value → World → Prop} {G : World → World → Prop} {ls : List Nat}

/-- What is asked of an operation that may come late: its value hangs on no world. -/
def LateStep (P : Program) (ops : Array Oper) (W : World) (n : Nat) (R : Nat → Value → World → Prop) (a : Act) (vals : Nat → Value) (i : Nat) (o : Oper) : Prop :=
  ∀ w, Below W.heap.size W w → (∀ j ∈ depsOf ops n o, R j (vals j) w) →
    ∃ v, R i v w ∧ Region.wanted o (yielded ops (putAll ops vals (depsOf ops n o) a).tmps) = true ∧ ∀ w', (execOp (putAll ops vals (depsOf ops n o) a).eval o).run P w' = .ok (.value v) w'
def StepM (ls : List Nat) (P : Program) (ops : Array Oper) (W : World) (n : Nat) (G : World → World → Prop) (R : Nat → Value → World → Prop) (a : Act) (vals : Nat → Value) (i : Nat) (o : Oper) : Prop :=
  if i ∈ ls then LateStep P ops W n R a vals i o else GrowStep P ops W n G R a vals i o
theorem stepE {a : Act} {vals : Nat → Value} {i : Nat} {o : Oper} (h : ls.contains i = false) (s : GrowStep P ops W n G R a vals i o) : StepM ls P ops W n G R a vals i o := by
  unfold StepM
  rw [if_neg (fun hm => by rw [List.contains_iff_mem.2 hm] at h; cases h)]
  exact s
theorem stepL {a : Act} {vals : Nat → Value} {i : Nat} {o : Oper} (h : ls.contains i = true) (s : LateStep P ops W n R a vals i o) : StepM ls P ops W n G R a vals i o := by
  unfold StepM
  rw [if_pos (List.contains_iff_mem.1 h)]
  exact s
def growMB (md : Region.Mode) (ops : Array Oper) (n : Nat) (ls ts : List Nat) : Bool :=
  Region.noSelect ops && decide (n + ts.length = ops.size) && (ts.all fun i => decide (i < ops.size)) &&
  ((List.range n).all fun i => match ops[i]? with
    | some o => edgesOk md i o && ((List.range n).all fun j => !looksB ops o j || boundB md o j)
    | none => false) &&
  ((List.range n).all fun i => (List.range n).all fun j => Nat.beq i j || apartD (dstOf ops i) (dstOf ops j)) &&
  ((List.range ops.size).all fun t => Nat.blt t n || match ops[t]? with
    | some o => (List.range n).all fun j => ls.contains j || boundB md o j
    | none => false) &&
  (ls.all fun i => match ops[i]? with
    | some oi => (List.range ops.size).all fun j => Nat.beq j i || (Nat.blt j n && !ls.contains j) || match ops[j]? with
      | some oj => boundB md oj i || oi.apart ops oj
      | none => true
    | none => false) &&
  seqT md ops ts (doneA n ops.size)

theorem grow_anyM {l : List Oper} {ts : List Nat} {a : Act} (hop : ops = l.toArray) (hsel : Region.noSelect ops = true) (hsz : n + ts.length = ops.size) (hts : ∀ i ∈ ts, i < l.length)
    (hedge : ∀ i o, i < n → ops[i]? = some o → edgesOk md i o = true ∧ ∀ j, j < n → looksB ops o j = true → boundB md o j = true)
    (hdst : ∀ i j, i < n → j < n → i ≠ j → ∀ d, dstOf ops i = some d → dstOf ops j ≠ some d)
    (hlate : ∀ t o, n ≤ t → ops[t]? = some o → ∀ j, j < n → j ∉ ls → boundB md o j = true)
    (hfree : ∀ i oi, i ∈ ls → ops[i]? = some oi → ∀ j oj, ops[j]? = some oj → j ≠ i → (n ≤ j ∨ j ∈ ls) → boundB md oj i = true ∨ oi.apart ops oj = true)
    (hseq : seqT md ops ts (doneA n ops.size) = true)
    (hQ : ∀ c a d v w, Q (.panic c) (Act.put a d v) w → Q (.panic c) a w) (hG : ∀ w, G w w)
    (hGB : ∀ w w', Below W.heap.size W w → G w w' → Below W.heap.size W w') (hmono : ∀ i v w w', R i v w → G w w' → R i v w')
    (hst : ∀ vals i o, i < n → ops[i]? = some o → StepM ls P ops W n G R a vals i o)
    (hfin : ∀ vals w, Below W.heap.size W w → (∀ i, i < n → R i (vals i) w) → wpList P ops Q (pick l ts) (putAll ops vals (List.range n) a) w) :
    ∀ (f : Nat) (D : List Nat) (listed : Array Bool) (vals : Nat → Value) (w : World), D.Nodup → (∀ i ∈ D, i < n) → D.length + f = n → listed.size = ops.size →
    (∀ i, i < ops.size → listed.getD i false = decide (i ∈ D)) → Below W.heap.size W w → (∀ i ∈ D, R i (vals i) w) → wpAny P md ops Q (f + ts.length) listed (putAll ops vals D a) w
  | 0, D, listed, vals, w, hnd, hlt, hlen, hls, hl, hb, hR => by
    have hall : ∀ i, i < n → i ∈ D := fun i hi => by
      by_cases e : i ∈ D
      · exact e
      · exfalso
        have := nodup_le (i :: D) (List.range n) (List.nodup_cons.2 ⟨e, hnd⟩) fun j hj => by
          rcases List.mem_cons.1 hj with rfl | h
          · exact List.mem_range.2 hi
          · exact List.mem_range.2 (hlt j h)
        simp at this; omega
    have hp : D.Perm (List.range n) := (List.perm_ext_iff_of_nodup hnd List.nodup_range).2 fun i => ⟨fun h => List.mem_range.2 (hlt i h), fun h => hall i (List.mem_range.1 h)⟩
    have hle : listed = doneA n ops.size := doneA_eq hls hl hlt hall
    subst hle
    rw [Nat.zero_add, putAll_perm vals hdst hp hlt]
    subst hop
    exact wpAny_of_seqT ts _ _ _ hts hseq (hfin vals w hb fun i hi => hR i (hall i hi))
  | f + 1, D, listed, vals, w, hnd, hlt, hlen, hls, hl, hb, hR => by
    have hex : ∃ i, i < n ∧ i ∉ D := by
      apply Classical.byContradiction
      intro hno
      have := nodup_le (List.range n) D List.nodup_range fun i hi => by
        by_cases e : i ∈ D
        · exact e
        · exact absurd ⟨i, List.mem_range.1 hi, e⟩ hno
      simp at this; omega
    obtain ⟨i0, hi0, hi0D, hmin⟩ := least_not D n hex
    have hget : ∀ i, i < ops.size → listed.getD i true = decide (i ∈ D) := fun i hi => by
      have := hl i hi
      simpa [hls, hi] using this
    have hr0 : i0 ∈ Region.ready md ops listed := by
      have hs0 : i0 < ops.size := by omega
      obtain ⟨o, ho⟩ : ∃ o, ops[i0]? = some o := ⟨_, Array.getElem?_eq_getElem hs0⟩
      refine mem_ready.2 ⟨by rw [hget i0 hs0]; exact decide_eq_false hi0D, o, ho, fun e he hbe => ?_⟩
      have h1 := List.all_eq_true.1 (hedge i0 o hi0 ho).1 e (by simpa using he)
      have h2 : e.on < i0 := by simpa [hbe] using h1
      rw [hl _ (by omega)]; exact decide_eq_true (hmin _ h2)
    rw [show f + 1 + ts.length = (f + ts.length) + 1 by omega]
    have cut : ∀ i o, ops[i]? = some o → (∀ j ∈ depsOf ops n o, j ∈ D) → execOp (putAll ops vals D a).eval o = execOp (putAll ops vals (depsOf ops n o) a).eval o ∧ Region.wanted o (yielded ops (putAll ops vals D a).tmps) = Region.wanted o (yielded ops (putAll ops vals (depsOf ops n o) a).tmps) := fun i o ho hdep => by
      have hsl := fun cs b => Region.noSelect_spec hsel i o cs b ho
      have hcut : ∀ b, putAll ops vals D b = putAll ops vals (D.filter fun j => !looksB ops o j) (putAll ops vals (depsOf ops n o) b) := fun b => by
        rw [← putAll_append]
        refine putAll_perm vals hdst ?_ hlt b
        refine (List.filter_append_perm (looksB ops o) D).symm.trans (List.Perm.append_right _ ?_)
        refine (List.perm_ext_iff_of_nodup (hnd.filter _) (List.nodup_range.filter _)).2 fun j => ?_
        constructor
        · intro h
          obtain ⟨h1, h2⟩ := List.mem_filter.1 h
          exact List.mem_filter.2 ⟨List.mem_range.2 (hlt j h1), h2⟩
        · intro h
          exact List.mem_filter.2 ⟨hdep j h, (List.mem_filter.1 h).2⟩
      obtain ⟨e1, e2⟩ := putAll_unlooked (ops := ops) vals (o := o) hsl (D.filter fun j => !looksB ops o j) (putAll ops vals (depsOf ops n o) a) fun j hj => by
        have := (List.mem_filter.1 hj).2
        simpa using this
      rw [← hcut] at e1 e2
      exact ⟨e1, e2⟩
    have next : ∀ i o, i < n → i ∉ D → ops[i]? = some o → ∀ v w', G w w' → R i v w' → wpAny P md ops Q (f + ts.length) (listed.setIfInBounds i true) ((putAll ops vals D a).put o.dst v) w' := fun i o hin hiD ho v w' hb' hRv => by
      have hsi : i < ops.size := (Array.getElem?_eq_some_iff.1 ho).1
      have he : (putAll ops vals D a).put o.dst v = putAll ops (fun j => if j = i then v else vals j) (D ++ [i]) a := by
        rw [putAll_append, putAll_congr (v := fun j => if j = i then v else vals j) (u := vals) D a (fun j hj => if_neg (fun (e : j = i) => hiD (e ▸ hj)))]
        simp [putAll, dstOf, ho]
      rw [he]
      refine grow_anyM hop hsel hsz hts hedge hdst hlate hfree hseq hQ hG hGB hmono hst hfin f (D ++ [i]) _ _ w' ?_ ?_ (by simp; omega) (by simp [hls]) ?_ (hGB _ _ hb hb') ?_
      · exact List.nodup_append.2 ⟨hnd, by simp, fun x hx y hy => by simp at hy; subst hy; intro e; subst e; exact hiD hx⟩
      · intro j hj
        rcases List.mem_append.1 hj with h | h
        · exact hlt j h
        · simp at h; omega
      · intro j hj
        by_cases e : j = i
        · subst e; simp [hls, hj]
        · have h1 := hl j hj
          have h2 : (listed.setIfInBounds i true).getD j false = listed.getD j false := by
            simp only [Array.getD_eq_getD_getElem?]
            rw [Array.getElem?_setIfInBounds_ne (fun h => e h.symm)]
          rw [h2, h1]
          simp [e]
      · intro j hj
        rcases List.mem_append.1 hj with h | h
        · have : j ≠ i := fun e => hiD (e ▸ h)
          simp only [this, if_false]
          exact hmono _ _ _ _ (hR j h) hb'
        · simp at h; subst h; simpa using hRv
    by_cases hall : ∀ j, j < n → j ∉ ls → j ∈ D
    · have hi0l : i0 ∈ ls := Classical.byContradiction fun h => hi0D (hall i0 hi0 h)
      obtain ⟨o, ho⟩ : ∃ o, ops[i0]? = some o := ⟨_, Array.getElem?_eq_getElem (by omega)⟩
      have hdep : ∀ j ∈ depsOf ops n o, j ∈ D := fun j hj => by
        obtain ⟨h1, h2⟩ := List.mem_filter.1 hj
        obtain ⟨e, hem, heb⟩ := List.any_eq_true.1 ((hedge i0 o hi0 ho).2 j (List.mem_range.1 h1) h2)
        rw [Bool.and_eq_true] at heb
        have h3 := List.all_eq_true.1 (hedge i0 o hi0 ho).1 e (by simpa using hem)
        have h4 : e.on < i0 := by simpa [heb.1] using h3
        rw [Nat.eq_of_beq_eq_true heb.2] at h4
        exact hmin _ h4
      obtain ⟨e1, e2⟩ := cut i0 o ho hdep
      have hs := hst vals i0 o hi0 ho
      unfold StepM at hs
      rw [if_pos hi0l] at hs
      obtain ⟨v, hRv, hw, hy⟩ := hs w hb fun j hj => hR j (hdep j hj)
      refine wpAny_first (oi := o) (v := v) ho (Region.noSelect_spec hsel) (fun c a w => hQ c a _ _ w) (f + ts.length) listed _ w (fun j oj hj hne hun hno => ?_) hr0 (.inl ⟨by rw [e2]; exact hw, fun w' => by rw [e1]; exact hy w'⟩) (next i0 o hi0 hi0D ho v w (hG w) hRv)
      have hsj : j < ops.size := (Array.getElem?_eq_some_iff.1 hj).1
      have hjD : j ∉ D := by rw [hget j hsj] at hun; exact of_decide_eq_false hun
      have hjl : n ≤ j ∨ j ∈ ls := by
        by_cases h1 : n ≤ j
        · exact .inl h1
        · exact .inr (Classical.byContradiction fun h => hjD (hall j (by omega) h))
      rcases hfree i0 o hi0l ho j oj hj hne hjl with h | h
      · obtain ⟨e, hem, heb⟩ := List.any_eq_true.1 h
        rw [Bool.and_eq_true] at heb
        exact absurd (Nat.eq_of_beq_eq_true heb.2) (hno e (by simpa using hem) heb.1)
      · exact h
    refine ⟨fun h => (by rw [h] at hr0; cases hr0), fun i hi => ?_⟩
    obtain ⟨hun, o, ho, hdeps⟩ := mem_ready.1 hi
    have hsi : i < ops.size := (Array.getElem?_eq_some_iff.1 ho).1
    have hiD : i ∉ D := by rw [hget i hsi] at hun; exact of_decide_eq_false hun
    have hbd : ∀ j, j < n → boundB md o j = true → j ∈ D := fun j hj hbj => by
      obtain ⟨e, hem, heb⟩ := List.any_eq_true.1 hbj
      rw [Bool.and_eq_true] at heb
      have h1 := hdeps e (by simpa using hem) heb.1
      rw [Nat.eq_of_beq_eq_true heb.2, hl j (by omega)] at h1
      exact of_decide_eq_true h1
    have hin : i < n := by
      apply Classical.byContradiction
      intro hni
      exact hall fun j hj hjl => hbd j hj (hlate i o (by omega) ho j hj hjl)
    have hdep : ∀ j ∈ depsOf ops n o, j ∈ D := fun j hj => by
      obtain ⟨h1, h2⟩ := List.mem_filter.1 hj
      have hjn := List.mem_range.1 h1
      exact hbd j hjn ((hedge i o hin ho).2 j hjn h2)
    obtain ⟨e1, e2⟩ := cut i o ho hdep
    have hs := hst vals i o hin ho
    unfold StepM at hs
    by_cases hil : i ∈ ls
    · rw [if_pos hil] at hs
      obtain ⟨v, hRv, hw, hy⟩ := hs w hb fun j hj => hR j (hdep j hj)
      rw [← e2] at hw
      have hy' := hy w
      rw [← e1] at hy'
      unfold Go.wpOp
      simp only [ho, hw, if_true]
      refine .inl ?_
      unfold Oper.wp
      rw [hy']
      exact next i o hin hiD ho v w (hG w) hRv
    rw [if_neg hil] at hs
    obtain ⟨hw, hc⟩ := hs w hb fun j hj => hR j (hdep j hj)
    rw [← e2] at hw
    rw [← e1] at hc
    unfold Go.wpOp
    simp only [ho, hw, if_true]
    refine .inl ?_
    unfold Oper.wp
    revert hc
    generalize (execOp (putAll ops vals D a).eval o).run P w = r
    intro hc
    cases r with
    | halt x w => exact False.elim hc
    | ok nx w2 =>
      cases nx <;> try exact False.elim hc
      case value u => exact next i o hin hiD ho _ _ hc.1 hc.2
      case skip => exact next i o hin hiD ho _ _ hc.1 hc.2
      case enter fn args =>
        refine Calls.mono (P := P) hc ?_
        rintro e w'' ⟨u, rfl, h1, h2⟩
        exact next i o hin hiD ho _ _ h1 h2

/-- The operations from number k on, each by itself; then what is left. -/
def wpGrowM (ls : List Nat) (P : Program) (ops : Array Oper) (W : World) (n : Nat) (G : World → World → Prop) (R : Nat → Value → World → Prop) (a : Act) (vals : Nat → Value) (Fin : Prop) : Nat → List Oper → Prop
  | _, [] => Fin
  | k, o :: r => StepM ls P ops W n G R a vals k o ∧ wpGrowM ls P ops W n G R a vals Fin (k + 1) r
theorem wpGrowM_out {a : Act} {vals : Nat → Value} {Fin : Prop} : ∀ (k : Nat) (r : List Oper), wpGrowM ls P ops W n G R a vals Fin k r → Fin ∧ ∀ j o, r[j]? = some o → StepM ls P ops W n G R a vals (k + j) o
  | _, [], h => ⟨h, fun j o ho => by simp at ho⟩
  | k, o :: r, h => by
    obtain ⟨h1, h2⟩ := wpGrowM_out (k + 1) r h.2
    refine ⟨h1, fun j x hx => ?_⟩
    cases j with
    | zero => simp at hx; subst hx; exact h.1
    | succ j => rw [show k + (j + 1) = k + 1 + j by omega]; exact h2 j x (by simpa using hx)

/-- A REGION THAT DRAWS ITS ORDER: its first n operations make memory alone, those of ls only part what is there and may come late; then those of ts come. -/
theorem wp_region_growsM {id : Nat} {a : Act} {w : World} {l : List Oper} (W : World) (n : Nat) (G : World → World → Prop) (R : Nat → Value → World → Prop) (ls ts ns : List Nat) (qa : List (Option Tmp)) (hm : P.follows .mixedOrders = true) (hB : growMB .any l.toArray n ls ts = true)
    (hns : List.range n = ns) (hqa : ns.map (dstOf l.toArray) = qa) (hQ : ∀ c a d v w, Q (.panic c) (Act.put a d v) w → Q (.panic c) a w) (hG : ∀ w, G w w)
    (hW : Below W.heap.size W { w with drawn := w.drawn + 1 }) (hGB : ∀ w w', Below W.heap.size W w → G w w' → Below W.heap.size W w') (hmono : ∀ i v w w', R i v w → G w w' → R i v w')
    (h : ∀ vals, wpGrowM ls P l.toArray W n G R a vals (∀ w, Below W.heap.size W w → (∀ i ∈ ns, R i (vals i) w) → wpList P l.toArray Q (pick l ts) (putZ qa (ns.map vals) a) w) 0 (l.take n)) :
    (Code.region id l.toArray true).wp P Q a w := by
  subst hns hqa
  simp only [growMB, Bool.and_eq_true, decide_eq_true_eq] at hB
  obtain ⟨⟨⟨⟨⟨⟨⟨hsel, hsz⟩, hts⟩, h1⟩, h2⟩, h3⟩, h5⟩, hseq⟩ := hB
  have hts' : ∀ i ∈ ts, i < l.length := fun i hi => by simpa using List.all_eq_true.1 hts i hi
  refine wp_region_any hm ?_
  have H := grow_anyM (md := .any) (P := P) (W := W) (Q := Q) (n := n) (R := R) (G := G) (ls := ls) (l := l) (ts := ts) (a := a) rfl hsel hsz hts'
    (fun i o hi ho => by
      have := List.all_eq_true.1 h1 i (List.mem_range.2 hi)
      rw [ho] at this
      simp only [Bool.and_eq_true] at this
      refine ⟨this.1, fun j hj hlj => ?_⟩
      have h4 := List.all_eq_true.1 this.2 j (List.mem_range.2 hj)
      simpa [hlj] using h4)
    (fun i j hi hj hne d hd => by
      have := List.all_eq_true.1 (List.all_eq_true.1 h2 i (List.mem_range.2 hi)) j (List.mem_range.2 hj)
      rcases Bool.or_eq_true_iff.1 this with h | h
      · exact absurd (Nat.eq_of_beq_eq_true h) hne
      · rw [hd] at h
        simpa [apartD] using h)
    (fun t o ht ho j hj hjl => by
      have := List.all_eq_true.1 h3 t (List.mem_range.2 (Array.getElem?_eq_some_iff.1 ho).1)
      rw [ho] at this
      rcases Bool.or_eq_true_iff.1 this with h | h
      · exact absurd (by rw [Nat.blt_eq] at h; exact h : t < n) (by omega)
      · rcases Bool.or_eq_true_iff.1 (List.all_eq_true.1 h j (List.mem_range.2 hj)) with h | h
        · exact absurd (List.contains_iff_mem.1 h) hjl
        · exact h)
    (fun i oi hi hoi j oj hoj hne hjl => by
      have := List.all_eq_true.1 h5 i hi
      rw [hoi] at this
      have := List.all_eq_true.1 this j (List.mem_range.2 (Array.getElem?_eq_some_iff.1 hoj).1)
      rw [hoj] at this
      rcases Bool.or_eq_true_iff.1 this with h | h
      · rcases Bool.or_eq_true_iff.1 h with h | h
        · exact absurd (Nat.eq_of_beq_eq_true h) hne
        · rw [Bool.and_eq_true] at h
          rcases hjl with h' | h'
          · exact absurd (by have := h.1; rw [Nat.blt_eq] at this; exact this : j < n) (by omega)
          · have h6 := h.2
            rw [List.contains_iff_mem.2 h'] at h6
            cases h6
      · exact Bool.or_eq_true_iff.1 h)
    hseq hQ hG hGB hmono
    (fun vals i o hi ho => by
      have := (wpGrowM_out 0 _ (h vals)).2 i o (by rw [List.getElem?_take, if_pos hi]; simpa using ho)
      rwa [Nat.zero_add] at this)
    (fun vals w hb hR => by
      rw [putZ_eq]
      exact (wpGrowM_out 0 _ (h vals)).1 w hb fun i hi => hR i (List.mem_range.1 hi))
    n [] (Array.replicate l.toArray.size false) (fun _ => undef) { w with drawn := w.drawn + 1 } List.nodup_nil (fun i hi => by cases hi) (by simp) (by simp) (fun i hi => by rw [getD_replicate_false]; simp) hW (fun i hi => by cases hi)
  rw [hsz] at H
  exact H

theorem grow_late {a : Act} {vals : Nat → Value} {i : Nat} {o : Oper} (ds : List Nat) (qs : List (Option Tmp)) (hds : depsOf ops n o = ds) (hqs : ds.map (dstOf ops) = qs)
    (h : ∀ w, Below W.heap.size W w → (∀ j ∈ ds, R j (vals j) w) → ∃ v, R i v w ∧ Region.wanted o (yielded ops (putZ qs (ds.map vals) a).tmps) = true ∧ ∀ w', (execOp (putZ qs (ds.map vals) a).eval o).run P w' = .ok (.value v) w') : LateStep P ops W n R a vals i o := by
  subst hds hqs
  intro w hb hd
  rw [putZ_eq]
  exact h w hb hd
end
end Go.Hold

/-
  A header begins with the point of the sender's secret; the first hop's secret is what that shares with its key.
-/
namespace Go.Proofs.YtddmjddlbhdcpaaGreatDoor
open Go.RowKit Go.Hold Go.Sh Go.Ch Go.Cm Go.Hd

/-- A slice of rows of one's own; the same as an answer's second part. -/
def ownRV (B : Nat) (e : TypeId) (C : Nat) (ls : List (Array Value)) : Value → World → Prop := fun v w => OwnR w B e C v ls
theorem stays_ownR (B : Nat) (e : TypeId) (C : Nat) (ls : List (Array Value)) : Stays (ownRV B e C ls) := fun _ _ _ h hb => OwnR.grow h hb
def tupRV (B : Nat) (e : TypeId) (C : Nat) (x y : Value) (ls : List (Array Value)) : Value → World → Prop := fun v w => ∃ u, v = .tuple #[x, u, y] ∧ OwnR w B e C u ls
theorem stays_tupR (B : Nat) (e : TypeId) (C : Nat) (x y : Value) (ls : List (Array Value)) : Stays (tupRV B e C x y ls) := fun _ _ _ ⟨u, h, ho⟩ hb => ⟨u, h, ho.grow hb⟩
/-- A new row of a type. -/
def typedV (B : Nat) (f : Nat → Value) (c : Array Value) (t : TypeId) : Value → World → Prop := fun v w => ∃ g, v = f g ∧ w.heap[g]? = some (.cells c t (0, 0)) ∧ B ≤ g
theorem stays_typed (B : Nat) (f : Nat → Value) (c : Array Value) (t : TypeId) : Stays (typedV B f c t) := fun _ _ _ ⟨g, h, hr, hg⟩ hb => ⟨g, h, by rw [hb.block g (Array.getElem?_eq_some_iff.1 hr).1]; exact hr, hg⟩
theorem typed_apart {w : World} {B C g : Nat} {e t : TypeId} {v : Value} {ls : List (Array Value)} {c : Array Value} (ho : OwnR w B e C v ls) (hg : w.heap[g]? = some (.cells c t (0, 0))) (hne : e ≠ t) : v.ownBlock ≠ some g := by
  rcases ho.own.2 with ⟨rfl, _⟩ | ⟨g0, cap, cur, rfl, _, hx, _⟩
  · simp [Value.ownBlock]
  · intro h
    simp only [Value.ownBlock, Option.some.injEq] at h
    subst h
    rw [hx] at hg
    cases hg
    exact hne rfl
theorem loadHop0 {w : World} {g o : Nat} {h : Hop} {r : List Hop} (hR : RowsAt 43 w (some ⟨g, o, none⟩) (hopR (h :: r))) (ho : HopOk h) : (loadRow 23 (.pointer (some ⟨g, o, none⟩))).run Tryz.prog w = .ok (.agg (bysA h.k)) w := by
  have hsz := hopA_size ho.k ho.i
  obtain ⟨g', o', e, _, hl⟩ := hR.part (k := 0) (K := 32) Tryz.underlying23 rfl (by kernel_rfl) (hopR_get (L := h :: r) (j := 0) rfl) (by omega)
  cases e
  rw [hopA_key h.k h.c ho.k] at hl
  simpa using hl
set_option maxHeartbeats 3000000 in
set_option maxRecDepth 100000 in
theorem first_any (x : List Nat) (L : List Hop) (p : Option Addr) (n cap : Nat) (hx : x.length = 32) (hxb : ∀ i, x.getD i 0 < 256) (hok : ∀ h ∈ L, HopOk h) (hn : n = L.length) (h20 : n ≤ 20) (w : World) (hT : Tabs w) (hR : RowsAt 43 w p (hopR L)) :
    Calls Tryz.prog 9 #[.agg (bysA x), .slice p n cap] w fun e w' => e = .returned (.bool true) ∧ Below w.heap.size w w' := by
  have HT := Lib.hid hT
  have HR := Lib.hid (fun (W : World) (hb : Below w.heap.size w W) => hR.grow hb)
  have HlR : (hopR L).length = L.length := by unfold hopR; rw [List.length_map]
  have KH := Lib.hid (fun (W : World) (h : RowsAt 43 W p (hopR L)) => hops_c L p n cap hok hn h20 W h)
  have KB := Lib.hid (fun (W : World) (h : Tabs W) (q : Option Addr) (c : Nat) (hq : RowsAt 43 W q (hopR L)) => build_c x L q (hopR L).length c hx hxb hok HlR W h hq)
  have i20 : ¬ (20 : Int) < (n : Int) := by omega
  have hxs := bysA_size' hx
  have hz208 := bysA_size' (zs_length 208)
  have hz32 := bysA_size' (zs_length 32)
  rcases first_pure (x := x) hok with ⟨hE, hH, hK⟩ | ⟨hE, h0, r, sr, b, rfl, hK, hsr, hne, hH, hbl, hbb⟩
  · rw [hH, hK] at KB
    have hE' : (hbE x L != 0) = true := by simpa using hE
    generalize hbE x L = er at *
    clear hT hR hok hn h20 hx hxb hH hK hE HlR
    go_enter Tryz.func9, Tryz.ntmps9
    go_wp2_with fail
    generalize hW : World.alloc _ _ = W0
    have R0x0 := Lib.hid (show RowAt W0 (w.heap.size) (bysA x) by rw [← hW]; clear hW; exact ⟨by go_simp, by first | (go_simp; done) | (go_simp; rfl), by go_simp⟩)
    have B0 := Lib.hid (show Below w.heap.size w W0 by rw [← hW]; repeat (first | apply below_alloc | exact Below.refl _ _))
    clear hW
    have l_xb : w.heap.size ≤ w.heap.size := by omega
    obtain ⟨xb, exb⟩ : ∃ z, z = w.heap.size := ⟨_, rfl⟩
    rw [← exb] at R0x0  ⊢
    have l_xb : w.heap.size ≤ xb := by rw [exb]; exact Nat.le_refl _
    clear exb
    refine (alive10_c W0 (HT.out.grow B0.out)).mono ?_
    rintro e W1 ⟨rfl, hb1⟩
    have R1x0 := Lib.hid (R0x0.out.grow hb1)
    have B1 := Lib.hid (B0.out.trans (hb1.mono B0.out.size))
    clear hb1 B0 R0x0
    obtain ⟨R1x0a, R1x0b, R1x0c⟩ := R1x0.out
    go_wp2_with fail
    obtain ⟨R1x0a, R1x0b, R1x0c⟩ := R1x0.out
    go_wp2_with fail
    refine wp_region_growsM W1 9 (fun w w' => Below w.heap.size w w') (listR [fixV (.agg (bysA x)), fixV (.slice p n cap), ownRV W1.heap.size 77 43 (hopR L), tupRV W1.heap.size 23 32 (.agg (bysA (zs 208))) (.int .i64 er) (List.map bysA []), tupRV W1.heap.size 23 32 (.agg (bysA (zs 208))) (.int .i64 er) (List.map bysA []), fixV (.agg (bysA (zs 208))), ownRV W1.heap.size 23 32 (List.map bysA []), fixV (.int .i64 er), typedV W1.heap.size (fun g => .pointer (some ⟨g, 0, none⟩)) (bysA (zs 208)) 31]) [6, 7] [9, 10, 11] [0, 1, 2, 3, 4, 5, 6, 7, 8] [some 16, some 17, some 18, some 19, some 15, some 20, some 21, some 22, some 5] (by kernel_rfl) (by kernel_rfl) (by kernel_rfl) (by kernel_rfl) (by intro c a d v w h; cases d <;> exact h) (fun _ => Below.refl _ _) (by first | exact (Below.refl _ _).drew | exact Below.refl _ _) (fun w w' h h' => h.trans (h'.mono h.size)) (listR_mono ⟨stays_fix _, stays_fix _, stays_ownR _ _ _ _, stays_tupR _ _ _ _ _ _, stays_tupR _ _ _ _ _ _, stays_fix _, stays_ownR _ _ _ _, stays_fix _, stays_typed _ _ _ _, trivial⟩) ?_
    intro vals
    simp only [List.take_succ_cons, List.take_zero]
    refine ⟨stepE rfl (grow_val [] [] (by kernel_rfl) rfl (fun K w hb hdq hK => ?_)), ?_⟩
    · obtain ⟨x1, x2, x3⟩ := R1x0.out.grow hb
      simp only [putZ]
      refine ⟨wanted_none rfl, ?_⟩
      go_simp
      exact hK _ _ _ (Below.refl _ _) rfl
    refine ⟨stepE rfl (grow_val [] [] (by kernel_rfl) rfl (fun K w hb hdq hK => ?_)), ?_⟩
    · simp only [putZ]
      refine ⟨wanted_none rfl, ?_⟩
      go_simp
      exact hK _ _ _ (Below.refl _ _) rfl
    refine ⟨stepE rfl (grow_call [1] [some 17] (by kernel_rfl) (by kernel_rfl) (fun K w hb hdq hK => ?_)), ?_⟩
    · have d1 : vals 1 = .slice p n cap := hdq 1 (by simp)
      simp only [List.map_cons, List.map_nil, putZ, d1]
      refine ⟨wanted_none rfl, ?_⟩
      go_simp
      refine (KH.out w (HR.out w (B1.out.trans (hb.mono B1.out.size)))).mono ?_
      rintro e w' ⟨v, rfl, ho, hb'⟩
      exact ⟨_, rfl, hK _ _ hb' (ho.base hb.size)⟩
    refine ⟨stepE rfl (grow_call [0, 2] [some 16, some 18] (by kernel_rfl) (by kernel_rfl) (fun K w hb hdq hK => ?_)), ?_⟩
    · have d0 : vals 0 = .agg (bysA x) := hdq 0 (by simp)
      obtain ⟨p2, c2, d2, y2, q2, z2, u2⟩ := OwnR.form (show OwnR w W1.heap.size 77 43 (vals 2) (hopR L) from hdq 2 (by simp))
      simp only [List.map_cons, List.map_nil, putZ, d0, d2]
      refine ⟨wanted_none rfl, ?_⟩
      go_simp
      refine (KB.out w (HT.out.grow (B1.out.trans (hb.mono B1.out.size))) p2 c2 y2).mono ?_
      rintro e w' ⟨v, rfl, ho, hb'⟩
      exact ⟨_, rfl, hK _ _ hb' ⟨v, rfl, ho.base hb.size⟩⟩
    refine ⟨stepE rfl (grow_val [3] [some 19] (by kernel_rfl) (by kernel_rfl) (fun K w hb hdq hK => ?_)), ?_⟩
    · obtain ⟨v3, d3, o3⟩ : ∃ u, vals 3 = .tuple #[.agg (bysA (zs 208)), u, .int .i64 er] ∧ OwnR w W1.heap.size 23 32 u (List.map bysA []) := hdq 3 (by simp)
      simp only [List.map_cons, List.map_nil, putZ, d3]
      refine ⟨wanted_none rfl, ?_⟩
      go_simp
      exact hK _ _ _ (Below.refl _ _) ⟨v3, rfl, o3⟩
    refine ⟨stepE rfl (grow_val [4] [some 15] (by kernel_rfl) (by kernel_rfl) (fun K w hb hdq hK => ?_)), ?_⟩
    · obtain ⟨v4, d4, o4⟩ : ∃ u, vals 4 = .tuple #[.agg (bysA (zs 208)), u, .int .i64 er] ∧ OwnR w W1.heap.size 23 32 u (List.map bysA []) := hdq 4 (by simp)
      simp only [List.map_cons, List.map_nil, putZ, d4]
      refine ⟨wanted_none rfl, ?_⟩
      go_simp
      exact hK _ _ _ (Below.refl _ _) rfl
    refine ⟨stepL rfl (grow_late [4] [some 15] (by kernel_rfl) (by kernel_rfl) (fun w hb hdq => ?_)), ?_⟩
    · obtain ⟨v4, d4, o4⟩ : ∃ u, vals 4 = .tuple #[.agg (bysA (zs 208)), u, .int .i64 er] ∧ OwnR w W1.heap.size 23 32 u (List.map bysA []) := hdq 4 (by simp)
      simp only [List.map_cons, List.map_nil, putZ, d4]
      refine ⟨v4, o4, wanted_none rfl, fun w' => ?_⟩
      go_simp
    refine ⟨stepL rfl (grow_late [4] [some 15] (by kernel_rfl) (by kernel_rfl) (fun w hb hdq => ?_)), ?_⟩
    · obtain ⟨v4, d4, o4⟩ : ∃ u, vals 4 = .tuple #[.agg (bysA (zs 208)), u, .int .i64 er] ∧ OwnR w W1.heap.size 23 32 u (List.map bysA []) := hdq 4 (by simp)
      simp only [List.map_cons, List.map_nil, putZ, d4]
      refine ⟨.int .i64 er, rfl, wanted_none rfl, fun w' => ?_⟩
      go_simp
    refine ⟨stepE rfl (grow_val [] [] (by kernel_rfl) rfl (fun K w hb hdq hK => ?_)), ?_⟩
    · simp only [putZ]
      refine ⟨wanted_none rfl, ?_⟩
      go_simp
      exact hK _ _ _ (below_alloc (Below.refl _ _) _) ⟨w.heap.size, rfl, block_new w _, hb.size⟩
    intro W2 hb2 hR5
    obtain d5 : vals 5 = .agg (bysA (zs 208)) := hR5 5 (by simp)
    have ho6 : OwnR W2 W1.heap.size 23 32 (vals 6) (List.map bysA []) := hR5 6 (by simp)
    obtain d7 : vals 7 = .int .i64 er := hR5 7 (by simp)
    obtain ⟨hd, d8, ht8, hg8⟩ : ∃ g, vals 8 = .pointer (some ⟨g, 0, none⟩) ∧ W2.heap[g]? = some (.cells (bysA (zs 208)) 31 (0, 0)) ∧ W1.heap.size ≤ g := hR5 8 (by simp)
    have hr8 := RowAt.of ht8
    have m_hd := typed_apart ho6 ht8 (by decide)
    clear ht8
    clear hR5
    simp only [List.map_cons, List.map_nil, putZ, d5, d7, d8, pick, List.getElem?_cons_succ, List.getElem?_cons_zero]
    generalize vals 0 = q0
    generalize vals 1 = q1
    generalize vals 2 = q2
    generalize vals 3 = q3
    generalize vals 4 = q4
    generalize vals 6 = v6 at *
    clear d5 d7 d8
    clear vals
    have n_xb_hd : xb ≠ hd := by have := R1x0.out.2.2; omega
    have l_hd : w.heap.size ≤ hd := Nat.le_trans B1.out.size hg8
    have V2x0 := Lib.hid hr8
    have O2 := Lib.hid ho6
    clear hr8 ho6 hg8
    clear R1x0a R1x0b R1x0c
    have R2x0 := Lib.hid (R1x0.out.grow hb2)
    have B2 := Lib.hid (B1.out.trans (hb2.mono B1.out.size))
    clear hb2 B1 R1x0
    obtain ⟨ps, cs, rfl, _, _, _, _⟩ := OwnR.form O2.out
    rw [show (List.map bysA ([] : List (List Nat))).length = 0 from rfl] at *
    clear O2 m_hd
    obtain ⟨R2x0a, R2x0b, R2x0c⟩ := R2x0.out
    obtain ⟨V2x0a, V2x0b, V2x0c⟩ := V2x0.out
    go_wp2_with fail
    have R3x0 := Lib.hid (R2x0.out.other n_xb_hd (bysA (zs 208)))
    have R3x1 := Lib.hid (V2x0.out.set (bysA (zs 208)))
    have B3 := Lib.hid (below_setRow B2.out l_hd (bysA (zs 208)))
    clear B2 R2x0 V2x0 R2x0a R2x0b R2x0c V2x0a V2x0b V2x0c
    generalize W2.setRow hd (bysA (zs 208)) = W3 at *
    obtain ⟨R3x0a, R3x0b, R3x0c⟩ := R3x0.out
    obtain ⟨R3x1a, R3x1b, R3x1c⟩ := R3x1.out
    go_wp2_with fail
    go_ret
    exact ⟨rfl, by first | exact below_alloc B3.out _ | exact B3.out | exact below_alloc (below_alloc B3.out _) _⟩
  · rw [hH, hK, hE] at KB
    have hp : HdParts (puB x ++ b ++ prf (keyB (shB x h0.k)) b) (puB x) b (prf (keyB (shB x h0.k)) b) := ⟨rfl, puB_length _, puB_bts _, hbl, hbb, prf_length _ _, prf_bts _ _⟩
    have hlen : ((keyB (shB x h0.k) :: sr).map bysA).length = n := by rw [List.length_map, List.length_cons, hsr, hn, List.length_cons]
    have ho := hok h0 (by simp)
    have hn1 : 0 < n := by rw [hn]; simp
    have hn2 : (0 : Int) < (n : Int) := by omega
    obtain ⟨g, o, ep, hg, _⟩ := loadHop hR (j := 0) rfl ho
    subst ep
    have HLd := Lib.hid (fun (W : World) (hb : Below w.heap.size w W) => loadHop0 (hR.grow hb) ho)
    have KS := Lib.hid (fun (W : World) => bshared_c x h0.k hx hxb ho.k ho.kb W)
    rw [errOf_ne hne] at KS
    have KU := Lib.hid (fun (W : World) => bpublic_c x hx hxb W)
    have hsl := keyB_length (shB x h0.k)
    have hss := bysA_size' hsl
    have Hsl := Lib.hid hsl
    have KP := Lib.hid (fun (W : World) (h : Tabs W) => hproof_c (keyB (shB x h0.k)) b hsl (keyB_bts _) hbl hbb W h)
    have hHl := hp.len
    have hHs := bysA_size' hHl
    obtain ⟨H, eH⟩ : ∃ z, z = puB x ++ b ++ prf (keyB (shB x h0.k)) b := ⟨_, rfl⟩
    rw [← eH] at hp KB hHl hHs
    clear eH
    obtain ⟨P, eP⟩ : ∃ z, z = prf (keyB (shB x h0.k)) b := ⟨_, rfl⟩
    rw [← eP] at hp KP
    clear eP
    obtain ⟨s, es⟩ : ∃ z, z = keyB (shB x h0.k) := ⟨_, rfl⟩
    rw [← es] at KP KS KB hlen hsl hss Hsl
    clear es
    obtain ⟨a, ea⟩ : ∃ z, z = puB x := ⟨_, rfl⟩
    rw [← ea] at hp KU
    clear ea
    have hA : H.take 32 = a := by rw [hp.eq, List.append_assoc, show 32 = a.length from hp.al.symm, List.take_left]
    have hB : (H.drop 32).take 160 = b := by rw [hp.eq, List.append_assoc, show 32 = a.length from hp.al.symm, List.drop_left, show 160 = b.length from hp.bl.symm, List.take_left]
    have hG : (H.drop 192).take 16 = P := by rw [hp.eq, show 192 = (a ++ b).length by rw [List.length_append, hp.al, hp.bl], List.drop_left, List.take_of_length_le (by rw [hp.gl]; exact Nat.le_refl _)]
    have has := bysA_size' hp.al
    have hbs := bysA_size' hp.bl
    have hgs := bysA_size' hp.gl
    clear hT hR hok hn h20 hx hxb hH hK hE hsr hne hbl hbb ho hp hsl HlR
    generalize h0.k = hk at *
    go_enter Tryz.func9, Tryz.ntmps9
    go_wp2_with fail
    generalize hW : World.alloc _ _ = W0
    have R0x0 := Lib.hid (show RowAt W0 (w.heap.size) (bysA x) by rw [← hW]; clear hW; exact ⟨by go_simp, by first | (go_simp; done) | (go_simp; rfl), by go_simp⟩)
    have B0 := Lib.hid (show Below w.heap.size w W0 by rw [← hW]; repeat (first | apply below_alloc | exact Below.refl _ _))
    clear hW
    have l_xb : w.heap.size ≤ w.heap.size := by omega
    obtain ⟨xb, exb⟩ : ∃ z, z = w.heap.size := ⟨_, rfl⟩
    rw [← exb] at R0x0  ⊢
    have l_xb : w.heap.size ≤ xb := by rw [exb]; exact Nat.le_refl _
    clear exb
    refine (alive10_c W0 (HT.out.grow B0.out)).mono ?_
    rintro e W1 ⟨rfl, hb1⟩
    have R1x0 := Lib.hid (R0x0.out.grow hb1)
    have B1 := Lib.hid (B0.out.trans (hb1.mono B0.out.size))
    clear hb1 B0 R0x0
    obtain ⟨R1x0a, R1x0b, R1x0c⟩ := R1x0.out
    go_wp2_with fail
    obtain ⟨R1x0a, R1x0b, R1x0c⟩ := R1x0.out
    go_wp2_with fail
    refine wp_region_growsM W1 9 (fun w w' => Below w.heap.size w w') (listR [fixV (.agg (bysA x)), fixV (.slice (some ⟨g, o, none⟩) n cap), ownRV W1.heap.size 77 43 (hopR (h0 :: r)), tupRV W1.heap.size 23 32 (.agg (bysA H)) (.int .i64 0) ((s :: sr).map bysA), tupRV W1.heap.size 23 32 (.agg (bysA H)) (.int .i64 0) ((s :: sr).map bysA), fixV (.agg (bysA H)), ownRV W1.heap.size 23 32 ((s :: sr).map bysA), fixV (.int .i64 0), typedV W1.heap.size (fun g => .pointer (some ⟨g, 0, none⟩)) (bysA (zs 208)) 31]) [6, 7] [9, 10, 11] [0, 1, 2, 3, 4, 5, 6, 7, 8] [some 16, some 17, some 18, some 19, some 15, some 20, some 21, some 22, some 5] (by kernel_rfl) (by kernel_rfl) (by kernel_rfl) (by kernel_rfl) (by intro c a d v w h; cases d <;> exact h) (fun _ => Below.refl _ _) (by first | exact (Below.refl _ _).drew | exact Below.refl _ _) (fun w w' h h' => h.trans (h'.mono h.size)) (listR_mono ⟨stays_fix _, stays_fix _, stays_ownR _ _ _ _, stays_tupR _ _ _ _ _ _, stays_tupR _ _ _ _ _ _, stays_fix _, stays_ownR _ _ _ _, stays_fix _, stays_typed _ _ _ _, trivial⟩) ?_
    intro vals
    simp only [List.take_succ_cons, List.take_zero]
    refine ⟨stepE rfl (grow_val [] [] (by kernel_rfl) rfl (fun K w hb hdq hK => ?_)), ?_⟩
    · obtain ⟨x1, x2, x3⟩ := R1x0.out.grow hb
      simp only [putZ]
      refine ⟨wanted_none rfl, ?_⟩
      go_simp
      exact hK _ _ _ (Below.refl _ _) rfl
    refine ⟨stepE rfl (grow_val [] [] (by kernel_rfl) rfl (fun K w hb hdq hK => ?_)), ?_⟩
    · simp only [putZ]
      refine ⟨wanted_none rfl, ?_⟩
      go_simp
      exact hK _ _ _ (Below.refl _ _) rfl
    refine ⟨stepE rfl (grow_call [1] [some 17] (by kernel_rfl) (by kernel_rfl) (fun K w hb hdq hK => ?_)), ?_⟩
    · have d1 : vals 1 = .slice (some ⟨g, o, none⟩) n cap := hdq 1 (by simp)
      simp only [List.map_cons, List.map_nil, putZ, d1]
      refine ⟨wanted_none rfl, ?_⟩
      go_simp
      refine (KH.out w (HR.out w (B1.out.trans (hb.mono B1.out.size)))).mono ?_
      rintro e w' ⟨v, rfl, ho, hb'⟩
      exact ⟨_, rfl, hK _ _ hb' (ho.base hb.size)⟩
    refine ⟨stepE rfl (grow_call [0, 2] [some 16, some 18] (by kernel_rfl) (by kernel_rfl) (fun K w hb hdq hK => ?_)), ?_⟩
    · have d0 : vals 0 = .agg (bysA x) := hdq 0 (by simp)
      obtain ⟨p2, c2, d2, y2, q2, z2, u2⟩ := OwnR.form (show OwnR w W1.heap.size 77 43 (vals 2) (hopR (h0 :: r)) from hdq 2 (by simp))
      simp only [List.map_cons, List.map_nil, putZ, d0, d2]
      refine ⟨wanted_none rfl, ?_⟩
      go_simp
      refine (KB.out w (HT.out.grow (B1.out.trans (hb.mono B1.out.size))) p2 c2 y2).mono ?_
      rintro e w' ⟨v, rfl, ho, hb'⟩
      exact ⟨_, rfl, hK _ _ hb' ⟨v, rfl, ho.base hb.size⟩⟩
    refine ⟨stepE rfl (grow_val [3] [some 19] (by kernel_rfl) (by kernel_rfl) (fun K w hb hdq hK => ?_)), ?_⟩
    · obtain ⟨v3, d3, o3⟩ : ∃ u, vals 3 = .tuple #[.agg (bysA H), u, .int .i64 0] ∧ OwnR w W1.heap.size 23 32 u ((s :: sr).map bysA) := hdq 3 (by simp)
      simp only [List.map_cons, List.map_nil, putZ, d3]
      refine ⟨wanted_none rfl, ?_⟩
      go_simp
      exact hK _ _ _ (Below.refl _ _) ⟨v3, rfl, o3⟩
    refine ⟨stepE rfl (grow_val [4] [some 15] (by kernel_rfl) (by kernel_rfl) (fun K w hb hdq hK => ?_)), ?_⟩
    · obtain ⟨v4, d4, o4⟩ : ∃ u, vals 4 = .tuple #[.agg (bysA H), u, .int .i64 0] ∧ OwnR w W1.heap.size 23 32 u ((s :: sr).map bysA) := hdq 4 (by simp)
      simp only [List.map_cons, List.map_nil, putZ, d4]
      refine ⟨wanted_none rfl, ?_⟩
      go_simp
      exact hK _ _ _ (Below.refl _ _) rfl
    refine ⟨stepL rfl (grow_late [4] [some 15] (by kernel_rfl) (by kernel_rfl) (fun w hb hdq => ?_)), ?_⟩
    · obtain ⟨v4, d4, o4⟩ : ∃ u, vals 4 = .tuple #[.agg (bysA H), u, .int .i64 0] ∧ OwnR w W1.heap.size 23 32 u ((s :: sr).map bysA) := hdq 4 (by simp)
      simp only [List.map_cons, List.map_nil, putZ, d4]
      refine ⟨v4, o4, wanted_none rfl, fun w' => ?_⟩
      go_simp
    refine ⟨stepL rfl (grow_late [4] [some 15] (by kernel_rfl) (by kernel_rfl) (fun w hb hdq => ?_)), ?_⟩
    · obtain ⟨v4, d4, o4⟩ : ∃ u, vals 4 = .tuple #[.agg (bysA H), u, .int .i64 0] ∧ OwnR w W1.heap.size 23 32 u ((s :: sr).map bysA) := hdq 4 (by simp)
      simp only [List.map_cons, List.map_nil, putZ, d4]
      refine ⟨.int .i64 0, rfl, wanted_none rfl, fun w' => ?_⟩
      go_simp
    refine ⟨stepE rfl (grow_val [] [] (by kernel_rfl) rfl (fun K w hb hdq hK => ?_)), ?_⟩
    · simp only [putZ]
      refine ⟨wanted_none rfl, ?_⟩
      go_simp
      exact hK _ _ _ (below_alloc (Below.refl _ _) _) ⟨w.heap.size, rfl, block_new w _, hb.size⟩
    intro W2 hb2 hR5
    obtain d5 : vals 5 = .agg (bysA H) := hR5 5 (by simp)
    have ho6 : OwnR W2 W1.heap.size 23 32 (vals 6) ((s :: sr).map bysA) := hR5 6 (by simp)
    obtain d7 : vals 7 = .int .i64 0 := hR5 7 (by simp)
    obtain ⟨hd, d8, ht8, hg8⟩ : ∃ g, vals 8 = .pointer (some ⟨g, 0, none⟩) ∧ W2.heap[g]? = some (.cells (bysA (zs 208)) 31 (0, 0)) ∧ W1.heap.size ≤ g := hR5 8 (by simp)
    have hr8 := RowAt.of ht8
    have m_hd := typed_apart ho6 ht8 (by decide)
    clear ht8
    clear hR5
    simp only [List.map_cons, List.map_nil, putZ, d5, d7, d8, pick, List.getElem?_cons_succ, List.getElem?_cons_zero]
    generalize vals 0 = q0
    generalize vals 1 = q1
    generalize vals 2 = q2
    generalize vals 3 = q3
    generalize vals 4 = q4
    generalize vals 6 = v6 at *
    clear d5 d7 d8
    clear vals
    have n_xb_hd : xb ≠ hd := by have := R1x0.out.2.2; omega
    have l_hd : w.heap.size ≤ hd := Nat.le_trans B1.out.size hg8
    have V2x0 := Lib.hid hr8
    have O2 := Lib.hid ho6
    clear hr8 ho6 hg8
    clear R1x0a R1x0b R1x0c
    have R2x0 := Lib.hid (R1x0.out.grow hb2)
    have B2 := Lib.hid (B1.out.trans (hb2.mono B1.out.size))
    clear hb2 B1 R1x0
    obtain ⟨ps, cs, rfl, hro, hcl, hx1, hpa⟩ := OwnR.form O2.out
    clear hx1 hro
    obtain ⟨gs, rfl, hgs'⟩ := hpa (by simp)
    rw [hlen] at O2 m_hd ⊢
    clear hcl hpa hgs'
    obtain ⟨R2x0a, R2x0b, R2x0c⟩ := R2x0.out
    obtain ⟨V2x0a, V2x0b, V2x0c⟩ := V2x0.out
    go_wp2_with fail
    have O3x0 := Lib.hid (O2.out.setRow m_hd (bysA H))
    clear O2
    have R3x0 := Lib.hid (R2x0.out.other n_xb_hd (bysA H))
    have R3x1 := Lib.hid (V2x0.out.set (bysA H))
    have B3 := Lib.hid (below_setRow B2.out l_hd (bysA H))
    clear B2 R2x0 V2x0 R2x0a R2x0b R2x0c V2x0a V2x0b V2x0c
    generalize W2.setRow hd (bysA H) = W3 at *
    obtain ⟨R3x0a, R3x0b, R3x0c⟩ := R3x0.out
    obtain ⟨R3x1a, R3x1b, R3x1c⟩ := R3x1.out
    go_wp2_with fail
    have ltgs := (O3x0.out.ltb gs rfl).2
    have hlk : ∀ (o' : Array Obj) (d' : Nat), (loadRow 23 (.pointer (some ⟨g, o, none⟩))).run Tryz.prog (W3.plus o' d') = .ok (.agg (bysA hk)) (W3.plus o' d') := fun o' d' => HLd.out _ (below_plus_of _ _ _ B3.out B3.out.size)
    refine wp_region_pick W3 [0, 1, 2, 3, 4, 5, 6, 7, 8] [false, false, false, false, false, false, false, false, true] [9] [(23, bysA (zs 32))] 10 (by kernel_rfl) rfl (by kernel_rfl) (by intro c a d v w h; cases d <;> exact h) (by first | exact (Below.refl _ _).drew | exact Below.refl _ _) ?_
    simp only [pick, List.getElem?_cons_succ, List.getElem?_cons_zero, List.drop_succ_cons, List.drop_zero]
    refine wpHoldF_val (wanted_none rfl) (by intro K o d hK; go_simp; exact hK _ (Below.refl _ _)) ?_
    refine wpHoldF_val (wanted_none rfl) (by intro K o d hK; go_simp; exact hK _ (Below.refl _ _)) ?_
    refine wpHoldF_val (wanted_none rfl) (by intro K o d hK; go_simp; exact hK _ (Below.refl _ _)) ?_
    refine wpHoldF_val (wanted_none rfl) (by intro K o d hK; go_simp; exact hK _ (Below.refl _ _)) ?_
    refine wpHoldF_val (wanted_none rfl) (by intro K o d hK; go_simp; exact hK _ (Below.refl _ _)) ?_
    refine wpHoldF_call (v := .tuple #[.agg (bysA s), .int .i64 0]) (wanted_none rfl) (by intro K o d hK; go_simp; refine (KS.out _).mono ?_; rintro e w' ⟨rfl, hbw⟩; exact ⟨_, rfl, hK _ hbw⟩) ?_
    refine wpHoldF_val (wanted_none rfl) (by intro K o d hK; go_simp; exact hK _ (Below.refl _ _)) ?_
    refine wpHoldF_val (wanted_none rfl) (by intro K o d hK; go_simp; exact hK _ (Below.refl _ _)) ?_
    refine wpHoldF_late (wanted_none rfl) (fun w => by go_simp; rfl) ?_
    refine wpHoldF_nil ?_
    refine ⟨lays_keyB _ rfl rfl, fun kk hg0 hn0 => ?_⟩
    intro W4 hb4 hblk
    have n_xb_kk : xb ≠ kk := by have := R3x0.out.2.2; omega
    have n_hd_kk : hd ≠ kk := by have := R3x1.out.2.2; omega
    have l_kk : w.heap.size ≤ kk := Nat.le_trans B3.out.size hg0
    have V4x0 := Lib.hid (RowAt.of (hblk 0 kk _ _ rfl rfl))
    clear hblk
    clear R3x0a R3x0b R3x0c R3x1a R3x1b R3x1c hlk
    have O4x0 := Lib.hid (O3x0.out.grow hb4)
    clear O3x0
    have R4x0 := Lib.hid (R3x0.out.grow hb4)
    have R4x1 := Lib.hid (R3x1.out.grow hb4)
    have B4 := Lib.hid (B3.out.trans (hb4.mono B3.out.size))
    clear hb4 B3 R3x0 R3x1
    have m_kk : (Value.slice (some ⟨gs, 0, none⟩) n cs).ownBlock ≠ some kk := fun e => by simp only [Value.ownBlock, Option.some.injEq] at e; omega
    obtain ⟨R4x0a, R4x0b, R4x0c⟩ := R4x0.out
    obtain ⟨R4x1a, R4x1b, R4x1c⟩ := R4x1.out
    obtain ⟨V4x0a, V4x0b, V4x0c⟩ := V4x0.out
    go_wp2_with fail
    have O5x0 := Lib.hid (O4x0.out.setRow m_kk (bysA s))
    clear O4x0
    have R5x0 := Lib.hid (R4x0.out.other n_xb_kk (bysA s))
    have R5x1 := Lib.hid (R4x1.out.other n_hd_kk (bysA s))
    have R5x2 := Lib.hid (V4x0.out.set (bysA s))
    have B5 := Lib.hid (below_setRow B4.out l_kk (bysA s))
    clear B4 R4x0 R4x1 V4x0 R4x0a R4x0b R4x0c R4x1a R4x1b R4x1c V4x0a V4x0b V4x0c
    generalize W4.setRow kk (bysA s) = W5 at *
    refine wp_region_growsM W5 32 (fun w w' => Below w.heap.size w w') (listR [fixV (.slice (some ⟨gs, 0, none⟩) n cs), fixV (.int .i64 n), fixV (.slice (some ⟨g, o, none⟩) n cap), fixV (.int .i64 n), fixV (.bool true), fixV (.bool true), fixV (.int .i64 0), fixV (.bool true), fixV (.bool true), fixV (.bool true), fixV (.agg (bysA s)), fixV (.slice (some ⟨gs, 0, none⟩) n cs), fixV (.pointer (some ⟨gs, 0, none⟩)), fixV (.agg (bysA s)), fixV (.bool true), fixV (.bool true), fixV (.bool true), fixV (.pointer (some ⟨hd, 0, none⟩)), fixV (.agg (bysA a)), fixV (.agg (bysA x)), fixV (.agg (bysA a)), fixV (.bool true), fixV (.bool true), fixV (.bool true), fixV (.agg (bysA s)), fixV (.pointer (some ⟨hd, 32, none⟩)), fixV (.agg (bysA b)), fixV (.agg (bysA P)), fixV (.pointer (some ⟨hd, 192, none⟩)), fixV (.agg (bysA P)), fixV (.bool true), fixV (.bool true)]) [] [32] [0, 1, 2, 3, 4, 5, 6, 7, 8, 9, 10, 11, 12, 13, 14, 15, 16, 17, 18, 19, 20, 21, 22, 23, 24, 25, 26, 27, 28, 29, 30, 31] [some 42, some 43, some 44, some 45, some 46, some 47, some 48, some 49, some 50, some 51, some 52, some 53, some 54, some 55, some 56, some 57, some 58, some 59, some 60, some 61, some 62, some 63, some 64, some 65, some 66, some 67, some 68, some 69, some 70, some 71, some 72, some 73] (by kernel_rfl) (by kernel_rfl) (by kernel_rfl) (by kernel_rfl) (by intro c a d v w h; cases d <;> exact h) (fun _ => Below.refl _ _) (by first | exact (Below.refl _ _).drew | exact Below.refl _ _) (fun w w' h h' => h.trans (h'.mono h.size)) (listR_mono ⟨stays_fix _, stays_fix _, stays_fix _, stays_fix _, stays_fix _, stays_fix _, stays_fix _, stays_fix _, stays_fix _, stays_fix _, stays_fix _, stays_fix _, stays_fix _, stays_fix _, stays_fix _, stays_fix _, stays_fix _, stays_fix _, stays_fix _, stays_fix _, stays_fix _, stays_fix _, stays_fix _, stays_fix _, stays_fix _, stays_fix _, stays_fix _, stays_fix _, stays_fix _, stays_fix _, stays_fix _, stays_fix _, trivial⟩) ?_
    intro vals
    simp only [List.take_succ_cons, List.take_zero]
    refine ⟨stepE rfl (grow_val [] [] (by kernel_rfl) rfl (fun K w hb hdq hK => ?_)), ?_⟩
    · simp only [putZ]
      refine ⟨wanted_none rfl, ?_⟩
      go_simp
      exact hK _ _ _ (Below.refl _ _) rfl
    refine ⟨stepE rfl (grow_val [0] [some 42] (by kernel_rfl) (by kernel_rfl) (fun K w hb hdq hK => ?_)), ?_⟩
    · have d0 : vals 0 = .slice (some ⟨gs, 0, none⟩) n cs := hdq 0 (by simp)
      simp only [List.map_cons, List.map_nil, putZ, d0]
      refine ⟨wanted_none rfl, ?_⟩
      go_simp
      exact hK _ _ _ (Below.refl _ _) rfl
    refine ⟨stepE rfl (grow_val [] [] (by kernel_rfl) rfl (fun K w hb hdq hK => ?_)), ?_⟩
    · simp only [putZ]
      refine ⟨wanted_none rfl, ?_⟩
      go_simp
      exact hK _ _ _ (Below.refl _ _) rfl
    refine ⟨stepE rfl (grow_val [2] [some 44] (by kernel_rfl) (by kernel_rfl) (fun K w hb hdq hK => ?_)), ?_⟩
    · have d2 : vals 2 = .slice (some ⟨g, o, none⟩) n cap := hdq 2 (by simp)
      simp only [List.map_cons, List.map_nil, putZ, d2]
      refine ⟨wanted_none rfl, ?_⟩
      go_simp
      exact hK _ _ _ (Below.refl _ _) rfl
    refine ⟨stepE rfl (grow_val [1, 3] [some 43, some 45] (by kernel_rfl) (by kernel_rfl) (fun K w hb hdq hK => ?_)), ?_⟩
    · have d1 : vals 1 = .int .i64 n := hdq 1 (by simp)
      have d3 : vals 3 = .int .i64 n := hdq 3 (by simp)
      simp only [List.map_cons, List.map_nil, putZ, d1, d3]
      refine ⟨wanted_none rfl, ?_⟩
      go_simp
      exact hK _ _ _ (Below.refl _ _) rfl
    refine ⟨stepE rfl (grow_val [4] [some 46] (by kernel_rfl) (by kernel_rfl) (fun K w hb hdq hK => ?_)), ?_⟩
    · have d4 : vals 4 = .bool true := hdq 4 (by simp)
      simp only [List.map_cons, List.map_nil, putZ, d4]
      refine ⟨wanted_none rfl, ?_⟩
      go_simp
      exact hK _ _ _ (Below.refl _ _) rfl
    refine ⟨stepE rfl (grow_val [5] [some 47] (by kernel_rfl) (by kernel_rfl) (fun K w hb hdq hK => ?_)), ?_⟩
    · have d5 : vals 5 = .bool true := hdq 5 (by simp)
      simp only [List.map_cons, List.map_nil, putZ, d5]
      refine ⟨wanted_some rfl rfl rfl, ?_⟩
      go_simp
      exact hK _ _ _ (Below.refl _ _) rfl
    refine ⟨stepE rfl (grow_val [5, 6] [some 47, some 48] (by kernel_rfl) (by kernel_rfl) (fun K w hb hdq hK => ?_)), ?_⟩
    · have d5 : vals 5 = .bool true := hdq 5 (by simp)
      have d6 : vals 6 = .int .i64 0 := hdq 6 (by simp)
      simp only [List.map_cons, List.map_nil, putZ, d5, d6]
      refine ⟨wanted_some rfl rfl rfl, ?_⟩
      go_simp
      exact hK _ _ _ (Below.refl _ _) rfl
    refine ⟨stepE rfl (grow_val [5, 7] [some 47, some 49] (by kernel_rfl) (by kernel_rfl) (fun K w hb hdq hK => ?_)), ?_⟩
    · have d5 : vals 5 = .bool true := hdq 5 (by simp)
      have d7 : vals 7 = .bool true := hdq 7 (by simp)
      simp only [List.map_cons, List.map_nil, putZ, d5, d7]
      refine ⟨wanted_none rfl, ?_⟩
      go_simp
      exact hK _ _ _ (Below.refl _ _) rfl
    refine ⟨stepE rfl (grow_val [8] [some 50] (by kernel_rfl) (by kernel_rfl) (fun K w hb hdq hK => ?_)), ?_⟩
    · have d8 : vals 8 = .bool true := hdq 8 (by simp)
      simp only [List.map_cons, List.map_nil, putZ, d8]
      refine ⟨wanted_none rfl, ?_⟩
      go_simp
      exact hK _ _ _ (Below.refl _ _) rfl
    refine ⟨stepE rfl (grow_val [9] [some 51] (by kernel_rfl) (by kernel_rfl) (fun K w hb hdq hK => ?_)), ?_⟩
    · have d9 : vals 9 = .bool true := hdq 9 (by simp)
      obtain ⟨y1, y2, y3⟩ := R5x2.out.grow hb
      simp only [List.map_cons, List.map_nil, putZ, d9]
      refine ⟨wanted_some rfl rfl rfl, ?_⟩
      go_simp
      exact hK _ _ _ (Below.refl _ _) rfl
    refine ⟨stepE rfl (grow_val [9] [some 51] (by kernel_rfl) (by kernel_rfl) (fun K w hb hdq hK => ?_)), ?_⟩
    · have d9 : vals 9 = .bool true := hdq 9 (by simp)
      simp only [List.map_cons, List.map_nil, putZ, d9]
      refine ⟨wanted_some rfl rfl rfl, ?_⟩
      go_simp
      exact hK _ _ _ (Below.refl _ _) rfl
    refine ⟨stepE rfl (grow_val [9, 11] [some 51, some 53] (by kernel_rfl) (by kernel_rfl) (fun K w hb hdq hK => ?_)), ?_⟩
    · have d9 : vals 9 = .bool true := hdq 9 (by simp)
      have d11 : vals 11 = .slice (some ⟨gs, 0, none⟩) n cs := hdq 11 (by simp)
      simp only [List.map_cons, List.map_nil, putZ, d9, d11]
      refine ⟨wanted_some rfl rfl rfl, ?_⟩
      go_simp
      exact hK _ _ _ (Below.refl _ _) rfl
    refine ⟨stepE rfl (grow_val [9, 12] [some 51, some 54] (by kernel_rfl) (by kernel_rfl) (fun K w hb hdq hK => ?_)), ?_⟩
    · have d9 : vals 9 = .bool true := hdq 9 (by simp)
      have d12 : vals 12 = .pointer (some ⟨gs, 0, none⟩) := hdq 12 (by simp)
      have ho := own_load0 (O5x0.out.grow hb) Hsl.out
      simp only [List.map_cons, List.map_nil, putZ, d9, d12]
      refine ⟨wanted_some rfl rfl rfl, ?_⟩
      go_simp
      exact hK _ _ _ (Below.refl _ _) rfl
    refine ⟨stepE rfl (grow_val [9, 10, 13] [some 51, some 52, some 55] (by kernel_rfl) (by kernel_rfl) (fun K w hb hdq hK => ?_)), ?_⟩
    · have d9 : vals 9 = .bool true := hdq 9 (by simp)
      have d10 : vals 10 = .agg (bysA s) := hdq 10 (by simp)
      have d13 : vals 13 = .agg (bysA s) := hdq 13 (by simp)
      simp only [List.map_cons, List.map_nil, putZ, d9, d10, d13]
      refine ⟨wanted_some rfl rfl rfl, ?_⟩
      go_simp
      exact hK _ _ _ (Below.refl _ _) rfl
    refine ⟨stepE rfl (grow_val [9, 14] [some 51, some 56] (by kernel_rfl) (by kernel_rfl) (fun K w hb hdq hK => ?_)), ?_⟩
    · have d9 : vals 9 = .bool true := hdq 9 (by simp)
      have d14 : vals 14 = .bool true := hdq 14 (by simp)
      simp only [List.map_cons, List.map_nil, putZ, d9, d14]
      refine ⟨wanted_none rfl, ?_⟩
      go_simp
      exact hK _ _ _ (Below.refl _ _) rfl
    refine ⟨stepE rfl (grow_val [15] [some 57] (by kernel_rfl) (by kernel_rfl) (fun K w hb hdq hK => ?_)), ?_⟩
    · have d15 : vals 15 = .bool true := hdq 15 (by simp)
      simp only [List.map_cons, List.map_nil, putZ, d15]
      refine ⟨wanted_none rfl, ?_⟩
      go_simp
      exact hK _ _ _ (Below.refl _ _) rfl
    refine ⟨stepE rfl (grow_val [16] [some 58] (by kernel_rfl) (by kernel_rfl) (fun K w hb hdq hK => ?_)), ?_⟩
    · have d16 : vals 16 = .bool true := hdq 16 (by simp)
      simp only [List.map_cons, List.map_nil, putZ, d16]
      refine ⟨wanted_some rfl rfl rfl, ?_⟩
      go_simp
      exact hK _ _ _ (Below.refl _ _) rfl
    refine ⟨stepE rfl (grow_val [16, 17] [some 58, some 59] (by kernel_rfl) (by kernel_rfl) (fun K w hb hdq hK => ?_)), ?_⟩
    · have d16 : vals 16 = .bool true := hdq 16 (by simp)
      have d17 : vals 17 = .pointer (some ⟨hd, 0, none⟩) := hdq 17 (by simp)
      obtain ⟨z1, z2, z3⟩ := R5x1.out.grow hb
      simp only [List.map_cons, List.map_nil, putZ, d16, d17]
      refine ⟨wanted_some rfl rfl rfl, ?_⟩
      go_simp
      exact hK _ _ _ (Below.refl _ _) rfl
    refine ⟨stepE rfl (grow_val [16] [some 58] (by kernel_rfl) (by kernel_rfl) (fun K w hb hdq hK => ?_)), ?_⟩
    · have d16 : vals 16 = .bool true := hdq 16 (by simp)
      obtain ⟨x1, x2, x3⟩ := R5x0.out.grow hb
      simp only [List.map_cons, List.map_nil, putZ, d16]
      refine ⟨wanted_some rfl rfl rfl, ?_⟩
      go_simp
      exact hK _ _ _ (Below.refl _ _) rfl
    refine ⟨stepE rfl (grow_call [16, 19] [some 58, some 61] (by kernel_rfl) (by kernel_rfl) (fun K w hb hdq hK => ?_)), ?_⟩
    · have d16 : vals 16 = .bool true := hdq 16 (by simp)
      have d19 : vals 19 = .agg (bysA x) := hdq 19 (by simp)
      simp only [List.map_cons, List.map_nil, putZ, d16, d19]
      refine ⟨wanted_some rfl rfl rfl, ?_⟩
      go_simp
      refine (KU.out w).mono ?_
      rintro e w' ⟨rfl, hb'⟩
      exact ⟨_, rfl, hK _ _ hb' rfl⟩
    refine ⟨stepE rfl (grow_val [16, 18, 20] [some 58, some 60, some 62] (by kernel_rfl) (by kernel_rfl) (fun K w hb hdq hK => ?_)), ?_⟩
    · have d16 : vals 16 = .bool true := hdq 16 (by simp)
      have d18 : vals 18 = .agg (bysA a) := hdq 18 (by simp)
      have d20 : vals 20 = .agg (bysA a) := hdq 20 (by simp)
      simp only [List.map_cons, List.map_nil, putZ, d16, d18, d20]
      refine ⟨wanted_some rfl rfl rfl, ?_⟩
      go_simp
      exact hK _ _ _ (Below.refl _ _) rfl
    refine ⟨stepE rfl (grow_val [16, 21] [some 58, some 63] (by kernel_rfl) (by kernel_rfl) (fun K w hb hdq hK => ?_)), ?_⟩
    · have d16 : vals 16 = .bool true := hdq 16 (by simp)
      have d21 : vals 21 = .bool true := hdq 21 (by simp)
      simp only [List.map_cons, List.map_nil, putZ, d16, d21]
      refine ⟨wanted_none rfl, ?_⟩
      go_simp
      exact hK _ _ _ (Below.refl _ _) rfl
    refine ⟨stepE rfl (grow_val [22] [some 64] (by kernel_rfl) (by kernel_rfl) (fun K w hb hdq hK => ?_)), ?_⟩
    · have d22 : vals 22 = .bool true := hdq 22 (by simp)
      simp only [List.map_cons, List.map_nil, putZ, d22]
      refine ⟨wanted_none rfl, ?_⟩
      go_simp
      exact hK _ _ _ (Below.refl _ _) rfl
    refine ⟨stepE rfl (grow_val [23] [some 65] (by kernel_rfl) (by kernel_rfl) (fun K w hb hdq hK => ?_)), ?_⟩
    · have d23 : vals 23 = .bool true := hdq 23 (by simp)
      obtain ⟨y1, y2, y3⟩ := R5x2.out.grow hb
      simp only [List.map_cons, List.map_nil, putZ, d23]
      refine ⟨wanted_some rfl rfl rfl, ?_⟩
      go_simp
      exact hK _ _ _ (Below.refl _ _) rfl
    refine ⟨stepE rfl (grow_val [23] [some 65] (by kernel_rfl) (by kernel_rfl) (fun K w hb hdq hK => ?_)), ?_⟩
    · have d23 : vals 23 = .bool true := hdq 23 (by simp)
      simp only [List.map_cons, List.map_nil, putZ, d23]
      refine ⟨wanted_some rfl rfl rfl, ?_⟩
      go_simp
      exact hK _ _ _ (Below.refl _ _) rfl
    refine ⟨stepE rfl (grow_val [23, 25] [some 65, some 67] (by kernel_rfl) (by kernel_rfl) (fun K w hb hdq hK => ?_)), ?_⟩
    · have d23 : vals 23 = .bool true := hdq 23 (by simp)
      have d25 : vals 25 = .pointer (some ⟨hd, 32, none⟩) := hdq 25 (by simp)
      obtain ⟨z1, z2, z3⟩ := R5x1.out.grow hb
      simp only [List.map_cons, List.map_nil, putZ, d23, d25]
      refine ⟨wanted_some rfl rfl rfl, ?_⟩
      go_simp
      exact hK _ _ _ (Below.refl _ _) rfl
    refine ⟨stepE rfl (grow_call [23, 24, 26] [some 65, some 66, some 68] (by kernel_rfl) (by kernel_rfl) (fun K w hb hdq hK => ?_)), ?_⟩
    · have d23 : vals 23 = .bool true := hdq 23 (by simp)
      have d24 : vals 24 = .agg (bysA s) := hdq 24 (by simp)
      have d26 : vals 26 = .agg (bysA b) := hdq 26 (by simp)
      simp only [List.map_cons, List.map_nil, putZ, d23, d24, d26]
      refine ⟨wanted_some rfl rfl rfl, ?_⟩
      go_simp
      refine (KP.out w (HT.out.grow (B5.out.trans (hb.mono B5.out.size)))).mono ?_
      rintro e w' ⟨rfl, hb'⟩
      exact ⟨_, rfl, hK _ _ hb' rfl⟩
    refine ⟨stepE rfl (grow_val [23] [some 65] (by kernel_rfl) (by kernel_rfl) (fun K w hb hdq hK => ?_)), ?_⟩
    · have d23 : vals 23 = .bool true := hdq 23 (by simp)
      simp only [List.map_cons, List.map_nil, putZ, d23]
      refine ⟨wanted_some rfl rfl rfl, ?_⟩
      go_simp
      exact hK _ _ _ (Below.refl _ _) rfl
    refine ⟨stepE rfl (grow_val [23, 28] [some 65, some 70] (by kernel_rfl) (by kernel_rfl) (fun K w hb hdq hK => ?_)), ?_⟩
    · have d23 : vals 23 = .bool true := hdq 23 (by simp)
      have d28 : vals 28 = .pointer (some ⟨hd, 192, none⟩) := hdq 28 (by simp)
      obtain ⟨z1, z2, z3⟩ := R5x1.out.grow hb
      simp only [List.map_cons, List.map_nil, putZ, d23, d28]
      refine ⟨wanted_some rfl rfl rfl, ?_⟩
      go_simp
      exact hK _ _ _ (Below.refl _ _) rfl
    refine ⟨stepE rfl (grow_val [23, 27, 29] [some 65, some 69, some 71] (by kernel_rfl) (by kernel_rfl) (fun K w hb hdq hK => ?_)), ?_⟩
    · have d23 : vals 23 = .bool true := hdq 23 (by simp)
      have d27 : vals 27 = .agg (bysA P) := hdq 27 (by simp)
      have d29 : vals 29 = .agg (bysA P) := hdq 29 (by simp)
      simp only [List.map_cons, List.map_nil, putZ, d23, d27, d29]
      refine ⟨wanted_some rfl rfl rfl, ?_⟩
      go_simp
      exact hK _ _ _ (Below.refl _ _) rfl
    refine ⟨stepE rfl (grow_val [23, 30] [some 65, some 72] (by kernel_rfl) (by kernel_rfl) (fun K w hb hdq hK => ?_)), ?_⟩
    · have d23 : vals 23 = .bool true := hdq 23 (by simp)
      have d30 : vals 30 = .bool true := hdq 30 (by simp)
      simp only [List.map_cons, List.map_nil, putZ, d23, d30]
      refine ⟨wanted_none rfl, ?_⟩
      go_simp
      exact hK _ _ _ (Below.refl _ _) rfl
    intro Wz hbz hR9
    obtain d31 : vals 31 = .bool true := hR9 31 (by simp)
    clear hR9
    simp only [List.map_cons, List.map_nil, putZ, d31, pick, List.getElem?_cons_succ, List.getElem?_cons_zero]
    generalize vals 0 = q0
    generalize vals 1 = q1
    generalize vals 2 = q2
    generalize vals 3 = q3
    generalize vals 4 = q4
    generalize vals 5 = q5
    generalize vals 6 = q6
    generalize vals 7 = q7
    generalize vals 8 = q8
    generalize vals 9 = q9
    generalize vals 10 = q10
    generalize vals 11 = q11
    generalize vals 12 = q12
    generalize vals 13 = q13
    generalize vals 14 = q14
    generalize vals 15 = q15
    generalize vals 16 = q16
    generalize vals 17 = q17
    generalize vals 18 = q18
    generalize vals 19 = q19
    generalize vals 20 = q20
    generalize vals 21 = q21
    generalize vals 22 = q22
    generalize vals 23 = q23
    generalize vals 24 = q24
    generalize vals 25 = q25
    generalize vals 26 = q26
    generalize vals 27 = q27
    generalize vals 28 = q28
    generalize vals 29 = q29
    generalize vals 30 = q30
    have Bz := Lib.hid (B5.out.trans (hbz.mono B5.out.size))
    clear hbz d31
    clear vals
    go_wp2_with fail
    go_ret
    exact ⟨rfl, Bz.out⟩
end Go.Proofs.YtddmjddlbhdcpaaGreatDoor

/-
  From a walk to the given row: commands, and 16 bytes, that came in.
-/
namespace Go.Proofs.YtddmjddlbhdcpaaGreatDoor
open Go.ChangeShapes Go.WideShapes Go.ChangeAt Go.RowKit Go.Sh Go.Cm

set_option maxRecDepth 100000 in
theorem cmd_of_trod {H : Type} {enc : TypeId × Value → H} {w : World} {base : Nat} {spare : Nat → Bool} {held : Bool} {fuel : Nat} {cs : List Value} {x : DataW H × List MemPlace}
    (hf : DataW.trod enc Tryz.prog w base spare held fuel 57 cs = some x) : ∃ c : Cmd, cs = (cmdA c).toList ∧ c.id.length = 8 ∧ ∀ i, c.id.getD i 0 < 256 := by
  have hc3 : Tryz.prog.cellsOf 3 = 1 := by kernel_rfl
  have hc8 : Tryz.prog.cellsOf 48 = 8 := by kernel_rfl
  have hca : Tryz.prog.cellsOf 57 = 11 := by kernel_rfl
  obtain ⟨xs, n, _, _, hl, hxl, hx⟩ := DataW.trod_struct Tryz.underlying57 hf
  rw [hca] at hl
  have hxl4 : xs.length = 4 := by rw [hxl]; rfl
  have h0 : DataW.trod enc Tryz.prog w base spare held n 3 ((cs.drop 0).take (Tryz.prog.cellsOf 3)) = xs[0]? := hx 0 _ rfl
  have h1 : DataW.trod enc Tryz.prog w base spare held n 3 ((cs.drop 1).take (Tryz.prog.cellsOf 3)) = xs[1]? := hx 1 _ rfl
  have h2 : DataW.trod enc Tryz.prog w base spare held n 3 ((cs.drop 2).take (Tryz.prog.cellsOf 3)) = xs[2]? := hx 2 _ rfl
  have h3 : DataW.trod enc Tryz.prog w base spare held n 48 ((cs.drop 3).take (Tryz.prog.cellsOf 48)) = xs[3]? := hx 3 _ rfl
  rw [hc3] at h0 h1 h2
  rw [hc8] at h3
  rw [List.getElem?_eq_getElem (by omega)] at h0 h1 h2 h3
  obtain ⟨a0, e0, _, _⟩ := DataW.trod_int Tryz.underlying3 h0
  obtain ⟨a1, e1, _, _⟩ := DataW.trod_int Tryz.underlying3 h1
  obtain ⟨a2, e2, _, _⟩ := DataW.trod_int Tryz.underlying3 h2
  obtain ⟨id, e3, hid, hidb⟩ := arr_of_trod Tryz.underlying48 hc8 h3
  refine ⟨⟨a0, a1, a2, id⟩, ?_, hid, hidb⟩
  show cs = ([.int .i64 a0, .int .i64 a1, .int .i64 a2] : List Value) ++ bys id
  rw [← e3]
  match cs, hl, e0, e1, e2 with
  | c0 :: c1 :: c2 :: r, hl, e0, e1, e2 =>
    simp at e0 e1 e2 hl
    rw [e0, e1, e2]
    simp [List.take_of_length_le (show r.length ≤ 8 by omega)]
end Go.Proofs.YtddmjddlbhdcpaaGreatDoor

/-
  From a walk to the given row: slices of rows that came in: hops, keys, commands.
-/
namespace Go.Proofs.YtddmjddlbhdcpaaGreatDoor
open Go.ChangeShapes Go.WideShapes Go.ChangeAt Go.RowKit Go.Sh Go.Cm Go.Hd

theorem list_of {α : Type} {f : α → Array Value} {Q : α → Prop} : ∀ {ls : List (Array Value)}, (∀ c ∈ ls, ∃ x, c = f x ∧ Q x) → ∃ L : List α, ls = L.map f ∧ ∀ x ∈ L, Q x
  | [], _ => ⟨[], rfl, fun x hx => by simp at hx⟩
  | c :: ls, h => by
    obtain ⟨x, rfl, hq⟩ := h c (by simp)
    obtain ⟨L, rfl, hL⟩ := list_of (ls := ls) fun d hd => h d (by simp [hd])
    refine ⟨x :: L, rfl, fun y hy => ?_⟩
    rcases List.mem_cons.1 hy with rfl | hy
    · exact hq
    · exact hL y hy
set_option maxRecDepth 100000 in
theorem open_rowsR {H : Type} {enc : TypeId × Value → H} {w : World} {r : Reach} {b0 base : Nat} {spare : Nat → Bool} {held : Bool} {v : Value} {d : DataW H} {p : List MemPlace} {t e : TypeId} {C : Nat} {Q : Array Value → Prop}
    (ht : Tryz.prog.underlying t = some (.slice e)) (hce : Tryz.prog.cellsOf e = C) (hC : 0 < C)
    (hof : ∀ (fuel : Nat) (cs : List Value) (x : DataW H × List MemPlace), DataW.trod enc Tryz.prog w base spare held fuel e cs = some x → ∃ c : Array Value, cs = c.toList ∧ Q c ∧ c.size = C ∧ ∃ k z, c[0]? = some (.int k z))
    (hv : Value.okWide Tryz.prog w r b0 t v) (h : DataW.Trod enc Tryz.prog w base spare held t v d p) :
    ∃ (pt : Option Addr) (ls : List (Array Value)) (cap : Nat), v = .slice pt ls.length cap ∧ RowsAt C w pt ls ∧ ∀ c ∈ ls, Q c := by
  obtain ⟨a, len, cap, rfl⟩ := okWide_slice ht hv
  obtain ⟨fuel, hf⟩ := h
  rcases DataW.trod_slice ht hf with ⟨h0, _⟩ | ⟨a', len', cap', elems, rest, n, _, hcs, _, _, _, _, hlen, hel, _⟩
  · have h1 : Value.slice a len cap = .slice none 0 0 := by simpa [Value.cells] using h0
    cases h1
    exact ⟨none, [], 0, rfl, fun i x hx => by simp at hx, fun c hc => by simp at hc⟩
  · have h1 : Value.slice a len cap = .slice (some a') len' cap' := by simpa [Value.cells] using hcs
    cases h1
    have each : ∀ i, i < len → ∃ x : Array Value, Q x ∧ x.size = C ∧ (∃ k z, x[0]? = some (.int k z)) ∧ ∀ j, j < C → w.cell? ((a'.add (i * C)).add j) = x[j]? := fun i hi => by
      have h2 := hel i hi
      rw [List.getElem?_eq_getElem (show i < elems.length by omega), hce, Option.bind_eq_some_iff] at h2
      obtain ⟨cs, h3, h4⟩ := h2
      obtain ⟨x, rfl, hq, hs, hz⟩ := hof _ _ _ h4
      refine ⟨x, hq, hs, hz, fun j hj => ?_⟩
      rw [(World.cells?_some h3).2.2 j hj, Array.getElem?_toList]
    have hch : ∃ f : Nat → Array Value, ∀ i, i < len → Q (f i) ∧ (f i).size = C ∧ (∃ k z, (f i)[0]? = some (.int k z)) ∧ ∀ j, j < C → w.cell? ((a'.add (i * C)).add j) = (f i)[j]? :=
      ⟨fun i => if h : i < len then Classical.choose (each i h) else #[], fun i hi => by simp only [hi, dif_pos]; exact Classical.choose_spec (each i hi)⟩
    obtain ⟨f, hf'⟩ := hch
    have hat : ∀ {i : Nat} {x : Array Value}, ((List.range len).map f)[i]? = some x → i < len ∧ f i = x := fun {i x} hx => by
      have hi : i < len := by
        have := (List.getElem?_eq_some_iff.1 hx).1
        simpa using this
      have : ((List.range len).map f)[i]? = some (f i) := by simp [hi]
      rw [hx] at this
      exact ⟨hi, (Option.some.inj this).symm⟩
    refine ⟨some a', (List.range len).map f, cap, by simp, fun i x hx => ?_, fun c hc => ?_⟩
    · obtain ⟨hi, rfl⟩ := hat hx
      obtain ⟨k0, z0, hz0⟩ := (hf' 0 (by omega)).2.2.1
      have h00 : w.cell? a' = some (.int k0 z0) := by
        have := (hf' 0 (by omega)).2.2.2 0 hC
        rw [hz0] at this
        simpa [Addr.add] using this
      obtain ⟨g, o, sp⟩ := a'
      have hsp : sp = none := by
        cases sp with
        | none => rfl
        | some k =>
          exfalso
          unfold World.cell? at h00
          split at h00
          · simp at h00
          · cases h00
      subst hsp
      refine ⟨g, o, rfl, World.block_lt_of_cell? w _ h00, fun j v hv => ?_⟩
      have hj : j < C := by
        have := (List.getElem?_eq_some_iff.1 hv).1
        simpa [(hf' i hi).2.1] using this
      have h5 := (hf' i hi).2.2.2 j hj
      rw [Addr.add_mid, Addr.add_mid] at h5
      rw [h5]
      simpa using hv
    · obtain ⟨i, hi, rfl⟩ := List.mem_map.1 hc
      exact (hf' i (List.mem_range.1 hi)).1
theorem bysA_first {l : List Nat} (h : 0 < l.length) : ∃ k z, (bysA l)[0]? = some (.int k z) := by
  cases l with
  | nil => simp at h
  | cons a l => exact ⟨.u8, (a : Int), rfl⟩
set_option maxRecDepth 100000 in
theorem hop_of_trod {H : Type} {enc : TypeId × Value → H} {w : World} {base : Nat} {spare : Nat → Bool} {held : Bool} {fuel : Nat} {cs : List Value} {x : DataW H × List MemPlace}
    (hf : DataW.trod enc Tryz.prog w base spare held fuel 84 cs = some x) : ∃ h : Hop, cs = (hopA h.k h.c).toList ∧ HopOk h := by
  have hc0 : Tryz.prog.cellsOf 23 = 32 := by kernel_rfl
  have hc1 : Tryz.prog.cellsOf 57 = 11 := by kernel_rfl
  have hca : Tryz.prog.cellsOf 84 = 43 := by kernel_rfl
  obtain ⟨xs, n, _, _, hl, hxl, hx⟩ := DataW.trod_struct Tryz.underlying84 hf
  rw [hca] at hl
  have hxl2 : xs.length = 2 := by rw [hxl]; rfl
  have h0 : DataW.trod enc Tryz.prog w base spare held n 23 ((cs.drop 0).take (Tryz.prog.cellsOf 23)) = xs[0]? := hx 0 _ rfl
  have h1 : DataW.trod enc Tryz.prog w base spare held n 57 ((cs.drop 32).take (Tryz.prog.cellsOf 57)) = xs[1]? := hx 1 _ rfl
  rw [hc0] at h0
  rw [hc1] at h1
  rw [List.getElem?_eq_getElem (by omega)] at h0 h1
  obtain ⟨a, e0, ha, hab⟩ := arr_of_trod Tryz.underlying23 hc0 h0
  obtain ⟨c, e1, hc, hcb⟩ := cmd_of_trod h1
  refine ⟨⟨a, c⟩, ?_, ha, hab, hc, hcb⟩
  show cs = (bysA a ++ cmdA c).toList
  rw [Array.toList_append, ← e1, List.take_of_length_le (l := cs.drop 32) (by rw [List.length_drop, hl]; decide)]
  show cs = bys a ++ cs.drop 32
  rw [← e0, List.drop_zero, List.take_append_drop]
theorem hopA_first {h : Hop} (ho : HopOk h) : ∃ k z, (hopA h.k h.c)[0]? = some (.int k z) := by
  obtain ⟨k, z, e⟩ := bysA_first (l := h.k) (by rw [ho.k]; decide)
  refine ⟨k, z, ?_⟩
  unfold hopA
  rw [Array.getElem?_append_left (by rw [bysA_size, ho.k]; decide)]
  exact e
set_option maxRecDepth 100000 in
theorem open_hops {H : Type} {enc : TypeId × Value → H} {w : World} {r : Reach} {b0 base : Nat} {spare : Nat → Bool} {held : Bool} {v : Value} {d : DataW H} {p : List MemPlace}
    (hv : Value.okWide Tryz.prog w r b0 24 v) (h : DataW.Trod enc Tryz.prog w base spare held 24 v d p) :
    ∃ (pt : Option Addr) (L : List Hop) (cap : Nat), v = .slice pt L.length cap ∧ RowsAt 43 w pt (hopR L) ∧ ∀ h ∈ L, HopOk h := by
  obtain ⟨pt, ls, cap, rfl, hR, hQ⟩ := open_rowsR (Q := fun c => ∃ h : Hop, c = hopA h.k h.c ∧ HopOk h) Tryz.underlying24 (by kernel_rfl) (by decide : 0 < 43)
    (fun fuel cs x hx => by
      obtain ⟨h, rfl, ho⟩ := hop_of_trod hx
      exact ⟨_, rfl, ⟨h, rfl, ho⟩, hopA_size ho.k ho.i, hopA_first ho⟩) hv h
  obtain ⟨L, rfl, hL⟩ := list_of hQ
  exact ⟨pt, L, cap, by rw [List.length_map], hR, hL⟩
set_option maxRecDepth 100000 in
theorem open_keysB {H : Type} {enc : TypeId × Value → H} {w : World} {r : Reach} {b0 base : Nat} {spare : Nat → Bool} {held : Bool} {v : Value} {d : DataW H} {p : List MemPlace}
    (hv : Value.okWide Tryz.prog w r b0 32 v) (h : DataW.Trod enc Tryz.prog w base spare held 32 v d p) :
    ∃ (pt : Option Addr) (L : List (List Nat)) (cap : Nat), v = .slice pt L.length cap ∧ RowsAt 32 w pt (L.map bysA) ∧ ∀ k ∈ L, k.length = 32 ∧ ∀ i, k.getD i 0 < 256 := by
  have hc0 : Tryz.prog.cellsOf 23 = 32 := by kernel_rfl
  obtain ⟨pt, ls, cap, rfl, hR, hQ⟩ := open_rowsR (Q := fun c => ∃ k : List Nat, c = bysA k ∧ (k.length = 32 ∧ ∀ i, k.getD i 0 < 256)) Tryz.underlying32 hc0 (by decide : 0 < 32)
    (fun fuel cs x hx => by
      obtain ⟨k, rfl, hk, hkb⟩ := arr_of_trod Tryz.underlying23 hc0 hx
      exact ⟨bysA k, rfl, ⟨k, rfl, hk, hkb⟩, by rw [bysA_size, hk], bysA_first (by rw [hk]; decide)⟩) hv h
  obtain ⟨L, rfl, hL⟩ := list_of hQ
  exact ⟨pt, L, cap, by rw [List.length_map], hR, hL⟩
set_option maxRecDepth 100000 in
theorem open_cmdsB {H : Type} {enc : TypeId × Value → H} {w : World} {r : Reach} {b0 base : Nat} {spare : Nat → Bool} {held : Bool} {v : Value} {d : DataW H} {p : List MemPlace}
    (hv : Value.okWide Tryz.prog w r b0 73 v) (h : DataW.Trod enc Tryz.prog w base spare held 73 v d p) :
    ∃ (pt : Option Addr) (L : List Cmd) (cap : Nat), v = .slice pt L.length cap ∧ RowsAt 11 w pt (L.map cmdA) ∧ ∀ c ∈ L, c.id.length = 8 ∧ ∀ i, c.id.getD i 0 < 256 := by
  obtain ⟨pt, ls, cap, rfl, hR, hQ⟩ := open_rowsR (Q := fun c => ∃ k : Cmd, c = cmdA k ∧ (k.id.length = 8 ∧ ∀ i, k.id.getD i 0 < 256)) Tryz.underlying73 (by kernel_rfl) (by decide : 0 < 11)
    (fun fuel cs x hx => by
      obtain ⟨k, rfl, hk, hkb⟩ := cmd_of_trod hx
      exact ⟨cmdA k, rfl, ⟨k, rfl, hk, hkb⟩, cmdA_size hk, .i64, k.k, rfl⟩) hv h
  obtain ⟨L, rfl, hL⟩ := list_of hQ
  exact ⟨pt, L, cap, by rw [List.length_map], hR, hL⟩
end Go.Proofs.YtddmjddlbhdcpaaGreatDoor

/-
  A header begins with the point of the sender's secret: of however many hops.
-/
namespace Go.Proofs.YtddmjddlbhdcpaaGreatDoor
open Go.RowKit Go.Hold Go.Sh Go.Ch Go.Cm Go.Hd

set_option maxHeartbeats 1000000 in
set_option maxRecDepth 100000 in
theorem first_more (x : List Nat) (p : Option Addr) (n cap : Nat) (hx : x.length = 32) (h20 : ¬ n ≤ 20) (w : World) (hT : Tabs w) :
    Calls Tryz.prog 9 #[.agg (bysA x), .slice p n cap] w fun e w' => e = .returned (.bool true) ∧ Below w.heap.size w w' := by
  have HT := Lib.hid hT
  have i20 : (20 : Int) < (n : Int) := by omega
  have hxs := bysA_size' hx
  clear hT h20 hx
  go_enter Tryz.func9, Tryz.ntmps9
  go_wp2_with fail
  generalize hW : World.alloc _ _ = W0
  have R0x0 := Lib.hid (show RowAt W0 (w.heap.size) (bysA x) by rw [← hW]; clear hW; exact ⟨by go_simp, by first | (go_simp; done) | (go_simp; rfl), by go_simp⟩)
  have B0 := Lib.hid (show Below w.heap.size w W0 by rw [← hW]; repeat (first | apply below_alloc | exact Below.refl _ _))
  clear hW
  have l_xb : w.heap.size ≤ w.heap.size := by omega
  obtain ⟨xb, exb⟩ : ∃ z, z = w.heap.size := ⟨_, rfl⟩
  rw [← exb] at R0x0  ⊢
  have l_xb : w.heap.size ≤ xb := by rw [exb]; exact Nat.le_refl _
  clear exb
  refine (alive10_c W0 (HT.out.grow B0.out)).mono ?_
  rintro e W1 ⟨rfl, hb1⟩
  have R1x0 := Lib.hid (R0x0.out.grow hb1)
  have B1 := Lib.hid (B0.out.trans (hb1.mono B0.out.size))
  clear hb1 B0 R0x0
  obtain ⟨R1x0a, R1x0b, R1x0c⟩ := R1x0.out
  go_wp2_with fail
  go_ret
  exact ⟨rfl, by first | exact below_alloc B1.out _ | exact B1.out | exact below_alloc (below_alloc B1.out _) _⟩
theorem first_all (x : List Nat) (L : List Hop) (p : Option Addr) (n cap : Nat) (hx : x.length = 32) (hxb : ∀ i, x.getD i 0 < 256) (hok : ∀ h ∈ L, HopOk h) (hn : n = L.length) (w : World) (hT : Tabs w) (hR : RowsAt 43 w p (hopR L)) :
    Calls Tryz.prog 9 #[.agg (bysA x), .slice p n cap] w fun e w' => e = .returned (.bool true) ∧ Below w.heap.size w w' := by
  by_cases h20 : n ≤ 20
  · exact first_any x L p n cap hx hxb hok hn h20 w hT hR
  · exact first_more x p n cap hx h20 w hT
end Go.Proofs.YtddmjddlbhdcpaaGreatDoor
