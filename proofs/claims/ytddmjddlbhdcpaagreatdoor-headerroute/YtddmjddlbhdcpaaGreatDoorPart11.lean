/-
  Part 11 of the texts behind the theorem.
-/
import Derived.Test.YtddmjddlbhdcpaaGreatDoorPart7
import Derived.Test.YtddmjddlbhdcpaaGreatDoorPart10
import Derived.Test.YtddmjddlbhdcpaaGreatDoorPart5
import Derived.Test.YtddmjddlbhdcpaaGreatDoorPart6
import Derived.Test.YtddmjddlbhdcpaaGreatDoorPart8
import Derived.Test.YtddmjddlbhdcpaaGreatDoorPart9
/-
  The laws of layer 9: the program's commands and the reference's are the same.
-/
namespace Go.Proofs.YtddmjddlbhdcpaaGreatDoor
open Go.RowKit Go.Hold Go.Sh Go.Cm

set_option maxHeartbeats 1000000 in
set_option maxRecDepth 100000 in
theorem theirs_c (c : Cmd) (hid : c.id.length = 8) (w : World) :
    Calls Tryz.prog 28 #[.agg (cmdA c)] w fun e w' => e = .returned (.agg (cmdA c)) ∧ Below w.heap.size w w' := by
  have hcs := cmdA_size hid
  have hzs : (cmdA .zero).size = 11 := cmdA_size rfl
  have hbd := fun W => run_bldCmd4 c hid W
  go_enter Tryz.func28, Tryz.ntmps28
  go_wp2_with fail
  refine bodyPost_ret (v := .agg (cmdA c)) (results_cmd1 Tryz.results28 c hid _ _ (w.heap.size + 1) rfl (by go_simp) (by go_simp)) rfl ⟨rfl, ?_⟩
  repeat (first | apply below_alloc | exact Below.refl _ _)
end Go.Proofs.YtddmjddlbhdcpaaGreatDoor

/-
  The laws of layer 10: the same hops.
-/
namespace Go.Proofs.YtddmjddlbhdcpaaGreatDoor
open Go.RowKit Go.Hold Go.Sh Go.Ch Go.Cm Go.Hd

set_option maxRecDepth 100000 in
theorem info_hop3 : (Tryz.prog.info? 77).map (fun i => (i.zero, i.size, i.bytes)) = some (some (.agg hopZ), 43, 64) := by kernel_rfl
theorem hopZ_size : (Value.agg hopZ).cells.size = 43 := by show (hopA (zs 32) .zero).size = 43; exact hopA_size (zs_length 32) rfl
theorem run_bldHs1 {k : List Nat} {c : Cmd} (hk : k.length = 32) (hc : c.id.length = 8) (w : World) : (bldHs 1 #[(0, .agg (hopA k c))]).run Tryz.prog w = .ok (.slice (some ⟨w.heap.size, 0, none⟩) 1 1) (w.alloc (.cells (hopA k c) 77)) := by
  have := run_bldRows (P := Tryz.prog) Tryz.underlying36 info_hop3 [.agg (hopA k c)] (fun v hv => by rw [List.mem_singleton.1 hv]; exact hopA_size hk hc) (rfl : _ = 1) (by decide) (by decide) #[(0, .agg (hopA k c))] rfl w
  rwa [show (cellsAll [.agg (hopA k c)]).toArray = hopA k c by
    show ((hopA k c).toList ++ []).toArray = _
    rw [List.append_nil, Array.toArray_toList]] at this
theorem app_hop {w : World} {B gn o : Nat} {v : Value} {ls : List Hop} {x : Hop} (h : OwnR w B 77 43 v (hopR ls)) (hn : w.rangeAt gn o (hopA x.k x.c).toList) (hx : HopOk x) (hBw : B ≤ w.heap.size) (hlen : ls.length ≤ 1000) :
    ∃ v' w', (Builtin.append_ #[36, 36] 36 #[v, .slice (some ⟨gn, o, none⟩) 1 1]).run Tryz.prog w = .ok v' w' ∧ OwnR w' B 77 43 v' (hopR (ls ++ [x])) ∧ w.grownBy w' v.ownBlock ∧ NewB w v.ownBlock v'.ownBlock := by
  have := app_row (C := 43) (Y := 64) (z := .agg hopZ) Tryz.underlying36 info_hop3 hopZ_size (by decide) (by decide) h hn (hopA_size hx.k hx.i) (hopA_one _ _) hBw (by unfold hopR; rw [List.length_map]; exact hlen)
  rwa [show hopR (ls ++ [x]) = hopR ls ++ [hopA x.k x.c] by simp [hopR]]
theorem loadRHop {w : World} {p : Option Addr} {L : List Hop} (hR : RowsAt 43 w p (hopR L)) {j : Nat} {h : Hop} (hj : L[j]? = some h) (ho : HopOk h) :
    ∃ g o, p = some ⟨g, o, none⟩ ∧ g < w.heap.size ∧ (loadRow 84 (.pointer (some ⟨g, o + j * 43, none⟩))).run Tryz.prog w = .ok (.agg (hopA h.k h.c)) w :=
  hR.load Tryz.underlying84 rfl (by kernel_rfl) (hopR_get hj) (hopA_size ho.k ho.i)
set_option maxHeartbeats 2000000 in
set_option maxRecDepth 100000 in
theorem hops_c (L : List Hop) (p : Option Addr) (n cap : Nat) (hok : ∀ h ∈ L, HopOk h) (hn : n = L.length) (h20 : n ≤ 20) (w : World) (hR : RowsAt 43 w p (hopR L)) :
    Calls Tryz.prog 12 #[.slice p n cap] w fun e w' => ∃ v, e = .returned v ∧ OwnR w' w.heap.size 77 43 v (hopR L) ∧ Below w.heap.size w w' := by
  have HR := Lib.hid hR
  have Hn := Lib.hid (And.intro hn h20)
  have Hok := Lib.hid hok
  have i20 : ¬ (20 : Int) < (n : Int) := by omega
  clear hR hn h20 hok
  go_enter Tryz.func12, Tryz.ntmps12
  go_wp2_with fail
  go_loopw [3, 8] (fun f i wr => ∃ (v : Value) (k : Nat), v = f ∧ k ≤ n ∧ i = .int .i64 k ∧ OwnR wr w.heap.size 77 43 v (hopR (L.take k)) ∧ Below w.heap.size w wr) (fun _ i _ => n - (intOf i).toNat)
  case atStart => exact ⟨_, 0, rfl, Nat.zero_le _, rfl, OwnR.nil _ _ _ _, Below.refl _ _⟩
  case round =>
    obtain ⟨v, k, rfl, hk, rfl, hown, hbel⟩ := hrel
    by_cases hkn : k < n
    · have hk1 : (k : Int) < (n : Int) := by omega
      obtain ⟨h, hj⟩ : ∃ h, L[k]? = some h := ⟨_, List.getElem?_eq_getElem (by rw [← Hn.out.1]; exact hkn)⟩
      have ho := Hok.out h (List.mem_of_getElem? hj)
      obtain ⟨g, o, ep, hg, hld⟩ := loadRHop (HR.out.grow hbel) hj ho
      subst ep
      have hks := ho.k
      have his := ho.i
      have hsz := hopA_size hks his
      have hkey := bysA_size' hks
      have hcs := cmdA_size his
      have KT := Lib.hid (fun (W : World) => theirs_c h.c his W)
      have hbh := fun W => run_bldHop hks his W
      have hbs := fun W => run_bldHs1 hks his W
      have Ht := Lib.hid (show L.take (k + 1) = L.take k ++ [h] by rw [List.take_add_one, hj]; rfl)
      have Ho := Lib.hid ho
      have Hlen := Lib.hid (show (L.take k).length ≤ 1000 by rw [List.length_take]; have := Hn.out.2; omega)
      have Hown := Lib.hid hown
      have Hbel := Lib.hid hbel
      clear hown hbel hj ho
      go_wp2_with fail
      have m0_hb : v.ownBlock ≠ some wr.heap.size := fun e => by have := (Hown.out.ltb _ e).2; omega
      have l_hb : w.heap.size ≤ wr.heap.size := Hbel.out.size
      have hb11 := below_alloc (Below.refl wr.heap.size wr) (.cells (hopA h.k h.c) 84)
      have N11 := Lib.hid (RowAt.of (block_new wr (.cells (hopA h.k h.c) 84)))
      have O11x0 := Lib.hid (Hown.out.grow hb11)
      clear Hown
      have B11 := Lib.hid (Hbel.out.trans (hb11.mono Hbel.out.size))
      clear hb11 Hbel hld hg
      generalize wr.heap.size = hb at *
      generalize wr.alloc (.cells (hopA h.k h.c) 84) = W11 at *
      obtain ⟨N11a, N11b, N11c⟩ := N11.out
      refine wp_region_pick W11 [0, 1, 2, 3, 4, 5, 6] [true, false, false, false, false, false, false] [] [] 7 (by kernel_rfl) rfl (by kernel_rfl) (by intro c a d v w h; cases d <;> exact h) (by first | exact (Below.refl _ _).drew | exact Below.refl _ _) ?_
      simp only [pick, List.getElem?_cons_succ, List.getElem?_cons_zero, List.drop_succ_cons, List.drop_zero]
      refine wpHoldF_late (wanted_none rfl) (fun w => by go_simp; rfl) ?_
      refine wpHoldF_val (wanted_none rfl) (by intro K o d hK; go_simp; exact hK _ (Below.refl _ _)) ?_
      refine wpHoldF_val (wanted_none rfl) (by intro K o d hK; go_simp; exact hK _ (Below.refl _ _)) ?_
      refine wpHoldF_val (wanted_none rfl) (by intro K o d hK; go_simp; exact hK _ (Below.refl _ _)) ?_
      refine wpHoldF_val (wanted_none rfl) (by intro K o d hK; go_simp; exact hK _ (Below.refl _ _)) ?_
      refine wpHoldF_call (v := .agg (cmdA h.c)) (wanted_none rfl) (by intro K o d hK; go_simp; refine (KT.out _).mono ?_; rintro e w' ⟨rfl, hbw⟩; exact ⟨_, rfl, hK _ hbw⟩) ?_
      refine wpHoldF_val (wanted_none rfl) (by intro K o d hK; go_simp; exact hK _ (Below.refl _ _)) ?_
      refine wpHoldF_nil ?_
      intro W12 hb12 hblk
      clear hblk
      clear N11a N11b N11c
      have O12x0 := Lib.hid (O11x0.out.grow hb12)
      clear O11x0
      have R12x0 := Lib.hid (N11.out.grow hb12)
      have B12 := Lib.hid (B11.out.trans (hb12.mono B11.out.size))
      clear hb12 B11 N11
      have hb13 := below_alloc (Below.refl W12.heap.size W12) (.cells (hopA h.k h.c) 77)
      have O13x0 := Lib.hid (O12x0.out.grow hb13)
      have n_hb_tb : hb ≠ W12.heap.size := Nat.ne_of_lt R12x0.out.2.2
      have R13x0 := Lib.hid (R12x0.out.grow hb13)
      have m0_tb : v.ownBlock ≠ some W12.heap.size := fun e => by have := (O12x0.out.ltb _ e).2; omega
      have R13n := Lib.hid (RowAt.of (block_new W12 (.cells (hopA h.k h.c) 77)))
      have l_tb : w.heap.size ≤ W12.heap.size := B12.out.size
      have B13 := Lib.hid (B12.out.trans (hb13.mono B12.out.size))
      clear hb13
      obtain ⟨tb, etb⟩ : ∃ z, z = W12.heap.size := ⟨_, rfl⟩
      obtain ⟨W13, eW13⟩ : ∃ z, z = W12.alloc (.cells (hopA h.k h.c) 77) := ⟨_, rfl⟩
      rw [← etb] at R13n l_tb n_hb_tb m0_tb
      rw [← eW13] at R13x0 R13n O13x0 B13
      have hW13 := eW13.symm
      have htb := etb.symm
      clear eW13 etb
      obtain ⟨v2, W14, hr14, ho14, hg14, hn14⟩ := app_hop O13x0.out (range_of_row R13n.out) Ho.out B13.out.size Hlen.out
      have P14 := Lib.hid ho14
      have A14 := Lib.hid (own_belowR B13.out O13x0.out B13.out.size hg14)
      have N14 := Lib.hid hn14
      have Q14x0 := Lib.hid (rowAt_grown R13x0.out hg14 m0_hb)
      have Q14x1 := Lib.hid (rowAt_grown R13n.out hg14 m0_tb)
      have G14 := Lib.hid hg14.size
      clear ho14 hg14 hn14
      go_wp2_with (at_builtin; refine Lib.wpList_append_run _ rfl _ _ _ _ rfl _ _ rfl rfl _ _ hr14 ?_)
      go_roundw
      case rel => exact ⟨v2, k + 1, rfl, by omega, by go_num, by rw [Ht.out]; exact P14.out, A14.out⟩
      case measure => simp [intOf]; omega
    · obtain rfl : k = n := by omega
      rw [List.take_of_length_le (by rw [← Hn.out.1]; exact Nat.le_refl _)] at hown
      have Hown := Lib.hid hown
      have Hbel := Lib.hid hbel
      clear hbel hown
      go_wp2_with fail
      go_ret
      exact ⟨v, rfl, Hown.out, Hbel.out⟩
end Go.Proofs.YtddmjddlbhdcpaaGreatDoor

/-
  From a walk to the given row: commands, and 16 bytes, that came in.
-/
namespace Go.Proofs.YtddmjddlbhdcpaaGreatDoor
open Go.ChangeShapes Go.WideShapes Go.ChangeAt Go.RowKit Go.Sh Go.Cm

set_option maxRecDepth 100000 in
theorem cmd_of_trod {H : Type} {enc : TypeId × Value → H} {w : World} {base : Nat} {spare : Nat → Bool} {held : Bool} {fuel : Nat} {cs : List Value} {x : DataW H × List MemPlace}
    (hf : DataW.trod enc Tryz.prog w base spare held fuel 57 cs = some x) : ∃ c : Cmd, cs = (cmdA c).toList ∧ c.id.length = 8 ∧ ∀ i, c.id.getD i 0 < 256 := by
  have hc3 : Tryz.prog.cellsOf 3 = 1 := by kernel_rfl
  have hc8 : Tryz.prog.cellsOf 48 = 8 := by kernel_rfl
  have hca : Tryz.prog.cellsOf 57 = 11 := by kernel_rfl
  obtain ⟨xs, n, _, _, hl, hxl, hx⟩ := DataW.trod_struct Tryz.underlying57 hf
  rw [hca] at hl
  have hxl4 : xs.length = 4 := by rw [hxl]; rfl
  have h0 : DataW.trod enc Tryz.prog w base spare held n 3 ((cs.drop 0).take (Tryz.prog.cellsOf 3)) = xs[0]? := hx 0 _ rfl
  have h1 : DataW.trod enc Tryz.prog w base spare held n 3 ((cs.drop 1).take (Tryz.prog.cellsOf 3)) = xs[1]? := hx 1 _ rfl
  have h2 : DataW.trod enc Tryz.prog w base spare held n 3 ((cs.drop 2).take (Tryz.prog.cellsOf 3)) = xs[2]? := hx 2 _ rfl
  have h3 : DataW.trod enc Tryz.prog w base spare held n 48 ((cs.drop 3).take (Tryz.prog.cellsOf 48)) = xs[3]? := hx 3 _ rfl
  rw [hc3] at h0 h1 h2
  rw [hc8] at h3
  rw [List.getElem?_eq_getElem (by omega)] at h0 h1 h2 h3
  obtain ⟨a0, e0, _, _⟩ := DataW.trod_int Tryz.underlying3 h0
  obtain ⟨a1, e1, _, _⟩ := DataW.trod_int Tryz.underlying3 h1
  obtain ⟨a2, e2, _, _⟩ := DataW.trod_int Tryz.underlying3 h2
  obtain ⟨id, e3, hid, hidb⟩ := arr_of_trod Tryz.underlying48 hc8 h3
  refine ⟨⟨a0, a1, a2, id⟩, ?_, hid, hidb⟩
  show cs = ([.int .i64 a0, .int .i64 a1, .int .i64 a2] : List Value) ++ bys id
  rw [← e3]
  match cs, hl, e0, e1, e2 with
  | c0 :: c1 :: c2 :: r, hl, e0, e1, e2 =>
    simp at e0 e1 e2 hl
    rw [e0, e1, e2]
    simp [List.take_of_length_le (show r.length ≤ 8 by omega)]
end Go.Proofs.YtddmjddlbhdcpaaGreatDoor

/-
  From a walk to the given row: slices of rows that came in: hops, keys, commands.
-/
namespace Go.Proofs.YtddmjddlbhdcpaaGreatDoor
open Go.ChangeShapes Go.WideShapes Go.ChangeAt Go.RowKit Go.Sh Go.Cm Go.Hd

theorem list_of {α : Type} {f : α → Array Value} {Q : α → Prop} : ∀ {ls : List (Array Value)}, (∀ c ∈ ls, ∃ x, c = f x ∧ Q x) → ∃ L : List α, ls = L.map f ∧ ∀ x ∈ L, Q x
  | [], _ => ⟨[], rfl, fun x hx => by simp at hx⟩
  | c :: ls, h => by
    obtain ⟨x, rfl, hq⟩ := h c (by simp)
    obtain ⟨L, rfl, hL⟩ := list_of (ls := ls) fun d hd => h d (by simp [hd])
    refine ⟨x :: L, rfl, fun y hy => ?_⟩
    rcases List.mem_cons.1 hy with rfl | hy
    · exact hq
    · exact hL y hy
set_option maxRecDepth 100000 in
theorem open_rowsR {H : Type} {enc : TypeId × Value → H} {w : World} {r : Reach} {b0 base : Nat} {spare : Nat → Bool} {held : Bool} {v : Value} {d : DataW H} {p : List MemPlace} {t e : TypeId} {C : Nat} {Q : Array Value → Prop}
    (ht : Tryz.prog.underlying t = some (.slice e)) (hce : Tryz.prog.cellsOf e = C) (hC : 0 < C)
    (hof : ∀ (fuel : Nat) (cs : List Value) (x : DataW H × List MemPlace), DataW.trod enc Tryz.prog w base spare held fuel e cs = some x → ∃ c : Array Value, cs = c.toList ∧ Q c ∧ c.size = C ∧ ∃ k z, c[0]? = some (.int k z))
    (hv : Value.okWide Tryz.prog w r b0 t v) (h : DataW.Trod enc Tryz.prog w base spare held t v d p) :
    ∃ (pt : Option Addr) (ls : List (Array Value)) (cap : Nat), v = .slice pt ls.length cap ∧ RowsAt C w pt ls ∧ ∀ c ∈ ls, Q c := by
  obtain ⟨a, len, cap, rfl⟩ := okWide_slice ht hv
  obtain ⟨fuel, hf⟩ := h
  rcases DataW.trod_slice ht hf with ⟨h0, _⟩ | ⟨a', len', cap', elems, rest, n, _, hcs, _, _, _, _, hlen, hel, _⟩
  · have h1 : Value.slice a len cap = .slice none 0 0 := by simpa [Value.cells] using h0
    cases h1
    exact ⟨none, [], 0, rfl, fun i x hx => by simp at hx, fun c hc => by simp at hc⟩
  · have h1 : Value.slice a len cap = .slice (some a') len' cap' := by simpa [Value.cells] using hcs
    cases h1
    have each : ∀ i, i < len → ∃ x : Array Value, Q x ∧ x.size = C ∧ (∃ k z, x[0]? = some (.int k z)) ∧ ∀ j, j < C → w.cell? ((a'.add (i * C)).add j) = x[j]? := fun i hi => by
      have h2 := hel i hi
      rw [List.getElem?_eq_getElem (show i < elems.length by omega), hce, Option.bind_eq_some_iff] at h2
      obtain ⟨cs, h3, h4⟩ := h2
      obtain ⟨x, rfl, hq, hs, hz⟩ := hof _ _ _ h4
      refine ⟨x, hq, hs, hz, fun j hj => ?_⟩
      rw [(World.cells?_some h3).2.2 j hj, Array.getElem?_toList]
    have hch : ∃ f : Nat → Array Value, ∀ i, i < len → Q (f i) ∧ (f i).size = C ∧ (∃ k z, (f i)[0]? = some (.int k z)) ∧ ∀ j, j < C → w.cell? ((a'.add (i * C)).add j) = (f i)[j]? :=
      ⟨fun i => if h : i < len then Classical.choose (each i h) else #[], fun i hi => by simp only [hi, dif_pos]; exact Classical.choose_spec (each i hi)⟩
    obtain ⟨f, hf'⟩ := hch
    have hat : ∀ {i : Nat} {x : Array Value}, ((List.range len).map f)[i]? = some x → i < len ∧ f i = x := fun {i x} hx => by
      have hi : i < len := by
        have := (List.getElem?_eq_some_iff.1 hx).1
        simpa using this
      have : ((List.range len).map f)[i]? = some (f i) := by simp [hi]
      rw [hx] at this
      exact ⟨hi, (Option.some.inj this).symm⟩
    refine ⟨some a', (List.range len).map f, cap, by simp, fun i x hx => ?_, fun c hc => ?_⟩
    · obtain ⟨hi, rfl⟩ := hat hx
      obtain ⟨k0, z0, hz0⟩ := (hf' 0 (by omega)).2.2.1
      have h00 : w.cell? a' = some (.int k0 z0) := by
        have := (hf' 0 (by omega)).2.2.2 0 hC
        rw [hz0] at this
        simpa [Addr.add] using this
      obtain ⟨g, o, sp⟩ := a'
      have hsp : sp = none := by
        cases sp with
        | none => rfl
        | some k =>
          exfalso
          unfold World.cell? at h00
          split at h00
          · simp at h00
          · cases h00
      subst hsp
      refine ⟨g, o, rfl, World.block_lt_of_cell? w _ h00, fun j v hv => ?_⟩
      have hj : j < C := by
        have := (List.getElem?_eq_some_iff.1 hv).1
        simpa [(hf' i hi).2.1] using this
      have h5 := (hf' i hi).2.2.2 j hj
      rw [Addr.add_mid, Addr.add_mid] at h5
      rw [h5]
      simpa using hv
    · obtain ⟨i, hi, rfl⟩ := List.mem_map.1 hc
      exact (hf' i (List.mem_range.1 hi)).1
theorem bysA_first {l : List Nat} (h : 0 < l.length) : ∃ k z, (bysA l)[0]? = some (.int k z) := by
  cases l with
  | nil => simp at h
  | cons a l => exact ⟨.u8, (a : Int), rfl⟩
set_option maxRecDepth 100000 in
theorem hop_of_trod {H : Type} {enc : TypeId × Value → H} {w : World} {base : Nat} {spare : Nat → Bool} {held : Bool} {fuel : Nat} {cs : List Value} {x : DataW H × List MemPlace}
    (hf : DataW.trod enc Tryz.prog w base spare held fuel 84 cs = some x) : ∃ h : Hop, cs = (hopA h.k h.c).toList ∧ HopOk h := by
  have hc0 : Tryz.prog.cellsOf 23 = 32 := by kernel_rfl
  have hc1 : Tryz.prog.cellsOf 57 = 11 := by kernel_rfl
  have hca : Tryz.prog.cellsOf 84 = 43 := by kernel_rfl
  obtain ⟨xs, n, _, _, hl, hxl, hx⟩ := DataW.trod_struct Tryz.underlying84 hf
  rw [hca] at hl
  have hxl2 : xs.length = 2 := by rw [hxl]; rfl
  have h0 : DataW.trod enc Tryz.prog w base spare held n 23 ((cs.drop 0).take (Tryz.prog.cellsOf 23)) = xs[0]? := hx 0 _ rfl
  have h1 : DataW.trod enc Tryz.prog w base spare held n 57 ((cs.drop 32).take (Tryz.prog.cellsOf 57)) = xs[1]? := hx 1 _ rfl
  rw [hc0] at h0
  rw [hc1] at h1
  rw [List.getElem?_eq_getElem (by omega)] at h0 h1
  obtain ⟨a, e0, ha, hab⟩ := arr_of_trod Tryz.underlying23 hc0 h0
  obtain ⟨c, e1, hc, hcb⟩ := cmd_of_trod h1
  refine ⟨⟨a, c⟩, ?_, ha, hab, hc, hcb⟩
  show cs = (bysA a ++ cmdA c).toList
  rw [Array.toList_append, ← e1, List.take_of_length_le (l := cs.drop 32) (by rw [List.length_drop, hl]; decide)]
  show cs = bys a ++ cs.drop 32
  rw [← e0, List.drop_zero, List.take_append_drop]
theorem hopA_first {h : Hop} (ho : HopOk h) : ∃ k z, (hopA h.k h.c)[0]? = some (.int k z) := by
  obtain ⟨k, z, e⟩ := bysA_first (l := h.k) (by rw [ho.k]; decide)
  refine ⟨k, z, ?_⟩
  unfold hopA
  rw [Array.getElem?_append_left (by rw [bysA_size, ho.k]; decide)]
  exact e
set_option maxRecDepth 100000 in
theorem open_hops {H : Type} {enc : TypeId × Value → H} {w : World} {r : Reach} {b0 base : Nat} {spare : Nat → Bool} {held : Bool} {v : Value} {d : DataW H} {p : List MemPlace}
    (hv : Value.okWide Tryz.prog w r b0 24 v) (h : DataW.Trod enc Tryz.prog w base spare held 24 v d p) :
    ∃ (pt : Option Addr) (L : List Hop) (cap : Nat), v = .slice pt L.length cap ∧ RowsAt 43 w pt (hopR L) ∧ ∀ h ∈ L, HopOk h := by
  obtain ⟨pt, ls, cap, rfl, hR, hQ⟩ := open_rowsR (Q := fun c => ∃ h : Hop, c = hopA h.k h.c ∧ HopOk h) Tryz.underlying24 (by kernel_rfl) (by decide : 0 < 43)
    (fun fuel cs x hx => by
      obtain ⟨h, rfl, ho⟩ := hop_of_trod hx
      exact ⟨_, rfl, ⟨h, rfl, ho⟩, hopA_size ho.k ho.i, hopA_first ho⟩) hv h
  obtain ⟨L, rfl, hL⟩ := list_of hQ
  exact ⟨pt, L, cap, by rw [List.length_map], hR, hL⟩
set_option maxRecDepth 100000 in
theorem open_keysB {H : Type} {enc : TypeId × Value → H} {w : World} {r : Reach} {b0 base : Nat} {spare : Nat → Bool} {held : Bool} {v : Value} {d : DataW H} {p : List MemPlace}
    (hv : Value.okWide Tryz.prog w r b0 32 v) (h : DataW.Trod enc Tryz.prog w base spare held 32 v d p) :
    ∃ (pt : Option Addr) (L : List (List Nat)) (cap : Nat), v = .slice pt L.length cap ∧ RowsAt 32 w pt (L.map bysA) ∧ ∀ k ∈ L, k.length = 32 ∧ ∀ i, k.getD i 0 < 256 := by
  have hc0 : Tryz.prog.cellsOf 23 = 32 := by kernel_rfl
  obtain ⟨pt, ls, cap, rfl, hR, hQ⟩ := open_rowsR (Q := fun c => ∃ k : List Nat, c = bysA k ∧ (k.length = 32 ∧ ∀ i, k.getD i 0 < 256)) Tryz.underlying32 hc0 (by decide : 0 < 32)
    (fun fuel cs x hx => by
      obtain ⟨k, rfl, hk, hkb⟩ := arr_of_trod Tryz.underlying23 hc0 hx
      exact ⟨bysA k, rfl, ⟨k, rfl, hk, hkb⟩, by rw [bysA_size, hk], bysA_first (by rw [hk]; decide)⟩) hv h
  obtain ⟨L, rfl, hL⟩ := list_of hQ
  exact ⟨pt, L, cap, by rw [List.length_map], hR, hL⟩
set_option maxRecDepth 100000 in
theorem open_cmdsB {H : Type} {enc : TypeId × Value → H} {w : World} {r : Reach} {b0 base : Nat} {spare : Nat → Bool} {held : Bool} {v : Value} {d : DataW H} {p : List MemPlace}
    (hv : Value.okWide Tryz.prog w r b0 73 v) (h : DataW.Trod enc Tryz.prog w base spare held 73 v d p) :
    ∃ (pt : Option Addr) (L : List Cmd) (cap : Nat), v = .slice pt L.length cap ∧ RowsAt 11 w pt (L.map cmdA) ∧ ∀ c ∈ L, c.id.length = 8 ∧ ∀ i, c.id.getD i 0 < 256 := by
  obtain ⟨pt, ls, cap, rfl, hR, hQ⟩ := open_rowsR (Q := fun c => ∃ k : Cmd, c = cmdA k ∧ (k.id.length = 8 ∧ ∀ i, k.id.getD i 0 < 256)) Tryz.underlying73 (by kernel_rfl) (by decide : 0 < 11)
    (fun fuel cs x hx => by
      obtain ⟨k, rfl, hk, hkb⟩ := cmd_of_trod hx
      exact ⟨cmdA k, rfl, ⟨k, rfl, hk, hkb⟩, cmdA_size hk, .i64, k.k, rfl⟩) hv h
  obtain ⟨L, rfl, hL⟩ := list_of hQ
  exact ⟨pt, L, cap, by rw [List.length_map], hR, hL⟩
end Go.Proofs.YtddmjddlbhdcpaaGreatDoor

/-
  A header that was built gives each hop its command, and the secret that the builder knows.
-/
namespace Go.Proofs.YtddmjddlbhdcpaaGreatDoor
open Go.RowKit Go.Hold Go.Sh Go.Ch Go.Cm Go.Hd

theorem rows_some {C j : Nat} {w : World} {p : Option Addr} {ls : List (Array Value)} {x : Array Value} (hR : RowsAt C w p ls) (hj : ls[j]? = some x) : ∃ g o, p = some ⟨g, o, none⟩ := by
  obtain ⟨g, o, e, _⟩ := hR j x hj
  exact ⟨g, o, e⟩
theorem keys_get {os : List (List Nat)} {j : Nat} {x : List Nat} (hj : os[j]? = some x) : (os.map bysA)[j]? = some (bysA x) := by rw [List.getElem?_map, hj]; rfl
theorem cmds_get {cs : List Cmd} {j : Nat} {x : Cmd} (hj : cs[j]? = some x) : (cs.map cmdA)[j]? = some (cmdA x) := by rw [List.getElem?_map, hj]; rfl
theorem keyAt10 {w : World} {g o j : Nat} {os : List (List Nat)} {x : List Nat} (hR : RowsAt 32 w (some ⟨g, o, none⟩) (os.map bysA)) (hj : os[j]? = some x) (hx : x.length = 32) : (loadRow 23 (.pointer (some ⟨g, o + j * 32, none⟩))).run Tryz.prog w = .ok (.agg (bysA x)) w := by
  obtain ⟨g', o', e, _, hl⟩ := hR.load Tryz.underlying23 rfl (by kernel_rfl) (keys_get hj) (by rw [bysA_size, hx])
  cases e
  exact hl
theorem loadRCmdAt {w : World} {g o j : Nat} {cs : List Cmd} {c : Cmd} (hR : RowsAt 11 w (some ⟨g, o, none⟩) (cs.map cmdA)) (hj : cs[j]? = some c) (hc : c.id.length = 8) : (loadRow 57 (.pointer (some ⟨g, o + j * 11, none⟩))).run Tryz.prog w = .ok (.agg (cmdA c)) w := by
  obtain ⟨g', o', e, _, hl⟩ := hR.load Tryz.underlying57 rfl (by kernel_rfl) (cmds_get hj) (cmdA_size hc)
  cases e
  exact hl
theorem own_key {w : World} {B gs n cp j : Nat} {ss : List (List Nat)} {s : List Nat} (h : OwnR w B 23 32 (.slice (some ⟨gs, 0, none⟩) n cp) (ss.map bysA)) (hj : ss[j]? = some s) (hs : s.length = 32) : (loadRow 23 (.pointer (some ⟨gs, j * 32, none⟩))).run Tryz.prog w = .ok (.agg (bysA s)) w := by
  have := keyAt10 h.rows hj hs
  rwa [Nat.zero_add] at this
theorem own_cmd {w : World} {B gs n cp j : Nat} {L : List Hop} {h1 : Hop} (h : OwnR w B 77 43 (.slice (some ⟨gs, 0, none⟩) n cp) (hopR L)) (hj : L[j]? = some h1) (ho : HopOk h1) : (loadRow 51 (.pointer (some ⟨gs, j * 43 + 32, none⟩))).run Tryz.prog w = .ok (.agg (cmdA h1.c)) w := by
  obtain ⟨g', o', e, _, hl⟩ := loadHopCmd h.rows hj ho
  cases e
  simpa using hl
theorem drop_get {α : Type} {l : List α} {k : Nat} {a : α} (h : l[k]? = some a) : l.drop k = a :: l.drop (k + 1) := by
  obtain ⟨hk, rfl⟩ := List.getElem?_eq_some_iff.1 h
  exact List.drop_eq_getElem_cons hk
theorem take_get {α : Type} {l : List α} {k : Nat} {a : α} (h : l[k]? = some a) : l.take (k + 1) = l.take k ++ [a] := by rw [List.take_add_one, h]; rfl
theorem hopsOf_get {os : List (List Nat)} {cs : List Cmd} {k : Nat} {o : List Nat} {c : Cmd} (ho : os[k]? = some o) (hc : cs[k]? = some c) : (hopsOf os cs)[k]? = some ⟨puB o, c⟩ := by
  unfold hopsOf
  rw [List.getElem?_map, (List.getElem?_zip_eq_some (z := (o, c))).2 ⟨ho, hc⟩]; rfl
theorem hopsOf_len {os : List (List Nat)} {cs : List Cmd} (h : cs.length = os.length) : (hopsOf os cs).length = os.length := by unfold hopsOf; rw [List.length_map, List.length_zip, h, Nat.min_self]
theorem hopsOf_ok {os : List (List Nat)} {cs : List Cmd} (hi : ∀ c ∈ cs, c.id.length = 8) (hib : ∀ c ∈ cs, ∀ i, c.id.getD i 0 < 256) : ∀ h ∈ hopsOf os cs, HopOk h := fun h hh => by
  obtain ⟨p, hp, rfl⟩ := List.mem_map.1 hh
  have := (List.of_mem_zip hp).2
  exact ⟨puB_length _, puB_bts _, hi _ this, hib _ this⟩
set_option maxHeartbeats 12000000 in
set_option maxRecDepth 100000 in
theorem route_any (x : List Nat) (os : List (List Nat)) (cs : List Cmd) (po pc : Option Addr) (no co nc cc : Nat) (hx : x.length = 32) (hxb : ∀ i, x.getD i 0 < 256) (ho : ∀ o ∈ os, o.length = 32) (hob : ∀ o ∈ os, ∀ i, o.getD i 0 < 256) (hi : ∀ c ∈ cs, c.id.length = 8) (hib : ∀ c ∈ cs, ∀ i, c.id.getD i 0 < 256) (hno : no = os.length) (hnc : nc = cs.length) (w : World) (hT : Tabs w) (hO : RowsAt 32 w po (os.map bysA)) (hC : RowsAt 11 w pc (cs.map cmdA)) :
    Calls Tryz.prog 6 #[.agg (bysA x), .slice po no co, .slice pc nc cc] w fun e w' => e = .returned (.bool true) ∧ Below w.heap.size w w' := by
  have HT := Lib.hid hT
  have HO := Lib.hid (fun (W : World) (hb : Below w.heap.size w W) => hO.grow hb)
  have HC := Lib.hid (fun (W : World) (hb : Below w.heap.size w W) => hC.grow hb)
  have hxs := bysA_size' hx
  have Hx := Lib.hid (And.intro hx hxb)
  have Ho := Lib.hid (And.intro ho hob)
  have Hi := Lib.hid (And.intro hi hib)
  have Hno := Lib.hid hno
  have Hnc := Lib.hid hnc
  have hz208 := bysA_size' (zs_length 208)
  clear hT hO hC hx hxb ho hob hi hib hno hnc
  by_cases h5 : 5 < no
  · have i5 : (5 : Int) < (no : Int) := by omega
    clear h5
    go_enter Tryz.func6, Tryz.ntmps6
    go_wp2_with fail
    generalize hW : World.alloc _ _ = W0
    have R0x0 := Lib.hid (show RowAt W0 (w.heap.size) (bysA x) by rw [← hW]; clear hW; exact ⟨by go_simp, by first | (go_simp; done) | (go_simp; rfl), by go_simp⟩)
    have B0 := Lib.hid (show Below w.heap.size w W0 by rw [← hW]; repeat (first | apply below_alloc | exact Below.refl _ _))
    clear hW
    have l_xb : w.heap.size ≤ w.heap.size := by omega
    obtain ⟨xb, exb⟩ : ∃ z, z = w.heap.size := ⟨_, rfl⟩
    rw [← exb] at R0x0  ⊢
    have l_xb : w.heap.size ≤ xb := by rw [exb]; exact Nat.le_refl _
    clear exb
    refine (alive10_c W0 (HT.out.grow B0.out)).mono ?_
    rintro e W1 ⟨rfl, hb1⟩
    have R1x0 := Lib.hid (R0x0.out.grow hb1)
    have B1 := Lib.hid (B0.out.trans (hb1.mono B0.out.size))
    clear hb1 B0 R0x0
    obtain ⟨R1x0a, R1x0b, R1x0c⟩ := R1x0.out
    go_wp2_with fail
    go_ret
    exact ⟨rfl, by first | exact below_alloc B1.out _ | exact B1.out | exact below_alloc (below_alloc B1.out _) _⟩
  have i5 : ¬ (5 : Int) < (no : Int) := by omega
  by_cases hne : no = nc
  · subst hne
    go_enter Tryz.func6, Tryz.ntmps6
    go_wp2_with fail
    generalize hW : World.alloc _ _ = W0
    have R0x0 := Lib.hid (show RowAt W0 (w.heap.size) (bysA x) by rw [← hW]; clear hW; exact ⟨by go_simp, by first | (go_simp; done) | (go_simp; rfl), by go_simp⟩)
    have B0 := Lib.hid (show Below w.heap.size w W0 by rw [← hW]; repeat (first | apply below_alloc | exact Below.refl _ _))
    clear hW
    have l_xb : w.heap.size ≤ w.heap.size := by omega
    obtain ⟨xb, exb⟩ : ∃ z, z = w.heap.size := ⟨_, rfl⟩
    rw [← exb] at R0x0  ⊢
    have l_xb : w.heap.size ≤ xb := by rw [exb]; exact Nat.le_refl _
    clear exb
    refine (alive10_c W0 (HT.out.grow B0.out)).mono ?_
    rintro e W1 ⟨rfl, hb1⟩
    have R1x0 := Lib.hid (R0x0.out.grow hb1)
    have B1 := Lib.hid (B0.out.trans (hb1.mono B0.out.size))
    clear hb1 B0 R0x0
    obtain ⟨R1x0a, R1x0b, R1x0c⟩ := R1x0.out
    go_wp2_with fail
    clear R1x0a R1x0b R1x0c
    go_loopw [7, 31] (fun f i wr => ∃ (v : Value) (k : Nat), v = f ∧ k ≤ no ∧ i = .int .i64 k ∧ OwnR wr W1.heap.size 77 43 v (hopR ((hopsOf os cs).take k)) ∧ Below W1.heap.size W1 wr) (fun _ i _ => no - (intOf i).toNat)
    case atStart => exact ⟨_, 0, rfl, Nat.zero_le _, rfl, OwnR.nil _ _ _ _, Below.refl _ _⟩
    case round =>
      obtain ⟨v, k, rfl, hk, rfl, hown, hbel⟩ := hrel
      have hbw := B1.out.trans (hbel.mono B1.out.size)
      by_cases hkn : k < no
      · have hk1 : (k : Int) < (no : Int) := by omega
        obtain ⟨o1, hoj⟩ : ∃ h, os[k]? = some h := ⟨_, List.getElem?_eq_getElem (by rw [← Hno.out]; exact hkn)⟩
        obtain ⟨c1, hcj⟩ : ∃ h, cs[k]? = some h := ⟨_, List.getElem?_eq_getElem (by rw [← Hnc.out]; exact hkn)⟩
        obtain ⟨h, hj, ek, ec⟩ : ∃ h : Hop, (hopsOf os cs)[k]? = some h ∧ h.k = puB o1 ∧ h.c = c1 := ⟨_, hopsOf_get hoj hcj, rfl, rfl⟩
        subst ec
        have hhk := hopsOf_ok Hi.out.1 Hi.out.2 h (List.mem_of_getElem? hj)
        obtain ⟨g, o, ep⟩ := rows_some (HO.out _ hbw) (keys_get hoj)
        obtain ⟨g2, o2, ep2⟩ := rows_some (HC.out _ hbw) (cmds_get hcj)
        subst ep
        subst ep2
        have h32 := Ho.out.1 o1 (List.mem_of_getElem? hoj)
        have hld := keyAt10 (HO.out _ hbw) hoj h32
        have HLC := Lib.hid (fun (W : World) (hb : Below w.heap.size w W) => loadRCmdAt (HC.out W hb) hcj hhk.i)
        have KP := Lib.hid (fun (W : World) => bpublic_c o1 h32 (Ho.out.2 o1 (List.mem_of_getElem? hoj)) W)
        rw [← ek] at KP
        have hos := bysA_size' h32
        have hks := hhk.k
        have his := hhk.i
        have hsz := hopA_size hks his
        have hkey := bysA_size' hks
        have hcs := cmdA_size his
        have KT := Lib.hid (fun (W : World) => theirs_c h.c his W)
        have hbh := fun W => run_bldHop hks his W
        have hbs := fun W => run_bldHs1 hks his W
        have Ht := Lib.hid (take_get hj)
        have Hh := Lib.hid hhk
        have Hlen := Lib.hid (show ((hopsOf os cs).take k).length ≤ 1000 by rw [List.length_take]; omega)
        have Hown := Lib.hid hown
        have Hbel := Lib.hid hbel
        clear hown hbel hj hhk hoj hcj ek hbw h32 R1x0 i5
        go_wp2_with fail
        have m0_hb : v.ownBlock ≠ some wr.heap.size := fun e => by have := (Hown.out.ltb _ e).2; omega
        have l_hb : W1.heap.size ≤ wr.heap.size := Hbel.out.size
        have hb31 := below_alloc (Below.refl wr.heap.size wr) (.cells (bysA o1) 23)
        have N31 := Lib.hid (RowAt.of (block_new wr (.cells (bysA o1) 23)))
        have O31x0 := Lib.hid (Hown.out.grow hb31)
        clear Hown
        have B31 := Lib.hid (Hbel.out.trans (hb31.mono Hbel.out.size))
        clear hb31 Hbel hld
        generalize wr.heap.size = hb at *
        generalize wr.alloc (.cells (bysA o1) 23) = W31 at *
        obtain ⟨N31a, N31b, N31c⟩ := N31.out
        have hlc : ∀ (o' : Array Obj) (d' : Nat), (loadRow 57 (.pointer (some ⟨g2, o2 + k * 11, none⟩))).run Tryz.prog (W31.plus o' d') = .ok (.agg (cmdA h.c)) (W31.plus o' d') := fun o' d' => HLC.out _ (B1.out.trans ((below_plus_of _ _ _ B31.out B31.out.size).mono B1.out.size))
        refine wp_region_pick W31 [0, 1, 2, 3, 4, 5, 6, 7, 8] [true, false, false, false, false, false, false, false, false] [] [] 9 (by kernel_rfl) rfl (by kernel_rfl) (by intro c a d v w h; cases d <;> exact h) (by first | exact (Below.refl _ _).drew | exact Below.refl _ _) ?_
        simp only [pick, List.getElem?_cons_succ, List.getElem?_cons_zero, List.drop_succ_cons, List.drop_zero]
        refine wpHoldF_late (wanted_none rfl) (fun w => by go_simp; rfl) ?_
        refine wpHoldF_val (wanted_none rfl) (by intro K o d hK; go_simp; exact hK _ (Below.refl _ _)) ?_
        refine wpHoldF_call (v := .agg (bysA h.k)) (wanted_none rfl) (by intro K o d hK; go_simp; refine (KP.out _).mono ?_; rintro e w' ⟨rfl, hbw⟩; exact ⟨_, rfl, hK _ hbw⟩) ?_
        refine wpHoldF_val (wanted_none rfl) (by intro K o d hK; go_simp; exact hK _ (Below.refl _ _)) ?_
        refine wpHoldF_val (wanted_none rfl) (by intro K o d hK; go_simp; exact hK _ (Below.refl _ _)) ?_
        refine wpHoldF_val (wanted_none rfl) (by intro K o d hK; go_simp; exact hK _ (Below.refl _ _)) ?_
        refine wpHoldF_val (wanted_none rfl) (by intro K o d hK; go_simp; exact hK _ (Below.refl _ _)) ?_
        refine wpHoldF_call (v := .agg (cmdA h.c)) (wanted_none rfl) (by intro K o d hK; go_simp; refine (KT.out _).mono ?_; rintro e w' ⟨rfl, hbw⟩; exact ⟨_, rfl, hK _ hbw⟩) ?_
        refine wpHoldF_val (wanted_none rfl) (by intro K o d hK; go_simp; exact hK _ (Below.refl _ _)) ?_
        refine wpHoldF_nil ?_
        intro W32 hb32 hblk
        clear hblk
        clear N31a N31b N31c hlc
        have O32x0 := Lib.hid (O31x0.out.grow hb32)
        clear O31x0
        have R32x0 := Lib.hid (N31.out.grow hb32)
        have B32 := Lib.hid (B31.out.trans (hb32.mono B31.out.size))
        clear hb32 B31 N31
        have hb33 := below_alloc (Below.refl W32.heap.size W32) (.cells (hopA h.k h.c) 77)
        have O33x0 := Lib.hid (O32x0.out.grow hb33)
        have n_hb_tb : hb ≠ W32.heap.size := Nat.ne_of_lt R32x0.out.2.2
        have R33x0 := Lib.hid (R32x0.out.grow hb33)
        have m0_tb : v.ownBlock ≠ some W32.heap.size := fun e => by have := (O32x0.out.ltb _ e).2; omega
        have R33n := Lib.hid (RowAt.of (block_new W32 (.cells (hopA h.k h.c) 77)))
        have l_tb : W1.heap.size ≤ W32.heap.size := B32.out.size
        have B33 := Lib.hid (B32.out.trans (hb33.mono B32.out.size))
        clear hb33
        obtain ⟨tb, etb⟩ : ∃ z, z = W32.heap.size := ⟨_, rfl⟩
        obtain ⟨W33, eW33⟩ : ∃ z, z = W32.alloc (.cells (hopA h.k h.c) 77) := ⟨_, rfl⟩
        rw [← etb] at R33n l_tb n_hb_tb m0_tb
        rw [← eW33] at R33x0 R33n O33x0 B33
        have hW33 := eW33.symm
        have htb := etb.symm
        clear eW33 etb
        obtain ⟨v2, W34, hr34, ho34, hg34, hn34⟩ := app_hop O33x0.out (range_of_row R33n.out) Hh.out B33.out.size Hlen.out
        have P34 := Lib.hid ho34
        have A34 := Lib.hid (own_belowR B33.out O33x0.out B33.out.size hg34)
        have N34 := Lib.hid hn34
        have Q34x0 := Lib.hid (rowAt_grown R33x0.out hg34 m0_hb)
        have Q34x1 := Lib.hid (rowAt_grown R33n.out hg34 m0_tb)
        have G34 := Lib.hid hg34.size
        clear ho34 hg34 hn34
        go_wp2_with (at_builtin; refine Lib.wpList_append_run _ rfl _ _ _ _ rfl _ _ rfl rfl _ _ hr34 ?_)
        go_roundw
        case rel => exact ⟨v2, k + 1, rfl, by omega, by go_num, by rw [Ht.out]; exact P34.out, A34.out⟩
        case measure => simp [intOf]; omega
      · obtain rfl : k = no := by omega
        have hlen := hopsOf_len (os := os) (cs := cs) (by rw [← Hnc.out, ← Hno.out])
        rw [List.take_of_length_le (by rw [hlen, ← Hno.out]; exact Nat.le_refl _)] at hown
        have hok := hopsOf_ok (os := os) Hi.out.1 Hi.out.2
        have HL := Lib.hid (fun (j : Nat) (o : List Nat) (c : Cmd) (h1 : os[j]? = some o) (h2 : cs[j]? = some c) => hopsOf_get h1 h2)
        have Hok := Lib.hid hok
        have hLn : k = (hopsOf os cs).length := by rw [hlen, ← Hno.out]
        have HLn := Lib.hid hLn
        have hRl : (hopR (hopsOf os cs)).length = k := by unfold hopR; rw [List.length_map, ← hLn]
        have m_xb : v.ownBlock ≠ some xb := fun e => by
          have h1 := (hown.ltb _ e).1
          have h2 := R1x0.out.2.2
          omega
        have Hxb := Lib.hid (R1x0.out.grow hbel)
        have Hbw := Lib.hid hbw
        obtain ⟨ph, ch, rfl, hro, hcl, hx1, hpa⟩ := OwnR.form hown
        rw [hRl] at hown m_xb hpa ⊢
        have Hown := Lib.hid hown
        have Hpa := Lib.hid hpa
        clear hown hpa hro hcl hx1 hbel hbw R1x0 B1 hk hkn i5
        by_cases hr : isRt (hopsOf os cs) = false
        · have KB := Lib.hid (fun (W : World) (q : Option Addr) (c : Nat) (hq : RowsAt 43 W q (hopR (hopsOf os cs))) => build_bad x (hopsOf os cs) q k c Hx.out.1 hok hLn hr W hq)
          clear hok hLn hr hRl hlen
          generalize hopsOf os cs = L at *
          obtain ⟨Hxba, Hxbb, Hxbc⟩ := Hxb.out
          go_wp2_with fail
          refine (KB.out _ _ _ (OwnR.rows Hown.out)).mono ?_
          rintro e W61 ⟨rfl, hb61⟩
          clear Hxba Hxbb Hxbc
          have O61x0 := Lib.hid (Hown.out.grow hb61)
          clear Hown
          have R61x0 := Lib.hid (Hxb.out.grow hb61)
          have B61 := Lib.hid (Hbw.out.trans (hb61.mono Hbw.out.size))
          clear hb61 Hbw Hxb
          obtain ⟨R61x0a, R61x0b, R61x0c⟩ := R61x0.out
          go_wp2_with fail
          have m0_hd : (Value.slice ph k ch).ownBlock ≠ some W61.heap.size := fun e => by have := (O61x0.out.ltb _ e).2; omega
          have n_xb_hd : xb ≠ W61.heap.size := Nat.ne_of_lt R61x0.out.2.2
          have l_hd : w.heap.size ≤ W61.heap.size := B61.out.size
          have hb62 := below_alloc (Below.refl W61.heap.size W61) (.cells (bysA (zs 208)) 31)
          have N62 := Lib.hid (RowAt.of (block_new W61 (.cells (bysA (zs 208)) 31)))
          have O62x0 := Lib.hid (O61x0.out.grow hb62)
          clear O61x0
          have R62x0 := Lib.hid (R61x0.out.grow hb62)
          have B62 := Lib.hid (B61.out.trans (hb62.mono B61.out.size))
          clear hb62 B61 R61x0 R61x0a R61x0b R61x0c
          generalize W61.heap.size = hd at *
          generalize W61.alloc (.cells (bysA (zs 208)) 31) = W62 at *
          obtain ⟨R62x0a, R62x0b, R62x0c⟩ := R62x0.out
          obtain ⟨N62a, N62b, N62c⟩ := N62.out
          go_wp2_with fail
          go_ret
          exact ⟨rfl, by first | exact below_alloc B62.out _ | exact B62.out | exact below_alloc (below_alloc B62.out _) _⟩
        · rw [Bool.not_eq_false] at hr
          obtain ⟨ss, hway, hsl, hK, hE, hH⟩ := built (x := x) (os := os) (cs := cs) (by rw [← Hnc.out, ← Hno.out]) hr
          have Hon := Lib.hid (On.start (by rw [← Hnc.out, ← Hno.out]) hr Hi.out.1 Hi.out.2 hway hsl hH)
          have KB := Lib.hid (fun (W : World) (h : Tabs W) (q : Option Addr) (c : Nat) (hq : RowsAt 43 W q (hopR (hopsOf os cs))) => build_c x (hopsOf os cs) q k c Hx.out.1 Hx.out.2 hok hLn W h hq)
          rw [hE, hK] at KB
          have hk0 : 0 < k := by rw [hLn]; exact (isRt_len hr).1
          obtain ⟨gh, rfl, _⟩ := Hpa.out hk0
          have hsn : (ss.map bysA).length = k := by rw [List.length_map, hsl, ← Hno.out]
          have hsl' := Lib.hid (show k = ss.length by rw [hsl, ← Hno.out])
          have hHl : (hbH x (hopsOf os cs)).length = 208 := by
            obtain ⟨s, r, es⟩ : ∃ s r, ss = s :: r := by
              cases ss with
              | nil => simp at hsn; omega
              | cons s r => exact ⟨s, r, rfl⟩
            exact (Hon.out.parts es).len
          have hHs := bysA_size' hHl
          clear hok hLn hr hRl hlen hway hsl hK hE hH hHl Hpa
          generalize hbH x (hopsOf os cs) = H0 at *
          generalize hopsOf os cs = L at *
          obtain ⟨Hxba, Hxbb, Hxbc⟩ := Hxb.out
          go_wp2_with fail
          refine (KB.out _ (HT.out.grow Hbw.out) _ _ (OwnR.rows Hown.out)).mono ?_
          rintro e W61 ⟨v2, rfl, hv0, hb61⟩
          clear Hxba Hxbb Hxbc
          have O61x0 := Lib.hid (Hown.out.grow hb61)
          clear Hown
          have R61x0 := Lib.hid (Hxb.out.grow hb61)
          have B61 := Lib.hid (Hbw.out.trans (hb61.mono Hbw.out.size))
          clear hb61 Hbw Hxb
          obtain ⟨ps, cS, rfl, hro, hcl, hx1, hpa⟩ := OwnR.form hv0
          obtain ⟨gs, rfl, hgs⟩ := hpa (by rw [hsn]; exact hk0)
          rw [hsn] at hv0 ⊢
          have HV := Lib.hid hv0
          clear hv0 hro hcl hx1 hpa hgs
          obtain ⟨R61x0a, R61x0b, R61x0c⟩ := R61x0.out
          go_wp2_with fail
          have m0_hd : (Value.slice (some ⟨gh, 0, none⟩) k ch).ownBlock ≠ some W61.heap.size := fun e => by have := (O61x0.out.ltb _ e).2; omega
          have m1_hd : (Value.slice (some ⟨gs, 0, none⟩) k cS).ownBlock ≠ some W61.heap.size := fun e => by have := (HV.out.ltb _ e).2; omega
          have n_xb_hd : xb ≠ W61.heap.size := Nat.ne_of_lt R61x0.out.2.2
          have l_hd : w.heap.size ≤ W61.heap.size := B61.out.size
          have hb62 := below_alloc (Below.refl W61.heap.size W61) (.cells (bysA H0) 31)
          have N62 := Lib.hid (RowAt.of (block_new W61 (.cells (bysA H0) 31)))
          have O62x0 := Lib.hid (O61x0.out.grow hb62)
          clear O61x0
          have O62x1 := Lib.hid (HV.out.grow hb62)
          clear HV
          have R62x0 := Lib.hid (R61x0.out.grow hb62)
          have B62 := Lib.hid (B61.out.trans (hb62.mono B61.out.size))
          clear hb62 B61 R61x0 R61x0a R61x0b R61x0c
          generalize W61.heap.size = hd at *
          generalize W61.alloc (.cells (bysA H0) 31) = W62 at *
          obtain ⟨R62x0a, R62x0b, R62x0c⟩ := R62x0.out
          obtain ⟨N62a, N62b, N62c⟩ := N62.out
          go_wp2_with fail
          clear R62x0a R62x0b R62x0c N62a N62b N62c
          go_loopw [61] (fun i wr => ∃ (j : Nat) (H a : List Nat), j ≤ k ∧ i = .int .i64 j ∧ On (ss.take j) (os.drop j) (ss.drop j) (cs.drop j) a H ∧ RowAt wr hd (bysA H) ∧ OwnR wr 0 77 43 (.slice (some ⟨gh, 0, none⟩) k ch) (hopR L) ∧ OwnR wr 0 23 32 (.slice (some ⟨gs, 0, none⟩) k cS) (ss.map bysA) ∧ Below w.heap.size w wr) (fun i _ => k - (intOf i).toNat)
          case atStart => exact ⟨0, H0, _, Nat.zero_le _, rfl, Hon.out, N62.out, O62x0.out.base (Nat.zero_le _), O62x1.out.base (Nat.zero_le _), B62.out⟩
          case round =>
            obtain ⟨j, H, a, hjk, rfl, hon, hr, ho1, ho2, hbel⟩ := hrel
            clear R62x0 N62 O62x0 O62x1 B62 Hon
            by_cases hkn : j < k
            · have hk1 : (j : Int) < (k : Int) := by omega
              obtain ⟨o1, hoj⟩ : ∃ h, os[j]? = some h := ⟨_, List.getElem?_eq_getElem (by rw [← Hno.out]; exact hkn)⟩
              obtain ⟨c1, hcj⟩ : ∃ h, cs[j]? = some h := ⟨_, List.getElem?_eq_getElem (by rw [← Hnc.out]; exact hkn)⟩
              obtain ⟨s1, hsj⟩ : ∃ h, ss[j]? = some h := ⟨_, List.getElem?_eq_getElem (by rw [← hsl'.out]; exact hkn)⟩
              have hlj := HL.out j _ _ hoj hcj
              have Ht := Lib.hid (take_get hsj)
              rw [drop_get hoj, drop_get hcj, drop_get hsj] at hon
              obtain ⟨X, hx1, hx2, hx3, hx4, hx5, hon'⟩ := hon.step
              have hp := hon.parts rfl
              have hw2 : keyB (shB o1 a) = s1 := hon.way.2.1
              obtain ⟨g, o, ep⟩ := rows_some (HO.out _ hbel) (keys_get hoj)
              subst ep
              have h32 := Ho.out.1 o1 (List.mem_of_getElem? hoj)
              have hld := keyAt10 (HO.out _ hbel) hoj h32
              have hos := bysA_size' h32
              have KU := Lib.hid (fun (W : World) (h : Tabs W) => unwrap_c o1 _ _ _ h32 (Ho.out.2 o1 (List.mem_of_getElem? hoj)) hp.al hp.ab hp.bl hp.bb hp.gl hp.gb W h)
              rw [hx1, hx2, ← hp.eq] at KU
              have hs32 : s1.length = 32 := by rw [← hx5]; exact hx3.s
              have hss := bysA_size' hs32
              have KP := Lib.hid (fun (W : World) (h : Tabs W) => hproof_c s1 _ hs32 (by rw [← hw2]; exact keyB_bts _) hp.bl hp.bb W h)
              have HLh := Lib.hid (fun (W : World) (h : OwnR W 0 77 43 (.slice (some ⟨gh, 0, none⟩) k ch) (hopR L)) => own_cmd h hlj (Hok.out _ (List.mem_of_getElem? hlj)))
              have HLs := Lib.hid (fun (W : World) (h : OwnR W 0 23 32 (.slice (some ⟨gs, 0, none⟩) k cS) (ss.map bysA)) => own_key h hsj hs32)
              have hci := Hi.out.1 c1 (List.mem_of_getElem? hcj)
              have hcs := cmdA_size hci
              have hbc := beqC_self c1
              have hzst := stepA_size stpOk_zero
              have hxs' := stepA_size hx3
              have hns := bysA_size' hx3.n
              obtain ⟨b, eb⟩ : ∃ z, z = betas (ss.take j) (encs (s1 :: ss.drop (j + 1)) (c1 :: cs.drop (j + 1))) := ⟨_, rfl⟩
              rw [← eb] at hp KP
              obtain ⟨P, eP⟩ : ∃ z, z = prf s1 b := ⟨_, rfl⟩
              rw [← eP] at hp KP
              have hHl := hp.len
              have hHs := bysA_size' hHl
              have hA : H.take 32 = a := by rw [hp.eq, List.append_assoc, show 32 = a.length from hp.al.symm, List.take_left]
              have hB : (H.drop 32).take 160 = b := by rw [hp.eq, List.append_assoc, show 32 = a.length from hp.al.symm, List.drop_left, show 160 = b.length from hp.bl.symm, List.take_left]
              have hG : (H.drop 192).take 16 = P := by rw [hp.eq, show 192 = (a ++ b).length by rw [List.length_append, hp.al, hp.bl], List.drop_left, List.take_of_length_le (by rw [hp.gl]; exact Nat.le_refl _)]
              have has := bysA_size' hp.al
              have hbs := bysA_size' hp.bl
              have hgs := bysA_size' hp.gl
              have Hon' := Lib.hid hon'
              have Hhd := Lib.hid hr
              have Ho1 := Lib.hid ho1
              have Ho2 := Lib.hid ho2
              have Hbel := Lib.hid hbel
              have HX4 := Lib.hid hx4
              have HX5 := Lib.hid hx5
              clear hon hon' hr ho1 ho2 hbel hx1 hx2 hx4 hx5 hw2 hp eb eP hoj hcj hsj hlj h32 hHl
              obtain ⟨Hhda, Hhdb, Hhdc⟩ := Hhd.out
              go_wp2_with fail
              have m0_kk : (Value.slice (some ⟨gh, 0, none⟩) k ch).ownBlock ≠ some wr.heap.size := fun e => by have := (Ho1.out.ltb _ e).2; omega
              have m1_kk : (Value.slice (some ⟨gs, 0, none⟩) k cS).ownBlock ≠ some wr.heap.size := fun e => by have := (Ho2.out.ltb _ e).2; omega
              have n_hd_kk : hd ≠ wr.heap.size := Nat.ne_of_lt Hhd.out.2.2
              have l_kk : w.heap.size ≤ wr.heap.size := Hbel.out.size
              have hb91 := below_alloc (Below.refl wr.heap.size wr) (.cells (bysA o1) 23)
              have N91 := Lib.hid (RowAt.of (block_new wr (.cells (bysA o1) 23)))
              have O91x0 := Lib.hid (Ho1.out.grow hb91)
              clear Ho1
              have O91x1 := Lib.hid (Ho2.out.grow hb91)
              clear Ho2
              have R91x0 := Lib.hid (Hhd.out.grow hb91)
              have B91 := Lib.hid (Hbel.out.trans (hb91.mono Hbel.out.size))
              clear hb91 Hbel Hhd hld Hhda Hhdb Hhdc
              generalize wr.heap.size = kk at *
              generalize wr.alloc (.cells (bysA o1) 23) = W91 at *
              obtain ⟨R91x0a, R91x0b, R91x0c⟩ := R91x0.out
              obtain ⟨N91a, N91b, N91c⟩ := N91.out
              go_wp2_with fail
              refine (KU.out _ (HT.out.grow B91.out)).mono ?_
              rintro e W92 ⟨rfl, hb92⟩
              clear R91x0a R91x0b R91x0c N91a N91b N91c
              have O92x0 := Lib.hid (O91x0.out.grow hb92)
              clear O91x0
              have O92x1 := Lib.hid (O91x1.out.grow hb92)
              clear O91x1
              have R92x0 := Lib.hid (R91x0.out.grow hb92)
              have R92x1 := Lib.hid (N91.out.grow hb92)
              have B92 := Lib.hid (B91.out.trans (hb92.mono B91.out.size))
              clear hb92 B91 R91x0 N91
              obtain ⟨R92x0a, R92x0b, R92x0c⟩ := R92x0.out
              obtain ⟨R92x1a, R92x1b, R92x1c⟩ := R92x1.out
              go_wp2_with fail
              have m0_st : (Value.slice (some ⟨gh, 0, none⟩) k ch).ownBlock ≠ some W92.heap.size := fun e => by have := (O92x0.out.ltb _ e).2; omega
              have m1_st : (Value.slice (some ⟨gs, 0, none⟩) k cS).ownBlock ≠ some W92.heap.size := fun e => by have := (O92x1.out.ltb _ e).2; omega
              have n_hd_st : hd ≠ W92.heap.size := Nat.ne_of_lt R92x0.out.2.2
              have n_kk_st : kk ≠ W92.heap.size := Nat.ne_of_lt R92x1.out.2.2
              have l_st : w.heap.size ≤ W92.heap.size := B92.out.size
              have hb93 := below_alloc (Below.refl W92.heap.size W92) (.cells (stepA X) 53)
              have N93 := Lib.hid (RowAt.of (block_new W92 (.cells (stepA X) 53)))
              have O93x0 := Lib.hid (O92x0.out.grow hb93)
              clear O92x0
              have O93x1 := Lib.hid (O92x1.out.grow hb93)
              clear O92x1
              have R93x0 := Lib.hid (R92x0.out.grow hb93)
              have R93x1 := Lib.hid (R92x1.out.grow hb93)
              have B93 := Lib.hid (B92.out.trans (hb93.mono B92.out.size))
              clear hb93 B92 R92x0 R92x1 R92x0a R92x0b R92x0c R92x1a R92x1b R92x1c
              generalize W92.heap.size = st at *
              generalize W92.alloc (.cells (stepA X) 53) = W93 at *
              obtain ⟨R93x0a, R93x0b, R93x0c⟩ := R93x0.out
              obtain ⟨R93x1a, R93x1b, R93x1c⟩ := R93x1.out
              obtain ⟨N93a, N93b, N93c⟩ := N93.out
              go_wp2_with fail
              clear R93x0a R93x0b R93x0c R93x1a R93x1b R93x1c N93a N93b N93c
              refine wp_region_grows W93 31 (fun w w' => Below w.heap.size w w') (listR [fixV (.int .i64 0), fixV (.bool false), fixV (.bool false), fixV (.pointer (some ⟨st, 0, none⟩)), fixV (.agg (cmdA c1)), fixV (.slice (some ⟨gh, 0, none⟩) k ch), fixV (.int .i64 (j : Int)), fixV (.pointer (some ⟨gh, j * 43, none⟩)), fixV (.pointer (some ⟨gh, j * 43 + 32, none⟩)), fixV (.agg (cmdA c1)), fixV (.bool false), fixV (.bool false), fixV (.bool false), fixV (.pointer (some ⟨st, 219, none⟩)), fixV (.agg (bysA s1)), fixV (.slice (some ⟨gs, 0, none⟩) k cS), fixV (.int .i64 (j : Int)), fixV (.pointer (some ⟨gs, j * 32, none⟩)), fixV (.agg (bysA s1)), fixV (.bool false), fixV (.bool false), fixV (.bool false), fixV (.pointer (some ⟨st, 219, none⟩)), fixV (.agg (bysA s1)), fixV (.pointer (some ⟨hd, 32, none⟩)), fixV (.agg (bysA b)), fixV (.agg (bysA P)), fixV (.pointer (some ⟨hd, 192, none⟩)), fixV (.agg (bysA P)), fixV (.bool false), fixV (.bool false)]) [] [0, 1, 2, 3, 4, 5, 6, 7, 8, 9, 10, 11, 12, 13, 14, 15, 16, 17, 18, 19, 20, 21, 22, 23, 24, 25, 26, 27, 28, 29, 30] [some 72, some 73, some 74, some 75, some 76, some 77, some 78, some 79, some 80, some 81, some 82, some 83, some 84, some 85, some 86, some 87, some 88, some 89, some 90, some 91, some 92, some 93, some 94, some 95, some 96, some 97, some 98, some 99, some 100, some 101, some 102] (by kernel_rfl) (by kernel_rfl) (by kernel_rfl) (by kernel_rfl) (by first | exact (Below.refl _ _).drew | exact Below.refl _ _) (fun w w' h h' => h.trans (h'.mono h.size)) (listR_mono ⟨stays_fix _, stays_fix _, stays_fix _, stays_fix _, stays_fix _, stays_fix _, stays_fix _, stays_fix _, stays_fix _, stays_fix _, stays_fix _, stays_fix _, stays_fix _, stays_fix _, stays_fix _, stays_fix _, stays_fix _, stays_fix _, stays_fix _, stays_fix _, stays_fix _, stays_fix _, stays_fix _, stays_fix _, stays_fix _, stays_fix _, stays_fix _, stays_fix _, stays_fix _, stays_fix _, stays_fix _, trivial⟩) ?_
              intro vals
              simp only [List.take_succ_cons, List.take_zero]
              refine ⟨grow_val [] [] (by kernel_rfl) rfl (fun K w hb hdq hK => ?_), ?_⟩
              · simp only [putZ]
                refine ⟨wanted_none rfl, ?_⟩
                go_simp
                exact hK _ _ _ (Below.refl _ _) rfl
              refine ⟨grow_val [0] [some 72] (by kernel_rfl) (by kernel_rfl) (fun K w hb hdq hK => ?_), ?_⟩
              · have d0 : vals 0 = .int .i64 0 := hdq 0 (by simp)
                simp only [List.map_cons, List.map_nil, putZ, d0]
                refine ⟨wanted_none rfl, ?_⟩
                go_simp
                exact hK _ _ _ (Below.refl _ _) rfl
              refine ⟨grow_val [1] [some 73] (by kernel_rfl) (by kernel_rfl) (fun K w hb hdq hK => ?_), ?_⟩
              · have d1 : vals 1 = .bool false := hdq 1 (by simp)
                simp only [List.map_cons, List.map_nil, putZ, d1]
                refine ⟨wanted_none rfl, ?_⟩
                go_simp
                exact hK _ _ _ (Below.refl _ _) rfl
              refine ⟨grow_val [2] [some 74] (by kernel_rfl) (by kernel_rfl) (fun K w hb hdq hK => ?_), ?_⟩
              · have d2 : vals 2 = .bool false := hdq 2 (by simp)
                simp only [List.map_cons, List.map_nil, putZ, d2]
                refine ⟨wanted_some rfl rfl rfl, ?_⟩
                go_simp
                exact hK _ _ _ (Below.refl _ _) rfl
              refine ⟨grow_val [2, 3] [some 74, some 75] (by kernel_rfl) (by kernel_rfl) (fun K w hb hdq hK => ?_), ?_⟩
              · have d2 : vals 2 = .bool false := hdq 2 (by simp)
                have d3 : vals 3 = .pointer (some ⟨st, 0, none⟩) := hdq 3 (by simp)
                obtain ⟨x1, x2, x3⟩ := N93.out.grow hb
                have hxc := HX4.out
                simp only [List.map_cons, List.map_nil, putZ, d2, d3]
                refine ⟨wanted_some rfl rfl rfl, ?_⟩
                go_simp
                exact hK _ _ _ (Below.refl _ _) rfl
              refine ⟨grow_val [2] [some 74] (by kernel_rfl) (by kernel_rfl) (fun K w hb hdq hK => ?_), ?_⟩
              · have d2 : vals 2 = .bool false := hdq 2 (by simp)
                simp only [List.map_cons, List.map_nil, putZ, d2]
                refine ⟨wanted_some rfl rfl rfl, ?_⟩
                go_simp
                exact hK _ _ _ (Below.refl _ _) rfl
              refine ⟨grow_val [2] [some 74] (by kernel_rfl) (by kernel_rfl) (fun K w hb hdq hK => ?_), ?_⟩
              · have d2 : vals 2 = .bool false := hdq 2 (by simp)
                simp only [List.map_cons, List.map_nil, putZ, d2]
                refine ⟨wanted_some rfl rfl rfl, ?_⟩
                go_simp
                exact hK _ _ _ (Below.refl _ _) rfl
              refine ⟨grow_val [2, 5, 6] [some 74, some 77, some 78] (by kernel_rfl) (by kernel_rfl) (fun K w hb hdq hK => ?_), ?_⟩
              · have d2 : vals 2 = .bool false := hdq 2 (by simp)
                have d5 : vals 5 = .slice (some ⟨gh, 0, none⟩) k ch := hdq 5 (by simp)
                have d6 : vals 6 = .int .i64 (j : Int) := hdq 6 (by simp)
                simp only [List.map_cons, List.map_nil, putZ, d2, d5, d6]
                refine ⟨wanted_some rfl rfl rfl, ?_⟩
                go_simp
                exact hK _ _ _ (Below.refl _ _) rfl
              refine ⟨grow_val [2, 7] [some 74, some 79] (by kernel_rfl) (by kernel_rfl) (fun K w hb hdq hK => ?_), ?_⟩
              · have d2 : vals 2 = .bool false := hdq 2 (by simp)
                have d7 : vals 7 = .pointer (some ⟨gh, j * 43, none⟩) := hdq 7 (by simp)
                simp only [List.map_cons, List.map_nil, putZ, d2, d7]
                refine ⟨wanted_some rfl rfl rfl, ?_⟩
                go_simp
                exact hK _ _ _ (Below.refl _ _) rfl
              refine ⟨grow_val [2, 8] [some 74, some 80] (by kernel_rfl) (by kernel_rfl) (fun K w hb hdq hK => ?_), ?_⟩
              · have d2 : vals 2 = .bool false := hdq 2 (by simp)
                have d8 : vals 8 = .pointer (some ⟨gh, j * 43 + 32, none⟩) := hdq 8 (by simp)
                have hl1 := HLh.out w (O93x0.out.grow hb)
                simp only [List.map_cons, List.map_nil, putZ, d2, d8]
                refine ⟨wanted_some rfl rfl rfl, ?_⟩
                go_simp
                exact hK _ _ _ (Below.refl _ _) rfl
              refine ⟨grow_val [2, 4, 9] [some 74, some 76, some 81] (by kernel_rfl) (by kernel_rfl) (fun K w hb hdq hK => ?_), ?_⟩
              · have d2 : vals 2 = .bool false := hdq 2 (by simp)
                have d4 : vals 4 = .agg (cmdA c1) := hdq 4 (by simp)
                have d9 : vals 9 = .agg (cmdA c1) := hdq 9 (by simp)
                simp only [List.map_cons, List.map_nil, putZ, d2, d4, d9]
                refine ⟨wanted_some rfl rfl rfl, ?_⟩
                go_simp
                exact hK _ _ _ (Below.refl _ _) rfl
              refine ⟨grow_val [2, 10] [some 74, some 82] (by kernel_rfl) (by kernel_rfl) (fun K w hb hdq hK => ?_), ?_⟩
              · have d2 : vals 2 = .bool false := hdq 2 (by simp)
                have d10 : vals 10 = .bool false := hdq 10 (by simp)
                simp only [List.map_cons, List.map_nil, putZ, d2, d10]
                refine ⟨wanted_none rfl, ?_⟩
                go_simp
                exact hK _ _ _ (Below.refl _ _) rfl
              refine ⟨grow_val [11] [some 83] (by kernel_rfl) (by kernel_rfl) (fun K w hb hdq hK => ?_), ?_⟩
              · have d11 : vals 11 = .bool false := hdq 11 (by simp)
                simp only [List.map_cons, List.map_nil, putZ, d11]
                refine ⟨wanted_none rfl, ?_⟩
                go_simp
                exact hK _ _ _ (Below.refl _ _) rfl
              refine ⟨grow_val [12] [some 84] (by kernel_rfl) (by kernel_rfl) (fun K w hb hdq hK => ?_), ?_⟩
              · have d12 : vals 12 = .bool false := hdq 12 (by simp)
                simp only [List.map_cons, List.map_nil, putZ, d12]
                refine ⟨wanted_some rfl rfl rfl, ?_⟩
                go_simp
                exact hK _ _ _ (Below.refl _ _) rfl
              refine ⟨grow_val [12, 13] [some 84, some 85] (by kernel_rfl) (by kernel_rfl) (fun K w hb hdq hK => ?_), ?_⟩
              · have d12 : vals 12 = .bool false := hdq 12 (by simp)
                have d13 : vals 13 = .pointer (some ⟨st, 219, none⟩) := hdq 13 (by simp)
                obtain ⟨x1, x2, x3⟩ := N93.out.grow hb
                have hxc := HX5.out
                simp only [List.map_cons, List.map_nil, putZ, d12, d13]
                refine ⟨wanted_some rfl rfl rfl, ?_⟩
                go_simp
                exact hK _ _ _ (Below.refl _ _) rfl
              refine ⟨grow_val [12] [some 84] (by kernel_rfl) (by kernel_rfl) (fun K w hb hdq hK => ?_), ?_⟩
              · have d12 : vals 12 = .bool false := hdq 12 (by simp)
                simp only [List.map_cons, List.map_nil, putZ, d12]
                refine ⟨wanted_some rfl rfl rfl, ?_⟩
                go_simp
                exact hK _ _ _ (Below.refl _ _) rfl
              refine ⟨grow_val [12] [some 84] (by kernel_rfl) (by kernel_rfl) (fun K w hb hdq hK => ?_), ?_⟩
              · have d12 : vals 12 = .bool false := hdq 12 (by simp)
                simp only [List.map_cons, List.map_nil, putZ, d12]
                refine ⟨wanted_some rfl rfl rfl, ?_⟩
                go_simp
                exact hK _ _ _ (Below.refl _ _) rfl
              refine ⟨grow_val [12, 15, 16] [some 84, some 87, some 88] (by kernel_rfl) (by kernel_rfl) (fun K w hb hdq hK => ?_), ?_⟩
              · have d12 : vals 12 = .bool false := hdq 12 (by simp)
                have d15 : vals 15 = .slice (some ⟨gs, 0, none⟩) k cS := hdq 15 (by simp)
                have d16 : vals 16 = .int .i64 (j : Int) := hdq 16 (by simp)
                simp only [List.map_cons, List.map_nil, putZ, d12, d15, d16]
                refine ⟨wanted_some rfl rfl rfl, ?_⟩
                go_simp
                exact hK _ _ _ (Below.refl _ _) rfl
              refine ⟨grow_val [12, 17] [some 84, some 89] (by kernel_rfl) (by kernel_rfl) (fun K w hb hdq hK => ?_), ?_⟩
              · have d12 : vals 12 = .bool false := hdq 12 (by simp)
                have d17 : vals 17 = .pointer (some ⟨gs, j * 32, none⟩) := hdq 17 (by simp)
                have hl1 := HLs.out w (O93x1.out.grow hb)
                simp only [List.map_cons, List.map_nil, putZ, d12, d17]
                refine ⟨wanted_some rfl rfl rfl, ?_⟩
                go_simp
                exact hK _ _ _ (Below.refl _ _) rfl
              refine ⟨grow_val [12, 14, 18] [some 84, some 86, some 90] (by kernel_rfl) (by kernel_rfl) (fun K w hb hdq hK => ?_), ?_⟩
              · have d12 : vals 12 = .bool false := hdq 12 (by simp)
                have d14 : vals 14 = .agg (bysA s1) := hdq 14 (by simp)
                have d18 : vals 18 = .agg (bysA s1) := hdq 18 (by simp)
                simp only [List.map_cons, List.map_nil, putZ, d12, d14, d18]
                refine ⟨wanted_some rfl rfl rfl, ?_⟩
                go_simp
                exact hK _ _ _ (Below.refl _ _) rfl
              refine ⟨grow_val [12, 19] [some 84, some 91] (by kernel_rfl) (by kernel_rfl) (fun K w hb hdq hK => ?_), ?_⟩
              · have d12 : vals 12 = .bool false := hdq 12 (by simp)
                have d19 : vals 19 = .bool false := hdq 19 (by simp)
                simp only [List.map_cons, List.map_nil, putZ, d12, d19]
                refine ⟨wanted_none rfl, ?_⟩
                go_simp
                exact hK _ _ _ (Below.refl _ _) rfl
              refine ⟨grow_val [20] [some 92] (by kernel_rfl) (by kernel_rfl) (fun K w hb hdq hK => ?_), ?_⟩
              · have d20 : vals 20 = .bool false := hdq 20 (by simp)
                simp only [List.map_cons, List.map_nil, putZ, d20]
                refine ⟨wanted_none rfl, ?_⟩
                go_simp
                exact hK _ _ _ (Below.refl _ _) rfl
              refine ⟨grow_val [21] [some 93] (by kernel_rfl) (by kernel_rfl) (fun K w hb hdq hK => ?_), ?_⟩
              · have d21 : vals 21 = .bool false := hdq 21 (by simp)
                simp only [List.map_cons, List.map_nil, putZ, d21]
                refine ⟨wanted_some rfl rfl rfl, ?_⟩
                go_simp
                exact hK _ _ _ (Below.refl _ _) rfl
              refine ⟨grow_val [21, 22] [some 93, some 94] (by kernel_rfl) (by kernel_rfl) (fun K w hb hdq hK => ?_), ?_⟩
              · have d21 : vals 21 = .bool false := hdq 21 (by simp)
                have d22 : vals 22 = .pointer (some ⟨st, 219, none⟩) := hdq 22 (by simp)
                obtain ⟨x1, x2, x3⟩ := N93.out.grow hb
                have hxc := HX5.out
                simp only [List.map_cons, List.map_nil, putZ, d21, d22]
                refine ⟨wanted_some rfl rfl rfl, ?_⟩
                go_simp
                exact hK _ _ _ (Below.refl _ _) rfl
              refine ⟨grow_val [21] [some 93] (by kernel_rfl) (by kernel_rfl) (fun K w hb hdq hK => ?_), ?_⟩
              · have d21 : vals 21 = .bool false := hdq 21 (by simp)
                simp only [List.map_cons, List.map_nil, putZ, d21]
                refine ⟨wanted_some rfl rfl rfl, ?_⟩
                go_simp
                exact hK _ _ _ (Below.refl _ _) rfl
              refine ⟨grow_val [21, 24] [some 93, some 96] (by kernel_rfl) (by kernel_rfl) (fun K w hb hdq hK => ?_), ?_⟩
              · have d21 : vals 21 = .bool false := hdq 21 (by simp)
                have d24 : vals 24 = .pointer (some ⟨hd, 32, none⟩) := hdq 24 (by simp)
                obtain ⟨z1, z2, z3⟩ := R93x0.out.grow hb
                simp only [List.map_cons, List.map_nil, putZ, d21, d24]
                refine ⟨wanted_some rfl rfl rfl, ?_⟩
                go_simp
                exact hK _ _ _ (Below.refl _ _) rfl
              refine ⟨grow_call [21, 23, 25] [some 93, some 95, some 97] (by kernel_rfl) (by kernel_rfl) (fun K w hb hdq hK => ?_), ?_⟩
              · have d21 : vals 21 = .bool false := hdq 21 (by simp)
                have d23 : vals 23 = .agg (bysA s1) := hdq 23 (by simp)
                have d25 : vals 25 = .agg (bysA b) := hdq 25 (by simp)
                simp only [List.map_cons, List.map_nil, putZ, d21, d23, d25]
                refine ⟨wanted_some rfl rfl rfl, ?_⟩
                go_simp
                refine (KP.out w (HT.out.grow (B93.out.trans (hb.mono B93.out.size)))).mono ?_
                rintro e w' ⟨rfl, hb'⟩
                exact ⟨_, rfl, hK _ _ hb' rfl⟩
              refine ⟨grow_val [21] [some 93] (by kernel_rfl) (by kernel_rfl) (fun K w hb hdq hK => ?_), ?_⟩
              · have d21 : vals 21 = .bool false := hdq 21 (by simp)
                simp only [List.map_cons, List.map_nil, putZ, d21]
                refine ⟨wanted_some rfl rfl rfl, ?_⟩
                go_simp
                exact hK _ _ _ (Below.refl _ _) rfl
              refine ⟨grow_val [21, 27] [some 93, some 99] (by kernel_rfl) (by kernel_rfl) (fun K w hb hdq hK => ?_), ?_⟩
              · have d21 : vals 21 = .bool false := hdq 21 (by simp)
                have d27 : vals 27 = .pointer (some ⟨hd, 192, none⟩) := hdq 27 (by simp)
                obtain ⟨z1, z2, z3⟩ := R93x0.out.grow hb
                simp only [List.map_cons, List.map_nil, putZ, d21, d27]
                refine ⟨wanted_some rfl rfl rfl, ?_⟩
                go_simp
                exact hK _ _ _ (Below.refl _ _) rfl
              refine ⟨grow_val [21, 26, 28] [some 93, some 98, some 100] (by kernel_rfl) (by kernel_rfl) (fun K w hb hdq hK => ?_), ?_⟩
              · have d21 : vals 21 = .bool false := hdq 21 (by simp)
                have d26 : vals 26 = .agg (bysA P) := hdq 26 (by simp)
                have d28 : vals 28 = .agg (bysA P) := hdq 28 (by simp)
                simp only [List.map_cons, List.map_nil, putZ, d21, d26, d28]
                refine ⟨wanted_some rfl rfl rfl, ?_⟩
                go_simp
                exact hK _ _ _ (Below.refl _ _) rfl
              refine ⟨grow_val [21, 29] [some 93, some 101] (by kernel_rfl) (by kernel_rfl) (fun K w hb hdq hK => ?_), ?_⟩
              · have d21 : vals 21 = .bool false := hdq 21 (by simp)
                have d29 : vals 29 = .bool false := hdq 29 (by simp)
                simp only [List.map_cons, List.map_nil, putZ, d21, d29]
                refine ⟨wanted_none rfl, ?_⟩
                go_simp
                exact hK _ _ _ (Below.refl _ _) rfl
              intro Wz hbz hR9
              obtain d30 : vals 30 = .bool false := hR9 30 (by simp)
              clear hR9
              simp only [List.map_cons, List.map_nil, putZ, d30, pick]
              generalize vals 0 = q0
              generalize vals 1 = q1
              generalize vals 2 = q2
              generalize vals 3 = q3
              generalize vals 4 = q4
              generalize vals 5 = q5
              generalize vals 6 = q6
              generalize vals 7 = q7
              generalize vals 8 = q8
              generalize vals 9 = q9
              generalize vals 10 = q10
              generalize vals 11 = q11
              generalize vals 12 = q12
              generalize vals 13 = q13
              generalize vals 14 = q14
              generalize vals 15 = q15
              generalize vals 16 = q16
              generalize vals 17 = q17
              generalize vals 18 = q18
              generalize vals 19 = q19
              generalize vals 20 = q20
              generalize vals 21 = q21
              generalize vals 22 = q22
              generalize vals 23 = q23
              generalize vals 24 = q24
              generalize vals 25 = q25
              generalize vals 26 = q26
              generalize vals 27 = q27
              generalize vals 28 = q28
              generalize vals 29 = q29
              clear d30
              clear vals
              have O94x0 := Lib.hid (O93x0.out.grow hbz)
              clear O93x0
              have O94x1 := Lib.hid (O93x1.out.grow hbz)
              clear O93x1
              have R94x0 := Lib.hid (R93x0.out.grow hbz)
              have R94x1 := Lib.hid (R93x1.out.grow hbz)
              have R94x2 := Lib.hid (N93.out.grow hbz)
              have B94 := Lib.hid (B93.out.trans (hbz.mono B93.out.size))
              clear hbz B93 R93x0 R93x1 N93
              obtain ⟨R94x0a, R94x0b, R94x0c⟩ := R94x0.out
              obtain ⟨R94x1a, R94x1b, R94x1c⟩ := R94x1.out
              obtain ⟨R94x2a, R94x2b, R94x2c⟩ := R94x2.out
              go_step
              go_simp
              go_wp2_with fail
              have O95x0 := Lib.hid (O94x0.out.setRow m0_hd (bysA X.nx))
              clear O94x0
              have O95x1 := Lib.hid (O94x1.out.setRow m1_hd (bysA X.nx))
              clear O94x1
              have R95x0 := Lib.hid (R94x0.out.set (bysA X.nx))
              have R95x1 := Lib.hid (R94x1.out.other (Ne.symm n_hd_kk) (bysA X.nx))
              have R95x2 := Lib.hid (R94x2.out.other (Ne.symm n_hd_st) (bysA X.nx))
              have B95 := Lib.hid (below_setRow B94.out l_hd (bysA X.nx))
              clear B94 R94x0 R94x1 R94x2 R94x0a R94x0b R94x0c R94x1a R94x1b R94x1c R94x2a R94x2b R94x2c
              generalize Wz.setRow hd (bysA X.nx) = W95 at *
              obtain ⟨R95x0a, R95x0b, R95x0c⟩ := R95x0.out
              obtain ⟨R95x1a, R95x1b, R95x1c⟩ := R95x1.out
              obtain ⟨R95x2a, R95x2b, R95x2c⟩ := R95x2.out
              go_wp2_with fail
              go_roundw
              case rel => exact ⟨j + 1, X.nx, _, by omega, by go_num, by rw [Ht.out]; exact Hon'.out, R95x0.out, O95x0.out, O95x1.out, B95.out⟩
              case measure => simp [intOf]; omega
            · obtain rfl : j = k := by omega
              have Hbel := Lib.hid hbel
              clear hon hr ho1 ho2 hbel
              go_wp2_with fail
              go_ret
              exact ⟨rfl, Hbel.out⟩
  · have hne' : ((nc : Int) != (no : Int)) = true := by simp; omega
    clear hne
    go_enter Tryz.func6, Tryz.ntmps6
    go_wp2_with fail
    generalize hW : World.alloc _ _ = W0
    have R0x0 := Lib.hid (show RowAt W0 (w.heap.size) (bysA x) by rw [← hW]; clear hW; exact ⟨by go_simp, by first | (go_simp; done) | (go_simp; rfl), by go_simp⟩)
    have B0 := Lib.hid (show Below w.heap.size w W0 by rw [← hW]; repeat (first | apply below_alloc | exact Below.refl _ _))
    clear hW
    have l_xb : w.heap.size ≤ w.heap.size := by omega
    obtain ⟨xb, exb⟩ : ∃ z, z = w.heap.size := ⟨_, rfl⟩
    rw [← exb] at R0x0  ⊢
    have l_xb : w.heap.size ≤ xb := by rw [exb]; exact Nat.le_refl _
    clear exb
    refine (alive10_c W0 (HT.out.grow B0.out)).mono ?_
    rintro e W1 ⟨rfl, hb1⟩
    have R1x0 := Lib.hid (R0x0.out.grow hb1)
    have B1 := Lib.hid (B0.out.trans (hb1.mono B0.out.size))
    clear hb1 B0 R0x0
    obtain ⟨R1x0a, R1x0b, R1x0c⟩ := R1x0.out
    go_wp2_with fail
    go_ret
    exact ⟨rfl, by first | exact below_alloc B1.out _ | exact B1.out | exact below_alloc (below_alloc B1.out _) _⟩
end Go.Proofs.YtddmjddlbhdcpaaGreatDoor
