/-
  Package sha: bytes are laid behind those that there were, and fill a block.
-/
import Derived.Test.YtikpglemnnbdcaaDoorShaTake
namespace Go.Proofs.YtikpglemnnbdcaaDoor
open Go.RowKit Go.Hold Go.Sh

/-! ### Slices of bytes -/
def slB (v : Value) (lo hi mx : Option Value) : Sem Value := Instr.sliceAt 22 v lo hi mx
@[go_sem ↓ high] theorem fold_slB (v : Value) (lo hi mx : Option Value) : Instr.sliceAt 22 v lo hi mx = slB v lo hi mx := rfl
/-- Where a slice begins from its n-th byte on. -/
@[irreducible] def adv (o n cap : Nat) : Nat := if cap = n then o else o + n
theorem elem8 : Tryd.prog.underlying 22 = some (.slice (Tryd.prog.elem 22)) := by kernel_rfl
theorem size8 (w : World) : (sizeOf (Tryd.prog.elem 22)).run Tryd.prog w = .ok 1 w := by kernel_rfl
theorem slB_lo (b o len cap n : Nat) (h : n ≤ len) (w : World) : (slB (.slice (some ⟨b, o, none⟩) len cap) (some (.int .i64 (n : Int))) none none).run Tryd.prog w = .ok (.slice (some ⟨b, adv o n cap, none⟩) (len - n) (cap - n)) w := by
  unfold slB
  rw [run_sliceAt_slice _ _ _ _ _ _ elem8, run_slice_l _ _ _ _ _ elem8 _ _ (by omega) (by omega), size8]
  unfold adv
  by_cases e : cap = n
  · simp [sliced, Result.andThen, e]
  · simp [sliced, Result.andThen, e, Addr.add_mid]
theorem slB_lo64 (b o len cap : Nat) (h : 64 ≤ len) (w : World) : (slB (.slice (some ⟨b, o, none⟩) len cap) (some (.int .i64 64)) none none).run Tryd.prog w = .ok (.slice (some ⟨b, adv o 64 cap, none⟩) (len - 64) (cap - 64)) w := slB_lo b o len cap 64 h w
theorem slB_hi (a : Option Addr) (len cap : Nat) (h : 64 ≤ cap) (w : World) : (slB (.slice a len cap) none (some (.int .i64 64)) none).run Tryd.prog w = .ok (.slice a 64 cap) w := by
  unfold slB
  rw [run_sliceAt_slice _ _ _ _ _ _ elem8, run_slice_h _ _ _ _ _ elem8 _ _ (by omega) (by omega), size8]
  cases a <;> simp [sliced, Result.andThen, Addr.add]
theorem arr_at (b o cap : Nat) (w : World) : (Instr.arrayAt 53 (.slice (some ⟨b, o, none⟩) 64 cap)).run Tryd.prog w = .ok (.pointer (some ⟨b, o, none⟩)) w := by
  simp [Instr.arrayAt, run_underlying Tryd.underlying53]
theorem BytesAt.adv {w : World} {b o n cap : Nat} {l : List Nat} (h : BytesAt w b o l) (hc : l.length ≤ cap) : BytesAt w b (adv o n cap) (l.drop n) := by
  refine ⟨h.1, fun i hi => ?_⟩
  rw [List.length_drop] at hi
  unfold Go.Proofs.YtikpglemnnbdcaaDoor.adv
  rw [if_neg (by omega), Nat.add_assoc, h.2 (n + i) (by omega)]
  simp [List.getD, List.getElem?_drop]
theorem load_chunk {w : World} {b o : Nat} {l : List Nat} (h : BytesAt w b o l) (hl : 64 ≤ l.length) : (loadRow 53 (.pointer (some ⟨b, o, none⟩))).run Tryd.prog w = .ok (.agg (bysA (l.take 64))) w := by
  have e : (Tryd.prog.info? 53).map (·.size) = some 64 := by kernel_rfl
  have hbl : (bys (l.take 64)).length = 64 := by rw [bys_length, List.length_take]; omega
  refine run_loadAt_mid w b o _ (bys (l.take 64)) _ (fun j v hv => ?_) Tryd.underlying53 rfl (by rw [hbl]; exact e)
  have hj : j < 64 := by have := (List.getElem?_eq_some_iff.1 hv).1; omega
  rw [h.2 j (by omega), ← hv]
  simp only [bys, List.getElem?_map, List.getElem?_take, if_pos hj, List.getD]
  rw [List.getElem?_eq_getElem (by omega)]; rfl
theorem Tabs.setRow {w : World} (h : Tabs w) {g : Nat} (hg : 1 < g) (c : Array Value) : Tabs (w.setRow g c) := by
  refine ⟨by rw [size_setRow]; exact h.1, fun i hi => ?_, fun i hi => ?_⟩
  · rw [World.cell?_of_block (w := w) (setRow_other w g 0 c (by omega))]; exact h.2.1 i hi
  · rw [World.cell?_of_block (w := w) (setRow_other w g 1 c (by omega))]; exact h.2.2 i hi
theorem plus_none (w : World) : w.plus #[] w.drawn = w := by unfold World.plus; rw [Array.append_empty]
theorem setRow_plus_all {w : World} {g : Nat} {c0 : Array Value} (h : RowAt w g c0) {X Y : Array Value} {os : Array Obj} {d : Nat} : ((w.setRow g X).plus os d).setRow g Y = (w.setRow g Y).plus os d := by
  rw [World.setRow_plus _ _ _ _ _ (by rw [size_setRow]; exact h.2.2), setRow_setRow]
theorem store_state {w : World} {g : Nat} {m : Bool} {n : Int} {s : St} {r : List Nat} (h : RowAt w g (hasA m n s r)) (s' : St) : (storeCells ⟨g, 2, none⟩ (stA s').toList 0).run Tryd.prog w = .ok () (w.setRow g (hasA m n s' r)) := by
  rw [run_storeMid h 2 (stA s') (by rw [stA_size, hasA_size]; omega) (stA_one s'), setL_state]
theorem store_rest {w : World} {g : Nat} {m : Bool} {n : Int} {s : St} {r : List Nat} (h : RowAt w g (hasA m n s r)) (hr : r.length = 64) (r' : List Nat) (hr' : r'.length = 64) : (storeCells ⟨g, 10, none⟩ (bysA r').toList 0).run Tryd.prog w = .ok () (w.setRow g (hasA m n s r')) := by
  rw [run_storeMid h 10 (bysA r') (by rw [bysA_size, hasA_size]; omega) (bysA_one r')]
  have := setL_rest m n s r r' 0 (by omega)
  rw [List.take_zero, List.nil_append, List.drop_eq_nil_of_le (by omega), List.append_nil] at this
  rw [show (bysA r').toList = bys r' from rfl]
  exact congrArg _ (congrArg _ this)

set_option maxHeartbeats 4000000 in
set_option maxRecDepth 100000 in
theorem take_big_c (g b o cap : Nat) (m l : List Nat) (w : World) (hT : Tabs w) (hg : 1 < g) (h : RowAt w g (hshA m)) (hm : m.length + l.length < 1152921504606846976) (hmb : ∀ i, m.getD i 0 < 256) (hlb : ∀ i, l.getD i 0 < 256)
    (hbig : 64 ≤ m.length % 64 + l.length) (hB : BytesAt w b o l) (hcapl : l.length ≤ cap) (hbg : b ≠ g) :
    Calls Tryd.prog 29 #[.pointer (some ⟨g, 0, none⟩), .slice (some ⟨b, o, none⟩) l.length cap] w fun e w' => e = .returned (.tuple #[]) ∧ ∃ os d, w' = (w.setRow g (hshA (m ++ l))).plus os d := by
  have H := Lib.hid h
  have HB := Lib.hid hB
  have HT := Lib.hid hT
  obtain ⟨h1, h2, h3⟩ := h
  have hcn := H.out.cellAt 1 (show (hshA m)[1]? = some (.int .i64 m.length) from rfl)
  have hcf := H.out.frozenAt 1
  have hu := cast_tmod64 m.length
  obtain ⟨n, en⟩ : ∃ n, n = m.length := ⟨_, rfl⟩
  obtain ⟨k, ek⟩ : ∃ k, k = l.length := ⟨_, rfl⟩
  obtain ⟨u, eu⟩ : ∃ u, u = m.length % 64 := ⟨_, rfl⟩
  rw [← eu] at hu
  rw [← en] at hcn hu
  have hk : IntKind.i64.wrap ((n : Int) + (k : Int)) = ((n + k : Nat) : Int) := by rw [IntWalk.i64_in _ (by omega)]; omega
  obtain ⟨uk, euk⟩ : ∃ y, y = u + k := ⟨_, rfl⟩
  have hs : IntKind.i64.wrap ((u : Int) + (k : Int)) = (uk : Int) := by rw [IntWalk.i64_in _ (by omega)]; omega
  have hlt : ¬ (uk : Int) < 64 := by omega
  have huk : 64 ≤ u + k := by omega
  have hu0 : (0 : Int) ≤ (u : Int) := by omega
  have hu1 : (u : Int) ≤ 64 := by omega
  have hu2 : u < 64 := by omega
  clear hB hT
  rw [← ek] at hcapl ⊢
  have hset : w.setCell ⟨g, 1, none⟩ (.int .i64 ((n + k : Nat) : Int)) = w.setRow g (hasA true ((n + k : Nat) : Int) (hrun st0 m) (rst m)) := by
    rw [setCell_row H.out, hshA, setL_len]
  have Enk := Lib.hid (show ((n + k : Nat) : Int) = (((m ++ l).length : Nat) : Int) by rw [List.length_append, en, ek])
  generalize ((n + k : Nat) : Int) = nk at hk hset Enk
  have En := Lib.hid en
  have Ek := Lib.hid ek
  have Eu := Lib.hid eu
  clear en ek eu hm hbig euk
  by_cases hz : u = 0
  · -- no block was begun
    have hup : ¬ (0 : Int) < (u : Int) := by omega
    have hset' := hset
    have HB0 := Lib.hid (HB.out.other hbg (hasA true nk (hrun st0 m) (rst m)))
    obtain ⟨f1, f2⟩ := take_whole m l (by rw [← Eu.out]; exact hz)
    have F1 := Lib.hid f1
    have F2 := Lib.hid f2
    clear f1 f2 hz
    go_enter Tryd.func29, Tryd.ntmps29
    go_wp2_with fail
    obtain ⟨W1, eW1⟩ : ∃ W1, W1 = w.setRow g (hasA true nk (hrun st0 m) (rst m)) := ⟨_, rfl⟩
    have eW2 : W1 = (w.setRow g (hasA true nk (hrun st0 m) (rst m))).plus #[] W1.drawn := by rw [← eW1]; exact (plus_none _).symm
    rw [← eW1] at HB0 ⊢
    rw [eW2] at HB0 ⊢
    generalize W1.drawn = dd at *
    have E0 := Ek
    clear hset hset' hcn hcf h1 h2 h3
    go_loopw [1] (fun v wr => ∃ (j n1 o' cap' : Nat) (os : Array Obj) (d : Nat), 64 * j + n1 = (l).length ∧ v = .slice (some ⟨b, o', none⟩) n1 cap' ∧ n1 ≤ cap' ∧ BytesAt wr b o' ((l).drop (64 * j)) ∧ wr = (w.setRow g (hasA true nk (hruns (hrun st0 m) (l) j) (rst m))).plus os d) (fun v _ => match v with | .slice _ n _ => n | _ => 0)
    case atStart => exact ⟨0, _, _, _, _, _, by rw [Nat.mul_zero, Nat.zero_add]; exact E0.out, rfl, hcapl, by rw [Nat.mul_zero, List.drop_zero]; exact HB0.out, rfl⟩
    case round =>
      obtain ⟨j, n1, o', cap', os, d, hjn, rfl, hcap, hby, rfl⟩ := hrel
      have HR := Lib.hid ((H.out.set (hasA true nk (hruns (hrun st0 m) (l) j) (rst m))).grow (below_more (Below.refl _ _) os d))
      have HBy := Lib.hid hby
      have HTb := Lib.hid ((HT.out.setRow (show 1 < g by omega) (hasA true nk (hruns (hrun st0 m) (l) j) (rst m))).grow (below_more (Below.refl _ _) os d))
      have hgl : (hasA true nk (hruns (hrun st0 m) (l) j) (rst m)).size = 74 := by rw [hasA_size, (rst_length m)]
      obtain ⟨W, eW⟩ : ∃ W, W = (w.setRow g (hasA true nk (hruns (hrun st0 m) (l) j) (rst m))).plus os d := ⟨_, rfl⟩
      rw [← eW] at HR HBy HTb ⊢
      have HW := Lib.hid eW
      clear eW hby
      by_cases h64 : 64 ≤ n1
      · have h64' : (64 : Int) ≤ (n1 : Int) := by omega
        have hcap64 : 64 ≤ cap' := by omega
        have hcl : (((l).drop (64 * j)).take 64).length = 64 := by rw [List.length_take, List.length_drop]; omega
        have hcb := bts_take (bts_drop hlb (64 * j)) 64
        have Hrun := Lib.hid (show scmp (hruns (hrun st0 m) (l) j) (((l).drop (64 * j)).take 64) = hruns (hrun st0 m) (l) (j + 1) from rfl)
        have hcs : (bysA (((l).drop (64 * j)).take 64)).size = 64 := by rw [bysA_size, hcl]
        have hload : ∀ o d, (loadRow 53 (.pointer (some ⟨b, o', none⟩))).run Tryd.prog (W.plus o d) = .ok (.agg (bysA (((l).drop (64 * j)).take 64))) (W.plus o d) := fun o d => load_chunk (HBy.out.grow (below_more (Below.refl _ _) o d)) (by rw [List.length_drop]; omega)
        have hTab : ∀ o d, Tabs (W.plus o d) := fun o d => HTb.out.grow (below_more (Below.refl _ _) o d)
        have harr := arr_at b o' cap'
        have hhi := slB_hi (some ⟨b, o', none⟩) n1 cap' hcap64
        have hlo := slB_lo64 b o' n1 cap' h64
        obtain ⟨r1, r2, r3⟩ := HR.out
        generalize eC : ((l).drop (64 * j)).take 64 = C at *
        generalize eS : hruns (hrun st0 m) (l) j = S at *
        go_wp2_with fail
        refine wp_region_pick W [0, 1, 2, 3, 4, 5, 6, 7, 8, 9, 10, 11] [false, false, false, false, false, false, false, false, false, false, false, false] [] [] 12 (by kernel_rfl) rfl (by kernel_rfl) (by intro c a d v w h; cases d <;> exact h) ((Below.refl _ _).drew) ?_
        simp only [pick, List.getElem?_cons_succ, List.getElem?_cons_zero, List.drop_succ_cons, List.drop_zero]
        iterate 9 (refine wpHoldF_val (wanted_none rfl) (by intro K o d hK; go_simp; exact hK _ (Below.refl _ _)) ?_)
        refine wpHoldF_call (v := .agg (stA (scmp S C))) (wanted_none rfl) (by intro K o d hK; go_simp; refine (behind_c _ _ hcl hcb _ (hTab o d)).mono ?_; rintro e w' ⟨rfl, hbw⟩; exact ⟨_, rfl, hK _ hbw⟩) ?_
        iterate 2 (refine wpHoldF_val (wanted_none rfl) (by intro K o d hK; go_simp; exact hK _ (Below.refl _ _)) ?_)
        refine wpHoldF_nil ?_
        intro w2 hb2 _
        have hst := store_state (HR.out.grow hb2) (scmp S C)
        skip
        obtain ⟨o2, d2, rfl⟩ := below_plus hb2
        have HB2 := Lib.hid ((HBy.out.grow hb2).other hbg (hasA true nk (scmp S C) (rst m)))
        clear hb2 hload hTab harr hhi r1 r2 r3
        go_wp2_with fail
        go_roundw
        case rel =>
          refine ⟨j + 1, n1 - 64, adv o' 64 cap', cap' - 64, os ++ o2, d2, by omega, rfl, by omega, ?_, ?_⟩
          · have := HB2.out.adv (n := 64) (cap := cap') (by rw [List.length_drop]; omega)
            rw [List.drop_drop, show 64 * j + 64 = 64 * (j + 1) by omega] at this
            exact this
          · rw [← Hrun.out, HW.out, World.plus_plus, setRow_plus_all H.out]
        case measure => simp; omega
      · have h64' : ¬ (64 : Int) ≤ (n1 : Int) := by omega
        have hj : (l).length / 64 = j := by omega
        have hstz := store_rest HR.out (rst_length m) (zs 64) (zs_length 64)
        have HR2 := HR.out.set (hasA true nk (hruns (hrun st0 m) (l) j) (zs 64))
        have hcp := copy_rest (u := 0) (c2 := 64) (cap := cap') (len := n1) (k := n1) (zs_length 64) HR2 (by omega) (by rw [List.length_drop]; omega) (by rw [List.length_drop]; omega) (HBy.out.other hbg _)
        rw [setRow_setRow] at hcp
        simp only [Nat.add_zero, Nat.sub_zero, Nat.zero_add] at hcp
        have hfin : hasA true nk (hruns (hrun st0 m) (l) j) ((zs 64).take 0 ++ ((l).drop (64 * j)).take n1 ++ (zs 64).drop n1) = hshA (m ++ l) := by
          rw [List.take_zero, List.nil_append, List.take_of_length_le (by rw [List.length_drop]; omega), zs_drop]
          have e3 : hruns (hrun st0 m) (l) j = hrun (hrun st0 m) (l) := by unfold hrun; rw [hj]
          have e4 : (l).drop (64 * j) ++ zs (64 - n1) = rst (l) := by unfold rst; rw [hj, show (l).length % 64 = n1 by omega]
          rw [e3, e4, F1.out, F2.out]
          unfold hshA; rw [Enk.out]
        rw [hfin] at hcp
        obtain ⟨r1, r2, r3⟩ := HR.out
        clear hfin HR2
        go_wp2_with fail
        go_end0
        exact ⟨rfl, os, d, by rw [HW.out, setRow_plus_all H.out]⟩
  · -- a block was begun
    have hup : (0 : Int) < (u : Int) := by omega
    obtain ⟨k1, ek1⟩ : ∃ k1, k1 = 64 - u := ⟨_, rfl⟩
    obtain ⟨f1, f2⟩ := take_fill m l u k1 Eu.out (by omega) ek1 (by have := Ek.out; omega)
    have F1 := Lib.hid f1
    have F2 := Lib.hid f2
    clear f1 f2
    have hcp := copy_rest (c2 := 64 - u) (cap := cap) (len := k) (k := k1) (rst_length m) (H.out.set (hasA true nk (hrun st0 m) (rst m))) (show u ≤ 64 by omega) Ek.out (by have := Ek.out; omega) (HB.out.other hbg _)
    rw [setRow_setRow] at hcp
    have erB : (rst m).take u ++ l.take k1 ++ (rst m).drop (u + k1) = (rst m).take u ++ l.take k1 := by
      rw [List.drop_eq_nil_of_le (by rw [rst_length]; omega), List.append_nil]
    rw [erB] at hcp
    have hlB : ((rst m).take u ++ l.take k1).length = 64 := by
      rw [List.length_append, List.length_take, List.length_take, rst_length]; have := Ek.out; omega
    have hbB := bts_app (bts_take (rst_bts hmb) u) (bts_take hlb k1)
    obtain ⟨rB, eB⟩ : ∃ rB, rB = (rst m).take u ++ l.take k1 := ⟨_, rfl⟩
    rw [← eB] at hcp hlB hbB F1
    have hrB : rB.length = 64 := hlB
    have hk1 : k1 ≤ k := by have := Ek.out; omega
    have hk1' : (0 : Int) ≤ (k1 : Int) := by omega
    have hlo := slB_lo b o k cap k1 hk1
    clear erB eB ek1
    obtain ⟨W1, eW1⟩ : ∃ W1, W1 = w.setRow g (hasA true nk (hrun st0 m) rB) := ⟨_, rfl⟩
    rw [← eW1] at hcp
    have HR1 := Lib.hid (show RowAt W1 g (hasA true nk (hrun st0 m) rB) by rw [eW1]; exact H.out.set _)
    have HBy := Lib.hid (show BytesAt W1 b o l by rw [eW1]; exact HB.out.other hbg _)
    have HTb := Lib.hid (show Tabs W1 by rw [eW1]; exact HT.out.setRow (show 1 < g by omega) _)
    have HW1 := Lib.hid eW1
    have hgl : (hasA true nk (hrun st0 m) rB).size = 74 := by rw [hasA_size, hrB]
    have hrs := rsPart_has true nk (hrun st0 m) rB hrB
    have hTab : ∀ o d, Tabs (W1.plus o d) := fun o d => HTb.out.grow (below_more (Below.refl _ _) o d)
    clear eW1
    go_enter Tryd.func29, Tryd.ntmps29
    go_wp2_with fail
    clear hset hcn hcf h1 h2 h3 hcp
    obtain ⟨r1, r2, r3⟩ := HR1.out
    refine wp_region_pick W1 [0, 1, 2, 3, 4, 5, 6, 7, 8, 9, 10, 11] [false, false, false, false, false, false, false, false, false, false, false, false] [] [] 12 (by kernel_rfl) rfl (by kernel_rfl) (by intro c a d v w h; cases d <;> exact h) ((Below.refl _ _).drew) ?_
    simp only [pick, List.getElem?_cons_succ, List.getElem?_cons_zero, List.drop_succ_cons, List.drop_zero]
    iterate 9 (refine wpHoldF_val (wanted_none rfl) (by intro K o d hK; go_simp; exact hK _ (Below.refl _ _)) ?_)
    refine wpHoldF_call (v := .agg (stA (scmp (hrun st0 m) rB))) (wanted_none rfl) (by intro K o d hK; go_simp; refine (behind_c _ _ hlB hbB _ (hTab o d)).mono ?_; rintro e w' ⟨rfl, hbw⟩; exact ⟨_, rfl, hK _ hbw⟩) ?_
    iterate 2 (refine wpHoldF_val (wanted_none rfl) (by intro K o d hK; go_simp; exact hK _ (Below.refl _ _)) ?_)
    refine wpHoldF_nil ?_
    intro w2 hb2 _
    have hst := store_state (HR1.out.grow hb2) (scmp (hrun st0 m) rB)
    obtain ⟨o2, d2, rfl⟩ := below_plus hb2
    have hBk : BytesAt ((W1.plus o2 d2).setRow g (hasA true nk (scmp (hrun st0 m) rB) rB)) b (adv o k1 cap) (l.drop k1) := ((HBy.out.grow hb2).other hbg _).adv (by have := Ek.out; omega)
    rw [HW1.out, setRow_plus_all H.out] at hBk
    have HB0 := Lib.hid hBk
    clear hb2 hTab r1 r2 r3 hBk
    go_wp2_with fail
    rw [HW1.out, setRow_plus_all H.out]
    obtain ⟨n0, en0⟩ : ∃ n0, n0 = k - k1 := ⟨_, rfl⟩
    rw [← en0]
    have E0 := Lib.hid (show n0 = (l.drop k1).length by rw [en0, List.length_drop, ← Ek.out])
    have hcap0 : n0 ≤ cap - k1 := by omega
    generalize cap - k1 = cap1 at *
    clear hst en0
    go_loopw [1] (fun v wr => ∃ (j n1 o' cap' : Nat) (os : Array Obj) (d : Nat), 64 * j + n1 = (l.drop k1).length ∧ v = .slice (some ⟨b, o', none⟩) n1 cap' ∧ n1 ≤ cap' ∧ BytesAt wr b o' ((l.drop k1).drop (64 * j)) ∧ wr = (w.setRow g (hasA true nk (hruns (scmp (hrun st0 m) rB) (l.drop k1) j) (rB))).plus os d) (fun v _ => match v with | .slice _ n _ => n | _ => 0)
    case atStart => exact ⟨0, _, _, _, _, _, by rw [Nat.mul_zero, Nat.zero_add]; exact E0.out, rfl, hcap0, by rw [Nat.mul_zero, List.drop_zero]; exact HB0.out, rfl⟩
    case round =>
      obtain ⟨j, n1, o', cap', os, d, hjn, rfl, hcap, hby, rfl⟩ := hrel
      have HR := Lib.hid ((H.out.set (hasA true nk (hruns (scmp (hrun st0 m) rB) (l.drop k1) j) (rB))).grow (below_more (Below.refl _ _) os d))
      have HBy := Lib.hid hby
      have HTb := Lib.hid ((HT.out.setRow (show 1 < g by omega) (hasA true nk (hruns (scmp (hrun st0 m) rB) (l.drop k1) j) (rB))).grow (below_more (Below.refl _ _) os d))
      have hgl : (hasA true nk (hruns (scmp (hrun st0 m) rB) (l.drop k1) j) (rB)).size = 74 := by rw [hasA_size, hrB]
      obtain ⟨W, eW⟩ : ∃ W, W = (w.setRow g (hasA true nk (hruns (scmp (hrun st0 m) rB) (l.drop k1) j) (rB))).plus os d := ⟨_, rfl⟩
      rw [← eW] at HR HBy HTb ⊢
      have HW := Lib.hid eW
      clear eW hby
      by_cases h64 : 64 ≤ n1
      · have h64' : (64 : Int) ≤ (n1 : Int) := by omega
        have hcap64 : 64 ≤ cap' := by omega
        have hcl : (((l.drop k1).drop (64 * j)).take 64).length = 64 := by rw [List.length_take, List.length_drop]; omega
        have hcb := bts_take (bts_drop (bts_drop hlb k1) (64 * j)) 64
        have Hrun := Lib.hid (show scmp (hruns (scmp (hrun st0 m) rB) (l.drop k1) j) (((l.drop k1).drop (64 * j)).take 64) = hruns (scmp (hrun st0 m) rB) (l.drop k1) (j + 1) from rfl)
        have hcs : (bysA (((l.drop k1).drop (64 * j)).take 64)).size = 64 := by rw [bysA_size, hcl]
        have hload : ∀ o d, (loadRow 53 (.pointer (some ⟨b, o', none⟩))).run Tryd.prog (W.plus o d) = .ok (.agg (bysA (((l.drop k1).drop (64 * j)).take 64))) (W.plus o d) := fun o d => load_chunk (HBy.out.grow (below_more (Below.refl _ _) o d)) (by rw [List.length_drop]; omega)
        have hTab : ∀ o d, Tabs (W.plus o d) := fun o d => HTb.out.grow (below_more (Below.refl _ _) o d)
        have harr := arr_at b o' cap'
        have hhi := slB_hi (some ⟨b, o', none⟩) n1 cap' hcap64
        have hlo := slB_lo64 b o' n1 cap' h64
        obtain ⟨r1, r2, r3⟩ := HR.out
        generalize eC : ((l.drop k1).drop (64 * j)).take 64 = C at *
        generalize eS : hruns (scmp (hrun st0 m) rB) (l.drop k1) j = S at *
        go_wp2_with fail
        refine wp_region_pick W [0, 1, 2, 3, 4, 5, 6, 7, 8, 9, 10, 11] [false, false, false, false, false, false, false, false, false, false, false, false] [] [] 12 (by kernel_rfl) rfl (by kernel_rfl) (by intro c a d v w h; cases d <;> exact h) ((Below.refl _ _).drew) ?_
        simp only [pick, List.getElem?_cons_succ, List.getElem?_cons_zero, List.drop_succ_cons, List.drop_zero]
        iterate 9 (refine wpHoldF_val (wanted_none rfl) (by intro K o d hK; go_simp; exact hK _ (Below.refl _ _)) ?_)
        refine wpHoldF_call (v := .agg (stA (scmp S C))) (wanted_none rfl) (by intro K o d hK; go_simp; refine (behind_c _ _ hcl hcb _ (hTab o d)).mono ?_; rintro e w' ⟨rfl, hbw⟩; exact ⟨_, rfl, hK _ hbw⟩) ?_
        iterate 2 (refine wpHoldF_val (wanted_none rfl) (by intro K o d hK; go_simp; exact hK _ (Below.refl _ _)) ?_)
        refine wpHoldF_nil ?_
        intro w2 hb2 _
        have hst := store_state (HR.out.grow hb2) (scmp S C)
        skip
        obtain ⟨o2, d2, rfl⟩ := below_plus hb2
        have HB2 := Lib.hid ((HBy.out.grow hb2).other hbg (hasA true nk (scmp S C) (rB)))
        clear hb2 hload hTab harr hhi r1 r2 r3
        go_wp2_with fail
        go_roundw
        case rel =>
          refine ⟨j + 1, n1 - 64, adv o' 64 cap', cap' - 64, os ++ o2, d2, by omega, rfl, by omega, ?_, ?_⟩
          · have := HB2.out.adv (n := 64) (cap := cap') (by rw [List.length_drop]; omega)
            rw [List.drop_drop, show 64 * j + 64 = 64 * (j + 1) by omega] at this
            exact this
          · rw [← Hrun.out, HW.out, World.plus_plus, setRow_plus_all H.out]
        case measure => simp; omega
      · have h64' : ¬ (64 : Int) ≤ (n1 : Int) := by omega
        have hj : (l.drop k1).length / 64 = j := by omega
        have hstz := store_rest HR.out hrB (zs 64) (zs_length 64)
        have HR2 := HR.out.set (hasA true nk (hruns (scmp (hrun st0 m) rB) (l.drop k1) j) (zs 64))
        have hcp := copy_rest (u := 0) (c2 := 64) (cap := cap') (len := n1) (k := n1) (zs_length 64) HR2 (by omega) (by rw [List.length_drop]; omega) (by rw [List.length_drop]; omega) (HBy.out.other hbg _)
        rw [setRow_setRow] at hcp
        simp only [Nat.add_zero, Nat.sub_zero, Nat.zero_add] at hcp
        have hfin : hasA true nk (hruns (scmp (hrun st0 m) rB) (l.drop k1) j) ((zs 64).take 0 ++ ((l.drop k1).drop (64 * j)).take n1 ++ (zs 64).drop n1) = hshA (m ++ l) := by
          rw [List.take_zero, List.nil_append, List.take_of_length_le (by rw [List.length_drop]; omega), zs_drop]
          have e3 : hruns (scmp (hrun st0 m) rB) (l.drop k1) j = hrun (scmp (hrun st0 m) rB) (l.drop k1) := by unfold hrun; rw [hj]
          have e4 : (l.drop k1).drop (64 * j) ++ zs (64 - n1) = rst (l.drop k1) := by unfold rst; rw [hj, show (l.drop k1).length % 64 = n1 by omega]
          rw [e3, e4, F1.out, F2.out]
          unfold hshA; rw [Enk.out]
        rw [hfin] at hcp
        obtain ⟨r1, r2, r3⟩ := HR.out
        clear hfin HR2
        go_wp2_with fail
        go_end0
        exact ⟨rfl, os, d, by rw [HW.out, setRow_plus_all H.out]⟩
end Go.Proofs.YtikpglemnnbdcaaDoor
