/-
  Layer 5: the question 'alive' is answered with yes; what the laws' walks share.
-/
import Derived.Test.YtcaleepbnjlbpaaChaXor
import Derived.Test.YtcaleepbnjlbpaaStrs
namespace Go.Proofs.Ytcaleepbnjlbpaa
open Go.RowKit Go.Hold Go.Sh Go.Ch

@[go_sem ↓] theorem build_non (ps : Array (Nat × Value)) : Instr.build 33 ps = bldA 33 ps := rfl
set_option maxRecDepth 100000 in
@[go_sem] theorem run_bldNon (w : World) : (bldA 33 #[(3, .int .u8 9), (7, .int .u8 74)]).run Try.prog w = .ok (.agg (bysA non0)) w := run_build w _ _ _ (by kernel_rfl)
set_option maxRecDepth 100000 in
@[go_sem] theorem run_bldNon0 (w : World) : (bldA 33 #[]).run Try.prog w = .ok (.agg (bysA (zs 12))) w := run_build w _ _ _ (by kernel_rfl)
/-- Of the bytes 0, 1, .. the first i. -/
def keyP (i : Nat) : List Nat := (List.range 32).map fun j => if j < i then j else 0
theorem keyP_length (i : Nat) : (keyP i).length = 32 := by simp [keyP]
theorem keyP_get (i j : Nat) (h : j < 32) : (keyP i)[j]? = some (if j < i then j else 0) := by simp [keyP, h]
theorem keyP_zero : keyP 0 = zs 32 := by decide
theorem keyP_all : keyP 32 = key0 := by decide
theorem keyP_set (i : Nat) (h : i < 32) : (keyP i).set i i = keyP (i + 1) := by
  apply List.ext_getElem?
  intro j
  rw [List.getElem?_set]
  by_cases hj : j < 32
  · rw [keyP_get _ _ hj, keyP_get _ _ hj]
    by_cases e : i = j
    · subst e; rw [if_pos rfl, if_pos (by rw [keyP_length]; exact h), if_pos (by omega)]
    · rw [if_neg e]
      by_cases h1 : j < i
      · rw [if_pos h1, if_pos (by omega)]
      · rw [if_neg h1, if_neg (by omega)]
  · rw [if_neg (by omega), List.getElem?_eq_none (by rw [keyP_length]; omega), List.getElem?_eq_none (by rw [keyP_length]; omega)]
theorem key0_bts : ∀ i, key0.getD i 0 < 256 := getD_lt fun x hx => by have := List.mem_range.1 hx; omega
theorem non0_bts : ∀ i, non0.getD i 0 < 256 := getD_lt fun x hx => by
  have h : (non0.all fun y => decide (y < 256)) = true := by decide
  simpa using List.all_eq_true.1 h x hx
set_option maxHeartbeats 1000000 in
set_option maxRecDepth 100000 in
theorem alive5_c (w : World) : Calls Try.prog 8 #[] w fun e w' => e = .returned (.bool true) ∧ Below w.heap.size w w' := by
  have HBl := Lib.hid (chablock_c key0 non0 1 (by decide) key0_bts (by decide) non0_bts)
  have HSt := Lib.hid (fun W => stream_c key0 (zs 12) 0 3 (by decide) key0_bts (by decide) (bts_zs 12) (by decide) (by decide) (by decide) W)
  have hlb := blk_length key0 non0 1
  have Hb := Lib.hid alive_blk
  generalize blk key0 non0 1 = b at *
  have hbz := bysA_size' hlb
  have Hlb := Lib.hid hlb
  clear hlb
  go_enter Try.func8, Try.ntmps8
  go_wp2_with fail
  generalize hW : World.alloc _ _ = W1
  have K1 := Lib.hid (show RowAt W1 w.heap.size (bysA (keyP 0)) by rw [← hW, keyP_zero]; clear hW; exact ⟨by go_simp, by go_simp; rfl, by go_simp⟩)
  have B1 := Lib.hid (show Below w.heap.size w W1 by rw [← hW]; exact below_alloc (Below.refl _ _) _)
  clear hW
  have hg : w.heap.size ≤ w.heap.size := Nat.le_refl _
  generalize eg : w.heap.size = g at K1 hg ⊢
  have Eg := Lib.hid eg
  clear eg
  go_loopw [6] (fun i wr => ∃ j : Nat, j ≤ 32 ∧ i = .int .i64 j ∧ Sets W1 g (bysA (keyP j)) wr) (fun i _ => 32 - (intOf i).toNat)
  case atStart => exact ⟨0, by decide, rfl, Sets.refl K1.out⟩
  case round =>
    obtain ⟨j, hj, rfl, hset⟩ := hrel
    by_cases hj32 : j < 32
    · have hj0 : (0 : Int) ≤ (j : Int) := by omega
      have hj1 : (j : Int) < 32 := by omega
      have hrow := hset.row K1.out
      have hc := hrow.cellAt j (bysA_get _ j (by rw [keyP_length]; exact hj32))
      have hf := hrow.frozenAt j
      have hw8 : IntKind.u8.wrap (j : Int) = (j : Int) := IntWalk.u8_in _ (by omega)
      have Hset := Lib.hid (keyP_set j hj32)
      have HS := Lib.hid hset
      clear hset hrow
      go_wp2_with fail
      go_roundw
      case rel =>
        refine ⟨j + 1, by omega, by go_num, ?_⟩
        rw [← Hset.out, ← bysA_set]; exact HS.out.cell K1.out
      case measure => simp [intOf]; omega
    · obtain rfl : j = 32 := by omega
      rw [keyP_all] at hset
      have K2 := Lib.hid (hset.row K1.out)
      have B2 := Lib.hid (hset.below B1.out (by rw [Eg.out]; exact hg) B1.out.size)
      have hkz := bysA_size' (show key0.length = 32 by decide)
      have hgl : g < wr.heap.size := K2.out.2.2
      clear hset
      obtain ⟨k1, k2, k3⟩ := K2.out
      obtain ⟨W2, eW2⟩ : ∃ x, x = wr := ⟨_, rfl⟩
      rw [← eW2] at K2 B2 k1 k2 k3 hgl ⊢
      clear eW2
      go_wp2_with fail
      refine (HBl.out _).mono ?_
      rintro e W3 ⟨rfl, hb3⟩
      have K3 := Lib.hid (K2.out.grow hb3)
      have B3 := Lib.hid (B2.out.trans (hb3.mono B2.out.size))
      clear hb3 k1 k2 k3 K2 B2 hgl
      obtain ⟨k1, k2, k3⟩ := K3.out
      go_wp2_with fail
      have hA := below_alloc (Below.refl W3.heap.size W3) (.cells (bysA b) 27)
      have R4 := Lib.hid (RowAt.of (block_new W3 (.cells (bysA b) 27)))
      have B4 := Lib.hid (B3.out.trans (hA.mono B3.out.size))
      clear hA k1 k2 k3
      refine (HSt.out _).mono ?_
      rintro e W5 ⟨gs, rfl, _, _, hb5⟩
      have R5 := Lib.hid (R4.out.grow hb5)
      have B5 := Lib.hid (B4.out.trans (hb5.mono B4.out.size))
      have hc0 := R5.out.cellAt 0 (bysA_get b 0 (by rw [Hlb.out]; decide))
      have hc1 := R5.out.cellAt 1 (bysA_get b 1 (by rw [Hlb.out]; decide))
      rw [Hb.out.1] at hc0
      rw [Hb.out.2] at hc1
      clear hb5
      go_wp2_with fail
      go_ret
      exact ⟨rfl, B5.out⟩

/-! ### A nonce of a key -/
theorem arr_non (b o cap : Nat) (w : World) : (Instr.arrayAt 33 (.slice (some ⟨b, o, none⟩) 12 cap)).run Try.prog w = .ok (.pointer (some ⟨b, o, none⟩)) w := by
  simp [Instr.arrayAt, run_underlying Try.underlying33]
theorem load_non {w : World} {b o : Nat} {l : List Nat} (h : BytesAt w b o l) (hl : 12 ≤ l.length) : (loadRow 33 (.pointer (some ⟨b, o, none⟩))).run Try.prog w = .ok (.agg (bysA (l.take 12))) w := by
  have e : (Try.prog.info? 33).map (·.size) = some 12 := by kernel_rfl
  have hbl : (bys (l.take 12)).length = 12 := by rw [bys_length, List.length_take]; omega
  refine run_loadAt_mid w b o _ (bys (l.take 12)) _ (fun j v hv => ?_) Try.underlying33 rfl (by rw [hbl]; exact e)
  have hj : j < 12 := by have := (List.getElem?_eq_some_iff.1 hv).1; omega
  rw [h.2 j (by omega), ← hv]
  simp only [bys, List.getElem?_map, List.getElem?_take, if_pos hj, List.getD]
  rw [List.getElem?_eq_getElem (by omega)]; rfl
/-- Two blocks, byte by byte. -/
def beqs (l m : List Nat) : Bool := (List.range 64).all fun i => ((l.getD i 0 : Nat) : Int) == ((m.getD i 0 : Nat) : Int)
@[go_sem] theorem beqs_self (l : List Nat) : beqs l l = true := by simp [beqs]
@[go_sem] theorem run_equalIn_b64 (l m : List Nat) (hl : l.length = 64) (hm : m.length = 64) (w : World) : (Op.equalIn 10000 27 (.agg (bysA l)) (.agg (bysA m))).run Try.prog w = .ok (beqs l m) w := by
  obtain ⟨i, hi⟩ : ∃ i, Try.prog.info? 5 = some i := Option.isSome_iff_exists.1 (by kernel_rfl)
  rw [run_equalIn_array w 9999 (bysA l) (bysA m) Try.underlying27 hi, show Try.prog.cellsOf 5 = 1 from by kernel_rfl]
  exact run_eqItems_int (P := Try.prog) (k := .u8) 9998 Try.underlying5 (bysA l) (bysA m) (fun i => ((l.getD i 0 : Nat) : Int)) (fun i => ((m.getD i 0 : Nat) : Int)) w (List.range 64) fun j hj => ⟨bysA_get l j (by have := List.mem_range.1 hj; omega), bysA_get m j (by have := List.mem_range.1 hj; omega)⟩
@[go_sem] theorem eqGuard_b64 (op : BinOp) (x y : Operand) (xs ys : Array Value) (w : World) : (eqGuard op 27 x y (.agg xs) (.agg ys)).run Try.prog w = .ok () w := run_eqGuard_agg w op 27 x y xs ys (by kernel_rfl)
/-- Two blocks that are one are compared. -/
theorem eql64 {o : Oper} {x y : Operand} {u : TypeId} (ho : o.op = .binOp .eql 27 x y u) (a : Operand → Value) (b : List Nat) (hb : b.length = 64) (h1 : a x = .agg (bysA b)) (h2 : a y = .agg (bysA b)) (w : World) :
    (execOp a o).run Try.prog w = .ok (.value (.bool true)) w := by
  obtain ⟨d, op, t, p, af, g⟩ := o
  simp only at ho
  subst ho
  go_simp
end Go.Proofs.Ytcaleepbnjlbpaa
