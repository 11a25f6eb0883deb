/-
  A hash's row: its parts are read and written in its middle.
-/
import Derived.Test.YtikpglemnnbdcaaDoorShaBehind
import Derived.Test.YtikpglemnnbdcaaDoorShaKey
namespace Go.Proofs.YtikpglemnnbdcaaDoor
open Go.RowKit Go.Hold Go.Sh

/-! ### Some cells of a row are set -/
def setL (c : Array Value) : Nat → List Value → Array Value
  | _, [] => c
  | o, v :: r => setL (c.setIfInBounds o v) (o + 1) r
theorem setL_size : ∀ (vs : List Value) (c : Array Value) (o : Nat), (setL c o vs).size = c.size
  | [], _, _ => rfl
  | v :: r, c, o => by rw [setL, setL_size r]; simp
theorem setL_get : ∀ (vs : List Value) (c : Array Value) (o i : Nat), (setL c o vs)[i]? = if o ≤ i ∧ i < o + vs.length ∧ i < c.size then vs[i - o]? else c[i]?
  | [], c, o, i => by rw [setL, if_neg (by simp; omega)]
  | v :: r, c, o, i => by
    rw [setL, setL_get r]
    simp only [Array.size_setIfInBounds, Array.getElem?_setIfInBounds, List.length_cons]
    by_cases h1 : o + 1 ≤ i ∧ i < o + 1 + r.length ∧ i < c.size
    · rw [if_pos h1, if_pos (by omega), show i - o = i - (o + 1) + 1 by omega, List.getElem?_cons_succ]
    · rw [if_neg h1]
      by_cases h2 : o = i
      · subst h2
        by_cases h3 : o < c.size
        · rw [if_pos rfl, if_pos h3, if_pos (by omega), Nat.sub_self]; rfl
        · rw [if_pos rfl, if_neg h3, if_neg (by omega), Array.getElem?_eq_none (by omega)]
      · rw [if_neg h2, if_neg (by omega)]
theorem setRow_setRow (w : World) (n : Nat) (c c' : Array Value) : (w.setRow n c).setRow n c' = w.setRow n c' := by
  simp only [World.setRow]
  congr 1
  apply Array.ext_getElem?
  intro k
  simp only [Array.getElem?_modify]
  by_cases e : n = k
  · subst e
    cases hx : w.heap[n]? with
    | none => simp
    | some o => cases o <;> simp
  · simp [e]
theorem setCell_row {w : World} {n : Nat} {c : Array Value} (h : RowAt w n c) (i : Nat) (v : Value) : w.setCell ⟨n, i, none⟩ v = w.setRow n (c.setIfInBounds i v) := by
  have := setCell_setRow h c i v
  rwa [setRow_self h] at this
theorem setCells_row : ∀ (vs : List Value) (o : Nat) {w : World} {n : Nat} {c : Array Value}, RowAt w n c → w.setCells n o vs = w.setRow n (setL c o vs)
  | [], _, _, _, _, h => (setRow_self h).symm
  | v :: r, o, w, n, c, h => by
    rw [World.setCells, setCells_row r (o + 1) (RowAt.setCell h o v), setL, setCell_row h, setRow_setRow]

/-! ### A hash's parts -/
theorem hasA_get (m : Bool) (n : Int) (s : St) (r : List Nat) (i : Nat) (h : i < r.length) : (hasA m n s r)[10 + i]? = some (.int .u8 ((r.getD i 0 : Nat) : Int)) := by
  have : (hasA m n s r)[10 + i]? = (bys r)[i]? := by
    simp only [hasA, List.getElem?_toArray]
    rw [show 10 + i = (8 + i) + 1 + 1 by omega, List.getElem?_cons_succ, List.getElem?_cons_succ, List.getElem?_append_right (by simp [stA])]
    simp [stA]
  rw [this]
  simp [bys, h]
def stPart (c : Array Value) : Array Value := c.extract 2 10
def rsPart (c : Array Value) : Array Value := c.extract 10 74
@[go_sem] theorem stPart_has (m : Bool) (n : Int) (s : St) (r : List Nat) : stPart (hasA m n s r) = stA s := by
  apply Array.ext_getElem?
  intro i
  unfold stPart hasA stA
  rw [Array.getElem?_extract]
  by_cases h : i < 8
  · have : i = 0 ∨ i = 1 ∨ i = 2 ∨ i = 3 ∨ i = 4 ∨ i = 5 ∨ i = 6 ∨ i = 7 := by omega
    rcases this with rfl | rfl | rfl | rfl | rfl | rfl | rfl | rfl <;> simp
  · rw [if_neg (by simp; omega), Array.getElem?_eq_none (by simp; omega)]
theorem rsPart_has (m : Bool) (n : Int) (s : St) (r : List Nat) (hr : r.length = 64) : rsPart (hasA m n s r) = bysA r := by
  apply Array.ext_getElem?
  intro i
  unfold rsPart
  rw [Array.getElem?_extract, hasA_size, hr]
  by_cases h : i < 64
  · rw [if_pos (by omega), hasA_get _ _ _ _ _ (by omega), bysA_get _ _ (by omega)]
  · rw [if_neg (by omega), Array.getElem?_eq_none (by rw [bysA_size]; omega)]
theorem setL_state (m : Bool) (n : Int) (s s' : St) (r : List Nat) : setL (hasA m n s r) 2 (stA s').toList = hasA m n s' r := by
  simp [setL, hasA, stA]
theorem setL_rest (m : Bool) (n : Int) (s : St) (r l : List Nat) (u : Nat) (h : u + l.length ≤ r.length) : setL (hasA m n s r) (10 + u) (bys l) = hasA m n s (r.take u ++ l ++ r.drop (u + l.length)) := by
  have hbl : (bys l).length = l.length := by simp [bys]
  have hnew : (r.take u ++ l ++ r.drop (u + l.length)).length = r.length := by simp; omega
  apply Array.ext_getElem?
  intro i
  rw [setL_get, hbl, hasA_size]
  by_cases h10 : i < 10
  · rw [if_neg (by omega)]
    have : i = 0 ∨ i = 1 ∨ i = 2 ∨ i = 3 ∨ i = 4 ∨ i = 5 ∨ i = 6 ∨ i = 7 ∨ i = 8 ∨ i = 9 := by omega
    rcases this with rfl | rfl | rfl | rfl | rfl | rfl | rfl | rfl | rfl | rfl <;> simp [hasA, stA]
  · obtain ⟨j, rfl⟩ : ∃ j, i = 10 + j := ⟨i - 10, by omega⟩
    by_cases hj : j < r.length
    · rw [hasA_get m n s r j hj, hasA_get m n s (r.take u ++ l ++ r.drop (u + l.length)) j (by omega)]
      by_cases h1 : u ≤ j ∧ j < u + l.length
      · rw [if_pos (by omega)]
        simp only [bys, List.getElem?_map, List.getD]
        rw [show 10 + j - (10 + u) = j - u by omega, List.append_assoc, List.getElem?_append_right (by simp; omega), List.getElem?_append_left (by simp; omega)]
        simp only [List.length_take]
        rw [show min u r.length = u by omega, List.getElem?_eq_getElem (by omega)]
        rfl
      · rw [if_neg (by omega)]
        congr 3
        simp only [List.getD]
        by_cases h2 : j < u
        · rw [List.append_assoc, List.getElem?_append_left (by simp; omega), List.getElem?_take, if_pos h2]
        · rw [List.getElem?_append_right (by simp; omega), List.getElem?_drop]
          congr 2
          simp only [List.length_append, List.length_take]; omega
    · rw [if_neg (by omega), Array.getElem?_eq_none (by rw [hasA_size]; omega), Array.getElem?_eq_none (by rw [hasA_size]; omega)]
theorem setL_len (m : Bool) (n n' : Int) (s : St) (r : List Nat) : (hasA m n s r).setIfInBounds 1 (.int .i64 n') = hasA m n' s r := by
  simp [hasA]

/-! ### As the walk meets them -/
section
variable (w : World) (n : Nat)
theorem range_row {w : World} {n : Nat} {c : Array Value} (h : RowAt w n c) (o k : Nat) : w.rangeAt n o (c.extract o (o + k)).toList := by
  obtain ⟨t, ht⟩ := h.block
  exact World.rangeAt_of_block ht o k
@[go_sem] theorem run_loadState (h1 : w.isRow n = true) (h2 : (w.rowOf n).size = 74) : (loadRow 51 (.pointer (some ⟨n, 2, none⟩))).run Tryd.prog w = .ok (.agg (stPart (w.rowOf n))) w := by
  obtain ⟨t, ht⟩ := World.isRow_spec h1
  exact run_loadAt_mid w n 2 _ (stPart (w.rowOf n)).toList _ (World.rangeAt_of_block ht 2 8) Tryd.underlying51 rfl (by
    have : (stPart (w.rowOf n)).toList.length = 8 := by simp [stPart, h2]
    have e : (Tryd.prog.info? 51).map (·.size) = some 8 := by kernel_rfl
    rw [this]; exact e)
@[go_sem] theorem run_loadRest (h1 : w.isRow n = true) (h2 : (w.rowOf n).size = 74) : (loadRow 53 (.pointer (some ⟨n, 10, none⟩))).run Tryd.prog w = .ok (.agg (rsPart (w.rowOf n))) w := by
  obtain ⟨t, ht⟩ := World.isRow_spec h1
  exact run_loadAt_mid w n 10 _ (rsPart (w.rowOf n)).toList _ (World.rangeAt_of_block ht 10 64) Tryd.underlying53 rfl (by
    have : (rsPart (w.rowOf n)).toList.length = 64 := by simp [rsPart, h2]
    have e : (Tryd.prog.info? 53).map (·.size) = some 64 := by kernel_rfl
    rw [this]; exact e)
theorem run_storeMid {w : World} {n : Nat} {c : Array Value} (h : RowAt w n c) (o : Nat) (cs : Array Value) (h2 : o + cs.size ≤ c.size) (h3 : oneAll cs = true) : (storeCells ⟨n, o, none⟩ cs.toList 0).run Tryd.prog w = .ok () (w.setRow n (setL c o cs.toList)) := by
  have := run_storeCells_cells (P := Tryd.prog) n o cs.toList 0 w (fun j hj => by
      have hj' : j < cs.size := by simpa using hj
      rw [show o + 0 + j = o + j by omega, RowAt.cellAt h (o + j) (Array.getElem?_eq_getElem (by omega))]; rfl)
    (fun j _ => RowAt.frozenAt h _) (fun v hv => (Array.all_eq_true_iff_forall_mem.1 h3) v (by simpa using hv))
  rw [this, Nat.add_zero, setCells_row _ _ h]
end
end Go.Proofs.YtikpglemnnbdcaaDoor
