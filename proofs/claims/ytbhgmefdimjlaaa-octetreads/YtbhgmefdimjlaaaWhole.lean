/-
  Whole rows: arrays that are read and written by value, under names of their own.
-/
import Derived.Test.YtbhgmefdimjlaaaPlus
namespace Go
open Go.RowKit

/-! ### Whole rows -/
/-- The cells of a block; none, if it is no row that may be written. -/
def World.rowOf (w : World) (n : Nat) : Array Value := match w.heap[n]? with | some (.cells c _ (0, 0)) => c | _ => #[]
def World.isRow (w : World) (n : Nat) : Bool := match w.heap[n]? with | some (.cells _ _ (0, 0)) => true | _ => false
theorem World.isRow_spec {w : World} {n : Nat} (h : w.isRow n = true) : ∃ t, w.heap[n]? = some (.cells (w.rowOf n) t (0, 0)) := by
  unfold World.isRow at h; unfold World.rowOf
  split at h
  · rename_i c t he; exact ⟨t, by rw [he]⟩
  · cases h
section
variable {P : Program} (w : World)
@[go_sem] theorem World.rowOf_alloc_at (c : Array Value) (t : TypeId) (n : Nat) (h : n = w.heap.size) : (w.alloc (.cells c t)).rowOf n = c := by
  subst h; unfold World.rowOf; rw [block_new]; rfl
@[go_sem] theorem World.isRow_alloc_at (c : Array Value) (t : TypeId) (n : Nat) (h : n = w.heap.size) : (w.alloc (.cells c t)).isRow n = true := by
  subst h; unfold World.isRow; rw [block_new]; rfl
@[go_sem] theorem World.rowOf_alloc_past (o : Obj) (n : Nat) (h : n < w.heap.size) : (w.alloc o).rowOf n = w.rowOf n := by unfold World.rowOf; rw [block_old _ _ h]
@[go_sem] theorem World.isRow_alloc_past (o : Obj) (n : Nat) (h : n < w.heap.size) : (w.alloc o).isRow n = w.isRow n := by unfold World.isRow; rw [block_old _ _ h]
@[go_sem] theorem World.rowOf_plus (os : Array Obj) (d n : Nat) (h : n < w.heap.size) : (w.plus os d).rowOf n = w.rowOf n := by unfold World.rowOf; rw [World.plus_block _ _ _ _ h]
@[go_sem] theorem World.isRow_plus (os : Array Obj) (d n : Nat) (h : n < w.heap.size) : (w.plus os d).isRow n = w.isRow n := by unfold World.isRow; rw [World.plus_block _ _ _ _ h]
@[go_sem] theorem World.rowOf_drew (n : Nat) : w.drew.rowOf n = w.rowOf n := rfl
@[go_sem] theorem World.isRow_drew (n : Nat) : w.drew.isRow n = w.isRow n := rfl

/-- A whole row is read: under a name of its own, so that the walk's simp does not open it cell by cell. -/
def loadRow (t : TypeId) (v : Value) : Sem Value := Instr.loadAt t v
theorem run_loadRow {t : TypeId} {d : TypeDesc} {k : Nat} (hu : P.underlying t = some d) (hd : (match d with | .struct _ | .array _ _ => true | _ => false) = true) (hi : (P.info? t).map (·.size) = some k)
    (n : Nat) (h1 : w.isRow n = true) (h2 : (w.rowOf n).size = k) : (loadRow t (.pointer (some ⟨n, 0, none⟩))).run P w = .ok (.agg (w.rowOf n)) w := by
  obtain ⟨t', ht⟩ := World.isRow_spec h1
  subst h2
  unfold loadRow
  simp only [Instr.loadAt, Instr.sureAddr, Sem.run_bind, Sem.run_pure, Result.andThen_ok, run_loadVar_row w n t' t (w.rowOf n) (0, 0) d ht hu hd hi]
/-- A result that is a whole row. -/
theorem results_row {fn : Func} {p : Tmp} {t : TypeId} {d : TypeDesc} {cs : Array Value} (h : fn.results = #[.cell p t]) (hu : P.underlying t = some d) (hd : (match d with | .struct _ | .array _ _ => true | _ => false) = true) (hi : (P.info? t).map (·.size) = some cs.size)
    (tmps : Array Value) (n : Nat) (hp : tmps.getD p undef = .pointer (some ⟨n, 0, none⟩)) (h1 : w.isRow n = true) (h2 : w.rowOf n = cs) : (results fn tmps).run P w = .ok (.agg cs) w := by
  obtain ⟨t', ht⟩ := World.isRow_spec h1
  rw [h2] at ht
  exact results_cell_row h tmps w n t' cs (0, 0) d hp ht hu hd hi
/-- Each cell of a row is one. -/
def oneAll (cs : Array Value) : Bool := cs.all (·.oneCell')
/-- A whole row is written. -/
@[go_sem] theorem run_storeRow (n : Nat) (cs : Array Value) (h1 : w.isRow n = true) (h2 : (w.rowOf n).size = cs.size) (h3 : oneAll cs = true) : (storeCells ⟨n, 0, none⟩ cs.toList 0).run P w = .ok () (w.setRow n cs) := by
  obtain ⟨t, ht⟩ := World.isRow_spec h1
  have := run_storeCells_from (P := P) n t cs.toList 0 (w.rowOf n) w ht (by simp; omega) (fun v hv => (Array.all_eq_true_iff_forall_mem.1 h3) v (by simpa using hv))
  simpa using this
@[go_sem] theorem World.setRow_alloc_at (c cs : Array Value) (t : TypeId) (n : Nat) (h : n = w.heap.size) : (w.alloc (.cells c t)).setRow n cs = w.alloc (.cells cs t) := by
  subst h
  simp only [World.setRow, World.alloc]
  congr 1
  apply Array.ext_getElem?
  intro i
  rw [Array.getElem?_modify]
  by_cases h : w.heap.size = i
  · subst h; simp
  · have h' : ¬ i = w.heap.size := fun e => h e.symm
    simp [h, h', Array.getElem?_push]
@[go_sem] theorem World.setRow_alloc_past (o : Obj) (cs : Array Value) (n : Nat) (h : n < w.heap.size) : (w.alloc o).setRow n cs = (w.setRow n cs).alloc o := by
  simp only [World.setRow, World.alloc]
  congr 1
  apply Array.ext_getElem?
  intro i
  rw [Array.getElem?_modify, Array.getElem?_push, Array.getElem?_push, Array.getElem?_modify, Array.size_modify]
  by_cases hi : i = w.heap.size
  · subst hi; simp [Nat.ne_of_lt h]
  · simp [hi]
@[go_sem] theorem World.setRow_plus (os : Array Obj) (d : Nat) (cs : Array Value) (n : Nat) (h : n < w.heap.size) : (w.plus os d).setRow n cs = (w.setRow n cs).plus os d := by
  simp only [World.setRow, World.plus]
  congr 1
  apply Array.ext_getElem?
  intro k
  simp only [Array.getElem?_modify]
  by_cases hk : k < w.heap.size
  · rw [Array.getElem?_append_left hk, Array.getElem?_append_left (by simpa using hk), Array.getElem?_modify]
  · have hk' : w.heap.size ≤ k := Nat.le_of_not_lt hk
    rw [if_neg (by omega), Array.getElem?_append_right hk', Array.getElem?_append_right (by simpa using hk')]
    simp
@[go_sem] theorem World.setRow_drew (cs : Array Value) (n : Nat) : w.drew.setRow n cs = (w.setRow n cs).drew := rfl
end
end Go
