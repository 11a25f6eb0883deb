/-
  Worlds with some new blocks behind the old ones: what a call that writes nothing that was there leaves.
-/
import Derived.WalkKit
import Derived.Laws.Rows
namespace Go
open Go.RowKit

/-- The world with the blocks 'os' behind its own, and the tape at place 'd'. -/
def World.plus (w : World) (os : Array Obj) (d : Nat) : World := { w with heap := w.heap ++ os, drawn := d }

section
variable (w : World) (os : Array Obj) (d : Nat)
@[simp, go_sem] theorem World.size_plus : (w.plus os d).heap.size = w.heap.size + os.size := by simp [World.plus]
theorem World.plus_block (k : Nat) (h : k < w.heap.size) : (w.plus os d).heap[k]? = w.heap[k]? := by
  show (w.heap ++ os)[k]? = w.heap[k]?
  rw [Array.getElem?_append_left h]
@[go_sem] theorem World.cell?_plus (n i : Nat) (h : n < w.heap.size) : (w.plus os d).cell? ⟨n, i, none⟩ = w.cell? ⟨n, i, none⟩ := World.cell?_of_block (World.plus_block w os d n h)
@[go_sem] theorem World.frozen?_plus (n i : Nat) (h : n < w.heap.size) : (w.plus os d).frozen? ⟨n, i, none⟩ = w.frozen? ⟨n, i, none⟩ := World.frozen?_of_block (World.plus_block w os d n h)
@[go_sem] theorem World.setCell_plus (n i : Nat) (v : Value) (h : n < w.heap.size) : (w.plus os d).setCell ⟨n, i, none⟩ v = (w.setCell ⟨n, i, none⟩ v).plus os d := by
  unfold World.setCell World.plus
  congr 1
  apply Array.ext_getElem?
  intro k
  simp only [Array.getElem?_modify]
  by_cases hk : k < w.heap.size
  · rw [Array.getElem?_append_left hk, Array.getElem?_append_left (by simpa using hk), Array.getElem?_modify]
  · have hk' : w.heap.size ≤ k := Nat.le_of_not_lt hk
    rw [if_neg (by omega), Array.getElem?_append_right hk', Array.getElem?_append_right (by simpa using hk')]
    simp
@[go_sem] theorem World.drew_plus : (w.plus os d).drew = w.plus os (d + 1) := rfl
theorem below_plus_of {B : Nat} {a : World} (h : Below B a w) (hB : B ≤ w.heap.size) : Below B a (w.plus os d) :=
  ⟨h.os, h.tape, h.output, by simp; have := h.size; omega, fun k hk => by rw [World.plus_block w os d k (by omega)]; exact h.block k hk⟩
end

@[go_sem] theorem World.plus_plus (w : World) (o1 o2 : Array Obj) (d1 d2 : Nat) : (w.plus o1 d1).plus o2 d2 = w.plus (o1 ++ o2) d2 := by
  unfold World.plus
  simp [Array.append_assoc]
/-! A block's number is below that of a block laid later: as the walk spells it. -/
@[go_sem] theorem lt_more1 (x s1 : Nat) : (x < x + 1 + s1) = True := by simp only [eq_iff_iff, iff_true]; omega
@[go_sem] theorem lt_more2 (x s1 s2 : Nat) : (x < x + 1 + s1 + s2) = True := by simp only [eq_iff_iff, iff_true]; omega
@[go_sem] theorem lt_more3 (x s1 s2 s3 : Nat) : (x < x + 1 + s1 + s2 + s3) = True := by simp only [eq_iff_iff, iff_true]; omega
@[go_sem] theorem lt_more4 (x s1 s2 s3 s4 : Nat) : (x < x + 1 + s1 + s2 + s3 + s4) = True := by simp only [eq_iff_iff, iff_true]; omega
@[go_sem] theorem lt_more5 (x s1 s2 s3 s4 s5 : Nat) : (x < x + 1 + s1 + s2 + s3 + s4 + s5) = True := by simp only [eq_iff_iff, iff_true]; omega
@[go_sem] theorem lt_more6 (x s1 s2 s3 s4 s5 s6 : Nat) : (x < x + 1 + s1 + s2 + s3 + s4 + s5 + s6) = True := by simp only [eq_iff_iff, iff_true]; omega
@[go_sem] theorem lt_more7 (x s1 s2 s3 s4 s5 s6 s7 : Nat) : (x < x + 1 + s1 + s2 + s3 + s4 + s5 + s6 + s7) = True := by simp only [eq_iff_iff, iff_true]; omega
@[go_sem] theorem lt_more8 (x s1 s2 s3 s4 s5 s6 s7 s8 : Nat) : (x < x + 1 + s1 + s2 + s3 + s4 + s5 + s6 + s7 + s8) = True := by simp only [eq_iff_iff, iff_true]; omega
@[go_sem] theorem lt_more9 (x s1 s2 s3 s4 s5 s6 s7 s8 s9 : Nat) : (x < x + 1 + s1 + s2 + s3 + s4 + s5 + s6 + s7 + s8 + s9) = True := by simp only [eq_iff_iff, iff_true]; omega
@[go_sem] theorem lt_more10 (x s1 s2 s3 s4 s5 s6 s7 s8 s9 s10 : Nat) : (x < x + 1 + s1 + s2 + s3 + s4 + s5 + s6 + s7 + s8 + s9 + s10) = True := by simp only [eq_iff_iff, iff_true]; omega
@[go_sem] theorem lt_more11 (x s1 s2 s3 s4 s5 s6 s7 s8 s9 s10 s11 : Nat) : (x < x + 1 + s1 + s2 + s3 + s4 + s5 + s6 + s7 + s8 + s9 + s10 + s11) = True := by simp only [eq_iff_iff, iff_true]; omega
@[go_sem] theorem lt_more12 (x s1 s2 s3 s4 s5 s6 s7 s8 s9 s10 s11 s12 : Nat) : (x < x + 1 + s1 + s2 + s3 + s4 + s5 + s6 + s7 + s8 + s9 + s10 + s11 + s12) = True := by simp only [eq_iff_iff, iff_true]; omega
theorem below_alloc {a w : World} (h : Below a.heap.size a w) (o : Obj) : Below a.heap.size a (w.alloc o) := h.alloc h.size o
theorem below_more {a w : World} (h : Below a.heap.size a w) (os : Array Obj) (d : Nat) : Below a.heap.size a (w.plus os d) := below_plus_of w os d h h.size
theorem below_setRow {a w : World} (h : Below a.heap.size a w) {g : Nat} (hg : a.heap.size ≤ g) (cs : Array Value) : Below a.heap.size a (w.setRow g cs) :=
  ⟨h.os, h.tape, h.output, by rw [size_setRow]; exact h.size, fun k hk => by rw [setRow_other w g k cs (by omega)]; exact h.block k hk⟩
theorem block_new (w : World) (o : Obj) : (w.alloc o).heap[w.heap.size]? = some o := heap_alloc_new w o
theorem block_old (w : World) (o : Obj) {i : Nat} (h : i < w.heap.size) : (w.alloc o).heap[i]? = w.heap[i]? := Below.heap_alloc w o i h
theorem below_plus {w w' : World} (h : Below w.heap.size w w') : ∃ os d, w' = w.plus os d := by
  refine ⟨w'.heap.extract w.heap.size w'.heap.size, w'.drawn, ?_⟩
  obtain ⟨heap, tape, drawn, wos, output⟩ := w
  obtain ⟨heap', tape', drawn', wos', output'⟩ := w'
  have h1 := h.os; have h2 := h.tape; have h3 := h.output; have h4 := h.size; have h5 := h.block
  simp only at h1 h2 h3 h4 h5
  subst h1; subst h2; subst h3
  show (World.mk heap' tape' drawn' wos' output') = World.mk (heap ++ heap'.extract heap.size heap'.size) tape' drawn' wos' output'
  congr 1
  apply Array.ext_getElem?
  intro k
  by_cases hk : k < heap.size
  · rw [Array.getElem?_append_left hk]; exact h5 k hk
  · rw [Array.getElem?_append_right (by omega), Array.getElem?_extract]
    by_cases hk' : k < heap'.size
    · rw [if_pos (by omega)]; congr 1; omega
    · rw [if_neg (by omega), Array.getElem?_eq_none (by omega)]
end Go
