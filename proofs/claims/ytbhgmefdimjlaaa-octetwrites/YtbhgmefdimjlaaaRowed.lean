/-
  Blocks whose cells are known, kept through what a call and a store leave.
-/
import Derived.Test.YtbhgmefdimjlaaaWhole
import Derived.Test.YtbhgmefdimjlaaaAllocs
namespace Go
open Go.RowKit
/-- Block n is a row of the cells c. -/
def RowAt (w : World) (n : Nat) (c : Array Value) : Prop := w.isRow n = true ∧ w.rowOf n = c ∧ n < w.heap.size
theorem RowAt.block {w : World} {n : Nat} {c : Array Value} (h : RowAt w n c) : ∃ t, w.heap[n]? = some (.cells c t (0, 0)) := by
  obtain ⟨t, ht⟩ := World.isRow_spec h.1
  exact ⟨t, by rw [← h.2.1]; exact ht⟩
theorem RowAt.of {w : World} {n : Nat} {c : Array Value} {t : TypeId} (h : w.heap[n]? = some (.cells c t (0, 0))) : RowAt w n c := by
  refine ⟨?_, ?_, (Array.getElem?_eq_some_iff.1 h).1⟩
  · unfold World.isRow; rw [h]; rfl
  · unfold World.rowOf; rw [h]; rfl
theorem RowAt.grow {w w' : World} {n : Nat} {c : Array Value} (h : RowAt w n c) (hb : Below w.heap.size w w') : RowAt w' n c := by
  obtain ⟨t, ht⟩ := h.block
  exact RowAt.of (t := t) (by rw [hb.block n h.2.2]; exact ht)
theorem RowAt.set {w : World} {n : Nat} {c : Array Value} (h : RowAt w n c) (c' : Array Value) : RowAt (w.setRow n c') n c' := by
  obtain ⟨t, ht⟩ := h.block
  exact RowAt.of (setRow_heap w n c c' t _ ht)
theorem RowAt.other {w : World} {n : Nat} {c : Array Value} (h : RowAt w n c) {m : Nat} (hm : n ≠ m) (c' : Array Value) : RowAt (w.setRow m c') n c := by
  obtain ⟨t, ht⟩ := h.block
  exact RowAt.of (t := t) (by rw [setRow_other w m n c' hm]; exact ht)
end Go
