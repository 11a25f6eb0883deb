/-
  Blocks' numbers, as a walk spells them: below a size, below a size and more; rows in a world in which a row was written.
-/
import Derived.Test.YtbhgmefdimjlaaaRowed
namespace Go
open Go.RowKit
@[go_sem] theorem lt_size_add1 (a b c0 : Nat) (h : a < b) : (a < b + c0) = True := by simp only [eq_iff_iff, iff_true]; omega
@[go_sem] theorem lt_size_add2 (a b c0 c1 : Nat) (h : a < b) : (a < b + c0 + c1) = True := by simp only [eq_iff_iff, iff_true]; omega
@[go_sem] theorem lt_size_add3 (a b c0 c1 c2 : Nat) (h : a < b) : (a < b + c0 + c1 + c2) = True := by simp only [eq_iff_iff, iff_true]; omega
@[go_sem] theorem lt_size_add4 (a b c0 c1 c2 c3 : Nat) (h : a < b) : (a < b + c0 + c1 + c2 + c3) = True := by simp only [eq_iff_iff, iff_true]; omega
@[go_sem] theorem lt_size_add5 (a b c0 c1 c2 c3 c4 : Nat) (h : a < b) : (a < b + c0 + c1 + c2 + c3 + c4) = True := by simp only [eq_iff_iff, iff_true]; omega
@[go_sem] theorem lt_size_add6 (a b c0 c1 c2 c3 c4 c5 : Nat) (h : a < b) : (a < b + c0 + c1 + c2 + c3 + c4 + c5) = True := by simp only [eq_iff_iff, iff_true]; omega
@[go_sem] theorem lt_size_add7 (a b c0 c1 c2 c3 c4 c5 c6 : Nat) (h : a < b) : (a < b + c0 + c1 + c2 + c3 + c4 + c5 + c6) = True := by simp only [eq_iff_iff, iff_true]; omega
@[go_sem] theorem lt_size_add8 (a b c0 c1 c2 c3 c4 c5 c6 c7 : Nat) (h : a < b) : (a < b + c0 + c1 + c2 + c3 + c4 + c5 + c6 + c7) = True := by simp only [eq_iff_iff, iff_true]; omega
@[go_sem] theorem lt_size_add9 (a b c0 c1 c2 c3 c4 c5 c6 c7 c8 : Nat) (h : a < b) : (a < b + c0 + c1 + c2 + c3 + c4 + c5 + c6 + c7 + c8) = True := by simp only [eq_iff_iff, iff_true]; omega
@[go_sem] theorem lt_size_add10 (a b c0 c1 c2 c3 c4 c5 c6 c7 c8 c9 : Nat) (h : a < b) : (a < b + c0 + c1 + c2 + c3 + c4 + c5 + c6 + c7 + c8 + c9) = True := by simp only [eq_iff_iff, iff_true]; omega
@[go_sem] theorem lt_size_add11 (a b c0 c1 c2 c3 c4 c5 c6 c7 c8 c9 c10 : Nat) (h : a < b) : (a < b + c0 + c1 + c2 + c3 + c4 + c5 + c6 + c7 + c8 + c9 + c10) = True := by simp only [eq_iff_iff, iff_true]; omega
@[go_sem] theorem lt_size_add12 (a b c0 c1 c2 c3 c4 c5 c6 c7 c8 c9 c10 c11 : Nat) (h : a < b) : (a < b + c0 + c1 + c2 + c3 + c4 + c5 + c6 + c7 + c8 + c9 + c10 + c11) = True := by simp only [eq_iff_iff, iff_true]; omega
@[go_sem] theorem lt_size_add13 (a b c0 c1 c2 c3 c4 c5 c6 c7 c8 c9 c10 c11 c12 : Nat) (h : a < b) : (a < b + c0 + c1 + c2 + c3 + c4 + c5 + c6 + c7 + c8 + c9 + c10 + c11 + c12) = True := by simp only [eq_iff_iff, iff_true]; omega
@[go_sem] theorem lt_size_add14 (a b c0 c1 c2 c3 c4 c5 c6 c7 c8 c9 c10 c11 c12 c13 : Nat) (h : a < b) : (a < b + c0 + c1 + c2 + c3 + c4 + c5 + c6 + c7 + c8 + c9 + c10 + c11 + c12 + c13) = True := by simp only [eq_iff_iff, iff_true]; omega
@[go_sem] theorem eq_add1 (a : Nat) : (a = a + 1) = False := by simp only [eq_iff_iff, iff_false]; omega
@[go_sem] theorem eq_add2 (a : Nat) : (a = a + 1 + 1) = False := by simp only [eq_iff_iff, iff_false]; omega
@[go_sem] theorem eq_add3 (a : Nat) : (a = a + 1 + 1 + 1) = False := by simp only [eq_iff_iff, iff_false]; omega
@[go_sem] theorem eq_add4 (a : Nat) : (a = a + 1 + 1 + 1 + 1) = False := by simp only [eq_iff_iff, iff_false]; omega
@[go_sem] theorem eq_add5 (a : Nat) : (a = a + 1 + 1 + 1 + 1 + 1) = False := by simp only [eq_iff_iff, iff_false]; omega
@[go_sem] theorem eq_add6 (a : Nat) : (a = a + 1 + 1 + 1 + 1 + 1 + 1) = False := by simp only [eq_iff_iff, iff_false]; omega
@[go_sem] theorem eq_add7 (a : Nat) : (a = a + 1 + 1 + 1 + 1 + 1 + 1 + 1) = False := by simp only [eq_iff_iff, iff_false]; omega
@[go_sem] theorem eq_add8 (a : Nat) : (a = a + 1 + 1 + 1 + 1 + 1 + 1 + 1 + 1) = False := by simp only [eq_iff_iff, iff_false]; omega
@[go_sem] theorem eq_add9 (a : Nat) : (a = a + 1 + 1 + 1 + 1 + 1 + 1 + 1 + 1 + 1) = False := by simp only [eq_iff_iff, iff_false]; omega
@[go_sem] theorem eq_add10 (a : Nat) : (a = a + 1 + 1 + 1 + 1 + 1 + 1 + 1 + 1 + 1 + 1) = False := by simp only [eq_iff_iff, iff_false]; omega
@[go_sem] theorem eq_add11 (a : Nat) : (a = a + 1 + 1 + 1 + 1 + 1 + 1 + 1 + 1 + 1 + 1 + 1) = False := by simp only [eq_iff_iff, iff_false]; omega
@[go_sem] theorem eq_add12 (a : Nat) : (a = a + 1 + 1 + 1 + 1 + 1 + 1 + 1 + 1 + 1 + 1 + 1 + 1) = False := by simp only [eq_iff_iff, iff_false]; omega
@[go_sem] theorem eq_add13 (a : Nat) : (a = a + 1 + 1 + 1 + 1 + 1 + 1 + 1 + 1 + 1 + 1 + 1 + 1 + 1) = False := by simp only [eq_iff_iff, iff_false]; omega
@[go_sem] theorem eq_add14 (a : Nat) : (a = a + 1 + 1 + 1 + 1 + 1 + 1 + 1 + 1 + 1 + 1 + 1 + 1 + 1 + 1) = False := by simp only [eq_iff_iff, iff_false]; omega
@[go_sem] theorem World.isRow_setRow (w : World) (n m : Nat) (c : Array Value) : (w.setRow n c).isRow m = w.isRow m := by
  unfold World.isRow World.setRow
  simp only [Array.getElem?_modify]
  by_cases h : n = m
  · subst h
    rw [if_pos rfl]
    cases hx : w.heap[n]? with
    | none => simp
    | some o =>
      cases o with
      | cells c' e fr => obtain ⟨a, b⟩ := fr; rcases a with _ | a <;> rcases b with _ | b <;> rfl
      | _ => rfl
  · rw [if_neg h]
theorem World.rowOf_setRow_same (w : World) (n : Nat) (c : Array Value) (h : w.isRow n = true) : (w.setRow n c).rowOf n = c := by
  obtain ⟨t, ht⟩ := World.isRow_spec h
  unfold World.rowOf
  rw [setRow_heap w n _ c t _ ht]; rfl
theorem World.rowOf_setRow_other (w : World) (n m : Nat) (c : Array Value) (h : ¬ m = n) : (w.setRow n c).rowOf m = w.rowOf m := by
  unfold World.rowOf
  rw [setRow_other w n m c h]
@[go_sem] theorem World.rowOf_setRow (w : World) (n m : Nat) (c : Array Value) (h : w.isRow n = true) : (w.setRow n c).rowOf m = if m = n then c else w.rowOf m := by
  by_cases e : m = n
  · subst e; rw [if_pos rfl]; exact World.rowOf_setRow_same w m c h
  · rw [if_neg e]; exact World.rowOf_setRow_other w n m c e
@[go_sem] theorem World.size_setRow' (w : World) (n : Nat) (c : Array Value) : (w.setRow n c).heap.size = w.heap.size := size_setRow w n c
theorem RowAt.cellAt {w : World} {n : Nat} {c : Array Value} (h : RowAt w n c) (i : Nat) {v : Value} (hv : c[i]? = some v) : w.cell? ⟨n, i, none⟩ = some v := by
  obtain ⟨t, ht⟩ := h.block
  rw [cell_of_row w n i c t _ ht, hv]
end Go
