/-
  The reference's carried: digits that may be great, as 32 digits below 256 of a number that leaves the same.
-/
import Derived.Test.YtpilonikhokjeaaRefSpread
namespace Go.Proofs.Ytpilonikhokjeaa
open Go.RowKit Go.Shelf Go.Hold

theorem take_fold_lo (l : List Nat) (k : Nat) (hk : k < l.length) (h : k < 32) : fold (l.take (k + 1)) = fold (l.take k) + 256 ^ k * l.getD k 0 := by
  unfold fold
  rw [List.take_take, List.take_take, List.drop_take, List.drop_take, Nat.min_eq_right (by omega), Nat.min_eq_right (by omega), show k + 1 - 32 = 0 by omega, show k - 32 = 0 by omega, ofBytes_take l k hk]
  simp [ofBytes]
theorem take_fold_hi (l : List Nat) (k : Nat) (hk : k < l.length) (h : 32 ≤ k) : fold (l.take (k + 1)) = fold (l.take k) + 256 ^ (k - 32) * (38 * l.getD k 0) := by
  unfold fold
  rw [List.take_take, List.take_take, List.drop_take, List.drop_take, Nat.min_eq_left (by omega), Nat.min_eq_left (by omega), show k + 1 - 32 = (k - 32) + 1 by omega, ofBytes_take (l.drop 32) (k - 32) (by rw [List.length_drop]; omega)]
  have : (l.drop 32).getD (k - 32) 0 = l.getD k 0 := by
    rw [List.getD_eq_getElem?_getD, List.getD_eq_getElem?_getD, List.getElem?_drop, show 32 + (k - 32) = k by omega]
  rw [this, Nat.mul_add, Nat.mul_left_comm]; omega
theorem fold_nil : fold [] = 0 := rfl
theorem ints_set (l : List Nat) (j y : Nat) : ints (l.set j y) = (ints l).set j (.int .i64 (y : Int)) := by simp [ints, List.map_set]
theorem ints_one (l : List Nat) : ∀ u ∈ ints l, u.oneCell' = true := by
  intro u hu
  obtain ⟨n, _, rfl⟩ := List.mem_map.1 hu
  rfl
theorem ints_zeros (n : Nat) : ints (List.replicate n 0) = List.replicate n (.int .i64 0) := by simp [ints]
theorem Own.cellOf {w : World} {B g n cap : Nat} {l : List Nat} (h : Own w B (.slice (some ⟨g, 0, none⟩) n cap) l) (hn : l.length = n) (i : Nat) (hi : i < n) : w.cell? ⟨g, i, none⟩ = some (.int .i64 (l.getD i 0 : Nat)) := by
  subst hn; exact h.cell i hi
theorem Own.free {w : World} {B g n cap : Nat} {l : List Nat} (h : Own w B (.slice (some ⟨g, 0, none⟩) n cap) l) (hn : l.length = n) (i : Nat) : w.frozen? ⟨g, i, none⟩ = false := by
  subst hn; exact World.ownsRow.frozenAt h i
theorem Own.store {w : World} {B g n cap : Nat} {l : List Nat} (h : Own w B (.slice (some ⟨g, 0, none⟩) n cap) l) (hn : l.length = n) (i y : Nat) : Own (w.setCell ⟨g, i, none⟩ (.int .i64 (y : Int))) B (.slice (some ⟨g, 0, none⟩) n cap) (l.set i y) := by
  subst hn
  have := (World.ownsRow.stored h i (.int .i64 (y : Int))).1
  unfold Own
  rw [ints_set, List.length_set]; exact this
theorem Own.lt {w : World} {B g n cap : Nat} {l : List Nat} (h : Own w B (.slice (some ⟨g, 0, none⟩) n cap) l) : B ≤ g ∧ g < w.heap.size := World.ownsRow.lt h g rfl
theorem below_store {B : Nat} {a w : World} (h : Below B a w) (hB : B ≤ w.heap.size) (g i : Nat) (u : Value) (hg : B ≤ g) (o : Array Obj) (d : Nat) : Below B a ((w.setCell ⟨g, i, none⟩ u).plus o d) :=
  (h.setCell (p := ⟨g, i, none⟩) hg u).trans ((below_more (Below.refl _ _) o d).mono (by simpa using hB))
theorem Own.stores {w : World} {B g n cap : Nat} {l : List Nat} (h : Own w B (.slice (some ⟨g, 0, none⟩) n cap) l) (hn : l.length = n) (i y : Nat) (o : Array Obj) (d : Nat) :
    Own ((w.setCell ⟨g, i, none⟩ (.int .i64 (y : Int))).plus o d) B (.slice (some ⟨g, 0, none⟩) n cap) (l.set i y) := (h.store hn i y).below (below_more (Below.refl _ _) o d)
theorem spread32 (l : List Nat) (g cap : Nat) (w : World) (hl : l.length = 32) (hm : Most 1073741824 l) (hg : g < w.heap.size) (h : Own w 0 (.slice (some ⟨g, 0, none⟩) 32 cap) l) :
    Calls Try.prog 59 #[.slice (some ⟨g, 0, none⟩) 32 cap] w fun e w' =>
      ∃ v, e = .returned v ∧ Own w' w.heap.size v (dg (ofBytes l) 32 ++ [ofBytes l / 256 ^ 32]) ∧ Below w.heap.size w w' := by
  have := spread_N l g cap w (by omega) hm hg (by rw [hl]; exact h)
  rw [hl] at this; exact this
/-- How great a digit may have become behind k steps. -/
def lim (k j : Nat) : Nat := (if j < k then 4194304 else 0) + (if 32 + j < k then 159383552 else 0)
theorem lim_mono (k j : Nat) : lim k j ≤ lim (k + 1) j := by
  unfold lim
  by_cases h1 : j < k <;> by_cases h2 : 32 + j < k <;> simp [h1, h2, show (j < k → j < k + 1) by omega, show (32 + j < k → 32 + j < k + 1) by omega] <;> omega
theorem lim_lo (k : Nat) : lim k k = 0 := by unfold lim; simp
theorem lim_lo1 (k : Nat) : lim (k + 1) k = 4194304 := by unfold lim; simp; omega
theorem lim_hi (k : Nat) (h : 32 ≤ k) : lim k (k - 32) = 4194304 := by unfold lim; simp [show k - 32 < k by omega, show ¬ 32 + (k - 32) < k by omega]
theorem lim_hi1 (k : Nat) (h : 32 ≤ k) : lim (k + 1) (k - 32) = 163577856 := by unfold lim; simp [show k - 32 < k + 1 by omega, show 32 + (k - 32) < k + 1 by omega]
theorem lim_most (k j : Nat) : lim k j ≤ 163577856 := by unfold lim; split <;> split <;> omega
theorem getD_set (l : List Nat) (i y j : Nat) (hi : i < l.length) : (l.set i y).getD j 0 = if j = i then y else l.getD j 0 := by
  rw [List.getD_eq_getElem?_getD, List.getD_eq_getElem?_getD, List.getElem?_set]
  by_cases h : i = j
  · subst h; simp [hi]
  · simp [h, show ¬ j = i by omega]
/-- A round's step, low digits. -/
theorem low_step {l m : List Nat} {k : Nat} (hl : k < l.length) (hk : k < 32) (hx : l.getD k 0 ≤ 4194304) (hm : m.length = 32) (hf : ofBytes m = fold (l.take k)) (hb : ∀ j, m.getD j 0 ≤ lim k j) :
    (m.set k (m.getD k 0 + l.getD k 0)).length = 32 ∧ ofBytes (m.set k (m.getD k 0 + l.getD k 0)) = fold (l.take (k + 1)) ∧ ∀ j, (m.set k (m.getD k 0 + l.getD k 0)).getD j 0 ≤ lim (k + 1) j := by
  refine ⟨by rw [List.length_set, hm], by rw [ofBytes_set m k _ (by omega), hf, take_fold_lo l k hl hk], fun j => ?_⟩
  rw [getD_set m k _ j (by omega)]
  split
  · rename_i h; subst h
    have := hb j; rw [lim_lo] at this; rw [lim_lo1]; omega
  · exact Nat.le_trans (hb j) (lim_mono k j)
theorem high_step {l m : List Nat} {k : Nat} (hl : k < l.length) (hk : 32 ≤ k) (hk2 : k < 64) (hx : l.getD k 0 ≤ 4194304) (hm : m.length = 32) (hf : ofBytes m = fold (l.take k)) (hb : ∀ j, m.getD j 0 ≤ lim k j) :
    (m.set (k - 32) (m.getD (k - 32) 0 + 38 * l.getD k 0)).length = 32 ∧ ofBytes (m.set (k - 32) (m.getD (k - 32) 0 + 38 * l.getD k 0)) = fold (l.take (k + 1)) ∧ ∀ j, (m.set (k - 32) (m.getD (k - 32) 0 + 38 * l.getD k 0)).getD j 0 ≤ lim (k + 1) j := by
  refine ⟨by rw [List.length_set, hm], by rw [ofBytes_set m (k - 32) _ (by omega), hf, take_fold_hi l k hl hk], fun j => ?_⟩
  rw [getD_set m (k - 32) _ j (by omega)]
  split
  · rename_i h; subst h
    have := hb (k - 32); rw [lim_hi k hk] at this; rw [lim_hi1 k hk]; omega
  · exact Nat.le_trans (hb j) (lim_mono k j)
theorem low_start (j : Nat) : (List.replicate 32 0).getD j 0 ≤ lim 0 j := by
  rw [List.getD_eq_getElem?_getD, List.getElem?_replicate]; split <;> simp
theorem zeros_val : ofBytes (List.replicate 32 0) = 0 := by decide
end Go.Proofs.Ytpilonikhokjeaa
