/-
  A world in which one row was set, and memory was laid behind it.
-/
import Derived.Test.YtbhgmefdimjlaaaBytes
namespace Go.Proofs.Ytbhgmefdimjlaaa
open Go.RowKit Go.Hold Go.Sh

/-- World w', of w: row g holds c, and some blocks are new. -/
def Sets (w : World) (g : Nat) (c : Array Value) (w' : World) : Prop := ∃ os d, w' = (w.setRow g c).plus os d
theorem Sets.refl {w : World} {g : Nat} {c : Array Value} (h : RowAt w g c) : Sets w g c w := ⟨#[], w.drawn, by rw [setRow_self h]; exact plus_none' w⟩
theorem Sets.size {w w' : World} {g : Nat} {c : Array Value} (s : Sets w g c w') : w.heap.size ≤ w'.heap.size := by
  obtain ⟨os, d, rfl⟩ := s
  rw [World.size_plus, size_setRow]; omega
theorem Sets.row {w w' : World} {g : Nat} {c0 c : Array Value} (h : RowAt w g c0) (s : Sets w g c w') : RowAt w' g c := by
  obtain ⟨os, d, rfl⟩ := s
  exact (h.set c).grow (below_more (Below.refl _ _) os d)
theorem Sets.old {w w' : World} {g n : Nat} {c c1 : Array Value} (s : Sets w g c w') (h : RowAt w n c1) (hn : n ≠ g) : RowAt w' n c1 := by
  obtain ⟨os, d, rfl⟩ := s
  exact (h.other hn c).grow (below_more (Below.refl _ _) os d)
theorem Sets.bytes {w w' : World} {g b o : Nat} {c : Array Value} {l : List Nat} (s : Sets w g c w') (h : BytesAt w b o l) (hn : b ≠ g) : BytesAt w' b o l := by
  obtain ⟨os, d, rfl⟩ := s
  exact (h.other hn c).grow (below_more (Below.refl _ _) os d)
theorem Sets.grow {w w' w2 : World} {g : Nat} {c : Array Value} (s : Sets w g c w') (hb : Below w'.heap.size w' w2) : Sets w g c w2 := by
  obtain ⟨os, d, rfl⟩ := s
  obtain ⟨o2, d2, rfl⟩ := below_plus hb
  exact ⟨os ++ o2, d2, by rw [World.plus_plus]⟩
theorem Sets.cell {w w' : World} {g i : Nat} {c0 c : Array Value} {v : Value} (h : RowAt w g c0) (s : Sets w g c w') : Sets w g (c.setIfInBounds i v) (w'.setCell ⟨g, i, none⟩ v) := by
  obtain ⟨os, d, rfl⟩ := s
  exact ⟨os, d, by rw [World.setCell_plus _ _ _ _ _ _ (by rw [size_setRow]; exact h.2.2), setCell_setRow h]⟩
theorem Sets.set {w w' : World} {g : Nat} {c0 c c' : Array Value} (h : RowAt w g c0) (s : Sets w g c w') : Sets w g c' (w'.setRow g c') := by
  obtain ⟨os, d, rfl⟩ := s
  exact ⟨os, d, setRow_plus_all h⟩
theorem Sets.trans {w w' w2 : World} {g : Nat} {c0 c c' : Array Value} (h : RowAt w g c0) (s : Sets w g c w') (s2 : Sets w' g c' w2) : Sets w g c' w2 := by
  obtain ⟨o2, d2, rfl⟩ := s2
  obtain ⟨os, d, rfl⟩ := s
  exact ⟨os ++ o2, d2, by rw [setRow_plus_all h, World.plus_plus]⟩
theorem Sets.below {a w w' : World} {B g : Nat} {c : Array Value} (s : Sets w g c w') (hb : Below B a w) (hB : B ≤ g) (hBw : B ≤ w.heap.size) : Below B a w' := by
  obtain ⟨os, d, rfl⟩ := s
  refine below_plus_of _ _ _ ⟨hb.os, hb.tape, hb.output, by rw [size_setRow]; exact hb.size, fun k hk => ?_⟩ (by rw [size_setRow]; exact hBw)
  rw [setRow_other w g k c (by omega)]; exact hb.block k hk
end Go.Proofs.Ytbhgmefdimjlaaa
