/-
  The reference of layer 4: two slices that grow together.
-/
import Derived.Test.YtikpglemnnbdcaaDoorHmacOwn
namespace Go.Proofs.YtikpglemnnbdcaaDoor
open Go.RowKit Go.Hold Go.Sh

/-- Two slices of one's own, apart. -/
def Apart (v u : Value) : Prop := v.ownBlock = none ∨ v.ownBlock ≠ u.ownBlock
/-- One byte behind each of two slices. -/
theorem app_two {w : World} {B : Nat} {v u : Value} {l m : List Nat} {y z : Nat} (hv : OwnB w B v l) (hu : OwnB w B u m) (hap : Apart v u) (hB : B ≤ w.heap.size) (hl : l.length + 1 ≤ 16777216) (hm : m.length + 1 ≤ 16777216) :
    ∃ v' w1 u' w2, (Builtin.append_ #[22, 22] 22 #[v, .slice (some ⟨w.heap.size, 0, none⟩) 1 1]).run Tryd.prog (w.alloc (.cells #[.int .u8 (y : Int)] 5)) = .ok v' w1 ∧
      (Builtin.append_ #[22, 22] 22 #[u, .slice (some ⟨w1.heap.size, 0, none⟩) 1 1]).run Tryd.prog (w1.alloc (.cells #[.int .u8 (z : Int)] 5)) = .ok u' w2 ∧
      OwnB w2 B v' (l ++ [y]) ∧ OwnB w2 B u' (m ++ [z]) ∧ Apart v' u' ∧ Below B w w2 := by
  have BA := below_alloc (Below.refl w.heap.size w) (.cells #[.int .u8 (y : Int)] 5)
  obtain ⟨v', w1, hr1, ho1, hg1, hd1⟩ := app_at (hv.below BA) (bytes_new w [y] 5 (0, 0)) (Nat.le_trans hB BA.size) hl
  have hu0 : ∀ k, u.ownBlock = some k → B ≤ k ∧ k < w.heap.size := fun k hk => hu.ltb k hk
  have hu1 : OwnB w1 B u m := (hu.below BA).kept hg1 (by
    cases hub : u.ownBlock with
    | none => exact .inl rfl
    | some k =>
      right
      rcases hap with h | h
      · rw [h]; simp
      · rw [← hub]; exact fun e => h e.symm)
  have B1 : Below B w w1 := own_below ((Below.refl B w).alloc hB _) (hv.below BA) (Nat.le_trans hB BA.size) hg1
  have hB1 : B ≤ w1.heap.size := Nat.le_trans hB B1.size
  have hs1 : w.heap.size + 1 ≤ w1.heap.size := by have := hg1.size; simpa using this
  have BA2 := below_alloc (Below.refl w1.heap.size w1) (.cells #[.int .u8 (z : Int)] 5)
  obtain ⟨u', w2, hr2, ho2, hg2, hd2⟩ := app_at (hu1.below BA2) (bytes_new w1 [z] 5 (0, 0)) (Nat.le_trans hB1 BA2.size) hm
  have hne : v'.ownBlock = none ∨ v'.ownBlock ≠ u.ownBlock := by
    rcases hd1 with h | h
    · rw [h]; exact hap
    · right
      rw [h]
      intro e
      have := (hu0 _ e.symm).2
      rw [World.size_alloc] at this
      omega
  refine ⟨v', w1, u', w2, hr1, hr2, (ho1.below BA2).kept hg2 hne, ho2, ?_, own_below (B1.alloc hB1 _) (hu1.below BA2) (Nat.le_trans hB1 BA2.size) hg2⟩
  cases hvb : v'.ownBlock with
  | none => exact .inl hvb
  | some k =>
    right
    rcases hd2 with h | h
    · rw [h]
      rcases hne with h' | h'
      · rw [h'] at hvb; cases hvb
      · exact h'
    · rw [h, hvb]
      intro e
      have := (ho1.ltb k hvb).2
      cases e
      rw [World.size_alloc] at this
      omega
end Go.Proofs.YtikpglemnnbdcaaDoor
