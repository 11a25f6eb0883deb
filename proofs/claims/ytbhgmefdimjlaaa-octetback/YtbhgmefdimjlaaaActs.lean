/-
  The calls that layer 7's laws are told: where they lie.
-/
import Derived.Test.YtbhgmefdimjlaaaOctActs
namespace Go.Proofs.Ytbhgmefdimjlaaa
open Go.RowKit Go.Hold Go.Sh Go.Oc

/-- A call: its kind, a number, a size, and bytes with where they lie. -/
structure Actv where
  k : Nat
  n : Nat
  z : Int
  p : Option Addr
  l : List Nat
  c : Nat
def Actv.cells (a : Actv) : Array Value := arow a.k a.n a.z (.slice a.p a.l.length a.c)
def ActOk (w : World) (a : Actv) : Prop := a.k < 256 ∧ a.n < 18446744073709551616 ∧ Bs0 w a.p a.l ∧ (∀ i, a.l.getD i 0 < 256) ∧ (a.p = none → a.c = 0) ∧ a.l.length ≤ a.c
theorem ActOk.grow {w w' : World} {a : Actv} (h : ActOk w a) (hb : Below w.heap.size w w') : ActOk w' a := ⟨h.1, h.2.1, h.2.2.1.grow hb, h.2.2.2⟩
/-- Calls in a row. -/
def ActsAt (w : World) (p : Option Addr) (ls : List Actv) : Prop := ∀ i a, ls[i]? = some a → ActOk w a ∧ ∃ g o, p = some ⟨g, o, none⟩ ∧ g < w.heap.size ∧ w.rangeAt g (o + i * 4) a.cells.toList
theorem ActsAt.grow {w w' : World} {p : Option Addr} {ls : List Actv} (h : ActsAt w p ls) (hb : Below w.heap.size w w') : ActsAt w' p ls := fun i a ha => by
  obtain ⟨h0, g, o, hp, hg, hr⟩ := h i a ha
  refine ⟨h0.grow hb, g, o, hp, Nat.lt_of_lt_of_le hg hb.size, fun j v hv => ?_⟩
  have := hr j v hv
  rw [World.cell?_of_block (hb.block g hg)]
  exact this
theorem run_loadAct_range (w : World) (g o : Nat) (a : Actv) (h : w.rangeAt g o a.cells.toList) : (loadRow 31 (.pointer (some ⟨g, o, none⟩))).run Try.prog w = .ok (.agg a.cells) w := by
  have := run_loadAt_mid (P := Try.prog) w g o 31 _ _ h Try.underlying31 rfl (by rw [show a.cells.toList.length = 4 by simp [Actv.cells, arow_size]]; kernel_rfl)
  rw [Array.toArray_toList] at this
  exact this
theorem ActsAt.load {w w' : World} {p : Option Addr} {ls : List Actv} {i : Nat} {a : Actv} (h : ActsAt w p ls) (ha : ls[i]? = some a) (hb : Below w.heap.size w w') :
    ActOk w' a ∧ ∃ g o, p = some ⟨g, o, none⟩ ∧ (loadRow 31 (.pointer (some ⟨g, o + i * 4, none⟩))).run Try.prog w' = .ok (.agg a.cells) w' := by
  obtain ⟨h0, g, o, hp, _, hr⟩ := (h.grow hb) i a ha
  exact ⟨h0, g, o, hp, run_loadAct_range w' g _ a hr⟩
end Go.Proofs.Ytbhgmefdimjlaaa
