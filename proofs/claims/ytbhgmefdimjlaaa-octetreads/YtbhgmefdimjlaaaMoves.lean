/-
  Worlds in which one row, and one block of bytes of one's own, may have changed, and memory was laid behind.
-/
import Derived.Test.YtbhgmefdimjlaaaSlices
import Derived.Test.YtbhgmefdimjlaaaSets
namespace Go.Proofs.Ytbhgmefdimjlaaa
open Go.RowKit Go.Hold Go.Sh

/-- World w', of w: but row g and block ob all is as it was; some blocks are new. -/
structure Moves (w : World) (g : Nat) (ob : Option Nat) (w' : World) : Prop where
  os : w'.os = w.os
  tape : w'.tape = w.tape
  output : w'.output = w.output
  size : w.heap.size ≤ w'.heap.size
  block : ∀ k, k < w.heap.size → k ≠ g → some k ≠ ob → w'.heap[k]? = w.heap[k]?
/-- A block that is the old one, or new. -/
def NewB (w : World) (ob ob' : Option Nat) : Prop := ∀ k, ob' = some k → ob = some k ∨ w.heap.size ≤ k
theorem NewB.refl (w : World) (ob : Option Nat) : NewB w ob ob := fun _ h => .inl h
theorem NewB.trans {w w1 : World} {a b c : Option Nat} (h : NewB w a b) (h1 : NewB w1 b c) (hs : w.heap.size ≤ w1.heap.size) : NewB w a c := fun k hk => by
  rcases h1 k hk with h2 | h2
  · exact h k h2
  · exact .inr (Nat.le_trans hs h2)
theorem NewB.ne {w : World} {a b : Option Nat} {k : Nat} (h : NewB w a b) (ha : a ≠ some k) (hk : k < w.heap.size) : b ≠ some k := fun e => by
  rcases h k e with h1 | h1
  · exact ha h1
  · omega
theorem Moves.of {w w' : World} (g : Nat) (ob : Option Nat) (h : Below w.heap.size w w') : Moves w g ob w' := ⟨h.os, h.tape, h.output, h.size, fun k hk _ _ => h.block k hk⟩
theorem Moves.refl (w : World) (g : Nat) (ob : Option Nat) : Moves w g ob w := ⟨rfl, rfl, rfl, Nat.le_refl _, fun _ _ _ _ => rfl⟩
theorem Moves.trans {w w1 w2 : World} {g : Nat} {a b : Option Nat} (h : Moves w g a w1) (h1 : Moves w1 g b w2) (hn : NewB w a b) : Moves w g a w2 :=
  ⟨h1.os.trans h.os, h1.tape.trans h.tape, h1.output.trans h.output, Nat.le_trans h.size h1.size, fun k hk hg ha => by
    rw [h1.block k (Nat.lt_of_lt_of_le hk h.size) hg fun e => hn.ne (fun e' => ha e'.symm) hk e.symm, h.block k hk hg ha]⟩
theorem Moves.grow {w w1 w2 : World} {g : Nat} {a : Option Nat} (h : Moves w g a w1) (h1 : Below w1.heap.size w1 w2) : Moves w g a w2 := h.trans (.of g a h1) (.refl w a)
theorem Moves.setCell {w w1 : World} {g : Nat} {a : Option Nat} (h : Moves w g a w1) (i : Nat) (v : Value) : Moves w g a (w1.setCell ⟨g, i, none⟩ v) :=
  ⟨h.os, h.tape, h.output, by simpa [World.setCell] using h.size, fun k hk hg ha => by
    simp only [World.setCell, Array.getElem?_modify]
    rw [if_neg (fun e => hg e.symm), h.block k hk hg ha]⟩
theorem Moves.setRow {w w1 : World} {g : Nat} {a : Option Nat} (h : Moves w g a w1) (c : Array Value) : Moves w g a (w1.setRow g c) :=
  ⟨h.os, h.tape, h.output, by simpa [World.setRow] using h.size, fun k hk hg ha => by
    rw [setRow_other w1 g k c hg, h.block k hk hg ha]⟩
theorem Moves.grownBy {w w1 w2 : World} {g : Nat} {a : Option Nat} (h : Moves w g a w1) (h1 : w1.grownBy w2 a) : Moves w g a w2 :=
  ⟨h1.os.trans h.os, h1.tape.trans h.tape, h1.output.trans h.output, Nat.le_trans h.size h1.size, fun k hk hg ha => by
    rw [h1.block k (Nat.lt_of_lt_of_le hk h.size) (fun e => ha (by rw [← e])), h.block k hk hg ha]⟩
theorem Moves.below {B : Nat} {w0 w w' : World} {g : Nat} {a : Option Nat} (h : Moves w g a w') (hb : Below B w0 w) (hB : B ≤ w.heap.size) (hg : B ≤ g) (ha : ∀ k, a = some k → B ≤ k) : Below B w0 w' :=
  ⟨h.os.trans hb.os, h.tape.trans hb.tape, h.output.trans hb.output, Nat.le_trans hb.size h.size, fun k hk => by
    rw [h.block k (by omega) (by omega) (fun e => by have := ha k e.symm; omega), hb.block k hk]⟩
theorem RowAt.moves {w w' : World} {g n : Nat} {a : Option Nat} {c : Array Value} (h : RowAt w n c) (m : Moves w g a w') (hg : n ≠ g) (ha : a ≠ some n) : RowAt w' n c := by
  obtain ⟨t, ht⟩ := h.block
  exact RowAt.of (t := t) (by rw [m.block n h.2.2 hg (fun e => ha e.symm)]; exact ht)
theorem BytesAt.moves {w w' : World} {g b o : Nat} {a : Option Nat} {l : List Nat} (h : BytesAt w b o l) (m : Moves w g a w') (hg : b ≠ g) (ha : a ≠ some b) : BytesAt w' b o l :=
  ⟨Nat.lt_of_lt_of_le h.1 m.size, fun i hi => by rw [World.cell?_of_block (w := w) (m.block b h.1 hg (fun e => ha e.symm))]; exact h.2 i hi⟩
/-- Bytes that lie in block b, if any. -/
def BsIn (w : World) (b : Nat) (p : Option Addr) (l : List Nat) : Prop := l = [] ∨ ∃ o, p = some ⟨b, o, none⟩ ∧ BytesAt w b o l
theorem BsIn.any {w : World} {b : Nat} {p : Option Addr} {l : List Nat} (h : BsIn w b p l) : Bs0 w p l := by
  rcases h with h | ⟨o, e, h⟩
  · exact .inl h
  · exact .inr ⟨b, o, e, h⟩
theorem BsIn.moves {w w' : World} {g b : Nat} {a : Option Nat} {p : Option Addr} {l : List Nat} (h : BsIn w b p l) (m : Moves w g a w') (hg : b ≠ g) (ha : a ≠ some b) : BsIn w' b p l := by
  rcases h with h | ⟨o, e, h⟩
  · exact .inl h
  · exact .inr ⟨o, e, h.moves m hg ha⟩
theorem Bs0.moves {w w' : World} {g : Nat} {a : Option Nat} {p : Option Addr} {l : List Nat} (h : Bs0 w p l) (m : Moves w g a w') (hne : ∀ b o, p = Option.some ⟨b, o, none⟩ → b ≠ g ∧ a ≠ Option.some b) : Bs0 w' p l := by
  rcases h with h | ⟨b, o, e, h⟩
  · exact .inl h
  · exact .inr ⟨b, o, e, h.moves m (hne b o e).1 (hne b o e).2⟩
theorem OwnB.moves {w w' : World} {B g : Nat} {a : Option Nat} {v : Value} {l : List Nat} (h : OwnB w B v l) (m : Moves w g a w') (hg : v.ownBlock ≠ some g) (ha : ∀ k, v.ownBlock = some k → a ≠ some k) : OwnB w' B v l := by
  refine ⟨h.1, ?_⟩
  rcases h.2 with hn | ⟨g0, cap, cur, rfl, hb, hx, rest⟩
  · exact .inl hn
  · exact .inr ⟨g0, cap, cur, rfl, hb, by
      rw [m.block g0 (Array.getElem?_eq_some_iff.1 hx).1 (fun e => hg (by rw [e]; rfl)) (fun e => ha g0 rfl e.symm)]; exact hx, rest⟩
end Go.Proofs.Ytbhgmefdimjlaaa
