/-
  The laws of layer 7: a call as a value, a writer and a reader beside each other.
-/
import Derived.Test.YtbhgmefdimjlaaaOctAlive
import Derived.Test.YtbhgmefdimjlaaaOctRows
namespace Go.Proofs.Ytbhgmefdimjlaaa
open Go.RowKit Go.Hold Go.Sh Go.Oc

/-- A call, as cells. -/
def arow (k n : Nat) (z : Int) (v : Value) : Array Value := #[.int .u8 (k : Int), .int .u64 (n : Int), .int .i64 z, v]
@[go_sem] theorem arow_size (k n : Nat) (z : Int) (v : Value) : (arow k n z v).size = 4 := by simp [arow]
@[go_sem] theorem arow_one (k n : Nat) (z : Int) (p : Option Addr) (l c : Nat) : oneAll (arow k n z (.slice p l c)) = true := by simp [oneAll, arow, Value.oneCell']
@[go_sem] theorem arow_0 (k n : Nat) (z : Int) (v : Value) (h : 0 < (arow k n z v).size) : (arow k n z v)[0]'h = .int .u8 (k : Int) := by simp [arow]
@[go_sem] theorem arow_1 (k n : Nat) (z : Int) (v : Value) (h : 1 < (arow k n z v).size) : (arow k n z v)[1]'h = .int .u64 (n : Int) := by simp [arow]
@[go_sem] theorem arow_2 (k n : Nat) (z : Int) (v : Value) (h : 2 < (arow k n z v).size) : (arow k n z v)[2]'h = .int .i64 z := by simp [arow]
@[go_sem] theorem arow_3 (k n : Nat) (z : Int) (v : Value) (h : 3 < (arow k n z v).size) : (arow k n z v)[3]'h = v := by simp [arow]
@[go_sem ↓] theorem loadAt_act (v : Value) : Instr.loadAt 31 v = loadRow 31 v := rfl
@[go_sem] theorem run_loadAct (w : World) (n : Nat) (h1 : w.isRow n = true) (h2 : (w.rowOf n).size = 4) : (loadRow 31 (.pointer (some ⟨n, 0, none⟩))).run Try.prog w = .ok (.agg (w.rowOf n)) w :=
  run_loadRow w Try.underlying31 rfl (by kernel_rfl) n h1 h2
/-- A writer, and a reader beside it. -/
def WRd (w : World) (B g : Nat) (ob : Option Nat) (room : Nat) (s : Ws) (g6 : Nat) (bb : Option Nat) (t : Ws) : Prop :=
  Wr w B g ob room s ∧ Rd w g6 bb t ∧ g6 ≠ g ∧ ob ≠ some g6 ∧ bb ≠ some g ∧ (∀ k, bb = some k → ob ≠ some k) ∧ B ≤ g6
theorem WRd.step {w w' : World} {B g room g6 : Nat} {ob bb : Option Nat} {s s' t : Ws} (h : WRd w B g ob room s g6 bb t) (st : WStep w B g ob room s' w') : ∃ ob', WRd w' B g ob' room s' g6 bb t := by
  obtain ⟨hw, hr, h1, h2, h3, h4, h5⟩ := h
  obtain ⟨ob', hw', hn, m⟩ := st
  have hl := hr.lt
  exact ⟨ob', hw', hr.moves m h1 h2 h3 h4, h1, hn.ne h2 hl.1, h3, fun k hk => hn.ne (h4 k hk) (hl.2 k hk), h5⟩
theorem WRd.grow {w w' : World} {B g room g6 : Nat} {ob bb : Option Nat} {s t : Ws} (h : WRd w B g ob room s g6 bb t) (hb : Below w.heap.size w w') : WRd w' B g ob room s g6 bb t :=
  ⟨h.1.grow hb, h.2.1.grow hb, h.2.2⟩
theorem RStep.below {w0 w w' : World} {B g : Nat} {bb : Option Nat} {s : Ws} (h : RStep w g bb s w') (hb : Below B w0 w) (hB : B ≤ w.heap.size) (hg : B ≤ g) : Below B w0 w' := h.2.below hb hB hg (fun _ e => by cases e)
end Go.Proofs.Ytbhgmefdimjlaaa
