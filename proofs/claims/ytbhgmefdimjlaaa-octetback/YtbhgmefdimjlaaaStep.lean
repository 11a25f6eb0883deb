/-
  The steps of a held region, with the guard decided apart from the operation: so that the walk's simp never looks at the whole region.
-/
import Derived.Test.YtbhgmefdimjlaaaHold
namespace Go.Hold
open Go
section
variable {P : Program} {ops : Array Oper} {S : World → Prop}

theorem wanted_none {o : Oper} {y : Nat → Option Bool} (h : o.guard = none) : Region.wanted o y = true := by simp [Region.wanted, h]
theorem wanted_some {o : Oper} {tmps : Array Value} {g t : Nat} {b : Bool} (h : o.guard = some (g, b)) (hd : ((ops[g]?).bind (·.dst)) = some t) (hv : tmps[t]? = some (.bool b)) : Region.wanted o (yielded ops tmps) = true := by
  simp [Region.wanted, h, yielded, hd, hv]
theorem unwanted {o : Oper} {tmps : Array Value} {g t : Nat} {b : Bool} (h : o.guard = some (g, b)) (hd : ((ops[g]?).bind (·.dst)) = some t) (hv : tmps[t]? = some (.bool !b)) : Region.wanted o (yielded ops tmps) = false := by
  simp [Region.wanted, h, yielded, hd, hv]

/-- ONE STEP, no call, the guard decided. -/
theorem wpHold_val {Q : Act → Prop} {a a' : Act} {o : Oper} {rest : List Oper} {v : Value} (hw0 : ∃ w, S w) (hw : Region.wanted o (yielded ops a.tmps) = true)
    (h : ∀ (K : Value → Act → World → Prop) (w : World), S w → (∀ w', S w' → K v a' w') → comesV o a K ((execOp a.eval o).run P w))
    (next : wpHold P ops S Q rest a') : wpHold P ops S Q (o :: rest) a :=
  wpHold_step hw0 (fun K w hS hK => by rw [if_pos hw]; exact h K w hS hK) next
/-- ONE STEP that the guard leaves out. -/
theorem wpHold_skip {Q : Act → Prop} {a : Act} {o : Oper} {rest : List Oper} (hw : Region.wanted o (yielded ops a.tmps) = false) (next : wpHold P ops S Q rest (a.put o.dst undef)) : wpHold P ops S Q (o :: rest) a :=
  ⟨undef, .inr ⟨hw, rfl⟩, next⟩
end
end Go.Hold
