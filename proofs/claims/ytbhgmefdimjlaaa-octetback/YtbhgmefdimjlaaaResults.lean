/-
  What a function answers: two whole rows, or a row and a plain value.
-/
import Derived.Test.YtbhgmefdimjlaaaWhole
namespace Go.Proofs.Ytbhgmefdimjlaaa
open Go.RowKit

/-- Two results that are whole rows. -/
theorem results_row2 {P : Program} {fn : Func} {p p' : Tmp} {t t' : TypeId} {d d' : TypeDesc} {cs cs' : Array Value} (w : World) (h : fn.results = #[.cell p t, .cell p' t'])
    (hu : P.underlying t = some d) (hd : (match d with | .struct _ | .array _ _ => true | _ => false) = true) (hi : (P.info? t).map (·.size) = some cs.size)
    (hu' : P.underlying t' = some d') (hd' : (match d' with | .struct _ | .array _ _ => true | _ => false) = true) (hi' : (P.info? t').map (·.size) = some cs'.size)
    (tmps : Array Value) (n n' : Nat) (hp : tmps.getD p undef = .pointer (some ⟨n, 0, none⟩)) (h1 : w.isRow n = true) (h2 : w.rowOf n = cs)
    (hp' : tmps.getD p' undef = .pointer (some ⟨n', 0, none⟩)) (h1' : w.isRow n' = true) (h2' : w.rowOf n' = cs') : (results fn tmps).run P w = .ok (.tuple #[.agg cs, .agg cs']) w := by
  obtain ⟨s, hs⟩ := World.isRow_spec h1
  obtain ⟨s', hs'⟩ := World.isRow_spec h1'
  rw [h2] at hs; rw [h2'] at hs'
  have e : tmps[p]?.getD undef = .pointer (some ⟨n, 0, none⟩) := by simpa using hp
  have e' : tmps[p']?.getD undef = .pointer (some ⟨n', 0, none⟩) := by simpa using hp'
  simp [results, h, e, e', asAddr, run_loadVar_row w n s t cs (0, 0) d hs hu hd hi, run_loadVar_row w n' s' t' cs' (0, 0) d' hs' hu' hd' hi']
/-- A whole row, and a plain value. -/
theorem results_row_slot {P : Program} {fn : Func} {p p' : Tmp} {t : TypeId} {d : TypeDesc} {cs : Array Value} {v : Value} (w : World) (h : fn.results = #[.cell p t, .tmp p'])
    (hu : P.underlying t = some d) (hd : (match d with | .struct _ | .array _ _ => true | _ => false) = true) (hi : (P.info? t).map (·.size) = some cs.size)
    (tmps : Array Value) (n : Nat) (hp : tmps.getD p undef = .pointer (some ⟨n, 0, none⟩)) (h1 : w.isRow n = true) (h2 : w.rowOf n = cs)
    (hp' : tmps.getD p' undef = v) : (results fn tmps).run P w = .ok (.tuple #[.agg cs, v]) w := by
  obtain ⟨s, hs⟩ := World.isRow_spec h1
  rw [h2] at hs
  have e : tmps[p]?.getD undef = .pointer (some ⟨n, 0, none⟩) := by simpa using hp
  have e' : tmps[p']?.getD undef = v := by simpa using hp'
  simp [results, h, e, e', asAddr, run_loadVar_row w n s t cs (0, 0) d hs hu hd hi]
end Go.Proofs.Ytbhgmefdimjlaaa
