/-
  Slices of keys that a call makes of one key, or of two.
-/
import Derived.Test.YtpilonikhokjeaaCurveAlive
import Derived.Great.BuildSlice
namespace Go.Proofs.Ytpilonikhokjeaa
open Go.RowKit Go.Shelf Go.Hold

def bldS (t : TypeId) (n : Nat) (ps : Array (Nat × Value)) : Sem Value := Instr.buildSlice t n ps
@[go_sem ↓] theorem buildSlice_key (n : Nat) (ps : Array (Nat × Value)) : Instr.buildSlice 32 n ps = bldS 32 n ps := rfl
theorem key_info : ∃ ie z, Try.prog.info? 23 = some ie ∧ ie.zero = some z ∧ ie.size = 32 ∧ z.cells = keyA 0 := by
  obtain ⟨i, hi⟩ : ∃ i, Try.prog.info? 23 = some i := Option.isSome_iff_exists.1 (by kernel_rfl)
  have h1 : (Try.prog.info? 23).bind (fun i => i.zero.map fun z => (i.size, z.cells)) = some (32, #[.int .u8 0, .int .u8 0, .int .u8 0, .int .u8 0, .int .u8 0, .int .u8 0, .int .u8 0, .int .u8 0, .int .u8 0, .int .u8 0, .int .u8 0, .int .u8 0, .int .u8 0, .int .u8 0, .int .u8 0, .int .u8 0, .int .u8 0, .int .u8 0, .int .u8 0, .int .u8 0, .int .u8 0, .int .u8 0, .int .u8 0, .int .u8 0, .int .u8 0, .int .u8 0, .int .u8 0, .int .u8 0, .int .u8 0, .int .u8 0, .int .u8 0, .int .u8 0]) := by kernel_rfl
  rw [hi] at h1
  cases hz : i.zero with
  | none => simp [hz] at h1
  | some z =>
    simp only [Option.bind_some, hz, Option.map_some, Option.some.injEq, Prod.mk.injEq] at h1
    refine ⟨i, z, hi, hz, h1.1, ?_⟩
    rw [h1.2]; exact keyA_small 0 (by decide)
set_option maxRecDepth 100000 in
@[go_sem] theorem run_bldS1 (w : World) (a : Nat) : (bldS 32 1 #[(0, .agg (keyA a))]).run Try.prog w = .ok (.slice (some ⟨w.heap.size, 0, none⟩) 1 1) (w.alloc (.cells (keyA a) 23)) := by
  obtain ⟨ie, z, h1, h2, h3, h4⟩ := key_info
  refine run_buildSlice w _ _ 1 _ (keyA a) ie z Try.underlying32 h1 h2 (by rw [h3]; decide) (by rw [h3]; decide) ?_
  rw [h3, h4]; kernel_rfl
set_option maxRecDepth 100000 in
@[go_sem] theorem run_bldS2 (w : World) (a b : Nat) : (bldS 32 2 #[(0, .agg (keyA a)), (1, .agg (keyA b))]).run Try.prog w = .ok (.slice (some ⟨w.heap.size, 0, none⟩) 2 2) (w.alloc (.cells (fracA a b) 23)) := by
  obtain ⟨ie, z, h1, h2, h3, h4⟩ := key_info
  refine run_buildSlice w _ _ 2 _ (fracA a b) ie z Try.underlying32 h1 h2 (by rw [h3]; decide) (by rw [h3]; decide) ?_
  rw [h3, h4]; kernel_rfl
/-- One key in a row. -/
theorem keysAt1 {w : World} {g a : Nat} (h : RowAt w g (keyA a)) : KeysAt w (some ⟨g, 0, none⟩) [a] := fun i x hx => by
  cases i with
  | zero =>
    simp only [List.getElem?_cons_zero, Option.some.injEq] at hx
    subst hx
    refine ⟨_, _, rfl, h.2.2, fun j v hv => ?_⟩
    exact h.cellAt _ (by simpa using hv)
  | succ i => simp at hx
/-- Two keys in a row. -/
theorem keysAt2 {w : World} {g a b : Nat} (h : RowAt w g (fracA a b)) : KeysAt w (some ⟨g, 0, none⟩) [a, b] := fun i x hx => by
  cases i with
  | zero =>
    simp only [List.getElem?_cons_zero, Option.some.injEq] at hx
    subst hx
    refine ⟨_, _, rfl, h.2.2, fun j v hv => h.cellAt _ ?_⟩
    have hj : j < 32 := by
      have := (List.getElem?_eq_some_iff.1 hv).1
      simpa [keyA_size] using this
    rw [show 0 + 0 * 32 + j = j by omega, fracA_get0 a b j hj, ← keyA_get a j hj]
    simpa using hv
  | succ i =>
    cases i with
    | zero =>
      simp only [List.getElem?_cons_succ, List.getElem?_cons_zero, Option.some.injEq] at hx
      subst hx
      refine ⟨_, _, rfl, h.2.2, fun j v hv => h.cellAt _ ?_⟩
      have hj : j < 32 := by
        have := (List.getElem?_eq_some_iff.1 hv).1
        simpa [keyA_size] using this
      rw [show 0 + (0 + 1) * 32 + j = 32 + j by omega, fracA_get1 a b j hj, ← keyA_get b j hj]
      simpa using hv
    | succ i => simp at hx
/-- Chain, of one secret; of two. -/
theorem chain_one (u q a r : Nat) (e : Int) (hq : ptN u % Fp.P = q) (hr : chN q [a] = r) (he : errOf r = e) {w : World} {g : Nat} (h : RowAt w g (keyA a)) :
    Calls Try.prog 16 #[kv u, .slice (some ⟨g, 0, none⟩) 1 1] w fun x w' => x = .returned (.tuple #[kv r, .int .i64 e]) ∧ Below w.heap.size w w' := by
  have := chain_small u q [a] 1 (some ⟨g, 0, none⟩) hq (by simp) _ (keysAt1 h)
  rw [hr, he] at this; exact this
theorem chain_two (u q a b r : Nat) (e : Int) (hq : ptN u % Fp.P = q) (hr : chN q [a, b] = r) (he : errOf r = e) {w : World} {g : Nat} (h : RowAt w g (fracA a b)) :
    Calls Try.prog 16 #[kv u, .slice (some ⟨g, 0, none⟩) 2 2] w fun x w' => x = .returned (.tuple #[kv r, .int .i64 e]) ∧ Below w.heap.size w w' := by
  have := chain_small u q [a, b] 2 (some ⟨g, 0, none⟩) hq (by simp) _ (keysAt2 h)
  rw [hr, he] at this; exact this
theorem foldl_one {α β : Type} (g : α → β → α) (p : α) (a : β) : [a].foldl g p = g p a := rfl
theorem foldl_two {α β : Type} (g : α → β → α) (p : α) (a b : β) : [a, b].foldl g p = g (g p a) b := rfl
theorem chN_one (q a : Nat) : chN q [a] = shN a q := foldl_one (fun q k => shN k q) q a
theorem chN_two (q a b : Nat) : chN q [a, b] = shN b (shN a q) := foldl_two (fun q k => shN k q) q a b
theorem ch_one (u a q : Nat) (hq : ptN u % Fp.P = q) : chN q [a] = shN a u := by
  have hl : q < Fp.P := by rw [← hq]; exact Nat.mod_lt _ Fp.P_pos
  rw [chN_one]
  unfold shN
  rw [ptN_small hl, hq]
theorem ch_two (q a b : Nat) : chN q [a, b] = shN b (chN q [a]) := by rw [chN_one, chN_two]
theorem ch_order (q a b : Nat) (hq : q < Fp.P) : chN q [a, b] = chN q [b, a] := by
  rw [chN_two, chN_two]
  unfold shN
  rw [ptN_small hq, ptN_small (Cv.nT_lt _ _), ptN_small (Cv.nT_lt _ _)]
  exact Cv.pair_order q a b
end Go.Proofs.Ytpilonikhokjeaa
