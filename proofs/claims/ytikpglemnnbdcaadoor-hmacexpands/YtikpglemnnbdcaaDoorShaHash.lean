/-
  Package sha: a hash that is begun, asked, written to.
-/
import Derived.Test.YtikpglemnnbdcaaDoorShaMid
namespace Go.Proofs.YtikpglemnnbdcaaDoor
open Go.RowKit Go.Hold Go.Sh

theorem Hs_get (j : Nat) (h : j < 8) : Hs.getD j 0 = sWord st0 j := by
  have : j = 0 ∨ j = 1 ∨ j = 2 ∨ j = 3 ∨ j = 4 ∨ j = 5 ∨ j = 6 ∨ j = 7 := by omega
  rcases this with rfl | rfl | rfl | rfl | rfl | rfl | rfl | rfl <;> rfl
theorem load_first {w : World} (h : Tabs w) : (loadRow 51 (.pointer (some ⟨0, 0, none⟩))).run Tryd.prog w = .ok (.agg (stA st0)) w := by
  have e : (Tryd.prog.info? 51).map (·.size) = some 8 := by kernel_rfl
  refine run_loadAt_mid w 0 0 _ (stA st0).toList _ (fun j v hv => ?_) Tryd.underlying51 rfl e
  have hj : j < 8 := by
    have := (List.getElem?_eq_some_iff.1 hv).1
    simpa [stA] using this
  rw [Array.getElem?_toList, stA_get st0 j hj] at hv
  rw [Nat.zero_add, h.2.1 j hj, Hs_get j hj]; exact hv
theorem zsize : (hasA false 0 stz (zs 64)).size = 74 := by rw [hasA_size]; rfl
set_option maxRecDepth 100000 in
@[go_sem ↓ high] theorem run_zeroHash (w : World) : (zeroValue 55).run Tryd.prog w = .ok (.agg (hasA false 0 stz (zs 64))) w := by
  obtain ⟨i, hi⟩ : ∃ i, Tryd.prog.info? 55 = some i := Option.isSome_iff_exists.1 (by kernel_rfl)
  have hz : (Tryd.prog.info? 55).bind (·.zero) = some (.agg (hasA false 0 stz (zs 64))) := by kernel_rfl
  rw [hi] at hz
  have hz' : i.zero = some (.agg (hasA false 0 stz (zs 64))) := hz
  simp [zeroValue, typeInfo, hi, hz', Sem.run_bind]
set_option maxHeartbeats 400000 in
set_option maxRecDepth 100000 in
theorem begun_c (w : World) (hT : Tabs w) : Calls Tryd.prog 28 #[] w fun e w' => e = .returned (.agg (hasA true 0 st0 (zs 64))) ∧ Below w.heap.size w w' := by
  have hl : ∀ ob, (loadRow 51 (.pointer (some ⟨0, 0, none⟩))).run Tryd.prog (w.alloc ob) = .ok (.agg (stA st0)) (w.alloc ob) := fun ob => load_first (hT.grow (below_alloc (Below.refl _ _) _))
  have hs : (hasA true 0 st0 (zs 64)).size = 74 := by rw [hasA_size]; rfl
  have hz := zsize
  clear hT
  go_enter Tryd.func28, Tryd.ntmps28
  go_wp2_with fail
  refine bodyPost_ret (v := .agg (hasA true 0 st0 (zs 64))) (results_hash Tryd.results28 hs _ _ _ rfl (by go_simp) (by go_simp)) rfl ⟨rfl, ?_⟩
  repeat (first | apply below_more | apply below_alloc | apply Below.drew | refine below_setRow ?_ (by omega) _ | exact Below.refl _ _)
end Go.Proofs.YtikpglemnnbdcaaDoor
