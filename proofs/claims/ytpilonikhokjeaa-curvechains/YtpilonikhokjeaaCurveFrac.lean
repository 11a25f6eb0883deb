/-
  Fractions: two keys side by side, read and written as one, or one of them.
-/
import Derived.Test.YtpilonikhokjeaaFieldK
import Derived.Test.YtpilonikhokjeaaFast
import Derived.Test.YtpilonikhokjeaaRowed
import Derived.Deep.MidRow
import Derived.LoopTactic
namespace Go.Proofs.Ytpilonikhokjeaa
open Go.RowKit Go.Shelf Go.Hold

/-- A fraction, as the cells of its two numbers. -/
def fracA (x z : Nat) : Array Value := keyA x ++ keyA z
abbrev fv (x z : Nat) : Value := .agg (fracA x z)
@[go_sem] theorem fracA_size (x z : Nat) : (fracA x z).size = 64 := by simp [fracA, keyA_size]
theorem fracA_get0 (x z i : Nat) (h : i < 32) : (fracA x z)[i]? = some (.int .u8 (bt x i)) := by
  unfold fracA; rw [Array.getElem?_append_left (by rw [keyA_size]; exact h), keyA_get x i h]
theorem fracA_get1 (x z i : Nat) (h : i < 32) : (fracA x z)[32 + i]? = some (.int .u8 (bt z i)) := by
  unfold fracA; rw [Array.getElem?_append_right (by rw [keyA_size]; omega), keyA_size, Nat.add_sub_cancel_left, keyA_get z i h]
@[go_sem] theorem fracA_one (x z : Nat) : oneAll (fracA x z) = true := by
  have h1 := keyA_one x; have h2 := keyA_one z
  unfold oneAll at *
  unfold fracA
  rw [Array.all_append, h1, h2]; rfl
/-- The first key, the second key. -/
def lo (a : Array Value) : Array Value := a.extract 0 32
def hi (a : Array Value) : Array Value := a.extract 32 64
@[go_sem] theorem lo_frac (x z : Nat) : lo (fracA x z) = keyA x := by
  unfold lo fracA
  rw [Array.extract_append, keyA_size]
  have : (keyA x).extract 0 32 = keyA x := by
    have h := Array.extract_size (xs := keyA x); rwa [keyA_size] at h
  rw [this]; simp
@[go_sem] theorem hi_frac (x z : Nat) : hi (fracA x z) = keyA z := by
  unfold hi fracA
  rw [Array.extract_append, keyA_size]
  have : (keyA z).extract 0 32 = keyA z := by
    have h := Array.extract_size (xs := keyA z); rwa [keyA_size] at h
  simp [this, keyA_size]
theorem frac_ext {c : Array Value} {x z : Nat} (hs : c.size = 64) (h0 : ∀ i, i < 32 → c[i]? = some (.int .u8 (bt x i))) (h1 : ∀ i, i < 32 → c[32 + i]? = some (.int .u8 (bt z i))) : c = fracA x z := by
  apply Array.ext_getElem?
  intro i
  by_cases hi : i < 32
  · rw [h0 i hi, fracA_get0 x z i hi]
  · by_cases hj : i < 64
    · obtain ⟨j, rfl⟩ : ∃ j, i = 32 + j := ⟨i - 32, by omega⟩
      rw [h1 j (by omega), fracA_get1 x z j (by omega)]
    · rw [Array.getElem?_eq_none (by omega), Array.getElem?_eq_none (by rw [fracA_size]; omega)]

/-! ### A key that lies inside a row -/
theorem rangeAt_row {w : World} {n : Nat} {c : Array Value} {t : TypeId} (h : w.heap[n]? = some (.cells c t (0, 0))) (o k : Nat) : w.rangeAt n o (c.extract o (o + k)).toList := fun j v hv => by
  rw [cell_of_row w n (o + j) c t _ h]
  simp only [Array.getElem?_toList, Array.getElem?_extract] at hv
  split at hv
  · exact hv
  · cases hv
theorem run_loadKey_at (w : World) (n o : Nat) (h1 : w.isRow n = true) (h2 : (w.rowOf n).size = 64) (ho : o + 32 ≤ 64) : (loadRow 23 (.pointer (some ⟨n, o, none⟩))).run Try.prog w = .ok (.agg ((w.rowOf n).extract o (o + 32))) w := by
  obtain ⟨t, ht⟩ := World.isRow_spec h1
  have := run_loadAt_mid (P := Try.prog) w n o 23 _ _ (rangeAt_row ht o 32) Try.underlying23 rfl (by
    rw [show ((w.rowOf n).extract o (o + 32)).toList.length = 32 by simp; omega]; kernel_rfl)
  rw [Array.toArray_toList] at this
  exact this
@[go_sem] theorem run_loadKey_lo (w : World) (n : Nat) (h1 : w.isRow n = true) (h2 : (w.rowOf n).size = 64) : (loadRow 23 (.pointer (some ⟨n, 0, none⟩))).run Try.prog w = .ok (.agg (lo (w.rowOf n))) w := run_loadKey_at w n 0 h1 h2 (by decide)
@[go_sem] theorem run_loadKey_hi (w : World) (n : Nat) (h1 : w.isRow n = true) (h2 : (w.rowOf n).size = 64) : (loadRow 23 (.pointer (some ⟨n, 32, none⟩))).run Try.prog w = .ok (.agg (hi (w.rowOf n))) w := run_loadKey_at w n 32 h1 h2 (by decide)

/-! ### Whole fractions -/
@[go_sem ↓] theorem loadAt_frac (v : Value) : Instr.loadAt 46 v = loadRow 46 v := rfl
@[go_sem] theorem run_loadFrac (w : World) (n : Nat) (h1 : w.isRow n = true) (h2 : (w.rowOf n).size = 64) : (loadRow 46 (.pointer (some ⟨n, 0, none⟩))).run Try.prog w = .ok (.agg (w.rowOf n)) w := run_loadRow w Try.underlying46 rfl (by kernel_rfl) n h1 h2
theorem results_frac {fn : Func} {p : Tmp} {x z : Nat} (h : fn.results = #[.cell p 46]) (w : World) (tmps : Array Value) (n : Nat) (hp : tmps.getD p undef = .pointer (some ⟨n, 0, none⟩)) (h1 : w.isRow n = true) (h2 : w.rowOf n = fracA x z) : (results fn tmps).run Try.prog w = .ok (fv x z) w :=
  results_row w h Try.underlying46 rfl (by rw [fracA_size]; kernel_rfl) tmps n hp h1 h2
/-- Two results that are whole rows. -/
theorem results_row2 {P : Program} {fn : Func} {p p' : Tmp} {t t' : TypeId} {d d' : TypeDesc} {cs cs' : Array Value} (w : World) (h : fn.results = #[.cell p t, .cell p' t'])
    (hu : P.underlying t = some d) (hd : (match d with | .struct _ | .array _ _ => true | _ => false) = true) (hi : (P.info? t).map (·.size) = some cs.size)
    (hu' : P.underlying t' = some d') (hd' : (match d' with | .struct _ | .array _ _ => true | _ => false) = true) (hi' : (P.info? t').map (·.size) = some cs'.size)
    (tmps : Array Value) (n n' : Nat) (hp : tmps.getD p undef = .pointer (some ⟨n, 0, none⟩)) (h1 : w.isRow n = true) (h2 : w.rowOf n = cs)
    (hp' : tmps.getD p' undef = .pointer (some ⟨n', 0, none⟩)) (h1' : w.isRow n' = true) (h2' : w.rowOf n' = cs') : (results fn tmps).run P w = .ok (.tuple #[.agg cs, .agg cs']) w := by
  obtain ⟨s, hs⟩ := World.isRow_spec h1
  obtain ⟨s', hs'⟩ := World.isRow_spec h1'
  rw [h2] at hs; rw [h2'] at hs'
  have e : tmps[p]?.getD undef = .pointer (some ⟨n, 0, none⟩) := by simpa using hp
  have e' : tmps[p']?.getD undef = .pointer (some ⟨n', 0, none⟩) := by simpa using hp'
  simp [results, h, e, e', asAddr, run_loadVar_row w n s t cs (0, 0) d hs hu hd hi, run_loadVar_row w n' s' t' cs' (0, 0) d' hs' hu' hd' hi']
/-- A whole row, and a plain value. -/
theorem results_row_slot {P : Program} {fn : Func} {p p' : Tmp} {t : TypeId} {d : TypeDesc} {cs : Array Value} {v : Value} (w : World) (h : fn.results = #[.cell p t, .tmp p'])
    (hu : P.underlying t = some d) (hd : (match d with | .struct _ | .array _ _ => true | _ => false) = true) (hi : (P.info? t).map (·.size) = some cs.size)
    (tmps : Array Value) (n : Nat) (hp : tmps.getD p undef = .pointer (some ⟨n, 0, none⟩)) (h1 : w.isRow n = true) (h2 : w.rowOf n = cs)
    (hp' : tmps.getD p' undef = v) : (results fn tmps).run P w = .ok (.tuple #[.agg cs, v]) w := by
  obtain ⟨s, hs⟩ := World.isRow_spec h1
  rw [h2] at hs
  have e : tmps[p]?.getD undef = .pointer (some ⟨n, 0, none⟩) := by simpa using hp
  have e' : tmps[p']?.getD undef = v := by simpa using hp'
  simp [results, h, e, e', asAddr, run_loadVar_row w n s t cs (0, 0) d hs hu hd hi]
theorem results_key_slot {fn : Func} {p p' : Tmp} {m : Nat} {v : Value} (h : fn.results = #[.cell p 23, .tmp p']) (w : World) (tmps : Array Value) (n : Nat) (hp : tmps.getD p undef = .pointer (some ⟨n, 0, none⟩)) (h1 : w.isRow n = true) (h2 : w.rowOf n = keyA m) (hp' : tmps.getD p' undef = v) :
    (results fn tmps).run Try.prog w = .ok (.tuple #[kv m, v]) w :=
  results_row_slot w h Try.underlying23 rfl (by rw [keyA_size]; kernel_rfl) tmps n hp h1 h2 hp'

/-! ### Keys and fractions that are built -/
def bld (t : TypeId) (ps : Array (Nat × Value)) : Sem Value := Instr.build t ps
@[go_sem ↓] theorem build_key (ps : Array (Nat × Value)) : Instr.build 23 ps = bld 23 ps := rfl
@[go_sem ↓] theorem build_frac (ps : Array (Nat × Value)) : Instr.build 46 ps = bld 46 ps := rfl
theorem keyA_of_ints {c : Array Value} {n : Nat} (hs : c.size = 32) (h : ∀ i, i < 32 → c[i]? = some (.int .u8 (bt n i))) : c = keyA n := by
  apply Array.ext_getElem?
  intro i
  by_cases hi : i < 32
  · rw [h i hi, keyA_get n i hi]
  · rw [Array.getElem?_eq_none (by omega), Array.getElem?_eq_none (by rw [keyA_size]; omega)]
@[go_sem] theorem run_bld_key0 (w : World) : (bld 23 #[]).run Try.prog w = .ok (kv 0) w := by
  refine run_build w _ _ _ ?_
  rw [← keyA_small 0 (by decide)]; kernel_rfl
@[go_sem] theorem run_bld_key1 (w : World) : (bld 23 #[(0, .int .u8 1)]).run Try.prog w = .ok (kv 1) w := by
  refine run_build w _ _ _ ?_
  rw [← keyA_small 1 (by decide)]; kernel_rfl
@[go_sem] theorem run_bld_key9 (w : World) : (bld 23 #[(0, .int .u8 9)]).run Try.prog w = .ok (kv 9) w := by
  refine run_build w _ _ _ ?_
  rw [← keyA_small 9 (by decide)]; kernel_rfl
@[go_sem] theorem run_bld_key255 (w : World) : (bld 23 #[(0, .int .u8 255)]).run Try.prog w = .ok (kv 255) w := by
  refine run_build w _ _ _ ?_
  rw [← keyA_small 255 (by decide)]; kernel_rfl
@[go_sem] theorem run_bld_a24 (w : World) : (bld 23 #[(0, .int .u8 65), (1, .int .u8 219), (2, .int .u8 1)]).run Try.prog w = .ok (kv 121665) w :=
  run_build w _ _ (keyA 121665) (by kernel_rfl)
@[go_sem] theorem run_bld_123 (w : World) : (bld 23 #[(0, .int .u8 1), (1, .int .u8 2), (2, .int .u8 3)]).run Try.prog w = .ok (kv 197121) w :=
  run_build w _ _ (keyA 197121) (by kernel_rfl)
@[go_sem] theorem run_bld_456 (w : World) : (bld 23 #[(0, .int .u8 4), (1, .int .u8 5), (2, .int .u8 6)]).run Try.prog w = .ok (kv 394500) w :=
  run_build w _ _ (keyA 394500) (by kernel_rfl)
set_option maxRecDepth 100000 in
@[go_sem] theorem run_bld_frac1 (w : World) (x : Nat) : (bld 46 #[(0, .agg (keyA x))]).run Try.prog w = .ok (fv x 0) w := by
  refine run_build w _ _ _ ?_
  have e : fracA x 0 = keyA x ++ #[.int .u8 0, .int .u8 0, .int .u8 0, .int .u8 0, .int .u8 0, .int .u8 0, .int .u8 0, .int .u8 0, .int .u8 0, .int .u8 0, .int .u8 0, .int .u8 0, .int .u8 0, .int .u8 0, .int .u8 0, .int .u8 0, .int .u8 0, .int .u8 0, .int .u8 0, .int .u8 0, .int .u8 0, .int .u8 0, .int .u8 0, .int .u8 0, .int .u8 0, .int .u8 0, .int .u8 0, .int .u8 0, .int .u8 0, .int .u8 0, .int .u8 0, .int .u8 0] := by
    unfold fracA; rw [← keyA_small 0 (by decide)]; rfl
  have h2 : Try.prog.built 46 [(0, .agg (keyA x))] = some (keyA x ++ #[.int .u8 0, .int .u8 0, .int .u8 0, .int .u8 0, .int .u8 0, .int .u8 0, .int .u8 0, .int .u8 0, .int .u8 0, .int .u8 0, .int .u8 0, .int .u8 0, .int .u8 0, .int .u8 0, .int .u8 0, .int .u8 0, .int .u8 0, .int .u8 0, .int .u8 0, .int .u8 0, .int .u8 0, .int .u8 0, .int .u8 0, .int .u8 0, .int .u8 0, .int .u8 0, .int .u8 0, .int .u8 0, .int .u8 0, .int .u8 0, .int .u8 0, .int .u8 0]) := by kernel_rfl
  rw [e]; exact h2
set_option maxRecDepth 100000 in
@[go_sem] theorem run_bld_frac2 (w : World) (x z : Nat) : (bld 46 #[(0, .agg (keyA x)), (1, .agg (keyA z))]).run Try.prog w = .ok (fv x z) w :=
  run_build w _ _ (fracA x z) (by kernel_rfl)
theorem lays_frac (o : Oper) (h : o.op = .alloc 46) (hg : o.guard = none) : Lays Try.prog o 46 #[.int .u8 0, .int .u8 0, .int .u8 0, .int .u8 0, .int .u8 0, .int .u8 0, .int .u8 0, .int .u8 0, .int .u8 0, .int .u8 0, .int .u8 0, .int .u8 0, .int .u8 0, .int .u8 0, .int .u8 0, .int .u8 0, .int .u8 0, .int .u8 0, .int .u8 0, .int .u8 0, .int .u8 0, .int .u8 0, .int .u8 0, .int .u8 0, .int .u8 0, .int .u8 0, .int .u8 0, .int .u8 0, .int .u8 0, .int .u8 0, .int .u8 0, .int .u8 0, .int .u8 0, .int .u8 0, .int .u8 0, .int .u8 0, .int .u8 0, .int .u8 0, .int .u8 0, .int .u8 0, .int .u8 0, .int .u8 0, .int .u8 0, .int .u8 0, .int .u8 0, .int .u8 0, .int .u8 0, .int .u8 0, .int .u8 0, .int .u8 0, .int .u8 0, .int .u8 0, .int .u8 0, .int .u8 0, .int .u8 0, .int .u8 0, .int .u8 0, .int .u8 0, .int .u8 0, .int .u8 0, .int .u8 0, .int .u8 0, .int .u8 0, .int .u8 0] := by
  refine ⟨hg, fun a w => ?_⟩
  obtain ⟨dst, op, ty, pos, after, guard⟩ := o
  simp only at h hg
  subst h; subst hg
  go_simp
theorem lays_key (o : Oper) (h : o.op = .alloc 23) (hg : o.guard = none) : Lays Try.prog o 23 #[.int .u8 0, .int .u8 0, .int .u8 0, .int .u8 0, .int .u8 0, .int .u8 0, .int .u8 0, .int .u8 0, .int .u8 0, .int .u8 0, .int .u8 0, .int .u8 0, .int .u8 0, .int .u8 0, .int .u8 0, .int .u8 0, .int .u8 0, .int .u8 0, .int .u8 0, .int .u8 0, .int .u8 0, .int .u8 0, .int .u8 0, .int .u8 0, .int .u8 0, .int .u8 0, .int .u8 0, .int .u8 0, .int .u8 0, .int .u8 0, .int .u8 0, .int .u8 0] := by
  refine ⟨hg, fun a w => ?_⟩
  obtain ⟨dst, op, ty, pos, after, guard⟩ := o
  simp only at h hg
  subst h; subst hg
  go_simp
end Go.Proofs.Ytpilonikhokjeaa
