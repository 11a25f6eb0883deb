/-
  Package sha: rows of bytes, of words; a hash; read and written by value.
-/
import Derived.Test.YtikpglemnnbdcaaDoorShaWords
import Derived.Test.YtikpglemnnbdcaaDoorWalk
import Derived.Deep.MidRow
namespace Go.Proofs.YtikpglemnnbdcaaDoor
open Go.RowKit Go.Hold Go.Sh

/-- Cells of bytes. -/
def bys (l : List Nat) : List Value := l.map fun n : Nat => Value.int .u8 (n : Int)
def bysA (l : List Nat) : Array Value := (bys l).toArray
/-- Cells of words. -/
def wos (l : List Int) : List Value := l.map fun n => Value.int .u32 n
def wosA (l : List Int) : Array Value := (wos l).toArray
def stA (s : St) : Array Value := #[.int .u32 s.a, .int .u32 s.b, .int .u32 s.c, .int .u32 s.d, .int .u32 s.e, .int .u32 s.f, .int .u32 s.g, .int .u32 s.h]
def byI (l : List Int) : Array Value := (l.map fun n => Value.int .u8 n).toArray
def keA (s : St) : Array Value := byI (keyL s)
theorem byI_size (l : List Int) : (byI l).size = l.length := by simp [byI]
theorem byI_get (l : List Int) (i : Nat) {v : Int} (h : l[i]? = some v) : (byI l)[i]? = some (.int .u8 v) := by simp [byI, h]
theorem byI_set (l : List Int) (i : Nat) (v : Int) : (byI l).setIfInBounds i (.int .u8 v) = byI (l.set i v) := by
  apply Array.ext_getElem?
  intro k
  simp only [byI, Array.getElem?_setIfInBounds, List.getElem?_toArray, List.map_set, List.getElem?_set, List.size_toArray, List.length_map]
theorem stA_get (s : St) (j : Nat) (h : j < 8) : (stA s)[j]? = some (.int .u32 (sWord s j)) := by
  have : j = 0 ∨ j = 1 ∨ j = 2 ∨ j = 3 ∨ j = 4 ∨ j = 5 ∨ j = 6 ∨ j = 7 := by omega
  rcases this with rfl | rfl | rfl | rfl | rfl | rfl | rfl | rfl <;> rfl
theorem bysA_size (l : List Nat) : (bysA l).size = l.length := by simp [bysA, bys]
theorem wosA_size (l : List Int) : (wosA l).size = l.length := by simp [wosA, wos]
@[go_sem] theorem stA_size (s : St) : (stA s).size = 8 := by simp [stA]
@[go_sem] theorem keA_size (s : St) : (keA s).size = 32 := by simp [keA, byI, keyL]
theorem bysA_get (l : List Nat) (i : Nat) (h : i < l.length) : (bysA l)[i]? = some (.int .u8 ((l.getD i 0 : Nat) : Int)) := by simp [bysA, bys, h]
theorem wosA_get (l : List Int) (i : Nat) (h : i < l.length) : (wosA l)[i]? = some (.int .u32 (l.getD i 0)) := by simp [wosA, wos, h]
theorem wosA_get' (l : List Int) (i : Nat) {v : Int} (h : l[i]? = some v) : (wosA l)[i]? = some (.int .u32 v) := by simp [wosA, wos, h]
theorem wosA_set (l : List Int) (i : Nat) (v : Int) : (wosA l).setIfInBounds i (.int .u32 v) = wosA (l.set i v) := by
  apply Array.ext_getElem?
  intro k
  simp only [wosA, wos, Array.getElem?_setIfInBounds, List.getElem?_toArray, List.map_set, List.getElem?_set, List.size_toArray, List.length_map]
theorem bysA_set (l : List Nat) (i : Nat) (v : Nat) : (bysA l).setIfInBounds i (.int .u8 (v : Int)) = bysA (l.set i v) := by
  apply Array.ext_getElem?
  intro k
  simp only [bysA, bys, Array.getElem?_setIfInBounds, List.getElem?_toArray, List.map_set, List.getElem?_set, List.size_toArray, List.length_map]
@[go_sem] theorem bysA_one (l : List Nat) : oneAll (bysA l) = true := by simp [oneAll, bysA, bys, Value.oneCell']
@[go_sem] theorem wosA_one (l : List Int) : oneAll (wosA l) = true := by simp [oneAll, wosA, wos, Value.oneCell']
@[go_sem] theorem stA_one (s : St) : oneAll (stA s) = true := by simp [oneAll, stA, Value.oneCell']
@[go_sem] theorem keA_one (s : St) : oneAll (keA s) = true := by simp [oneAll, keA, byI, keyL, Value.oneCell']

/-! ### Whole rows -/
@[go_sem ↓] theorem loadAt_key (v : Value) : Instr.loadAt 25 v = loadRow 25 v := rfl
@[go_sem ↓] theorem loadAt_words (v : Value) : Instr.loadAt 51 v = loadRow 51 v := rfl
@[go_sem ↓] theorem loadAt_block (v : Value) : Instr.loadAt 53 v = loadRow 53 v := rfl
@[go_sem ↓] theorem loadAt_hash (v : Value) : Instr.loadAt 55 v = loadRow 55 v := rfl
@[go_sem ↓] theorem loadAt_w64 (v : Value) : Instr.loadAt 72 v = loadRow 72 v := rfl
section
variable (w : World) (n : Nat)
@[go_sem] theorem run_loadKey (h1 : w.isRow n = true) (h2 : (w.rowOf n).size = 32) : (loadRow 25 (.pointer (some ⟨n, 0, none⟩))).run Tryd.prog w = .ok (.agg (w.rowOf n)) w := run_loadRow w Tryd.underlying25 rfl (by kernel_rfl) n h1 h2
@[go_sem] theorem run_loadWords (h1 : w.isRow n = true) (h2 : (w.rowOf n).size = 8) : (loadRow 51 (.pointer (some ⟨n, 0, none⟩))).run Tryd.prog w = .ok (.agg (w.rowOf n)) w := run_loadRow w Tryd.underlying51 rfl (by kernel_rfl) n h1 h2
@[go_sem] theorem run_loadBlock (h1 : w.isRow n = true) (h2 : (w.rowOf n).size = 64) : (loadRow 53 (.pointer (some ⟨n, 0, none⟩))).run Tryd.prog w = .ok (.agg (w.rowOf n)) w := run_loadRow w Tryd.underlying53 rfl (by kernel_rfl) n h1 h2
@[go_sem] theorem run_loadHash (h1 : w.isRow n = true) (h2 : (w.rowOf n).size = 74) : (loadRow 55 (.pointer (some ⟨n, 0, none⟩))).run Tryd.prog w = .ok (.agg (w.rowOf n)) w := run_loadRow w Tryd.underlying55 rfl (by kernel_rfl) n h1 h2
@[go_sem] theorem run_loadW64 (h1 : w.isRow n = true) (h2 : (w.rowOf n).size = 64) : (loadRow 72 (.pointer (some ⟨n, 0, none⟩))).run Tryd.prog w = .ok (.agg (w.rowOf n)) w := run_loadRow w Tryd.underlying72 rfl (by kernel_rfl) n h1 h2
end
theorem results_w64 {fn : Func} {p : Tmp} {cs : Array Value} (h : fn.results = #[.cell p 72]) (hc : cs.size = 64) (w : World) (tmps : Array Value) (n : Nat) (hp : tmps.getD p undef = .pointer (some ⟨n, 0, none⟩)) (h1 : w.isRow n = true) (h2 : w.rowOf n = cs) : (results fn tmps).run Tryd.prog w = .ok (.agg cs) w :=
  results_row w h Tryd.underlying72 rfl (by rw [hc]; kernel_rfl) tmps n hp h1 h2
theorem results_words {fn : Func} {p : Tmp} {cs : Array Value} (h : fn.results = #[.cell p 51]) (hc : cs.size = 8) (w : World) (tmps : Array Value) (n : Nat) (hp : tmps.getD p undef = .pointer (some ⟨n, 0, none⟩)) (h1 : w.isRow n = true) (h2 : w.rowOf n = cs) : (results fn tmps).run Tryd.prog w = .ok (.agg cs) w :=
  results_row w h Tryd.underlying51 rfl (by rw [hc]; kernel_rfl) tmps n hp h1 h2
theorem results_key {fn : Func} {p : Tmp} {cs : Array Value} (h : fn.results = #[.cell p 25]) (hc : cs.size = 32) (w : World) (tmps : Array Value) (n : Nat) (hp : tmps.getD p undef = .pointer (some ⟨n, 0, none⟩)) (h1 : w.isRow n = true) (h2 : w.rowOf n = cs) : (results fn tmps).run Tryd.prog w = .ok (.agg cs) w :=
  results_row w h Tryd.underlying25 rfl (by rw [hc]; kernel_rfl) tmps n hp h1 h2
theorem results_hash {fn : Func} {p : Tmp} {cs : Array Value} (h : fn.results = #[.cell p 55]) (hc : cs.size = 74) (w : World) (tmps : Array Value) (n : Nat) (hp : tmps.getD p undef = .pointer (some ⟨n, 0, none⟩)) (h1 : w.isRow n = true) (h2 : w.rowOf n = cs) : (results fn tmps).run Tryd.prog w = .ok (.agg cs) w :=
  results_row w h Tryd.underlying55 rfl (by rw [hc]; kernel_rfl) tmps n hp h1 h2

/-! ### Values that are built -/
def hasA (m : Bool) (n : Int) (s : St) (r : List Nat) : Array Value := (Value.bool m :: .int .i64 n :: ((stA s).toList ++ bys r)).toArray
theorem hasA_size (m : Bool) (n : Int) (s : St) (r : List Nat) : (hasA m n s r).size = 10 + r.length := by simp [hasA, bys, stA]; omega
@[go_sem] theorem hasA_one (m : Bool) (n : Int) (s : St) (r : List Nat) : oneAll (hasA m n s r) = true := by simp [oneAll, hasA, bys, stA, Value.oneCell']
def stz : St := ⟨0, 0, 0, 0, 0, 0, 0, 0⟩
def bldA (t : TypeId) (ps : Array (Nat × Value)) : Sem Value := Instr.build t ps
@[go_sem ↓] theorem build_words (ps : Array (Nat × Value)) : Instr.build 51 ps = bldA 51 ps := rfl
@[go_sem ↓] theorem build_block (ps : Array (Nat × Value)) : Instr.build 53 ps = bldA 53 ps := rfl
@[go_sem ↓] theorem build_hash (ps : Array (Nat × Value)) : Instr.build 55 ps = bldA 55 ps := rfl
@[go_sem ↓] theorem build_key (ps : Array (Nat × Value)) : Instr.build 25 ps = bldA 25 ps := rfl
set_option maxRecDepth 100000 in
@[go_sem] theorem run_bldWords (a b c d e f g h : Int) (w : World) : (bldA 51 #[(0, .int .u32 a), (1, .int .u32 b), (2, .int .u32 c), (3, .int .u32 d), (4, .int .u32 e), (5, .int .u32 f), (6, .int .u32 g), (7, .int .u32 h)]).run Tryd.prog w = .ok (.agg (stA ⟨a, b, c, d, e, f, g, h⟩)) w := run_build w _ _ _ (by kernel_rfl)
set_option maxRecDepth 100000 in
@[go_sem] theorem run_bldBlock (w : World) : (bldA 53 #[]).run Tryd.prog w = .ok (.agg (bysA (zs 64))) w := run_build w _ _ _ (by kernel_rfl)
set_option maxRecDepth 100000 in
@[go_sem] theorem run_bldHash0 (w : World) : (bldA 55 #[]).run Tryd.prog w = .ok (.agg (hasA false 0 stz (zs 64))) w := run_build w _ _ _ (by kernel_rfl)
set_option maxRecDepth 100000 in
@[go_sem] theorem run_bldHash (s : St) (w : World) : (bldA 55 #[(0, .bool true), (2, .agg (stA s))]).run Tryd.prog w = .ok (.agg (hasA true 0 s (zs 64))) w := run_build w _ _ _ (by kernel_rfl)
set_option maxRecDepth 100000 in
@[go_sem] theorem run_bldKey (w : World) : (bldA 25 #[]).run Tryd.prog w = .ok (.agg (bysA (zs 32))) w := run_build w _ _ _ (by kernel_rfl)
/-- A byte of a block's value. -/
theorem run_indexByte {A : Array Value} {k : Nat} {v : Value} (hk : k < 64) (hv : A[k]? = some v) (w : World) : (Instr.index 53 (.agg A) (.int .i64 (k : Int))).run Tryd.prog w = .ok v w := by
  have hu := Tryd.underlying53
  have hi : (Tryd.prog.info? 5).map (fun i => (i.zero, i.size, i.bytes)) = some (some (.int .u8 0), 1, 1) := by kernel_rfl
  obtain ⟨i0, hi, hz0, hz1, hz2⟩ := info_parts hi
  have hu8 := Tryd.underlying5
  simp [Instr.index, asIntOf, run_underlying hu, sizeOf, typeInfo, hi, hz1, part, isAgg, run_underlying hu8, hv, hk, Sem.run_bind]

/-! ### One cell of a row -/
end Go.Proofs.YtikpglemnnbdcaaDoor
namespace Go
open Go.RowKit
theorem RowAt.setCell {w : World} {n : Nat} {c : Array Value} (h : RowAt w n c) (i : Nat) (v : Value) : RowAt (w.setCell ⟨n, i, none⟩ v) n (c.setIfInBounds i v) := by
  obtain ⟨t, ht⟩ := h.block
  refine RowAt.of (t := t) ?_
  unfold World.setCell
  simp only [Array.getElem?_modify, if_pos, ht, Option.map_some]
  rfl
theorem RowAt.keep {w w' : World} {n B : Nat} {c : Array Value} (h : RowAt w n c) (hb : Below B w w') (hn : n < B) : RowAt w' n c := by
  obtain ⟨t, ht⟩ := h.block
  exact RowAt.of (t := t) (by rw [hb.block n hn]; exact ht)
theorem RowAt.frozenAt {w : World} {n : Nat} {c : Array Value} (h : RowAt w n c) (i : Nat) : w.frozen? ⟨n, i, none⟩ = false := by
  obtain ⟨t, ht⟩ := h.block
  simp [World.frozen?, ht]
end Go
namespace Go.Proofs.YtikpglemnnbdcaaDoor
open Go.RowKit Go.Hold Go.Sh
theorem setCell_setRow {w : World} {n : Nat} {c0 : Array Value} (h : RowAt w n c0) (c : Array Value) (i : Nat) (v : Value) : (w.setRow n c).setCell ⟨n, i, none⟩ v = w.setRow n (c.setIfInBounds i v) := by
  obtain ⟨t, ht⟩ := h.block
  simp only [World.setCell, World.setRow]
  congr 1
  apply Array.ext_getElem?
  intro k
  simp only [Array.getElem?_modify]
  by_cases e : n = k
  · subst e; simp [ht]
  · simp [e]
theorem setRow_self {w : World} {n : Nat} {c : Array Value} (h : RowAt w n c) : w.setRow n c = w := by
  obtain ⟨t, ht⟩ := h.block
  cases w
  simp only [World.setRow]
  congr 1
  apply Array.ext_getElem?
  intro k
  simp only [Array.getElem?_modify]
  by_cases e : n = k
  · subst e; simp_all
  · simp [e]
end Go.Proofs.YtikpglemnnbdcaaDoor
