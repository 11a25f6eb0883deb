/-
  Rows and slices of bytes.
-/
import Derived.Test.YtbhgmefdimjlaaaW32
import Derived.Test.YtbhgmefdimjlaaaWalk
import Derived.Test.YtbhgmefdimjlaaaHmacPure
import Derived.Deep.MidRow
import Derived.ChangeKeysEq
import Derived.Lib.SlBytesConst
namespace Go.Proofs.Ytbhgmefdimjlaaa
open Go.RowKit Go.Hold Go.Sh

/-! ### Rows of bytes, of words -/
/-- Cells of bytes. -/
def bys (l : List Nat) : List Value := l.map fun n : Nat => Value.int .u8 (n : Int)
def bysA (l : List Nat) : Array Value := (bys l).toArray
/-- Cells of words. -/
def wos (l : List Int) : List Value := l.map fun n => Value.int .u32 n
def wosA (l : List Int) : Array Value := (wos l).toArray
def byI (l : List Int) : Array Value := (l.map fun n => Value.int .u8 n).toArray
theorem byI_size (l : List Int) : (byI l).size = l.length := by simp [byI]
theorem byI_get (l : List Int) (i : Nat) {v : Int} (h : l[i]? = some v) : (byI l)[i]? = some (.int .u8 v) := by simp [byI, h]
theorem byI_set (l : List Int) (i : Nat) (v : Int) : (byI l).setIfInBounds i (.int .u8 v) = byI (l.set i v) := by
  apply Array.ext_getElem?
  intro k
  simp only [byI, Array.getElem?_setIfInBounds, List.getElem?_toArray, List.map_set, List.getElem?_set, List.size_toArray, List.length_map]
theorem bysA_size (l : List Nat) : (bysA l).size = l.length := by simp [bysA, bys]
theorem wosA_size (l : List Int) : (wosA l).size = l.length := by simp [wosA, wos]
theorem bysA_get (l : List Nat) (i : Nat) (h : i < l.length) : (bysA l)[i]? = some (.int .u8 ((l.getD i 0 : Nat) : Int)) := by simp [bysA, bys, h]
theorem wosA_get (l : List Int) (i : Nat) (h : i < l.length) : (wosA l)[i]? = some (.int .u32 (l.getD i 0)) := by simp [wosA, wos, h]
theorem wosA_get' (l : List Int) (i : Nat) {v : Int} (h : l[i]? = some v) : (wosA l)[i]? = some (.int .u32 v) := by simp [wosA, wos, h]
theorem wosA_set (l : List Int) (i : Nat) (v : Int) : (wosA l).setIfInBounds i (.int .u32 v) = wosA (l.set i v) := by
  apply Array.ext_getElem?
  intro k
  simp only [wosA, wos, Array.getElem?_setIfInBounds, List.getElem?_toArray, List.map_set, List.getElem?_set, List.size_toArray, List.length_map]
theorem bysA_set (l : List Nat) (i : Nat) (v : Nat) : (bysA l).setIfInBounds i (.int .u8 (v : Int)) = bysA (l.set i v) := by
  apply Array.ext_getElem?
  intro k
  simp only [bysA, bys, Array.getElem?_setIfInBounds, List.getElem?_toArray, List.map_set, List.getElem?_set, List.size_toArray, List.length_map]
@[go_sem] theorem bysA_one (l : List Nat) : oneAll (bysA l) = true := by simp [oneAll, bysA, bys, Value.oneCell']
@[go_sem] theorem wosA_one (l : List Int) : oneAll (wosA l) = true := by simp [oneAll, wosA, wos, Value.oneCell']
def bldA (t : TypeId) (ps : Array (Nat × Value)) : Sem Value := Instr.build t ps
end Go.Proofs.Ytbhgmefdimjlaaa
namespace Go
open Go.RowKit
theorem RowAt.setCell {w : World} {n : Nat} {c : Array Value} (h : RowAt w n c) (i : Nat) (v : Value) : RowAt (w.setCell ⟨n, i, none⟩ v) n (c.setIfInBounds i v) := by
  obtain ⟨t, ht⟩ := h.block
  refine RowAt.of (t := t) ?_
  unfold World.setCell
  simp only [Array.getElem?_modify, if_pos, ht, Option.map_some]
  rfl
theorem RowAt.keep {w w' : World} {n B : Nat} {c : Array Value} (h : RowAt w n c) (hb : Below B w w') (hn : n < B) : RowAt w' n c := by
  obtain ⟨t, ht⟩ := h.block
  exact RowAt.of (t := t) (by rw [hb.block n hn]; exact ht)
theorem RowAt.frozenAt {w : World} {n : Nat} {c : Array Value} (h : RowAt w n c) (i : Nat) : w.frozen? ⟨n, i, none⟩ = false := by
  obtain ⟨t, ht⟩ := h.block
  simp [World.frozen?, ht]
end Go
namespace Go.Proofs.Ytbhgmefdimjlaaa
open Go.RowKit Go.Hold Go.Sh
theorem setCell_setRow {w : World} {n : Nat} {c0 : Array Value} (h : RowAt w n c0) (c : Array Value) (i : Nat) (v : Value) : (w.setRow n c).setCell ⟨n, i, none⟩ v = w.setRow n (c.setIfInBounds i v) := by
  obtain ⟨t, ht⟩ := h.block
  simp only [World.setCell, World.setRow]
  congr 1
  apply Array.ext_getElem?
  intro k
  simp only [Array.getElem?_modify]
  by_cases e : n = k
  · subst e; simp [ht]
  · simp [e]
theorem setRow_self {w : World} {n : Nat} {c : Array Value} (h : RowAt w n c) : w.setRow n c = w := by
  obtain ⟨t, ht⟩ := h.block
  cases w
  simp only [World.setRow]
  congr 1
  apply Array.ext_getElem?
  intro k
  simp only [Array.getElem?_modify]
  by_cases e : n = k
  · subst e; simp_all
  · simp [e]
/-! ### Some cells of a row are set -/
def setL (c : Array Value) : Nat → List Value → Array Value
  | _, [] => c
  | o, v :: r => setL (c.setIfInBounds o v) (o + 1) r
theorem setL_size : ∀ (vs : List Value) (c : Array Value) (o : Nat), (setL c o vs).size = c.size
  | [], _, _ => rfl
  | v :: r, c, o => by rw [setL, setL_size r]; simp
theorem setL_get : ∀ (vs : List Value) (c : Array Value) (o i : Nat), (setL c o vs)[i]? = if o ≤ i ∧ i < o + vs.length ∧ i < c.size then vs[i - o]? else c[i]?
  | [], c, o, i => by rw [setL, if_neg (by simp; omega)]
  | v :: r, c, o, i => by
    rw [setL, setL_get r]
    simp only [Array.size_setIfInBounds, Array.getElem?_setIfInBounds, List.length_cons]
    by_cases h1 : o + 1 ≤ i ∧ i < o + 1 + r.length ∧ i < c.size
    · rw [if_pos h1, if_pos (by omega), show i - o = i - (o + 1) + 1 by omega, List.getElem?_cons_succ]
    · rw [if_neg h1]
      by_cases h2 : o = i
      · subst h2
        by_cases h3 : o < c.size
        · rw [if_pos rfl, if_pos h3, if_pos (by omega), Nat.sub_self]; rfl
        · rw [if_pos rfl, if_neg h3, if_neg (by omega), Array.getElem?_eq_none (by omega)]
      · rw [if_neg h2, if_neg (by omega)]
theorem setRow_setRow (w : World) (n : Nat) (c c' : Array Value) : (w.setRow n c).setRow n c' = w.setRow n c' := by
  simp only [World.setRow]
  congr 1
  apply Array.ext_getElem?
  intro k
  simp only [Array.getElem?_modify]
  by_cases e : n = k
  · subst e
    cases hx : w.heap[n]? with
    | none => simp
    | some o => cases o <;> simp
  · simp [e]
theorem setCell_row {w : World} {n : Nat} {c : Array Value} (h : RowAt w n c) (i : Nat) (v : Value) : w.setCell ⟨n, i, none⟩ v = w.setRow n (c.setIfInBounds i v) := by
  have := setCell_setRow h c i v
  rwa [setRow_self h] at this
theorem setCells_row : ∀ (vs : List Value) (o : Nat) {w : World} {n : Nat} {c : Array Value}, RowAt w n c → w.setCells n o vs = w.setRow n (setL c o vs)
  | [], _, _, _, _, h => (setRow_self h).symm
  | v :: r, o, w, n, c, h => by
    rw [World.setCells, setCells_row r (o + 1) (RowAt.setCell h o v), setL, setCell_row h, setRow_setRow]
theorem range_row {w : World} {n : Nat} {c : Array Value} (h : RowAt w n c) (o k : Nat) : w.rangeAt n o (c.extract o (o + k)).toList := by
  obtain ⟨t, ht⟩ := h.block
  exact World.rangeAt_of_block ht o k
theorem run_storeMid {w : World} {n : Nat} {c : Array Value} (h : RowAt w n c) (o : Nat) (cs : Array Value) (h2 : o + cs.size ≤ c.size) (h3 : oneAll cs = true) : (storeCells ⟨n, o, none⟩ cs.toList 0).run Try.prog w = .ok () (w.setRow n (setL c o cs.toList)) := by
  have := run_storeCells_cells (P := Try.prog) n o cs.toList 0 w (fun j hj => by
      have hj' : j < cs.size := by simpa using hj
      rw [show o + 0 + j = o + j by omega, RowAt.cellAt h (o + j) (Array.getElem?_eq_getElem (by omega))]; rfl)
    (fun j _ => RowAt.frozenAt h _) (fun v hv => (Array.all_eq_true_iff_forall_mem.1 h3) v (by simpa using hv))
  rw [this, Nat.add_zero, setCells_row _ _ h]
/-! ### Bytes that lie in a block -/
/-- Bytes lie in a block, from an offset on. -/
def BytesAt (w : World) (b o : Nat) (l : List Nat) : Prop := b < w.heap.size ∧ ∀ i, i < l.length → w.cell? ⟨b, o + i, none⟩ = some (.int .u8 ((l.getD i 0 : Nat) : Int))
theorem BytesAt.grow {w w' : World} {b o : Nat} {l : List Nat} (h : BytesAt w b o l) (hb : Below w.heap.size w w') : BytesAt w' b o l :=
  ⟨Nat.lt_of_lt_of_le h.1 hb.size, fun i hi => by rw [hb.cell h.1]; exact h.2 i hi⟩
theorem BytesAt.other {w : World} {b o g : Nat} {l : List Nat} (h : BytesAt w b o l) (hg : b ≠ g) (c : Array Value) : BytesAt (w.setRow g c) b o l :=
  ⟨by rw [size_setRow]; exact h.1, fun i hi => by rw [World.cell?_of_block (w := w) (setRow_other w g b c hg)]; exact h.2 i hi⟩
theorem bys_length (l : List Nat) : (bys l).length = l.length := by simp [bys]
/-- Nothing goes over. -/
theorem copy_none (W : World) (d a : Option Addr) (dl dc cap : Nat) : (Builtin.copy_ #[26, 26] 3 #[.slice d dl dc, .slice a 0 cap]).run Try.prog W = .ok (.int .i64 0) W :=
  run_copy_none W _ _ _ 5 _ _ _ _ _ _ Try.underlying26 (by kernel_rfl) (by simp)
theorem plus_none' (w : World) : w = w.plus #[] w.drawn := by unfold World.plus; rw [Array.append_empty]
/-! ### Slices of bytes -/
def slB (v : Value) (lo hi mx : Option Value) : Sem Value := Instr.sliceAt 26 v lo hi mx
@[go_sem ↓ high] theorem fold_slB (v : Value) (lo hi mx : Option Value) : Instr.sliceAt 26 v lo hi mx = slB v lo hi mx := rfl
/-- Where a slice begins from its n-th byte on. -/
@[irreducible] def adv (o n cap : Nat) : Nat := if cap = n then o else o + n
theorem elem8 : Try.prog.underlying 26 = some (.slice (Try.prog.elem 26)) := by kernel_rfl
theorem size8 (w : World) : (sizeOf (Try.prog.elem 26)).run Try.prog w = .ok 1 w := by kernel_rfl
theorem slB_lo (b o len cap n : Nat) (h : n ≤ len) (w : World) : (slB (.slice (some ⟨b, o, none⟩) len cap) (some (.int .i64 (n : Int))) none none).run Try.prog w = .ok (.slice (some ⟨b, adv o n cap, none⟩) (len - n) (cap - n)) w := by
  unfold slB
  rw [run_sliceAt_slice _ _ _ _ _ _ elem8, run_slice_l _ _ _ _ _ elem8 _ _ (by omega) (by omega), size8]
  unfold adv
  by_cases e : cap = n
  · simp [sliced, Result.andThen, e]
  · simp [sliced, Result.andThen, e, Addr.add_mid]
theorem slB_lo64 (b o len cap : Nat) (h : 64 ≤ len) (w : World) : (slB (.slice (some ⟨b, o, none⟩) len cap) (some (.int .i64 64)) none none).run Try.prog w = .ok (.slice (some ⟨b, adv o 64 cap, none⟩) (len - 64) (cap - 64)) w := slB_lo b o len cap 64 h w
theorem slB_hi (a : Option Addr) (len cap : Nat) (h : 64 ≤ cap) (w : World) : (slB (.slice a len cap) none (some (.int .i64 64)) none).run Try.prog w = .ok (.slice a 64 cap) w := by
  unfold slB
  rw [run_sliceAt_slice _ _ _ _ _ _ elem8, run_slice_h _ _ _ _ _ elem8 _ _ (by omega) (by omega), size8]
  cases a <;> simp [sliced, Result.andThen, Addr.add]
theorem BytesAt.adv {w : World} {b o n cap : Nat} {l : List Nat} (h : BytesAt w b o l) (hc : l.length ≤ cap) : BytesAt w b (adv o n cap) (l.drop n) := by
  refine ⟨h.1, fun i hi => ?_⟩
  rw [List.length_drop] at hi
  unfold Go.Proofs.Ytbhgmefdimjlaaa.adv
  rw [if_neg (by omega), Nat.add_assoc, h.2 (n + i) (by omega)]
  simp [List.getD, List.getElem?_drop]
theorem plus_none (w : World) : w.plus #[] w.drawn = w := by unfold World.plus; rw [Array.append_empty]
theorem setRow_plus_all {w : World} {g : Nat} {c0 : Array Value} (h : RowAt w g c0) {X Y : Array Value} {os : Array Obj} {d : Nat} : ((w.setRow g X).plus os d).setRow g Y = (w.setRow g Y).plus os d := by
  rw [World.setRow_plus _ _ _ _ _ (by rw [size_setRow]; exact h.2.2), setRow_setRow]
/-- A slice of bytes: empty, or at an address outside one block. -/
def Bs (w : World) (p : Option Addr) (l : List Nat) (g : Nat) : Prop := l = [] ∨ ∃ b o, p = some ⟨b, o, none⟩ ∧ BytesAt w b o l ∧ b ≠ g
theorem Bs.grow {w w' : World} {p : Option Addr} {l : List Nat} {g : Nat} (h : Bs w p l g) (hb : Below w.heap.size w w') : Bs w' p l g := by
  rcases h with h | ⟨b, o, e, h, n⟩
  · exact .inl h
  · exact .inr ⟨b, o, e, h.grow hb, n⟩
theorem Bs.set {w : World} {p : Option Addr} {l : List Nat} {g : Nat} (h : Bs w p l g) (c : Array Value) : Bs (w.setRow g c) p l g := by
  rcases h with h | ⟨b, o, e, h, n⟩
  · exact .inl h
  · exact .inr ⟨b, o, e, h.other n c, n⟩
/-- A slice of bytes, wherever it lies. -/
def Bs0 (w : World) (p : Option Addr) (l : List Nat) : Prop := l = [] ∨ ∃ b o, p = some ⟨b, o, none⟩ ∧ BytesAt w b o l
theorem Bs.any {w : World} {p : Option Addr} {l : List Nat} {g : Nat} (h : Bs w p l g) : Bs0 w p l := by
  rcases h with h | ⟨b, o, e, h, _⟩
  · exact .inl h
  · exact .inr ⟨b, o, e, h⟩
theorem Bs0.grow {w w' : World} {p : Option Addr} {l : List Nat} (h : Bs0 w p l) (hb : Below w.heap.size w w') : Bs0 w' p l := by
  rcases h with h | ⟨b, o, e, h⟩
  · exact .inl h
  · exact .inr ⟨b, o, e, h.grow hb⟩
/-- A slice that lay there before a block was laid lies outside it. -/
theorem Bs0.new {w w' : World} {p : Option Addr} {l : List Nat} {g' : Nat} (h : Bs0 w p l) (hb : Below w.heap.size w w') (hg : w.heap.size ≤ g') : Bs w' p l g' := by
  rcases h with h | ⟨b, o, e, h⟩
  · exact .inl h
  · exact .inr ⟨b, o, e, h.grow hb, by have := h.1; omega⟩
theorem run_eqItems_int {P : Program} {e : TypeId} {k k' : IntKind} (d : Nat) (he : P.underlying e = some (.int k')) (xs ys : Array Value) (f g : Nat → Int) (w : World) : ∀ is : List Nat,
    (∀ i ∈ is, xs[i]? = some (.int k (f i)) ∧ ys[i]? = some (.int k (g i))) → (Op.eqItems (d + 1) e 1 xs ys is).run P w = .ok (is.all fun i => f i == g i) w
  | [], _ => by simp [Op.eqItems]
  | i :: is, h => by
    obtain ⟨h1, h2⟩ := h i (by simp)
    have hag : (isAgg e).run P w = .ok false w := by unfold isAgg; rw [Sem.run_bind, run_underlying he w]; simp
    have hp : ∀ (cs : Array Value) (v : Value), cs[i]? = some v → (part e cs (i * 1)).run P w = .ok v w := fun cs v hv => by
      unfold part; rw [Sem.run_bind, hag]; simp [hv]
    have ih := run_eqItems_int d he xs ys f g w is fun j hj => h j (by simp [hj])
    simp only [Op.eqItems, Sem.run_bind, hp xs _ h1, hp ys _ h2, Result.andThen_ok, run_equalIn_int w d e k k' (f i) (g i) he]
    cases hfg : (f i == g i)
    · simp [hfg]
    · simp [hfg, ih]
@[go_sem] theorem run_conv (w : World) (C : Array Value) (n c : Nat) : (convert 26 26 (.slice (some ⟨w.heap.size, 0, none⟩) n c)).run Try.prog (w.alloc (.cells C 5)) = .ok (.slice (some ⟨w.heap.size, 0, none⟩) n c) (w.alloc (.cells C 5 (C.size, C.size + 1))) :=
  Lib.run_convert_bytes_const w _ _ C n c Try.underlying26 Try.underlying5
theorem bytes_new (w : World) (l : List Nat) (t : TypeId) (fr : Nat × Nat) : BytesAt (w.alloc (.cells (bysA l) t fr)) w.heap.size 0 l :=
  ⟨by simp, fun i hi => by rw [Nat.zero_add, cell_of_row _ _ i _ _ _ (block_new w _)]; exact bysA_get l i hi⟩
theorem bytes_row {w : World} {b : Nat} {l : List Nat} (h : RowAt w b (bysA l)) : BytesAt w b 0 l :=
  ⟨h.2.2, fun i hi => by rw [Nat.zero_add]; exact h.cellAt i (bysA_get l i hi)⟩
theorem bts_1 (a : Nat) (ha : a < 256) : ∀ i, [a].getD i 0 < 256 := getD_lt fun x hx => by simp at hx; omega
theorem bts_2 (a b : Nat) (ha : a < 256) (hb : b < 256) : ∀ i, [a, b].getD i 0 < 256 := getD_lt fun x hx => by simp at hx; omega
theorem bts_3 (a b c : Nat) (ha : a < 256) (hb : b < 256) (hc : c < 256) : ∀ i, [a, b, c].getD i 0 < 256 := getD_lt fun x hx => by simp at hx; omega
theorem bts_0 : ∀ i, ([] : List Nat).getD i 0 < 256 := fun i => by simp
end Go.Proofs.Ytbhgmefdimjlaaa
