/-
  The reference of layer 3: slices of bytes and of words that a call makes itself; the padding.
-/
import Derived.Test.YtikpglemnnbdcaaDoorShaEq
import Derived.OwnWalk
import Derived.Laws.AppendOwnNone
namespace Go.Proofs.YtikpglemnnbdcaaDoor
open Go.RowKit Go.Hold Go.Sh

theorem info_u8 : (Tryd.prog.info? 5).map (fun i => (i.zero, i.size, i.bytes)) = some (some (.int .u8 0), 1, 1) := by kernel_rfl
theorem info_u32 : (Tryd.prog.info? 49).map (fun i => (i.zero, i.size, i.bytes)) = some (some (.int .u32 0), 1, 4) := by kernel_rfl
/-! ### Slices that a call made -/
def OwnB (w : World) (B : Nat) (v : Value) (l : List Nat) : Prop := w.ownsRow B 5 1 v l.length (bys l)
def OwnW (w : World) (B : Nat) (v : Value) (l : List Int) : Prop := w.ownsRow B 49 1 v l.length (wos l)
def WordsAt (w : World) (g : Nat) (l : List Int) : Prop := g < w.heap.size ∧ ∀ i, i < l.length → w.cell? ⟨g, i, none⟩ = some (.int .u32 (l.getD i 0))
theorem WordsAt.grow {w w' : World} {g : Nat} {l : List Int} (h : WordsAt w g l) (hb : Below w.heap.size w w') : WordsAt w' g l :=
  ⟨Nat.lt_of_lt_of_le h.1 hb.size, fun i hi => by rw [hb.cell h.1]; exact h.2 i hi⟩
theorem wos_length (l : List Int) : (wos l).length = l.length := by simp [wos]
theorem owns_below {w w' : World} {B : Nat} {e : TypeId} {v : Value} {n : Nat} {xs : List Value} (h : w.ownsRow B e 1 v n xs) (hb : Below w.heap.size w w') : w'.ownsRow B e 1 v n xs :=
  h.kept (row := none) ⟨hb.os, hb.tape, hb.output, hb.size, fun k hk _ => hb.block k hk⟩ (by cases hv : v.ownBlock <;> simp)
theorem OwnB.below {w w' : World} {B : Nat} {v : Value} {l : List Nat} (h : OwnB w B v l) (hb : Below w.heap.size w w') : OwnB w' B v l := owns_below h hb
theorem OwnW.below {w w' : World} {B : Nat} {v : Value} {l : List Int} (h : OwnW w B v l) (hb : Below w.heap.size w w') : OwnW w' B v l := owns_below h hb
theorem OwnB.snoc {w : World} {B : Nat} {v : Value} {l m : List Nat} (h : w.ownsRow B 5 1 v (l.length + m.length) (bys l ++ bys m)) : OwnB w B v (l ++ m) := by
  unfold OwnB
  rw [List.length_append, show bys (l ++ m) = bys l ++ bys m by simp [bys]]; exact h
theorem OwnW.snoc {w : World} {B : Nat} {v : Value} {l : List Int} {x : Int} (h : w.ownsRow B 49 1 v (l.length + 1) (wos l ++ [.int .u32 x])) : OwnW w B v (l ++ [x]) := by
  unfold OwnW
  rw [List.length_append, show wos (l ++ [x]) = wos l ++ [.int .u32 x] by simp [wos]]; exact h
theorem OwnB.addr {w : World} {B : Nat} {v : Value} {l : List Nat} {k : Nat} (h : OwnB w B v l) (hk : l.length = k) (h0 : 0 < k) : ∃ g cap, v = .slice (some ⟨g, 0, none⟩) k cap ∧ B ≤ g ∧ g < w.heap.size ∧ k ≤ cap := by
  subst hk
  rcases h.2 with ⟨_, h1⟩ | ⟨g, cap, cur, rfl, hb, hg, hc, _⟩
  · omega
  · exact ⟨g, cap, rfl, hb, (Array.getElem?_eq_some_iff.1 hg).1, hc⟩
theorem OwnW.addr {w : World} {B : Nat} {v : Value} {l : List Int} {k : Nat} (h : OwnW w B v l) (hk : l.length = k) (h0 : 0 < k) : ∃ g cap, v = .slice (some ⟨g, 0, none⟩) k cap ∧ B ≤ g ∧ g < w.heap.size ∧ k ≤ cap := by
  subst hk
  rcases h.2 with ⟨_, h1⟩ | ⟨g, cap, cur, rfl, hb, hg, hc, _⟩
  · omega
  · exact ⟨g, cap, rfl, hb, (Array.getElem?_eq_some_iff.1 hg).1, hc⟩
theorem OwnB.bytes {w : World} {B g cap k : Nat} {l : List Nat} (h : OwnB w B (.slice (some ⟨g, 0, none⟩) k cap) l) (hg : g < w.heap.size) : BytesAt w g 0 l := by
  refine ⟨hg, fun i hi => ?_⟩
  have hk : k = l.length := by
    rcases h.2 with ⟨h1, _⟩ | ⟨g', cap', cur, he, _⟩
    · cases h1
    · cases he; rfl
  subst hk
  rw [Nat.zero_add, World.ownsRow.cellAt h i (by omega)]
  simp [bys, hi]
theorem OwnW.words {w : World} {B g cap k : Nat} {l : List Int} (h : OwnW w B (.slice (some ⟨g, 0, none⟩) k cap) l) (hg : g < w.heap.size) : WordsAt w g l := by
  refine ⟨hg, fun i hi => ?_⟩
  have hk : k = l.length := by
    rcases h.2 with ⟨h1, _⟩ | ⟨g', cap', cur, he, _⟩
    · cases h1
    · cases he; rfl
  subst hk
  rw [World.ownsRow.cellAt h i (by omega)]
  simp [wos, hi]
theorem OwnB.base {w : World} {B B' : Nat} {v : Value} {l : List Nat} (h : OwnB w B v l) (hB : B' ≤ B) : OwnB w B' v l := by
  refine ⟨h.1, ?_⟩
  rcases h.2 with hn | ⟨g, cap, cur, rfl, hb, rest⟩
  · exact .inl hn
  · exact .inr ⟨g, cap, cur, rfl, Nat.le_trans hB hb, rest⟩
/-- '[]byte{}', '[]uint32{}'. -/
theorem ownB_empty (w : World) (B : Nat) (hB : B ≤ w.heap.size) : OwnB (w.alloc (.cells #[] 5)) B (.slice (some ⟨w.heap.size, 0, none⟩) 0 0) [] :=
  ⟨rfl, .inr ⟨w.heap.size, 0, #[], rfl, hB, block_new w _, Nat.le_refl _, by decide, rfl, rfl⟩⟩
theorem ownW_empty (w : World) (B : Nat) (hB : B ≤ w.heap.size) : OwnW (w.alloc (.cells #[] 49)) B (.slice (some ⟨w.heap.size, 0, none⟩) 0 0) [] :=
  ⟨rfl, .inr ⟨w.heap.size, 0, #[], rfl, hB, block_new w _, Nat.le_refl _, by decide, rfl, rfl⟩⟩
theorem bys_one (l : List Nat) : ∀ u ∈ bys l, u.oneCell' = true := fun u hu => by
  simp only [bys, List.mem_map] at hu
  obtain ⟨x, _, rfl⟩ := hu; rfl
theorem wos_one (l : List Int) : ∀ u ∈ wos l, u.oneCell' = true := fun u hu => by
  simp only [wos, List.mem_map] at hu
  obtain ⟨x, _, rfl⟩ := hu; rfl
theorem bys_at {w : World} {b o : Nat} {l : List Nat} (h : BytesAt w b o l) : ∀ j u, (bys l)[j]? = some u → w.cell? ((⟨b, o, none⟩ : Addr).add j) = some u := fun j u hu => by
  have hj : j < l.length := by have := (List.getElem?_eq_some_iff.1 hu).1; rwa [bys_length] at this
  rw [Addr.add_mid, h.2 j hj, ← hu]
  simp [bys, hj]
theorem wos_at {w : World} {g : Nat} {l : List Int} (h : WordsAt w g l) : ∀ j u, (wos l)[j]? = some u → w.cell? ((⟨g, 0, none⟩ : Addr).add j) = some u := fun j u hu => by
  have hj : j < l.length := by have := (List.getElem?_eq_some_iff.1 hu).1; rwa [wos_length] at this
  rw [Addr.add_mid, Nat.zero_add, h.2 j hj, ← hu]
  simp [wos, hj]
theorem maxLen_small {n : Nat} (h : n ≤ 16777216) : n ≤ maxLen := by unfold maxLen; omega
/-- A new block of one cell. -/
theorem one_cell {w : World} {v : Value} {t : TypeId} : ∀ j u, [v][j]? = some u → (w.alloc (.cells #[v] t)).cell? ((⟨w.heap.size, 0, none⟩ : Addr).add j) = some u := fun j u hu => by
  match j, hu with
  | 0, hu => simp at hu; subst hu; simp [Addr.add]
theorem one_cell' {w : World} {v : Value} {t : TypeId} {n : Nat} (h : n = w.heap.size) : ∀ j u, [v][j]? = some u → (w.alloc (.cells #[v] t)).cell? ((⟨n, 0, none⟩ : Addr).add j) = some u := by subst h; exact one_cell
theorem grown_below {B : Nat} {w w1 w2 : World} {e : TypeId} {v : Value} {n : Nat} {xs : List Value} (hb : Below B w w1) (ho : w1.ownsRow B e 1 v n xs) (hB : B ≤ w1.heap.size) (hg : w1.grownBy w2 v.ownBlock) : Below B w w2 :=
  hb.grown hg hB fun g hg' => (World.ownsRow.lt ho g hg').1

theorem cast_tmod64' (k : Nat) : (k : Int).tmod 64 = ((k % 64 : Nat) : Int) := rfl
theorem gap_step (n k : Nat) (hk : k ≤ gap n) : (n + 1 + k) % 64 = 56 ↔ k = gap n := by unfold gap at *; omega
theorem zs_snoc (k : Nat) : zs k ++ [0] = zs (k + 1) := by simp [zs, List.replicate_succ']
theorem len8_take (n j : Nat) (hj : j < 8) : (len8 n).take (j + 1) = (len8 n).take j ++ [n * 8 / 256 ^ (7 - j) % 256] := by
  have : j < (len8 n).length := by rw [len8_length]; exact hj
  rw [List.take_add_one, List.getElem?_eq_getElem this]
  simp [len8]
end Go.Proofs.YtikpglemnnbdcaaDoor
