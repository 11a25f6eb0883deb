/-
  Slices of words that a call made.
-/
import Derived.Test.YtcaleepbnjlbpaaSlices
namespace Go.Proofs.Ytcaleepbnjlbpaa
open Go.RowKit Go.Hold Go.Sh

theorem info_u32 : (Try.prog.info? 25).map (fun i => (i.zero, i.size, i.bytes)) = some (some (.int .u32 0), 1, 4) := by kernel_rfl
def OwnW (w : World) (B : Nat) (v : Value) (l : List Int) : Prop := w.ownsRow B 25 1 v l.length (wos l)
def WordsAt (w : World) (g : Nat) (l : List Int) : Prop := g < w.heap.size ∧ ∀ i, i < l.length → w.cell? ⟨g, i, none⟩ = some (.int .u32 (l.getD i 0))
theorem WordsAt.grow {w w' : World} {g : Nat} {l : List Int} (h : WordsAt w g l) (hb : Below w.heap.size w w') : WordsAt w' g l :=
  ⟨Nat.lt_of_lt_of_le h.1 hb.size, fun i hi => by rw [hb.cell h.1]; exact h.2 i hi⟩
theorem wos_length (l : List Int) : (wos l).length = l.length := by simp [wos]
theorem OwnW.below {w w' : World} {B : Nat} {v : Value} {l : List Int} (h : OwnW w B v l) (hb : Below w.heap.size w w') : OwnW w' B v l := owns_below h hb
theorem OwnW.snoc {w : World} {B : Nat} {v : Value} {l : List Int} {x : Int} (h : w.ownsRow B 25 1 v (l.length + 1) (wos l ++ [.int .u32 x])) : OwnW w B v (l ++ [x]) := by
  unfold OwnW
  rw [List.length_append, show wos (l ++ [x]) = wos l ++ [.int .u32 x] by simp [wos]]; exact h
theorem OwnW.addr {w : World} {B : Nat} {v : Value} {l : List Int} {k : Nat} (h : OwnW w B v l) (hk : l.length = k) (h0 : 0 < k) : ∃ g cap, v = .slice (some ⟨g, 0, none⟩) k cap ∧ B ≤ g ∧ g < w.heap.size ∧ k ≤ cap := by
  subst hk
  rcases h.2 with ⟨_, h1⟩ | ⟨g, cap, cur, rfl, hb, hg, hc, _⟩
  · omega
  · exact ⟨g, cap, rfl, hb, (Array.getElem?_eq_some_iff.1 hg).1, hc⟩
theorem OwnW.words {w : World} {B g cap k : Nat} {l : List Int} (h : OwnW w B (.slice (some ⟨g, 0, none⟩) k cap) l) (hg : g < w.heap.size) : WordsAt w g l := by
  refine ⟨hg, fun i hi => ?_⟩
  have hk : k = l.length := by
    rcases h.2 with ⟨h1, _⟩ | ⟨g', cap', cur, he, _⟩
    · cases h1
    · cases he; rfl
  subst hk
  rw [World.ownsRow.cellAt h i (by omega)]
  simp [wos, hi]
theorem ownW_empty (w : World) (B : Nat) (hB : B ≤ w.heap.size) : OwnW (w.alloc (.cells #[] 25)) B (.slice (some ⟨w.heap.size, 0, none⟩) 0 0) [] :=
  ⟨rfl, .inr ⟨w.heap.size, 0, #[], rfl, hB, block_new w _, Nat.le_refl _, by decide, rfl, rfl⟩⟩
theorem wos_one (l : List Int) : ∀ u ∈ wos l, u.oneCell' = true := fun u hu => by
  simp only [wos, List.mem_map] at hu
  obtain ⟨x, _, rfl⟩ := hu; rfl
theorem wos_at {w : World} {g : Nat} {l : List Int} (h : WordsAt w g l) : ∀ j u, (wos l)[j]? = some u → w.cell? ((⟨g, 0, none⟩ : Addr).add j) = some u := fun j u hu => by
  have hj : j < l.length := by have := (List.getElem?_eq_some_iff.1 hu).1; rwa [wos_length] at this
  rw [Addr.add_mid, Nat.zero_add, h.2 j hj, ← hu]
  simp [wos, hj]
theorem words_row {w : World} {g : Nat} {l : List Int} (h : RowAt w g (wosA l)) : WordsAt w g l := ⟨h.2.2, fun i hi => h.cellAt i (wosA_get l i hi)⟩
theorem words_new (w : World) (l : List Int) (t : TypeId) : WordsAt (w.alloc (.cells (wosA l) t)) w.heap.size l := words_row (RowAt.of (block_new w _))
theorem or_add (a b i : Nat) (h : b < 2 ^ i) : a * 2 ^ i ||| b = a * 2 ^ i + b := by
  have := Nat.shiftLeft_add_eq_or_of_lt h a
  rw [Nat.shiftLeft_eq] at this
  exact this.symm
def bldS (t : TypeId) (n : Nat) (ps : Array (Nat × Value)) : Sem Value := Instr.buildSlice t n ps
/-- Words that may be written. -/
def SlW (w : World) (g : Nat) (l : List Int) : Prop := WordsAt w g l ∧ ∀ i, i < l.length → w.frozen? ⟨g, i, none⟩ = false
theorem SlW.grow {w w' : World} {g : Nat} {l : List Int} (h : SlW w g l) (hb : Below w.heap.size w w') : SlW w' g l :=
  ⟨h.1.grow hb, fun i hi => by rw [World.frozen?_of_block (hb.block g h.1.1)]; exact h.2 i hi⟩
theorem OwnW.slw {w : World} {B g cap k : Nat} {l : List Int} (h : OwnW w B (.slice (some ⟨g, 0, none⟩) k cap) l) (hg : g < w.heap.size) : SlW w g l := by
  refine ⟨h.words hg, fun i _ => ?_⟩
  rcases h.2 with ⟨h1, _⟩ | ⟨g', cap', cur, he, _, hb, _⟩
  · cases h1
  · cases he
    simp [World.frozen?, hb]
theorem SlW.set {w : World} {g i : Nat} {l : List Int} {x : Int} (h : SlW w g l) (hi : i < l.length) : SlW (w.setCell ⟨g, i, none⟩ (.int .u32 x)) g (l.set i x) := by
  refine ⟨⟨by rw [World.size_setCell]; exact h.1.1, fun j hj => ?_⟩, fun j hj => ?_⟩
  · rw [List.length_set] at hj
    by_cases e : i = j
    · subst e
      rw [World.cell?_setCell_same _ _ _ (h.1.2 i hi)]
      simp [List.getD, hi]
    · rw [World.cell?_setCell_other _ _ _ _ (by simp), h.1.2 j hj]
      simp [List.getD, e]
  · rw [List.length_set] at hj
    rw [World.frozen?_setCell]; exact h.2 j hj
/-- Words are laid behind those of a slice of one's own. -/
theorem app_ownW {w : World} {B : Nat} {v : Value} {l m : List Int} {g cap k : Nat} (h : OwnW w B v l) (hg : WordsAt w g m) (hk : k = m.length) (hBw : B ≤ w.heap.size) (hlen : l.length + m.length ≤ 16777216) :
    ∃ v' w', (Builtin.append_ #[50, 50] 50 #[v, .slice (some ⟨g, 0, none⟩) k cap]).run Try.prog w = .ok v' w' ∧ OwnW w' B v' (l ++ m) ∧ w.grownBy w' v.ownBlock := by
  subst hk
  obtain ⟨i0, hi, hz0, hz1, hz2⟩ := info_parts info_u32
  obtain ⟨v', w', h1, h2, h3, _⟩ := run_append_own (P := Try.prog) w B 50 50 25 i0 (.int .u32 0) 1 4 Try.underlying50 hi hz0 hz1 hz2 rfl (by decide) v l.length (wos l) h ⟨g, 0, none⟩ m.length cap (wos m) (by rw [wos_length, Nat.mul_one]) (wos_at hg) (wos_one m) (maxLen_small hlen) (by omega) hBw
  refine ⟨v', w', h1, ?_, h3⟩
  unfold OwnW
  rw [List.length_append, show wos (l ++ m) = wos l ++ wos m by simp [wos]]; exact h2
theorem ownW_below {B : Nat} {w w1 w2 : World} {v : Value} {l : List Int} (hb : Below B w w1) (ho : OwnW w1 B v l) (hB : B ≤ w1.heap.size) (hg : w1.grownBy w2 v.ownBlock) : Below B w w2 := grown_below hb ho hB hg
end Go.Proofs.Ytcaleepbnjlbpaa
