/-
  What is known of the operations of a drawn region that make memory, as a list of relations on value and world (for wp_region_grows).
-/
import Derived.Test.YtbhgmefdimjlaaaSlices
namespace Go.Proofs.Ytbhgmefdimjlaaa
open Go.RowKit Go.Hold Go.Sh

/-- A relation that stays true while memory grows. -/
def Stays (r : Value → World → Prop) : Prop := ∀ v w w', r v w → Below w.heap.size w w' → r v w'
def StaysAll : List (Value → World → Prop) → Prop
  | [] => True
  | r :: L => Stays r ∧ StaysAll L
def listR (L : List (Value → World → Prop)) (i : Nat) (v : Value) (w : World) : Prop := match L[i]? with | some r => r v w | none => True
theorem staysAll_get {L : List (Value → World → Prop)} (h : StaysAll L) : ∀ (i : Nat) (r : Value → World → Prop), L[i]? = some r → Stays r := by
  induction L with
  | nil => intro i r hi; simp at hi
  | cons s L ih =>
    intro i r hi
    cases i with
    | zero => simp at hi; subst hi; exact h.1
    | succ i => exact ih h.2 i r (by simpa using hi)
theorem listR_mono {L : List (Value → World → Prop)} (h : StaysAll L) : ∀ i v w w', listR L i v w → Below w.heap.size w w' → listR L i v w' := by
  intro i v w w' hr hb
  unfold listR at hr ⊢
  cases e : L[i]? with
  | none => trivial
  | some r => rw [e] at hr; exact staysAll_get h i r e v w w' hr hb
/-- A value that is known. -/
def fixV (x : Value) : Value → World → Prop := fun v _ => v = x
theorem stays_fix (x : Value) : Stays (fixV x) := fun _ _ _ h _ => h
/-- A slice of bytes of one's own. -/
def ownV (B : Nat) (l : List Nat) : Value → World → Prop := fun v w => OwnB w B v l
theorem stays_own (B : Nat) (l : List Nat) : Stays (ownV B l) := fun _ _ _ h hb => OwnB.below h hb
/-- The same, with an error of nought. -/
def ownT (B : Nat) (l : List Nat) : Value → World → Prop := fun v w => ∃ u, v = .tuple #[u, .int .i64 0] ∧ OwnB w B u l
theorem stays_ownT (B : Nat) (l : List Nat) : Stays (ownT B l) := fun _ _ _ ⟨u, h, ho⟩ hb => ⟨u, h, ho.below hb⟩
/-- What lies in a row that is new. -/
def rowV (B : Nat) (f : Nat → Value) (c : Array Value) : Value → World → Prop := fun v w => ∃ g, v = f g ∧ RowAt w g c ∧ B ≤ g
theorem stays_row (B : Nat) (f : Nat → Value) (c : Array Value) : Stays (rowV B f c) := fun _ _ _ ⟨g, h, hr, hg⟩ hb => ⟨g, h, hr.grow hb, hg⟩
/-- A slice of bytes. -/
def slV (l : List Nat) : Value → World → Prop := fun v w => SlV w v l
theorem stays_sl (l : List Nat) : Stays (slV l) := fun _ _ _ h hb => SlV.grow h hb
/-- Bytes are laid behind those of a slice that is full. -/
theorem app_full {w : World} {g q n k cap : Nat} {l m : List Nat} (hl : BytesAt w g 0 l) (hn : n = l.length) (hm : BytesAt w q 0 m) (hk : k = m.length) (h0 : 0 < k) (hlen : n + k ≤ 16777216) :
    ∃ c w', (Builtin.append_ #[26, 26] 26 #[.slice (some ⟨g, 0, none⟩) n n, .slice (some ⟨q, 0, none⟩) k cap]).run Try.prog w = .ok (.slice (some ⟨w.heap.size, 0, none⟩) (n + k) c) w' ∧
      OwnB w' w.heap.size (.slice (some ⟨w.heap.size, 0, none⟩) (n + k) c) (l ++ m) ∧ Below w.heap.size w w' := by
  subst hn hk
  obtain ⟨i0, hi, hz0, hz1, hz2⟩ := info_parts info_u8
  have hr := run_append_grow (P := Try.prog) w 26 26 5 i0 (.int .u8 0) Try.underlying26 hi hz0 ⟨g, 0, none⟩ l.length l.length (bys l) (by rw [hz1, bys_length, Nat.mul_one]) (bys_at hl) ⟨q, 0, none⟩ m.length cap (bys m) (by rw [hz1, bys_length, Nat.mul_one]) (bys_at hm) (by omega) (by omega) (by rw [hz2]; exact growslice_fits (by omega) (by omega))
  have hge := grownCap_ge w (l.length + m.length) l.length 5
  have hle := grownCap_le_maxLen w (l.length + m.length) l.length 5 (maxLen_small hlen)
  generalize grownCap w (l.length + m.length) l.length 5 = c at *
  refine ⟨c, _, hr, ⟨by simp [bys], .inr ⟨w.heap.size, c, _, by rw [List.length_append], Nat.le_refl _, block_new w.drew _, by rw [List.length_append]; exact hge, hle, ?_, ?_⟩⟩, (Below.refl w.heap.size w).drew.alloc (Nat.le_refl _) _⟩
  · simp [size_zeroCells, bys_length, Value.cells]; omega
  · rw [show (l ++ m).length * 1 = (bys l ++ bys m).length by simp [bys], show bys (l ++ m) = bys l ++ bys m by simp [bys]]
    simp only [Array.toList_append]
    exact List.take_left
end Go.Proofs.Ytbhgmefdimjlaaa
