/-
  Package octet: a reader.
-/
import Derived.Test.YtbhgmefdimjlaaaOctSplit
import Derived.Laws.Bits64b
namespace Go.Oc
theorem or_add (a x : Nat) (hx : x < 256) : a * 256 ||| x = a * 256 + x := by
  have := Nat.shiftLeft_add_eq_or_of_lt (i := 8) (b := x) hx a
  rw [Nat.shiftLeft_eq] at this
  exact this.symm
end Go.Oc
namespace Go.Proofs.Ytbhgmefdimjlaaa
open Go.RowKit Go.Hold Go.Sh Go.Oc

/-- Bytes of a reader: none, or in its block. -/
def RB (w : World) (bb : Option Nat) (p : Option Addr) (l : List Nat) : Prop := (p = none ∧ l = []) ∨ ∃ b o, bb = some b ∧ p = some ⟨b, o, none⟩ ∧ BytesAt w b o l
theorem RB.any {w : World} {bb : Option Nat} {p : Option Addr} {l : List Nat} (h : RB w bb p l) : Bs0 w p l := by
  rcases h with ⟨_, h⟩ | ⟨b, o, _, e, h⟩
  · exact .inl h
  · exact .inr ⟨b, o, e, h⟩
theorem RB.moves {w w' : World} {g : Nat} {a bb : Option Nat} {p : Option Addr} {l : List Nat} (h : RB w bb p l) (m : Moves w g a w') (h1 : bb ≠ some g) (h2 : ∀ k, bb = some k → a ≠ some k) : RB w' bb p l := by
  rcases h with h | ⟨b, o, e1, e, h⟩
  · exact .inl h
  · exact .inr ⟨b, o, e1, e, h.moves m (fun e2 => h1 (by rw [e1, e2])) (h2 b e1)⟩
theorem RB.lt {w : World} {bb : Option Nat} {p : Option Addr} {l : List Nat} (h : RB w bb p l) : p ≠ none → ∀ k, bb = some k → k < w.heap.size := by
  rcases h with ⟨h, _⟩ | ⟨b, o, e1, _, h⟩
  · intro hp; exact absurd h hp
  · intro _ k hk; rw [e1] at hk; cases hk; exact h.1
/-- A reader lies in row g, its bytes in block bb. -/
def Rd (w : World) (g : Nat) (bb : Option Nat) (s : Ws) : Prop :=
  ∃ p c, RowAt w g (rrow true s.1 (.slice p s.2.length c)) ∧ RB w bb p s.2 ∧ (p = none → c = 0) ∧ s.2.length ≤ c ∧ bb ≠ some g ∧ s.2.length ≤ 65536 ∧ ∀ k, bb = some k → k < w.heap.size
/-- What a call leaves of a reader. -/
def RStep (w : World) (g : Nat) (bb : Option Nat) (s' : Ws) (w' : World) : Prop := Rd w' g bb s' ∧ Moves w g none w'
theorem Rd.lt {w : World} {g : Nat} {bb : Option Nat} {s : Ws} (h : Rd w g bb s) : g < w.heap.size ∧ ∀ k, bb = some k → k < w.heap.size := by
  obtain ⟨p, c, h, _, _, _, _, _, h2⟩ := h
  exact ⟨h.2.2, h2⟩
theorem Rd.le {w : World} {g : Nat} {bb : Option Nat} {s : Ws} (h : Rd w g bb s) : s.2.length ≤ 65536 := by
  obtain ⟨p, c, _, _, _, _, _, h, _⟩ := h; exact h
theorem Rd.apart {w : World} {g : Nat} {bb : Option Nat} {s : Ws} (h : Rd w g bb s) : bb ≠ some g := by
  obtain ⟨p, c, _, _, _, _, h, _, _⟩ := h; exact h
theorem Rd.moves {w w' : World} {g g2 : Nat} {bb ob2 : Option Nat} {s : Ws} (h : Rd w g bb s) (m : Moves w g2 ob2 w') (h1 : g ≠ g2) (h2 : ob2 ≠ some g) (h3 : bb ≠ some g2) (h4 : ∀ k, bb = some k → ob2 ≠ some k) : Rd w' g bb s := by
  obtain ⟨p, c, hr, hb, h5, h6, h7, h8, h9⟩ := h
  exact ⟨p, c, RowAt.moves hr m h1 h2, hb.moves m h3 h4, h5, h6, h7, h8, fun k hk => Nat.lt_of_lt_of_le (h9 k hk) m.size⟩
theorem Rd.grow {w w' : World} {g : Nat} {bb : Option Nat} {s : Ws} (h : Rd w g bb s) (hb : Below w.heap.size w w') : Rd w' g bb s := by
  have hl := h.lt
  refine h.moves (g2 := w.heap.size) (ob2 := none) (Moves.of _ _ hb) (by omega) (fun e => by cases e) (fun e => ?_) (fun _ _ e => by cases e)
  have := hl.2 _ e; omega
theorem RStep.refl {w : World} {g : Nat} {bb : Option Nat} {s : Ws} (h : Rd w g bb s) : RStep w g bb s w := ⟨h, Moves.refl _ _ _⟩
theorem RStep.grow {w w1 w' : World} {g : Nat} {bb : Option Nat} {s : Ws} (h : RStep w g bb s w1) (hb : Below w1.heap.size w1 w') : RStep w g bb s w' := ⟨h.1.grow hb, h.2.grow hb⟩
theorem Rd.row {w : World} {g : Nat} {bb : Option Nat} {s : Ws} (h : Rd w g bb s) : ∃ v, RowAt w g (rrow true s.1 v) := by
  obtain ⟨p, c, h, _⟩ := h; exact ⟨_, h⟩
/-- The first error is set. -/
theorem RStep.err {w : World} {g : Nat} {bb : Option Nat} {s : Ws} (h : Rd w g bb s) (er : Int) : RStep w g bb (er, s.2) (w.setCell ⟨g, 1, none⟩ (.int .i64 er)) := by
  have hl := h.lt
  obtain ⟨p, c, hr, hb, h5, h6, h7, h8, h9⟩ := h
  rw [setCell_row hr]
  have m := Moves.setRow (Moves.refl w g none) ((rrow true s.1 (.slice p s.2.length c)).setIfInBounds 1 (.int .i64 er))
  exact ⟨⟨p, c, hr.set _, hb.moves m h7 (fun _ _ e => by cases e), h5, h6, h7, h8, fun k hk => Nat.lt_of_lt_of_le (h9 k hk) m.size⟩, m⟩
/-- What is left is put in place. -/
theorem RStep.put {w : World} {g : Nat} {bb : Option Nat} {s : Ws} {l : List Nat} {p : Option Addr} {c : Nat} (h : Rd w g bb s) (hb : RB w bb p l) (hp : p = none → c = 0) (hc : l.length ≤ c) (hl : l.length ≤ 65536) :
    RStep w g bb (s.1, l) (w.setCell ⟨g, 2, none⟩ (.slice p l.length c)) := by
  obtain ⟨p0, c0, hr, hb0, h5, h6, h7, h8, h9⟩ := h
  rw [setCell_row hr]
  have m := Moves.setRow (Moves.refl w g none) ((rrow true s.1 (.slice p0 s.2.length c0)).setIfInBounds 2 (.slice p l.length c))
  exact ⟨⟨p, c, hr.set _, hb.moves m h7 (fun _ _ e => by cases e), hp, hc, h7, hl, fun k hk => Nat.lt_of_lt_of_le (h9 k hk) m.size⟩, m⟩
theorem slB_loN (w : World) : (slB (.slice none 0 0) (some (.int .i64 ((0 : Nat) : Int))) none none).run Try.prog w = .ok (.slice none 0 0) w := by
  unfold slB
  rw [run_sliceAt_slice _ _ _ _ _ _ elem8, run_slice_l _ _ _ _ _ elem8 _ _ (by omega) (by omega), size8]
  simp [sliced, Result.andThen]

set_option maxHeartbeats 600000 in
set_option maxRecDepth 100000 in
theorem newReader_c (p : Option Addr) (l : List Nat) (n cap : Nat) (w : World) (hn : n = l.length) (hl : l.length ≤ 65536) (hB : Bs0 w p l) (hp : p = none → cap = 0) :
    Calls Try.prog 17 #[.slice p n cap] w fun e w' => ∃ g bb, e = .returned (.pointer (some ⟨g, 0, none⟩)) ∧ Rd w' g bb (0, l) ∧ w.heap.size ≤ g ∧ (∀ k, bb = some k → w.heap.size ≤ k) ∧ Below w.heap.size w w' := by
  have h1 : ¬ (65536 : Int) < (n : Int) := by omega
  have KC := Lib.hid (clone_c p l n cap w hn hB hp (by omega))
  have HL := Lib.hid hl
  clear hl hB hp hn
  go_enter Try.func17, Try.ntmps17
  go_wp2_with fail
  refine KC.out.mono ?_
  rintro e w1 ⟨v, rfl, ho, hb1⟩
  have HO := Lib.hid ho
  have HB := Lib.hid hb1
  obtain ⟨p1, c1, rfl, _, hc1, hp1⟩ := ho.bs
  have HC := Lib.hid hc1
  have HP := Lib.hid hp1
  have HE := Lib.hid (Eq.refl l.length)
  clear ho hb1 hc1 hp1
  generalize hk : l.length = k at *
  have Hk := Lib.hid hk
  clear hk
  go_wp2_with fail
  go_ret
  refine ⟨_, (Value.slice p1 k c1).ownBlock, rfl, ?_, HB.out.size, fun k' hk' => (World.ownsRow.lt HO.out k' hk').1, (HB.out).trans ((below_alloc (Below.refl w1.heap.size w1) _).mono HB.out.size)⟩
  have hlt := World.ownsRow.lt HO.out
  refine ⟨p1, c1, by simp only [Hk.out]; exact RowAt.of (block_new w1 _), ?_, HP.out, by simp only [Hk.out]; exact HC.out, fun e => by have := (hlt _ e).2; omega, by simp only [Hk.out]; exact HL.out, fun k' hk' => Nat.lt_of_lt_of_le (hlt k' hk').2 (by simp)⟩
  rcases HO.out.2 with ⟨hv, h0⟩ | ⟨gx, cap, cur, hv, _⟩
  · cases hv
    exact .inl ⟨rfl, List.length_eq_zero_iff.1 h0⟩
  · cases hv
    exact .inr ⟨gx, 0, rfl, rfl, (OwnB.bytes HO.out (hlt gx rfl).2).grow (below_alloc (Below.refl _ _) _)⟩
theorem newReader_bad (p : Option Addr) (n cap : Nat) (w : World) (h : 65536 < n) : Calls Try.prog 17 #[.slice p n cap] w fun e w' => e = .returned (.pointer none) ∧ w' = w := by
  have h1 : (65536 : Int) < (n : Int) := by omega
  go_enter Try.func17, Try.ntmps17
  go_wp2_with fail
  go_ret
  exact ⟨rfl, rfl⟩
end Go.Proofs.Ytbhgmefdimjlaaa
