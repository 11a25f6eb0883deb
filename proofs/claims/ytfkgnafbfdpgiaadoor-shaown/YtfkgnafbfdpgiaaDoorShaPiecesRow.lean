/-
  A slice of slices of bytes that came in.
-/
import Derived.Test.YtfkgnafbfdpgiaaDoorShaRow
import Derived.Test.YtfkgnafbfdpgiaaDoorRShaSum
namespace Go.Proofs.YtfkgnafbfdpgiaaDoor
open Go.ChangeShapes Go.WideShapes Go.ChangeAt Go.RowKit Go.Sh

theorem bytes_of_trod {H : Type} {enc : TypeId × Value → H} {w : World} {base : Nat} {spare : Nat → Bool} {held : Bool} {fuel : Nat} {cs : List Value} {x : DataW H × List MemPlace}
    (hf : DataW.trod enc Tryd.prog w base spare held fuel 22 cs = some x) :
    ∃ (pt : Option Addr) (l : List Nat) (cap : Nat), cs = [.slice pt l.length cap] ∧ Bs0 w pt l ∧ l.length ≤ cap ∧ (∀ i, l.getD i 0 < 256) ∧ (pt = none → cap = 0) := by
  have hc1 : Tryd.prog.cellsOf 5 = 1 := by kernel_rfl
  rcases DataW.trod_slice Tryd.underlying22 hf with ⟨h0, _⟩ | ⟨a', len, cap, elems, rest, n, _, hcs, _, _, hle, _, hlen, hel, _⟩
  · exact ⟨none, [], 0, h0, .inl rfl, Nat.le_refl _, bts_0, fun _ => rfl⟩
  · subst hcs
    have each : ∀ i, i < len → ∃ x : Nat, x < 256 ∧ w.cell? (a'.add i) = some (.int .u8 (x : Int)) := fun i hi => by
      have h2 := hel i hi
      rw [List.getElem?_eq_getElem (show i < elems.length by omega), hc1, Nat.mul_one, Option.bind_eq_some_iff] at h2
      obtain ⟨cs, h3, h4⟩ := h2
      obtain ⟨z, e0, _, wz⟩ := DataW.trod_int Tryd.underlying5 h4
      have hb := bounds_u8 wz
      obtain ⟨x, rfl⟩ := Int.eq_ofNat_of_zero_le hb.1
      refine ⟨x, by omega, ?_⟩
      have h5 := (World.cells?_some h3).2.2 0 (by decide)
      rw [e0] at h5
      simpa [Addr.add] using h5
    have hch : ∃ f : Nat → Nat, ∀ i, i < len → f i < 256 ∧ w.cell? (a'.add i) = some (.int .u8 (f i : Int)) :=
      ⟨fun i => if h : i < len then Classical.choose (each i h) else 0, fun i hi => by simp only [hi, dif_pos]; exact Classical.choose_spec (each i hi)⟩
    obtain ⟨f, hf'⟩ := hch
    refine ⟨some a', (List.range len).map f, cap, by simp, ?_, by simpa using hle, getD_lt fun x hx => ?_, fun h => by cases h⟩
    · by_cases h0 : len = 0
      · subst h0; exact .inl rfl
      · have h00 := (hf' 0 (by omega)).2
        obtain ⟨g, o, sp⟩ := a'
        have hsp : sp = none := by
          cases sp with
          | none => rfl
          | some k =>
            exfalso
            unfold World.cell? at h00
            split at h00
            · simp [Addr.add] at h00
            · cases h00
        subst hsp
        refine .inr ⟨g, o, rfl, ?_, fun i hi => ?_⟩
        · have h1 := World.block_lt_of_cell? w _ h00
          rw [Addr.add_mid] at h1
          exact h1
        · have hi' : i < len := by simpa using hi
          have h1 := (hf' i hi').2
          rw [Addr.add_mid] at h1
          rw [h1]
          simp [List.getD, hi']
    · obtain ⟨i, hi, rfl⟩ := List.mem_map.1 hx
      exact (hf' i (List.mem_range.1 hi)).1

/-- Pieces: where they lie, and what they hold. -/
def PsAt (w : World) (pt : Option Addr) (n : Nat) : Prop := ∀ i, i < n → ∃ b o p l c, pt = some ⟨b, o, none⟩ ∧ b < w.heap.size ∧ w.cell? ⟨b, o + i, none⟩ = some (.slice p l.length c) ∧ Bs0 w p l ∧ l.length ≤ c ∧ (∀ j, l.getD j 0 < 256) ∧ (p = none → c = 0)
theorem open_pieces {H : Type} {enc : TypeId × Value → H} {w : World} {r : Reach} {b0 base : Nat} {spare : Nat → Bool} {held : Bool} {v : Value} {d : DataW H} {p : List MemPlace}
    (hv : Value.okWide Tryd.prog w r b0 28 v) (h : DataW.Trod enc Tryd.prog w base spare held 28 v d p) :
    ∃ (pt : Option Addr) (n cap : Nat), v = .slice pt n cap ∧ PsAt w pt n := by
  obtain ⟨a, len, cap, rfl⟩ := okWide_slice Tryd.underlying28 hv
  obtain ⟨fuel, hf⟩ := h
  have hc1 : Tryd.prog.cellsOf 22 = 1 := by kernel_rfl
  rcases DataW.trod_slice Tryd.underlying28 hf with ⟨h0, _⟩ | ⟨a', len', cap', elems, rest, n, _, hcs, _, _, hle, _, hlen, hel, _⟩
  · have h1 : Value.slice a len cap = .slice none 0 0 := by simpa [Value.cells] using h0
    cases h1
    exact ⟨none, 0, 0, rfl, fun i hi => by omega⟩
  · have h1 : Value.slice a len cap = .slice (some a') len' cap' := by simpa [Value.cells] using hcs
    cases h1
    have each : ∀ i, i < len → ∃ pt l c, w.cell? (a'.add i) = some (.slice pt l.length c) ∧ Bs0 w pt l ∧ l.length ≤ c ∧ (∀ j, l.getD j 0 < 256) ∧ (pt = none → c = 0) := fun i hi => by
      have h2 := hel i hi
      rw [List.getElem?_eq_getElem (show i < elems.length by omega), hc1, Nat.mul_one, Option.bind_eq_some_iff] at h2
      obtain ⟨cs, h3, h4⟩ := h2
      obtain ⟨pt, l, c, e0, hb, hc, ht, hz⟩ := bytes_of_trod h4
      have h5 := (World.cells?_some h3).2.2 0 (by decide)
      rw [e0] at h5
      exact ⟨pt, l, c, by simpa [Addr.add] using h5, hb, hc, ht, hz⟩
    refine ⟨some a', len, cap, rfl, fun i hi => ?_⟩
    obtain ⟨_, _, _, h6, _⟩ := each 0 (by omega)
    obtain ⟨g, o, sp⟩ := a'
    have hsp : sp = none := by
      cases sp with
      | none => rfl
      | some k =>
        exfalso
        unfold World.cell? at h6
        split at h6
        · simp [Addr.add] at h6
        · cases h6
    subst hsp
    obtain ⟨pt, l, c, h7, hb, hc, ht, hz⟩ := each i hi
    rw [Addr.add_mid] at h7
    exact ⟨g, o, pt, l, c, rfl, World.block_lt_of_cell? w _ h7, h7, hb, hc, ht, hz⟩
end Go.Proofs.YtfkgnafbfdpgiaaDoor
