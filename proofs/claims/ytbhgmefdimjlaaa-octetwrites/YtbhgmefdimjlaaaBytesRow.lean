/-
  From a walk to the given row: bytes that came in.
-/
import Derived.Test.YtbhgmefdimjlaaaBytes
import Derived.ProofKit
import Derived.OpenShut
import Derived.ShutString
import Derived.ChangeOld
import Derived.Below
import Derived.ChangeMaps5
namespace Go.Proofs.Ytbhgmefdimjlaaa
open Go.ChangeShapes Go.WideShapes Go.ChangeAt Go.RowKit Go.Sh

theorem own : ownKnob Try.prog.godebug = none := by kernel_rfl
theorem laidOut : laidOutB Try.prog = true := by kernel_rfl
set_option maxRecDepth 100000 in
theorem bytes_of_trod {H : Type} {enc : TypeId × Value → H} {w : World} {base : Nat} {spare : Nat → Bool} {held : Bool} {fuel : Nat} {cs : List Value} {x : DataW H × List MemPlace}
    (hf : DataW.trod enc Try.prog w base spare held fuel 26 cs = some x) :
    ∃ (pt : Option Addr) (l : List Nat) (cap : Nat), cs = [.slice pt l.length cap] ∧ Bs0 w pt l ∧ l.length ≤ cap ∧ (∀ i, l.getD i 0 < 256) ∧ (pt = none → cap = 0) := by
  have hc1 : Try.prog.cellsOf 5 = 1 := by kernel_rfl
  rcases DataW.trod_slice Try.underlying26 hf with ⟨h0, _⟩ | ⟨a', len, cap, elems, rest, n, _, hcs, _, _, hle, _, hlen, hel, _⟩
  · exact ⟨none, [], 0, h0, .inl rfl, Nat.le_refl _, bts_0, fun _ => rfl⟩
  · subst hcs
    have each : ∀ i, i < len → ∃ x : Nat, x < 256 ∧ w.cell? (a'.add i) = some (.int .u8 (x : Int)) := fun i hi => by
      have h2 := hel i hi
      rw [List.getElem?_eq_getElem (show i < elems.length by omega), hc1, Nat.mul_one, Option.bind_eq_some_iff] at h2
      obtain ⟨cs, h3, h4⟩ := h2
      obtain ⟨z, e0, _, wz⟩ := DataW.trod_int Try.underlying5 h4
      have hb := bounds_u8 wz
      obtain ⟨x, rfl⟩ := Int.eq_ofNat_of_zero_le hb.1
      refine ⟨x, by omega, ?_⟩
      have h5 := (World.cells?_some h3).2.2 0 (by decide)
      rw [e0] at h5
      simpa [Addr.add] using h5
    have hch : ∃ f : Nat → Nat, ∀ i, i < len → f i < 256 ∧ w.cell? (a'.add i) = some (.int .u8 (f i : Int)) :=
      ⟨fun i => if h : i < len then Classical.choose (each i h) else 0, fun i hi => by simp only [hi, dif_pos]; exact Classical.choose_spec (each i hi)⟩
    obtain ⟨f, hf'⟩ := hch
    refine ⟨some a', (List.range len).map f, cap, by simp, ?_, by simpa using hle, getD_lt fun x hx => ?_, fun h => by cases h⟩
    · by_cases h0 : len = 0
      · subst h0; exact .inl rfl
      · have h00 := (hf' 0 (by omega)).2
        obtain ⟨g, o, sp⟩ := a'
        have hsp : sp = none := by
          cases sp with
          | none => rfl
          | some k =>
            exfalso
            unfold World.cell? at h00
            split at h00
            · simp [Addr.add] at h00
            · cases h00
        subst hsp
        refine .inr ⟨g, o, rfl, ?_, fun i hi => ?_⟩
        · have h1 := World.block_lt_of_cell? w _ h00
          rw [Addr.add_mid] at h1
          exact h1
        · have hi' : i < len := by simpa using hi
          have h1 := (hf' i hi').2
          rw [Addr.add_mid] at h1
          rw [h1]
          simp [List.getD, hi']
    · obtain ⟨i, hi, rfl⟩ := List.mem_map.1 hx
      exact (hf' i (List.mem_range.1 hi)).1
set_option maxRecDepth 100000 in
theorem open_bytes {H : Type} {enc : TypeId × Value → H} {w : World} {r : Reach} {b0 base : Nat} {spare : Nat → Bool} {held : Bool} {v : Value} {d : DataW H} {p : List MemPlace}
    (hv : Value.okWide Try.prog w r b0 26 v) (h : DataW.Trod enc Try.prog w base spare held 26 v d p) :
    ∃ (pt : Option Addr) (l : List Nat) (cap : Nat), v = .slice pt l.length cap ∧ Bs0 w pt l ∧ l.length ≤ cap ∧ (∀ i, l.getD i 0 < 256) ∧ (pt = none → cap = 0) := by
  obtain ⟨a, len, cap, rfl⟩ := okWide_slice Try.underlying26 hv
  obtain ⟨fuel, hf⟩ := h
  obtain ⟨pt, l, c, h1, h2⟩ := bytes_of_trod hf
  exact ⟨pt, l, c, by simpa [Value.cells] using h1, h2⟩
end Go.Proofs.Ytbhgmefdimjlaaa
