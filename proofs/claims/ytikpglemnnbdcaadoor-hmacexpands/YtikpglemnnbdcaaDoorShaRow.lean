/-
  From a walk to the given row: slices of bytes that came in, and the two tables as the program's text lays them.
-/
import Derived.Test.YtikpglemnnbdcaaDoorCards
import Derived.Test.YtikpglemnnbdcaaDoorTie
import Derived.Test.YtikpglemnnbdcaaDoorShaEq
import Derived.ProofKit
import Derived.OpenShut
import Derived.ShutString
import Derived.ChangeOld
import Derived.Below
import Derived.Deep.DeepHandedRow
import Derived.Lib.LaidTab
import Derived.Stop.LaidErr
namespace Go.Proofs.YtikpglemnnbdcaaDoor
open Go.ChangeShapes Go.WideShapes Go.ChangeAt Go.RowKit Go.Sh

theorem own : ownKnob Tryd.prog.godebug = none := by kernel_rfl
theorem laidOut : laidOutB Tryd.prog = true := by kernel_rfl

/-! ### The tables -/
def laidL : List (String × DataW Unit) := [("pigeonry/sha.firstState", Rows.laid_pigeonry_sha_firstState), ("pigeonry/sha.roundWords", Rows.laid_pigeonry_sha_roundWords)]
theorem gH : Tryd.prog.globalNamed "pigeonry/sha.firstState" = some 0 := by kernel_rfl
theorem gHt : (Tryd.prog.globals[0]?).map (·.type) = some 51 := by kernel_rfl
theorem gK : Tryd.prog.globalNamed "pigeonry/sha.roundWords" = some 1 := by kernel_rfl
theorem gKt : (Tryd.prog.globals[1]?).map (·.type) = some 72 := by kernel_rfl
theorem cellsW : Tryd.prog.cellsOf 51 = 8 := by kernel_rfl
theorem cellsK : Tryd.prog.cellsOf 72 = 64 := by kernel_rfl
theorem cells32 : Tryd.prog.cellsOf 49 = 1 := by kernel_rfl
theorem tabs_of {W : World} (h : laidMetH Tryd.prog laidL W) : Tabs W := by
  have h0 : laidMet Tryd.prog laidL W := h
  have t0 : Lib.TabIs Tryd.prog W "pigeonry/sha.firstState" .u32 Hs := Lib.tabIs_of_head (rest := [("pigeonry/sha.roundWords", Rows.laid_pigeonry_sha_roundWords)]) gH gHt Tryd.underlying51 Tryd.underlying49 cells32 cellsW h0
  have h1 : laidMet Tryd.prog [("pigeonry/sha.roundWords", Rows.laid_pigeonry_sha_roundWords)] W := h0.tail
  have t1 : Lib.TabIs Tryd.prog W "pigeonry/sha.roundWords" .u32 Ks := Lib.tabIs_of_head (rest := []) gK gKt Tryd.underlying72 Tryd.underlying49 cells32 cellsK h1
  refine ⟨?_, fun i hi => t0.cell gH i hi, fun i hi => t1.cell gK i (by rw [Ks_length]; exact hi)⟩
  exact World.block_lt_of_cell? W _ (t1.cell gK 0 (by decide))
def putC (c : Array Value) : Obj → Obj
  | .cells _ t frozen => .cells c t frozen
  | o => o
/-- A world for the witness: the settled one, the tables holding what their initialisers lay. -/
noncomputable def laidWorld (os : Os) : World :=
  { World.holding Tryd.prog os ⟨#[], #[], []⟩ with heap := ((World.holding Tryd.prog os ⟨#[], #[], []⟩).heap.modify 0 (putC (stA st0))).modify 1 (putC (wosA Ks)) }

/-! ### Slices of bytes -/
theorem open_bytes {H : Type} {enc : TypeId × Value → H} {w : World} {r : Reach} {b0 base : Nat} {spare : Nat → Bool} {held : Bool} {v : Value} {d : DataW H} {p : List MemPlace}
    (hv : Value.okWide Tryd.prog w r b0 22 v) (h : DataW.Trod enc Tryd.prog w base spare held 22 v d p) :
    ∃ (pt : Option Addr) (l : List Nat) (cap : Nat), v = .slice pt l.length cap ∧ Bs0 w pt l ∧ l.length ≤ cap ∧ (∀ i, l.getD i 0 < 256) ∧ (pt = none → cap = 0) := by
  obtain ⟨a, len, cap, rfl⟩ := okWide_slice Tryd.underlying22 hv
  obtain ⟨fuel, hf⟩ := h
  have hc1 : Tryd.prog.cellsOf 5 = 1 := by kernel_rfl
  rcases DataW.trod_slice Tryd.underlying22 hf with ⟨h0, _⟩ | ⟨a', len', cap', elems, rest, n, _, hcs, _, _, hle, _, hlen, hel, _⟩
  · have h1 : Value.slice a len cap = .slice none 0 0 := by simpa [Value.cells] using h0
    cases h1
    exact ⟨none, [], 0, rfl, .inl rfl, Nat.le_refl _, bts_0, fun _ => rfl⟩
  · have h1 : Value.slice a len cap = .slice (some a') len' cap' := by simpa [Value.cells] using hcs
    cases h1
    have each : ∀ i, i < len → ∃ x : Nat, x < 256 ∧ w.cell? (a'.add i) = some (.int .u8 (x : Int)) := fun i hi => by
      have h2 := hel i hi
      rw [List.getElem?_eq_getElem (show i < elems.length by omega), hc1, Nat.mul_one, Option.bind_eq_some_iff] at h2
      obtain ⟨cs, h3, h4⟩ := h2
      obtain ⟨z, e0, _, wz⟩ := DataW.trod_int Tryd.underlying5 h4
      have hb := bounds_u8 wz
      obtain ⟨x, rfl⟩ := Int.eq_ofNat_of_zero_le hb.1
      refine ⟨x, by omega, ?_⟩
      have h5 := (World.cells?_some h3).2.2 0 (by decide)
      rw [e0] at h5
      simpa [Addr.add] using h5
    have hch : ∃ f : Nat → Nat, ∀ i, i < len → f i < 256 ∧ w.cell? (a'.add i) = some (.int .u8 (f i : Int)) :=
      ⟨fun i => if h : i < len then Classical.choose (each i h) else 0, fun i hi => by simp only [hi, dif_pos]; exact Classical.choose_spec (each i hi)⟩
    obtain ⟨f, hf'⟩ := hch
    refine ⟨some a', (List.range len).map f, cap, by simp, ?_, by simpa using hle, getD_lt fun x hx => ?_, fun h => by cases h⟩
    · by_cases h0 : len = 0
      · subst h0; exact .inl rfl
      · have h00 := (hf' 0 (by omega)).2
        obtain ⟨g, o, sp⟩ := a'
        have hsp : sp = none := by
          cases sp with
          | none => rfl
          | some k =>
            exfalso
            unfold World.cell? at h00
            split at h00
            · simp [Addr.add] at h00
            · cases h00
        subst hsp
        refine .inr ⟨g, o, rfl, ?_, fun i hi => ?_⟩
        · have h1 := World.block_lt_of_cell? w _ h00
          rw [Addr.add_mid] at h1
          exact h1
        · have hi' : i < len := by simpa using hi
          have h1 := (hf' i hi').2
          rw [Addr.add_mid] at h1
          rw [h1]
          simp [List.getD, hi']
    · obtain ⟨i, hi, rfl⟩ := List.mem_map.1 hx
      exact (hf' i (List.mem_range.1 hi)).1
end Go.Proofs.YtikpglemnnbdcaaDoor
