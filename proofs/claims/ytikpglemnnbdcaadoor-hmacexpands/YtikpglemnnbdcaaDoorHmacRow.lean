/-
  From a walk to the given row: keys, and two bytes, that came in.
-/
import Derived.Test.YtikpglemnnbdcaaDoorShaRow
import Derived.ChangeMaps5
namespace Go.Proofs.YtikpglemnnbdcaaDoor
open Go.ChangeShapes Go.WideShapes Go.ChangeAt Go.RowKit Go.Sh

theorem open_key {H : Type} {enc : TypeId × Value → H} {w : World} {r : Reach} {b0 base : Nat} {spare : Nat → Bool} {held : Bool} {v : Value} {d : DataW H} {p : List MemPlace}
    (hv : Value.okWide Tryd.prog w r b0 25 v) (h : DataW.Trod enc Tryd.prog w base spare held 25 v d p) :
    ∃ s : List Nat, v = .agg (bysA s) ∧ s.length = 32 ∧ ∀ i, s.getD i 0 < 256 := by
  have hv' : ∃ cs, v = .agg cs ∧ cs.size = Tryd.prog.cellsOf 25 := by
    unfold Value.okWide at hv
    rw [Tryd.underlying25] at hv
    obtain ⟨cs, h1, h2, _⟩ := hv
    exact ⟨cs, h1, h2⟩
  obtain ⟨cs, rfl, hsz⟩ := hv'
  obtain ⟨fuel, hf⟩ := h
  have hc1 : Tryd.prog.cellsOf 5 = 1 := by kernel_rfl
  have hcn : Tryd.prog.cellsOf 25 = 32 := by kernel_rfl
  obtain ⟨xs, m, _, _, hl, hxl, hx⟩ := DataW.trod_array Tryd.underlying25 hf
  have hget : ∀ i, i < 32 → ∃ z : Nat, z < 256 ∧ cs[i]? = some (.int .u8 z) := fun i hi => by
    have h1 := hx i hi
    rw [hc1, Nat.mul_one] at h1
    have hlt : i < xs.length := by omega
    rw [List.getElem?_eq_getElem hlt] at h1
    obtain ⟨a, e0, _, wa⟩ := DataW.trod_int Tryd.underlying5 h1
    have hcs : cs[i]? = some (.int .u8 a) := by
      have : ((Value.agg cs).cells.toList.drop i)[0]? = some (Value.int .u8 a) := by
        have h2 := congrArg (fun l => l[0]?) e0
        simpa [List.getElem?_take] using h2
      simpa [Value.cells] using this
    have hb := bounds_u8 wa
    obtain ⟨z, rfl⟩ := Int.eq_ofNat_of_zero_le hb.1
    exact ⟨z, by omega, hcs⟩
  have hch : ∃ f : Nat → Nat, ∀ i, i < 32 → f i < 256 ∧ cs[i]? = some (.int .u8 (f i)) :=
    ⟨fun i => if h : i < 32 then Classical.choose (hget i h) else 0, fun i hi => by simp only [hi, dif_pos]; exact Classical.choose_spec (hget i hi)⟩
  obtain ⟨f, hf'⟩ := hch
  refine ⟨(List.range 32).map f, ?_, by simp, getD_lt fun x hx => ?_⟩
  · congr 1
    apply Array.ext_getElem?
    intro i
    by_cases hi : i < 32
    · rw [(hf' i hi).2, bysA_get _ i (by simpa using hi)]
      simp [List.getD, hi]
    · rw [Array.getElem?_eq_none (by omega), Array.getElem?_eq_none (by rw [bysA_size]; simp; omega)]
  · obtain ⟨i, hi, rfl⟩ := List.mem_map.1 hx
    exact (hf' i (List.mem_range.1 hi)).1
theorem open_pair {H : Type} {enc : TypeId × Value → H} {w : World} {r : Reach} {b0 base : Nat} {spare : Nat → Bool} {held : Bool} {v : Value} {d : DataW H} {p : List MemPlace}
    (hv : Value.okWide Tryd.prog w r b0 39 v) (h : DataW.Trod enc Tryd.prog w base spare held 39 v d p) :
    ∃ s : List Nat, v = .agg (bysA s) ∧ s.length = 2 ∧ ∀ i, s.getD i 0 < 256 := by
  have hv' : ∃ cs, v = .agg cs ∧ cs.size = Tryd.prog.cellsOf 39 := by
    unfold Value.okWide at hv
    rw [Tryd.underlying39] at hv
    obtain ⟨cs, h1, h2, _⟩ := hv
    exact ⟨cs, h1, h2⟩
  obtain ⟨cs, rfl, hsz⟩ := hv'
  obtain ⟨fuel, hf⟩ := h
  have hc1 : Tryd.prog.cellsOf 5 = 1 := by kernel_rfl
  have hcn : Tryd.prog.cellsOf 39 = 2 := by kernel_rfl
  obtain ⟨xs, m, _, _, hl, hxl, hx⟩ := DataW.trod_array Tryd.underlying39 hf
  have hget : ∀ i, i < 2 → ∃ z : Nat, z < 256 ∧ cs[i]? = some (.int .u8 z) := fun i hi => by
    have h1 := hx i hi
    rw [hc1, Nat.mul_one] at h1
    have hlt : i < xs.length := by omega
    rw [List.getElem?_eq_getElem hlt] at h1
    obtain ⟨a, e0, _, wa⟩ := DataW.trod_int Tryd.underlying5 h1
    have hcs : cs[i]? = some (.int .u8 a) := by
      have : ((Value.agg cs).cells.toList.drop i)[0]? = some (Value.int .u8 a) := by
        have h2 := congrArg (fun l => l[0]?) e0
        simpa [List.getElem?_take] using h2
      simpa [Value.cells] using this
    have hb := bounds_u8 wa
    obtain ⟨z, rfl⟩ := Int.eq_ofNat_of_zero_le hb.1
    exact ⟨z, by omega, hcs⟩
  have hch : ∃ f : Nat → Nat, ∀ i, i < 2 → f i < 256 ∧ cs[i]? = some (.int .u8 (f i)) :=
    ⟨fun i => if h : i < 2 then Classical.choose (hget i h) else 0, fun i hi => by simp only [hi, dif_pos]; exact Classical.choose_spec (hget i hi)⟩
  obtain ⟨f, hf'⟩ := hch
  refine ⟨(List.range 2).map f, ?_, by simp, getD_lt fun x hx => ?_⟩
  · congr 1
    apply Array.ext_getElem?
    intro i
    by_cases hi : i < 2
    · rw [(hf' i hi).2, bysA_get _ i (by simpa using hi)]
      simp [List.getD, hi]
    · rw [Array.getElem?_eq_none (by omega), Array.getElem?_eq_none (by rw [bysA_size]; simp; omega)]
  · obtain ⟨i, hi, rfl⟩ := List.mem_map.1 hx
    exact (hf' i (List.mem_range.1 hi)).1
theorem open_two {H : Type} {enc : TypeId × Value → H} {w : World} {r : Reach} {b0 base : Nat} {spare : Nat → Bool} {held : Bool} {v : Value} {d : DataW H} {p : List MemPlace}
    (hv : Value.okWide Tryd.prog w r b0 39 v) (h : DataW.Trod enc Tryd.prog w base spare held 39 v d p) : ∃ a b : Nat, v = .agg (bysA [a, b]) ∧ a < 256 ∧ b < 256 := by
  obtain ⟨s, rfl, hs, hb⟩ := open_pair hv h
  match s, hs with
  | [a, b], _ => exact ⟨a, b, rfl, hb 0, hb 1⟩
end Go.Proofs.YtikpglemnnbdcaaDoor
