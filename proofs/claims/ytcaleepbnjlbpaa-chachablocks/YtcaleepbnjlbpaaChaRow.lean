/-
  From a walk to the given row: nonces, two bytes, two numbers that came in.
-/
import Derived.Test.YtcaleepbnjlbpaaBytesRow
namespace Go.Proofs.Ytcaleepbnjlbpaa
open Go.ChangeShapes Go.WideShapes Go.ChangeAt Go.RowKit Go.Sh

theorem open_b12 {H : Type} {enc : TypeId × Value → H} {w : World} {r : Reach} {b0 base : Nat} {spare : Nat → Bool} {held : Bool} {v : Value} {d : DataW H} {p : List MemPlace}
    (hv : Value.okWide Try.prog w r b0 24 v) (h : DataW.Trod enc Try.prog w base spare held 24 v d p) :
    ∃ s : List Nat, v = .agg (bysA s) ∧ s.length = 12 ∧ ∀ i, s.getD i 0 < 256 := by
  have hv' : ∃ cs, v = .agg cs ∧ cs.size = Try.prog.cellsOf 24 := by
    unfold Value.okWide at hv
    rw [Try.underlying24] at hv
    obtain ⟨cs, h1, h2, _⟩ := hv
    exact ⟨cs, h1, h2⟩
  obtain ⟨cs, rfl, hsz⟩ := hv'
  obtain ⟨fuel, hf⟩ := h
  have hc1 : Try.prog.cellsOf 5 = 1 := by kernel_rfl
  have hcn : Try.prog.cellsOf 24 = 12 := by kernel_rfl
  obtain ⟨xs, m, _, _, hl, hxl, hx⟩ := DataW.trod_array Try.underlying24 hf
  have hget : ∀ i, i < 12 → ∃ z : Nat, z < 256 ∧ cs[i]? = some (.int .u8 z) := fun i hi => by
    have h1 := hx i hi
    rw [hc1, Nat.mul_one] at h1
    have hlt : i < xs.length := by omega
    rw [List.getElem?_eq_getElem hlt] at h1
    obtain ⟨a, e0, _, wa⟩ := DataW.trod_int Try.underlying5 h1
    have hcs : cs[i]? = some (.int .u8 a) := by
      have : ((Value.agg cs).cells.toList.drop i)[0]? = some (Value.int .u8 a) := by
        have h2 := congrArg (fun l => l[0]?) e0
        simpa [List.getElem?_take] using h2
      simpa [Value.cells] using this
    have hb := bounds_u8 wa
    obtain ⟨z, rfl⟩ := Int.eq_ofNat_of_zero_le hb.1
    exact ⟨z, by omega, hcs⟩
  have hch : ∃ f : Nat → Nat, ∀ i, i < 12 → f i < 256 ∧ cs[i]? = some (.int .u8 (f i)) :=
    ⟨fun i => if h : i < 12 then Classical.choose (hget i h) else 0, fun i hi => by simp only [hi, dif_pos]; exact Classical.choose_spec (hget i hi)⟩
  obtain ⟨f, hf'⟩ := hch
  refine ⟨(List.range 12).map f, ?_, by simp, getD_lt fun x hx => ?_⟩
  · congr 1
    apply Array.ext_getElem?
    intro i
    by_cases hi : i < 12
    · rw [(hf' i hi).2, bysA_get _ i (by simpa using hi)]
      simp [List.getD, hi]
    · rw [Array.getElem?_eq_none (by omega), Array.getElem?_eq_none (by rw [bysA_size]; simp; omega)]
  · obtain ⟨i, hi, rfl⟩ := List.mem_map.1 hx
    exact (hf' i (List.mem_range.1 hi)).1
theorem open_b2 {H : Type} {enc : TypeId × Value → H} {w : World} {r : Reach} {b0 base : Nat} {spare : Nat → Bool} {held : Bool} {v : Value} {d : DataW H} {p : List MemPlace}
    (hv : Value.okWide Try.prog w r b0 43 v) (h : DataW.Trod enc Try.prog w base spare held 43 v d p) :
    ∃ s : List Nat, v = .agg (bysA s) ∧ s.length = 2 ∧ ∀ i, s.getD i 0 < 256 := by
  have hv' : ∃ cs, v = .agg cs ∧ cs.size = Try.prog.cellsOf 43 := by
    unfold Value.okWide at hv
    rw [Try.underlying43] at hv
    obtain ⟨cs, h1, h2, _⟩ := hv
    exact ⟨cs, h1, h2⟩
  obtain ⟨cs, rfl, hsz⟩ := hv'
  obtain ⟨fuel, hf⟩ := h
  have hc1 : Try.prog.cellsOf 5 = 1 := by kernel_rfl
  have hcn : Try.prog.cellsOf 43 = 2 := by kernel_rfl
  obtain ⟨xs, m, _, _, hl, hxl, hx⟩ := DataW.trod_array Try.underlying43 hf
  have hget : ∀ i, i < 2 → ∃ z : Nat, z < 256 ∧ cs[i]? = some (.int .u8 z) := fun i hi => by
    have h1 := hx i hi
    rw [hc1, Nat.mul_one] at h1
    have hlt : i < xs.length := by omega
    rw [List.getElem?_eq_getElem hlt] at h1
    obtain ⟨a, e0, _, wa⟩ := DataW.trod_int Try.underlying5 h1
    have hcs : cs[i]? = some (.int .u8 a) := by
      have : ((Value.agg cs).cells.toList.drop i)[0]? = some (Value.int .u8 a) := by
        have h2 := congrArg (fun l => l[0]?) e0
        simpa [List.getElem?_take] using h2
      simpa [Value.cells] using this
    have hb := bounds_u8 wa
    obtain ⟨z, rfl⟩ := Int.eq_ofNat_of_zero_le hb.1
    exact ⟨z, by omega, hcs⟩
  have hch : ∃ f : Nat → Nat, ∀ i, i < 2 → f i < 256 ∧ cs[i]? = some (.int .u8 (f i)) :=
    ⟨fun i => if h : i < 2 then Classical.choose (hget i h) else 0, fun i hi => by simp only [hi, dif_pos]; exact Classical.choose_spec (hget i hi)⟩
  obtain ⟨f, hf'⟩ := hch
  refine ⟨(List.range 2).map f, ?_, by simp, getD_lt fun x hx => ?_⟩
  · congr 1
    apply Array.ext_getElem?
    intro i
    by_cases hi : i < 2
    · rw [(hf' i hi).2, bysA_get _ i (by simpa using hi)]
      simp [List.getD, hi]
    · rw [Array.getElem?_eq_none (by omega), Array.getElem?_eq_none (by rw [bysA_size]; simp; omega)]
  · obtain ⟨i, hi, rfl⟩ := List.mem_map.1 hx
    exact (hf' i (List.mem_range.1 hi)).1
theorem open_b2two {H : Type} {enc : TypeId × Value → H} {w : World} {r : Reach} {b0 base : Nat} {spare : Nat → Bool} {held : Bool} {v : Value} {d : DataW H} {p : List MemPlace}
    (hv : Value.okWide Try.prog w r b0 43 v) (h : DataW.Trod enc Try.prog w base spare held 43 v d p) : ∃ a b : Nat, v = .agg (bysA [a, b]) ∧ a < 256 ∧ b < 256 := by
  obtain ⟨s, rfl, hs, hb⟩ := open_b2 hv h
  match s, hs with
  | [a, b], _ => exact ⟨a, b, rfl, hb 0, hb 1⟩
theorem open_2int {H : Type} {enc : TypeId × Value → H} {w : World} {r : Reach} {b0 base : Nat} {spare : Nat → Bool} {held : Bool} {v : Value} {d : DataW H} {p : List MemPlace}
    (hv : Value.okWide Try.prog w r b0 32 v) (h : DataW.Trod enc Try.prog w base spare held 32 v d p) : ∃ a b : Int, v = .agg #[.int .i64 a, .int .i64 b] := by
  have hv' : ∃ cs, v = .agg cs ∧ cs.size = Try.prog.cellsOf 32 := by
    unfold Value.okWide at hv
    rw [Try.underlying32] at hv
    obtain ⟨cs, h1, h2, _⟩ := hv
    exact ⟨cs, h1, h2⟩
  obtain ⟨cs, rfl, hsz⟩ := hv'
  obtain ⟨fuel, hf⟩ := h
  have hc1 : Try.prog.cellsOf 3 = 1 := by kernel_rfl
  have hcn : Try.prog.cellsOf 32 = 2 := by kernel_rfl
  obtain ⟨xs, m, _, _, hl, hxl, hx⟩ := DataW.trod_array Try.underlying32 hf
  have hget : ∀ i, i < 2 → ∃ z : Int, cs[i]? = some (.int .i64 z) := fun i hi => by
    have h1 := hx i hi
    rw [hc1, Nat.mul_one] at h1
    have hlt : i < xs.length := by omega
    rw [List.getElem?_eq_getElem hlt] at h1
    obtain ⟨a, e0, _, wa⟩ := DataW.trod_int Try.underlying3 h1
    have : ((Value.agg cs).cells.toList.drop i)[0]? = some (Value.int .i64 a) := by
      have h2 := congrArg (fun l => l[0]?) e0
      simpa [List.getElem?_take] using h2
    exact ⟨a, by simpa [Value.cells] using this⟩
  obtain ⟨a, ha⟩ := hget 0 (by decide)
  obtain ⟨b, hb⟩ := hget 1 (by decide)
  refine ⟨a, b, ?_⟩
  congr 1
  apply Array.ext_getElem?
  intro i
  match i with
  | 0 => rw [ha]; rfl
  | 1 => rw [hb]; rfl
  | i + 2 => rw [Array.getElem?_eq_none (by omega), Array.getElem?_eq_none (by simp)]
end Go.Proofs.Ytcaleepbnjlbpaa
