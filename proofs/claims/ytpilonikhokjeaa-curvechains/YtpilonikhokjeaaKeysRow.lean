/-
  A slice of keys that came in: its keys, and where they lie.
-/
import Derived.Test.YtpilonikhokjeaaRef2Chain
import Derived.Test.YtpilonikhokjeaaFieldRow
namespace Go.Proofs.Ytpilonikhokjeaa
open Go.ChangeShapes Go.WideShapes Go.ChangeAt Go.RowKit

theorem key_of_trod {H : Type} {enc : TypeId × Value → H} {w : World} {base : Nat} {spare : Nat → Bool} {held : Bool} {fuel : Nat} {cs : List Value} {x : DataW H × List MemPlace}
    (hf : DataW.trod enc Try.prog w base spare held fuel 23 cs = some x) : ∃ n, n < 115792089237316195423570985008687907853269984665640564039457584007913129639936 ∧ cs = (keyA n).toList := by
  have hc1 : Try.prog.cellsOf 5 = 1 := by kernel_rfl
  have hc32 : Try.prog.cellsOf 23 = 32 := by kernel_rfl
  obtain ⟨xs, m, _, _, hl, hxl, hx⟩ := DataW.trod_array Try.underlying23 hf
  rw [hc32] at hl
  have hget : ∀ i, i < 32 → ∃ z : Nat, z < 256 ∧ cs[i]? = some (.int .u8 z) := fun i hi => by
    have h1 := hx i hi
    rw [hc1, Nat.mul_one] at h1
    have hlt : i < xs.length := by omega
    rw [List.getElem?_eq_getElem hlt] at h1
    obtain ⟨a, e0, _, wa⟩ := DataW.trod_int Try.underlying5 h1
    have hcs : cs[i]? = some (.int .u8 a) := by
      have h2 := congrArg (fun l => l[0]?) e0
      simpa [List.getElem?_take] using h2
    have hb := bounds_u8 wa
    obtain ⟨z, rfl⟩ := Int.eq_ofNat_of_zero_le hb.1
    exact ⟨z, by omega, hcs⟩
  have hch : ∃ f : Nat → Nat, ∀ i, i < 32 → f i < 256 ∧ cs[i]? = some (.int .u8 (f i)) :=
    ⟨fun i => if h : i < 32 then Classical.choose (hget i h) else 0, fun i hi => by simp only [hi, dif_pos]; exact Classical.choose_spec (hget i hi)⟩
  obtain ⟨f, hf'⟩ := hch
  have hall : ∀ b ∈ (List.range 32).map f, b < 256 := fun b hb => by
    obtain ⟨i, hi, rfl⟩ := List.mem_map.1 hb
    exact (hf' i (List.mem_range.1 hi)).1
  refine ⟨ofBytes ((List.range 32).map f), by simpa using ofBytes_lt _ hall, ?_⟩
  apply List.ext_getElem?
  intro i
  have e : ∀ y, (keyA y).toList[i]? = (keyA y)[i]? := fun y => by simp
  rw [e]
  by_cases hi : i < 32
  · rw [keyA_get _ i hi, (hf' i hi).2]
    unfold bt
    rw [ofBytes_get _ i hall (by simpa using hi)]
    simp [hi, List.getD]
  · rw [List.getElem?_eq_none (by omega), Array.getElem?_eq_none (by rw [keyA_size]; omega)]

theorem open_keys {H : Type} {enc : TypeId × Value → H} {w : World} {r : Reach} {b0 base : Nat} {spare : Nat → Bool} {held : Bool} {v : Value} {d : DataW H} {p : List MemPlace}
    (hv : Value.okWide Try.prog w r b0 32 v) (h : DataW.Trod enc Try.prog w base spare held 32 v d p) :
    ∃ (pt : Option Addr) (ls : List Nat) (cap : Nat), v = .slice pt ls.length cap ∧ KeysAt w pt ls := by
  obtain ⟨a, len, cap, rfl⟩ := okWide_slice Try.underlying32 hv
  obtain ⟨fuel, hf⟩ := h
  have hc32 : Try.prog.cellsOf 23 = 32 := by kernel_rfl
  rcases DataW.trod_slice Try.underlying32 hf with ⟨h0, _⟩ | ⟨a', len', cap', elems, rest, n, _, hcs, _, _, _, _, hlen, hel, _⟩
  · have h1 : Value.slice a len cap = .slice none 0 0 := by simpa [Value.cells] using h0
    cases h1
    exact ⟨none, [], 0, rfl, fun i x hx => by simp at hx⟩
  · have h1 : Value.slice a len cap = .slice (some a') len' cap' := by simpa [Value.cells] using hcs
    cases h1
    have each : ∀ i, i < len → ∃ x, ∀ j, j < 32 → w.cell? ((a'.add (i * 32)).add j) = (keyA x)[j]? := fun i hi => by
      have h2 := hel i hi
      rw [List.getElem?_eq_getElem (show i < elems.length by omega), hc32, Option.bind_eq_some_iff] at h2
      obtain ⟨cs, h3, h4⟩ := h2
      obtain ⟨x, _, rfl⟩ := key_of_trod h4
      refine ⟨x, fun j hj => ?_⟩
      rw [(World.cells?_some h3).2.2 j hj, Array.getElem?_toList]
    have hch : ∃ f : Nat → Nat, ∀ i, i < len → ∀ j, j < 32 → w.cell? ((a'.add (i * 32)).add j) = (keyA (f i))[j]? :=
      ⟨fun i => if h : i < len then Classical.choose (each i h) else 0, fun i hi => by simp only [hi, dif_pos]; exact Classical.choose_spec (each i hi)⟩
    obtain ⟨f, hf'⟩ := hch
    refine ⟨some a', (List.range len).map f, cap, by simp, fun i x hx => ?_⟩
    have hi : i < len := by
      have := (List.getElem?_eq_some_iff.1 hx).1
      simpa using this
    have hxe : f i = x := by
      have : ((List.range len).map f)[i]? = some (f i) := by simp [hi]
      rw [hx] at this
      exact (Option.some.inj this).symm
    subst hxe
    -- the address is a plain one
    have h00 : w.cell? a' = (keyA (f 0))[0]? := by
      have := hf' 0 (by omega) 0 (by decide)
      simpa [Addr.add] using this
    rw [keyA_get _ 0 (by decide)] at h00
    obtain ⟨g, o, sp⟩ := a'
    have hsp : sp = none := by
      cases sp with
      | none => rfl
      | some k =>
        exfalso
        unfold World.cell? at h00
        split at h00
        · simp at h00
        · cases h00
    subst hsp
    refine ⟨g, o, rfl, block_lt_of_cell h00, fun j v hv => ?_⟩
    have hj : j < 32 := by
      have := (List.getElem?_eq_some_iff.1 hv).1
      simpa [keyA_size] using this
    have h5 := hf' i hi j hj
    rw [Addr.add_mid, Addr.add_mid] at h5
    rw [h5]
    simpa using hv
end Go.Proofs.Ytpilonikhokjeaa
