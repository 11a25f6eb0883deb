/-
  From a walk to the given row: calls that came in.
-/
import Derived.Test.YtbhgmefdimjlaaaBytesRow
import Derived.Test.YtbhgmefdimjlaaaActs
namespace Go.Proofs.Ytbhgmefdimjlaaa
open Go.ChangeShapes Go.WideShapes Go.ChangeAt Go.RowKit Go.Sh

set_option maxRecDepth 100000 in
theorem act_of_trod {H : Type} {enc : TypeId × Value → H} {w : World} {base : Nat} {spare : Nat → Bool} {held : Bool} {fuel : Nat} {cs : List Value} {x : DataW H × List MemPlace}
    (hf : DataW.trod enc Try.prog w base spare held fuel 31 cs = some x) : ∃ a : Actv, cs = a.cells.toList ∧ ActOk w a := by
  have hc1 : Try.prog.cellsOf 5 = 1 := by kernel_rfl
  have hc2 : Try.prog.cellsOf 29 = 1 := by kernel_rfl
  have hc3 : Try.prog.cellsOf 3 = 1 := by kernel_rfl
  have hc4 : Try.prog.cellsOf 26 = 1 := by kernel_rfl
  have hca : Try.prog.cellsOf 31 = 4 := by kernel_rfl
  obtain ⟨xs, n, _, _, hl, hxl, hx⟩ := DataW.trod_struct Try.underlying31 hf
  rw [hca] at hl
  have hxl4 : xs.length = 4 := by rw [hxl]; rfl
  have h0 : DataW.trod enc Try.prog w base spare held n 5 ((cs.drop 0).take (Try.prog.cellsOf 5)) = xs[0]? := hx 0 _ rfl
  rw [hc1] at h0
  have h1 : DataW.trod enc Try.prog w base spare held n 29 ((cs.drop 1).take (Try.prog.cellsOf 29)) = xs[1]? := hx 1 _ rfl
  rw [hc2] at h1
  have h2 : DataW.trod enc Try.prog w base spare held n 3 ((cs.drop 2).take (Try.prog.cellsOf 3)) = xs[2]? := hx 2 _ rfl
  rw [hc3] at h2
  have h3 : DataW.trod enc Try.prog w base spare held n 26 ((cs.drop 3).take (Try.prog.cellsOf 26)) = xs[3]? := hx 3 _ rfl
  rw [hc4] at h3
  rw [List.getElem?_eq_getElem (by omega)] at h0 h1 h2 h3
  obtain ⟨a0, e0, _, w0⟩ := DataW.trod_int Try.underlying5 h0
  obtain ⟨a1, e1, _, w1⟩ := DataW.trod_int Try.underlying29 h1
  obtain ⟨a2, e2, _, w2⟩ := DataW.trod_int Try.underlying3 h2
  obtain ⟨pt, l, cap, e3, hb, hlc, hbt, hp⟩ := bytes_of_trod h3
  have b0 := bounds_u8 w0
  have b1 := bounds_u64 w1
  obtain ⟨k, rfl⟩ := Int.eq_ofNat_of_zero_le b0.1
  obtain ⟨m, rfl⟩ := Int.eq_ofNat_of_zero_le b1.1
  refine ⟨⟨k, m, a2, pt, l, cap⟩, ?_, by show k < 256; omega, by show m < 18446744073709551616; omega, hb, hbt, hp, hlc⟩
  show cs = [.int .u8 (k : Int), .int .u64 (m : Int), .int .i64 a2, .slice pt l.length cap]
  match cs, hl, e0, e1, e2, e3 with
  | [c0, c1, c2, c3], _, e0, e1, e2, e3 =>
    simp at e0 e1 e2 e3
    rw [e0, e1, e2, e3]
set_option maxRecDepth 100000 in
theorem open_act {H : Type} {enc : TypeId × Value → H} {w : World} {r : Reach} {b0 base : Nat} {spare : Nat → Bool} {held : Bool} {v : Value} {d : DataW H} {p : List MemPlace}
    (hv : Value.okWide Try.prog w r b0 31 v) (h : DataW.Trod enc Try.prog w base spare held 31 v d p) : ∃ a : Actv, v = .agg a.cells ∧ ActOk w a := by
  obtain ⟨cs, rfl, _⟩ := okWide_struct Try.underlying31 hv
  obtain ⟨fuel, hf⟩ := h
  obtain ⟨a, ha, hok⟩ := act_of_trod hf
  refine ⟨a, ?_, hok⟩
  have : cs.toList = a.cells.toList := by simpa [Value.cells] using ha
  rw [Array.toList_inj.1 this]
set_option maxRecDepth 100000 in
theorem open_acts {H : Type} {enc : TypeId × Value → H} {w : World} {r : Reach} {b0 base : Nat} {spare : Nat → Bool} {held : Bool} {v : Value} {d : DataW H} {p : List MemPlace}
    (hv : Value.okWide Try.prog w r b0 22 v) (h : DataW.Trod enc Try.prog w base spare held 22 v d p) :
    ∃ (pt : Option Addr) (ls : List Actv) (cap : Nat), v = .slice pt ls.length cap ∧ ActsAt w pt ls := by
  obtain ⟨a, len, cap, rfl⟩ := okWide_slice Try.underlying22 hv
  obtain ⟨fuel, hf⟩ := h
  have hca : Try.prog.cellsOf 31 = 4 := by kernel_rfl
  rcases DataW.trod_slice Try.underlying22 hf with ⟨h0, _⟩ | ⟨a', len', cap', elems, rest, n, _, hcs, _, _, _, _, hlen, hel, _⟩
  · have h1 : Value.slice a len cap = .slice none 0 0 := by simpa [Value.cells] using h0
    cases h1
    exact ⟨none, [], 0, rfl, fun i x hx => by simp at hx⟩
  · have h1 : Value.slice a len cap = .slice (some a') len' cap' := by simpa [Value.cells] using hcs
    cases h1
    have each : ∀ i, i < len → ∃ x : Actv, ActOk w x ∧ ∀ j, j < 4 → w.cell? ((a'.add (i * 4)).add j) = x.cells[j]? := fun i hi => by
      have h2 := hel i hi
      rw [List.getElem?_eq_getElem (show i < elems.length by omega), hca, Option.bind_eq_some_iff] at h2
      obtain ⟨cs, h3, h4⟩ := h2
      obtain ⟨x, rfl, hok⟩ := act_of_trod h4
      refine ⟨x, hok, fun j hj => ?_⟩
      rw [(World.cells?_some h3).2.2 j hj, Array.getElem?_toList]
    have hch : ∃ f : Nat → Actv, ∀ i, i < len → ActOk w (f i) ∧ ∀ j, j < 4 → w.cell? ((a'.add (i * 4)).add j) = (f i).cells[j]? :=
      ⟨fun i => if h : i < len then Classical.choose (each i h) else ⟨0, 0, 0, none, [], 0⟩, fun i hi => by simp only [hi, dif_pos]; exact Classical.choose_spec (each i hi)⟩
    obtain ⟨f, hf'⟩ := hch
    refine ⟨some a', (List.range len).map f, cap, by simp, fun i x hx => ?_⟩
    have hi : i < len := by
      have := (List.getElem?_eq_some_iff.1 hx).1
      simpa using this
    have hxe : f i = x := by
      have : ((List.range len).map f)[i]? = some (f i) := by simp [hi]
      rw [hx] at this
      exact (Option.some.inj this).symm
    subst hxe
    have h00 : w.cell? a' = some (.int .u8 ((f 0).k : Int)) := by
      have := (hf' 0 (by omega)).2 0 (by decide)
      rw [show (f 0).cells[0]? = some (.int .u8 ((f 0).k : Int)) from rfl] at this
      simpa [Addr.add] using this
    obtain ⟨g, o, sp⟩ := a'
    have hsp : sp = none := by
      cases sp with
      | none => rfl
      | some k =>
        exfalso
        unfold World.cell? at h00
        split at h00
        · simp at h00
        · cases h00
    subst hsp
    refine ⟨(hf' i hi).1, g, o, rfl, World.block_lt_of_cell? w _ h00, fun j v hv => ?_⟩
    have hj : j < 4 := by
      have := (List.getElem?_eq_some_iff.1 hv).1
      simpa [Actv.cells, arow_size] using this
    have h5 := (hf' i hi).2 j hj
    rw [Addr.add_mid, Addr.add_mid] at h5
    rw [h5]
    simpa using hv
end Go.Proofs.Ytbhgmefdimjlaaa
