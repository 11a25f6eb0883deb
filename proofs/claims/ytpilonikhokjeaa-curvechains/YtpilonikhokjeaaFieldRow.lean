/-
  From a walk over keys to the given row: the arguments are opened as keys, and read afterwards as before.
-/
import Derived.Test.YtpilonikhokjeaaFieldK
import Derived.ProofKit
import Derived.OpenShut
import Derived.ShutString
import Derived.ChangeOld
import Derived.Below
namespace Go.Proofs.Ytpilonikhokjeaa
open Go.ChangeShapes Go.WideShapes Go.ChangeAt Go.RowKit

theorem own : ownKnob Try.prog.godebug = none := by kernel_rfl
theorem laidOut : laidOutB Try.prog = true := by kernel_rfl

/-- A number of its bytes, the lowest one first. -/
def ofBytes : List Nat → Nat
  | [] => 0
  | b :: l => b + 256 * ofBytes l
theorem ofBytes_lt : ∀ l : List Nat, (∀ b ∈ l, b < 256) → ofBytes l < 256 ^ l.length
  | [], _ => by simp [ofBytes]
  | b :: l, h => by
    have h1 := h b (by simp)
    have h2 := ofBytes_lt l fun x hx => h x (by simp [hx])
    simp only [ofBytes, List.length_cons, Nat.pow_succ]
    omega
theorem ofBytes_get : ∀ (l : List Nat) (i : Nat), (∀ b ∈ l, b < 256) → i < l.length → ofBytes l / 256 ^ i % 256 = l.getD i 0
  | [], i, _, h => by simp at h
  | b :: l, 0, h, _ => by
    have := h b (by simp)
    simp only [ofBytes, Nat.pow_zero, Nat.div_one, List.getD_cons_zero]
    omega
  | b :: l, i + 1, h, hi => by
    have h1 := h b (by simp)
    have ih := ofBytes_get l i (fun x hx => h x (by simp [hx])) (by simpa using hi)
    simp only [ofBytes, List.getD_cons_succ]
    rw [← ih, Nat.pow_succ, Nat.mul_comm (256 ^ i) 256, ← Nat.div_div_eq_div_mul, show (b + 256 * ofBytes l) / 256 = ofBytes l by omega]

theorem open_key {H : Type} {enc : TypeId × Value → H} {w : World} {r : Reach} {b0 base : Nat} {spare : Nat → Bool} {held : Bool} {v : Value} {d : DataW H} {p : List MemPlace}
    (hv : Value.okWide Try.prog w r b0 23 v) (h : DataW.Trod enc Try.prog w base spare held 23 v d p) :
    ∃ n, n < 115792089237316195423570985008687907853269984665640564039457584007913129639936 ∧ v = kv n := by
  have hv' : ∃ cs, v = .agg cs ∧ cs.size = Try.prog.cellsOf 23 := by
    unfold Value.okWide at hv
    rw [Try.underlying23] at hv
    obtain ⟨cs, h1, h2, _⟩ := hv
    exact ⟨cs, h1, h2⟩
  obtain ⟨cs, rfl, hsz⟩ := hv'
  obtain ⟨fuel, hf⟩ := h
  have hc1 : Try.prog.cellsOf 5 = 1 := by kernel_rfl
  have hc32 : Try.prog.cellsOf 23 = 32 := by kernel_rfl
  obtain ⟨xs, m, _, _, hl, hxl, hx⟩ := DataW.trod_array Try.underlying23 hf
  have hget : ∀ i, i < 32 → ∃ z : Nat, z < 256 ∧ cs[i]? = some (.int .u8 z) := fun i hi => by
    have h1 := hx i hi
    rw [hc1, Nat.mul_one] at h1
    have hlt : i < xs.length := by omega
    rw [List.getElem?_eq_getElem hlt] at h1
    obtain ⟨a, e0, _, wa⟩ := DataW.trod_int Try.underlying5 h1
    have hcs : cs[i]? = some (.int .u8 a) := by
      have : ((Value.agg cs).cells.toList.drop i)[0]? = some (Value.int .u8 a) := by
        have h2 := congrArg (fun l => l[0]?) e0
        simpa [List.getElem?_take] using h2
      simpa [Value.cells] using this
    have hb := bounds_u8 wa
    obtain ⟨z, rfl⟩ := Int.eq_ofNat_of_zero_le hb.1
    exact ⟨z, by omega, hcs⟩
  have hch : ∃ f : Nat → Nat, ∀ i, i < 32 → f i < 256 ∧ cs[i]? = some (.int .u8 (f i)) :=
    ⟨fun i => if h : i < 32 then Classical.choose (hget i h) else 0, fun i hi => by simp only [hi, dif_pos]; exact Classical.choose_spec (hget i hi)⟩
  obtain ⟨f, hf'⟩ := hch
  have hall : ∀ b ∈ (List.range 32).map f, b < 256 := fun b hb => by
    obtain ⟨i, hi, rfl⟩ := List.mem_map.1 hb
    exact (hf' i (List.mem_range.1 hi)).1
  refine ⟨ofBytes ((List.range 32).map f), by simpa using ofBytes_lt _ hall, ?_⟩
  congr 1
  apply Array.ext_getElem?
  intro i
  by_cases hi : i < 32
  · rw [keyA_get _ i hi, (hf' i hi).2]
    unfold bt
    rw [ofBytes_get _ i hall (by simpa using hi)]
    simp [hi, List.getD]
  · rw [Array.getElem?_eq_none (by omega), Array.getElem?_eq_none (by rw [keyA_size]; omega)]

end Go.Proofs.Ytpilonikhokjeaa
