/-
  Bytes and strings.
-/
import Derived.Test.YtbhgmefdimjlaaaSlices
import Derived.Lib.ConvBytes
import Derived.Laws.BytesString
namespace Go.Proofs.Ytbhgmefdimjlaaa
open Go.RowKit Go.Hold Go.Sh

/-- A string's bytes. -/
def strB (s : ByteArray) : List Nat := s.data.toList.map fun b => b.toNat
theorem strB_length (s : ByteArray) : (strB s).length = s.size := by simp [strB]
theorem strB_bts (s : ByteArray) : ∀ i, (strB s).getD i 0 < 256 := getD_lt fun x hx => by
  obtain ⟨b, _, rfl⟩ := List.mem_map.1 hx
  exact b.toNat_lt
theorem strB_app (s t : ByteArray) : strB (s ++ t) = strB s ++ strB t := by simp [strB]
def cvSB (v : Value) : Sem Value := convert 9 26 v
@[go_sem ↓ high] theorem fold_cvSB (v : Value) : convert 9 26 v = cvSB v := rfl
/-- A string is turned into bytes. -/
theorem run_cvSB (s : ByteArray) (w : World) : ∃ c W, (cvSB (.string s)).run Try.prog w = .ok (.slice (some ⟨w.heap.size, 0, none⟩) s.size c) W ∧ BytesAt W w.heap.size 0 (strB s) ∧ Below w.heap.size w W ∧ s.size ≤ c := by
  refine ⟨grownCap w s.size 0 5, Lib.bytesWorld w 5 s, Lib.run_convert_string_bytes w _ _ 5 s Try.underlying9 Try.underlying26 Try.underlying5, ⟨by rw [Lib.bytesWorld_size]; omega, fun i hi => ?_⟩, ⟨?_, ?_, ?_, by rw [Lib.bytesWorld_size]; omega, fun k hk => Lib.bytesWorld_at_old w _ s k hk⟩, grownCap_ge _ _ _ _⟩
  · rw [strB_length] at hi
    rw [Nat.zero_add, Lib.bytesWorld_cell w _ s i hi]
    simp [strB, List.getD, hi]
  · rfl
  · rfl
  · rfl
/-- Bytes as a string. -/
def toS (l : List Nat) : ByteArray := ⟨(l.map UInt8.ofNat).toArray⟩
theorem strB_toS {l : List Nat} (h : ∀ i, l.getD i 0 < 256) : strB (toS l) = l := by
  unfold strB toS
  simp only [List.map_map]
  conv => rhs; rw [← List.map_id l]
  apply List.map_congr_left
  intro x hx
  have := mem_lt h x hx
  simp only [Function.comp, id]
  rw [UInt8.toNat_ofNat']
  omega
theorem toS_inj {a b : List Nat} (ha : ∀ i, a.getD i 0 < 256) (hb : ∀ i, b.getD i 0 < 256) : toS a = toS b ↔ a = b := by
  constructor
  · intro h
    rw [← strB_toS ha, ← strB_toS hb, h]
  · rintro rfl; rfl
theorem toS_size (l : List Nat) : (toS l).size = l.length := by simp [toS, ByteArray.size]
def cvBS (v : Value) : Sem Value := convert 26 9 v
@[go_sem ↓ high] theorem fold_cvBS (v : Value) : convert 26 9 v = cvBS v := rfl
theorem foldl_toS : ∀ (l : List Nat) (s : ByteArray), (l.map fun n : Nat => (n : Int)).foldl (fun r n => r.push (UInt8.ofNat n.toNat)) s = ⟨s.data ++ (l.map UInt8.ofNat).toArray⟩
  | [], s => by simp
  | n :: l, s => by
    rw [List.map_cons, List.foldl_cons, foldl_toS l]
    simp [ByteArray.push]
theorem run_cvBS {w : World} {p : Option Addr} {l : List Nat} {n c : Nat} (h : Bs0 w p l) (hn : n = l.length) : (cvBS (.slice p n c)).run Try.prog w = .ok (.string (toS l)) w := by
  subst hn
  unfold cvBS
  rw [run_convert_bytes_string w _ _ 5 _ _ _ Try.underlying26 Try.underlying5 Try.underlying9]
  have key : ∀ a : Addr, (∀ j u, (bys l)[j]? = some u → w.cell? (a.add j) = some u) → (Conv.bytesToString (.slice (some a) l.length c)).run Try.prog w = .ok (.string (toS l)) w := fun a ha => by
    have h1 := run_loadCells_list (P := Try.prog) w a (bys l) ha
    rw [bys_length] at h1
    have h2 : bys l = (l.map fun n : Nat => (n : Int)).map (Value.int .u8) := by simp [bys]
    rw [h2] at h1
    rw [run_bytesToString w a l.length c _ h1, foldl_toS]
    simp [toS]
  cases p with
  | none =>
    have hl : l = [] := by
      rcases h with h | ⟨b, o, h, _⟩
      · exact h
      · cases h
    subst hl
    simp [Conv.bytesToString, toS]
    rfl
  | some a =>
    refine key a ?_
    rcases h with rfl | ⟨b, o, he, h⟩
    · intro j u hu; simp [bys] at hu
    · cases he; exact bys_at h
end Go.Proofs.Ytbhgmefdimjlaaa
