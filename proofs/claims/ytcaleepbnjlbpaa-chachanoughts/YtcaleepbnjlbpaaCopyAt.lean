/-
  Bytes go over those of a row, from a place on.
-/
import Derived.Test.YtcaleepbnjlbpaaSlices
namespace Go.Proofs.Ytcaleepbnjlbpaa
open Go.RowKit Go.Hold Go.Sh

theorem setL_at (r l : List Nat) (u : Nat) (h : u + l.length ≤ r.length) : setL (bysA r) u (bys l) = bysA (r.take u ++ l ++ r.drop (u + l.length)) := by
  apply Array.ext_getElem?
  intro i
  rw [setL_get, bys_length, bysA_size]
  have hn : (r.take u ++ l ++ r.drop (u + l.length)).length = r.length := by simp; omega
  by_cases hi : i < r.length
  · rw [bysA_get (r.take u ++ l ++ r.drop (u + l.length)) i (by rw [hn]; exact hi)]
    by_cases h1 : u ≤ i ∧ i < u + l.length
    · rw [if_pos (by omega)]
      simp only [bys, List.getElem?_map, List.getD]
      rw [List.append_assoc, List.getElem?_append_right (by simp; omega), List.getElem?_append_left (by simp; omega)]
      simp only [List.length_take]
      rw [show min u r.length = u by omega, List.getElem?_eq_getElem (by omega)]
      rfl
    · rw [if_neg (by omega), bysA_get _ i hi]
      congr 3
      simp only [List.getD]
      by_cases h2 : i < u
      · rw [List.append_assoc, List.getElem?_append_left (by simp; omega), List.getElem?_take, if_pos h2]
      · rw [List.getElem?_append_right (by simp; omega), List.getElem?_drop]
        congr 2
        simp only [List.length_append, List.length_take]; omega
  · rw [if_neg (by omega), Array.getElem?_eq_none (by rw [bysA_size]; omega), Array.getElem?_eq_none (by rw [bysA_size, hn]; omega)]
theorem copy_at {W : World} {g u c2 cap d s k : Nat} {p : Option Addr} {r l : List Nat} (h : RowAt W g (bysA r)) (hu : u ≤ r.length) (hd : d = r.length - u) (hs : s = l.length) (hk : k = min l.length (r.length - u)) (hB : Bs0 W p l) :
    (Builtin.copy_ #[31, 31] 3 #[.slice (some ⟨g, u, none⟩) d c2, .slice p s cap]).run Try.prog W = .ok (.int .i64 (k : Int)) (W.setRow g (bysA (r.take u ++ l.take k ++ r.drop (u + k)))) := by
  subst hd hs
  rcases hB with rfl | ⟨b, o, rfl, hB⟩
  · have hk0 : k = 0 := by simpa using hk
    subst hk0
    rw [List.take_zero, List.append_nil, Nat.add_zero, List.take_append_drop, setRow_self h]
    exact copy_none W _ _ _ _ _
  · have hl : (bys (l.take k)).length = k := by rw [bys_length, List.length_take]; omega
    have hi : (Try.prog.info? 5).map (·.size) = some 1 := by kernel_rfl
    have := run_copy_cells (P := Try.prog) W 31 31 3 5 g u (r.length - u) c2 ⟨b, o, none⟩ l.length cap (bys (l.take k)) Try.underlying31 hi (by rw [hl, hk])
      (fun j v hv => by
        have hj : j < k := by have := (List.getElem?_eq_some_iff.1 hv).1; omega
        rw [Addr.add_mid, hB.2 j (by omega), ← hv]
        simp only [bys, List.getElem?_map, List.getElem?_take, if_pos hj, List.getD]
        rw [List.getElem?_eq_getElem (by omega)]; rfl)
      (fun j hj => by rw [h.cellAt (u + j) (Array.getElem?_eq_getElem (by rw [bysA_size]; omega))]; rfl)
      (fun j _ => h.frozenAt _) (bys_one _)
    rw [this, hl, setCells_row _ _ h, setL_at _ _ _ (by rw [List.length_take]; omega)]
    rw [show (l.take k).length = k by rw [List.length_take]; omega]
    rfl
end Go.Proofs.Ytcaleepbnjlbpaa
