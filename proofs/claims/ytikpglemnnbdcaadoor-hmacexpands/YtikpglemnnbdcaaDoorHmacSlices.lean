/-
  Slices of bytes: those that a call made, with bytes laid behind them; copies; new ones.
-/
import Derived.Test.YtikpglemnnbdcaaDoorRShaSlices
import Derived.Test.YtikpglemnnbdcaaDoorHmacPure
import Derived.Test.YtikpglemnnbdcaaDoorGrow
import Derived.Lib.AppendZerosOnto
import Derived.Great.BuildSlice
import Derived.Laws.MakeOwn
import Derived.Laws.OwnMore
namespace Go.Proofs.YtikpglemnnbdcaaDoor
open Go.RowKit Go.Hold Go.Sh

theorem keA_bys (s : St) : keA s = bysA (keyN s) := by
  unfold keA byI keyL bysA bys keyN
  simp only [List.map_map]
  congr 1
  apply List.map_congr_left
  intro i _
  exact congrArg (Value.int .u8) (sByte_nat s i).symm
theorem keyN_row {w : World} {g : Nat} {s : St} (h : RowAt w g (keA s)) : BytesAt w g 0 (keyN s) := bytes_row (by rw [← keA_bys]; exact h)
theorem OwnB.bs {w : World} {B : Nat} {v : Value} {l : List Nat} (h : OwnB w B v l) : ∃ p c, v = .slice p l.length c ∧ Bs0 w p l ∧ l.length ≤ c ∧ (p = none → c = 0) := by
  rcases h.2 with ⟨rfl, h0⟩ | ⟨g, cap, cur, rfl, hb, hg, hc, hm, hs, ht⟩
  · have : l = [] := List.length_eq_zero_iff.1 h0
    subst this
    exact ⟨none, 0, rfl, .inl rfl, Nat.le_refl _, fun _ => rfl⟩
  · exact ⟨some ⟨g, 0, none⟩, cap, rfl, .inr ⟨g, 0, rfl, OwnB.bytes h (Array.getElem?_eq_some_iff.1 hg).1⟩, hc, fun h => by cases h⟩
/-- Bytes are laid behind those of a slice of one's own. -/
theorem app_own {w : World} {B : Nat} {v : Value} {l m : List Nat} {p : Option Addr} {cap k : Nat} (h : OwnB w B v l) (hB : Bs0 w p m) (hk : k = m.length) (hp : p = none → cap = 0) (hBw : B ≤ w.heap.size) (hlen : l.length + m.length ≤ 16777216) :
    ∃ v' w', (Builtin.append_ #[22, 22] 22 #[v, .slice p k cap]).run Tryd.prog w = .ok v' w' ∧ OwnB w' B v' (l ++ m) ∧ w.grownBy w' v.ownBlock := by
  subst hk
  obtain ⟨i0, hi, hz0, hz1, hz2⟩ := info_parts info_u8
  cases p with
  | none =>
    have hm : m = [] := by
      rcases hB with h | ⟨b, o, h, _⟩
      · exact h
      · cases h
    subst hm
    rw [hp rfl]
    refine ⟨v, w, run_append_owned_none (P := Tryd.prog) (w := w) B _ _ _ i0 1 Tryd.underlying22 hi v _ _ h, by rw [List.append_nil]; exact h, ⟨rfl, rfl, rfl, Nat.le_refl _, fun _ _ _ => rfl⟩⟩
  | some a =>
    have hnews : ∀ j u, (bys m)[j]? = some u → w.cell? (a.add j) = some u := by
      rcases hB with rfl | ⟨b, o, he, hB⟩
      · intro j u hu; simp [bys] at hu
      · cases he; exact bys_at hB
    obtain ⟨v', w', h1, h2, h3, _⟩ := run_append_own (P := Tryd.prog) w B 22 22 5 i0 (.int .u8 0) 1 1 Tryd.underlying22 hi hz0 hz1 hz2 rfl (by decide) v l.length (bys l) h a m.length cap (bys m) (by rw [bys_length, Nat.mul_one]) hnews (bys_one m) (maxLen_small hlen) (by omega) hBw
    exact ⟨v', w', h1, OwnB.snoc h2, h3⟩
theorem own_below {B : Nat} {w w1 w2 : World} {v : Value} {l : List Nat} (hb : Below B w w1) (ho : OwnB w1 B v l) (hB : B ≤ w1.heap.size) (hg : w1.grownBy w2 v.ownBlock) : Below B w w2 := grown_below hb ho hB hg
theorem own_nil (w : World) (B : Nat) : OwnB w B (.slice none 0 0) [] := World.ownsRow_nil w B _ _
/-- What lay there before lies there still. -/
theorem Bs0.keep {w w' : World} {p : Option Addr} {l : List Nat} (h : Bs0 w p l) (hb : Below w.heap.size w w') : Bs0 w' p l := h.grow hb
theorem Bs0.some {w : World} {g o : Nat} {l : List Nat} (h : BytesAt w g o l) : Bs0 w (some ⟨g, o, none⟩) l := .inr ⟨g, o, rfl, h⟩

/-! ### Parts of slices -/
theorem slB_h (a : Option Addr) (len cap n : Nat) (h : n ≤ cap) (w : World) : (slB (.slice a len cap) none (some (.int .i64 (n : Int))) none).run Tryd.prog w = .ok (.slice a n cap) w := by
  unfold slB
  rw [run_sliceAt_slice _ _ _ _ _ _ elem8, run_slice_h _ _ _ _ _ elem8 _ _ (by omega) (by omega), size8]
  cases a <;> simp [sliced, Result.andThen, Addr.add]
@[go_sem] theorem slB_h0 (a : Option Addr) (len cap : Nat) (w : World) : (slB (.slice a len cap) none (some (.int .i64 0)) none).run Tryd.prog w = .ok (.slice a 0 cap) w := slB_h a len cap 0 (Nat.zero_le _) w
theorem slB_hm (a : Option Addr) (len cap n : Nat) (h : n ≤ cap) (w : World) : (slB (.slice a len cap) none (some (.int .i64 (n : Int))) (some (.int .i64 (n : Int)))).run Tryd.prog w = .ok (.slice a n n) w := by
  unfold slB
  rw [run_sliceAt_slice _ _ _ _ _ _ elem8, run_slice_hm _ _ _ _ _ elem8 _ _ _ _ (by omega) (Int.le_refl _) (by omega), size8]
  cases a <;> simp [sliced, Result.andThen, Addr.add]

/-! ### A new slice of noughts -/
def mkS (l c : Value) : Sem Value := Instr.makeSlice 22 l c
@[go_sem ↓] theorem fold_make (l c : Value) : Instr.makeSlice 22 l c = mkS l c := rfl
theorem made_zs (n : Nat) : madeCells (Value.int IntKind.u8 0).cells (n * 1) = bysA (zs n) := by
  apply Array.ext_getElem?
  intro i
  by_cases h : i < n
  · rw [bysA_get _ i (by rw [zs_length]; exact h)]
    simp only [madeCells, Array.getElem?_map, Array.getElem?_range, Nat.mul_one, if_pos h, Option.map_some, zs, List.getD, List.getElem?_replicate, Option.getD_some]
    rw [show (Value.int IntKind.u8 0).cells.size = 1 from rfl, Nat.mod_one]; rfl
  · rw [Array.getElem?_eq_none (by simp [madeCells]; omega), Array.getElem?_eq_none (by rw [bysA_size, zs_length]; omega)]
theorem run_mkS (w : World) (n : Nat) (h : n ≤ 16777216) : (mkS (.int .i64 (n : Int)) (.int .i64 (n : Int))).run Tryd.prog w = .ok (.slice (some ⟨w.heap.size, 0, none⟩) n n) (w.alloc (.cells (bysA (zs n)) 5)) := by
  obtain ⟨i0, hi, hz0, hz1, hz2⟩ := info_parts info_u8
  have := run_make (P := Tryd.prog) w 22 5 i0 (.int .u8 0) Tryd.underlying22 hi hz0 .i64 .i64 (n : Int) (n : Int) (by omega) (Int.le_refl _) (by rw [hz2]; omega) (by omega)
  unfold mkS
  rw [this, hz1, Int.toNat_natCast, made_zs]
@[go_sem] theorem run_mkS64 (w : World) : (mkS (.int .i64 64) (.int .i64 64)).run Tryd.prog w = .ok (.slice (some ⟨w.heap.size, 0, none⟩) 64 64) (w.alloc (.cells (bysA (zs 64)) 5)) := run_mkS w 64 (by decide)

/-! ### Copies -/
theorem setL_bys (r l : List Nat) (h : l.length ≤ r.length) : setL (bysA r) 0 (bys l) = bysA (l ++ r.drop l.length) := by
  apply Array.ext_getElem?
  intro i
  rw [setL_get, bys_length, bysA_size]
  have hn : (l ++ r.drop l.length).length = r.length := by simp; omega
  by_cases hi : i < r.length
  · rw [bysA_get (l ++ r.drop l.length) i (by rw [hn]; exact hi)]
    by_cases h1 : i < l.length
    · rw [if_pos (by omega), Nat.sub_zero]
      simp [bys, List.getD, h1, List.getElem?_append_left h1]
    · rw [if_neg (by omega), bysA_get _ i hi]
      simp only [List.getD]
      rw [List.getElem?_append_right (by omega), List.getElem?_drop, show l.length + (i - l.length) = i by omega]
  · rw [if_neg (by omega), Array.getElem?_eq_none (by rw [bysA_size]; omega), Array.getElem?_eq_none (by rw [bysA_size, hn]; omega)]
/-- Bytes go over the first ones of a row. -/
theorem copy_bytes {W : World} {g c2 cap d s k : Nat} {p : Option Addr} {r l : List Nat} (h : RowAt W g (bysA r)) (hd : d = r.length) (hs : s = l.length) (hk : k = min l.length r.length) (hB : Bs0 W p l) :
    (Builtin.copy_ #[22, 22] 3 #[.slice (some ⟨g, 0, none⟩) d c2, .slice p s cap]).run Tryd.prog W = .ok (.int .i64 (k : Int)) (W.setRow g (bysA (l.take k ++ r.drop k))) := by
  subst hd hs
  rcases hB with rfl | ⟨b, o, rfl, hB⟩
  · have hk0 : k = 0 := by simpa using hk
    subst hk0
    rw [List.take_zero, List.nil_append, List.drop_zero, setRow_self h]
    exact copy_none W _ _ _ _ _
  · have hl : (bys (l.take k)).length = k := by rw [bys_length, List.length_take]; omega
    have hi : (Tryd.prog.info? 5).map (·.size) = some 1 := by kernel_rfl
    have := run_copy_cells (P := Tryd.prog) W 22 22 3 5 g 0 r.length c2 ⟨b, o, none⟩ l.length cap (bys (l.take k)) Tryd.underlying22 hi (by rw [hl, hk])
      (fun j v hv => by
        have hj : j < k := by have := (List.getElem?_eq_some_iff.1 hv).1; omega
        rw [Addr.add_mid, hB.2 j (by omega), ← hv]
        simp only [bys, List.getElem?_map, List.getElem?_take, if_pos hj, List.getD]
        rw [List.getElem?_eq_getElem (by omega)]; rfl)
      (fun j hj => by rw [h.cellAt (0 + j) (Array.getElem?_eq_getElem (by rw [bysA_size]; omega))]; rfl)
      (fun j _ => h.frozenAt _) (bys_one _)
    rw [this, hl, setCells_row _ _ h, setL_bys _ _ (by rw [List.length_take]; omega)]
    rw [show (l.take k).length = k by rw [List.length_take]; omega]
    rfl
end Go.Proofs.YtikpglemnnbdcaaDoor
