/-
  Slices of bytes: those that a call made, with bytes laid behind them; copies; new ones.
-/
import Derived.Test.YtbhgmefdimjlaaaBytes
import Derived.Test.YtbhgmefdimjlaaaGrow
import Derived.OwnWalk
import Derived.Laws.AppendOwnNone
import Derived.Lib.AppendZerosOnto
import Derived.Great.BuildSlice
import Derived.Laws.MakeOwn
import Derived.Laws.OwnMore
namespace Go.Proofs.Ytbhgmefdimjlaaa
open Go.RowKit Go.Hold Go.Sh

theorem info_u8 : (Try.prog.info? 5).map (fun i => (i.zero, i.size, i.bytes)) = some (some (.int .u8 0), 1, 1) := by kernel_rfl
def OwnB (w : World) (B : Nat) (v : Value) (l : List Nat) : Prop := w.ownsRow B 5 1 v l.length (bys l)
theorem owns_below {w w' : World} {B : Nat} {e : TypeId} {v : Value} {n : Nat} {xs : List Value} (h : w.ownsRow B e 1 v n xs) (hb : Below w.heap.size w w') : w'.ownsRow B e 1 v n xs :=
  h.kept (row := none) ⟨hb.os, hb.tape, hb.output, hb.size, fun k hk _ => hb.block k hk⟩ (by cases hv : v.ownBlock <;> simp)
theorem OwnB.below {w w' : World} {B : Nat} {v : Value} {l : List Nat} (h : OwnB w B v l) (hb : Below w.heap.size w w') : OwnB w' B v l := owns_below h hb
theorem OwnB.snoc {w : World} {B : Nat} {v : Value} {l m : List Nat} (h : w.ownsRow B 5 1 v (l.length + m.length) (bys l ++ bys m)) : OwnB w B v (l ++ m) := by
  unfold OwnB
  rw [List.length_append, show bys (l ++ m) = bys l ++ bys m by simp [bys]]; exact h
theorem OwnB.addr {w : World} {B : Nat} {v : Value} {l : List Nat} {k : Nat} (h : OwnB w B v l) (hk : l.length = k) (h0 : 0 < k) : ∃ g cap, v = .slice (some ⟨g, 0, none⟩) k cap ∧ B ≤ g ∧ g < w.heap.size ∧ k ≤ cap := by
  subst hk
  rcases h.2 with ⟨_, h1⟩ | ⟨g, cap, cur, rfl, hb, hg, hc, _⟩
  · omega
  · exact ⟨g, cap, rfl, hb, (Array.getElem?_eq_some_iff.1 hg).1, hc⟩
theorem OwnB.bytes {w : World} {B g cap k : Nat} {l : List Nat} (h : OwnB w B (.slice (some ⟨g, 0, none⟩) k cap) l) (hg : g < w.heap.size) : BytesAt w g 0 l := by
  refine ⟨hg, fun i hi => ?_⟩
  have hk : k = l.length := by
    rcases h.2 with ⟨h1, _⟩ | ⟨g', cap', cur, he, _⟩
    · cases h1
    · cases he; rfl
  subst hk
  rw [Nat.zero_add, World.ownsRow.cellAt h i (by omega)]
  simp [bys, hi]
theorem OwnB.base {w : World} {B B' : Nat} {v : Value} {l : List Nat} (h : OwnB w B v l) (hB : B' ≤ B) : OwnB w B' v l := by
  refine ⟨h.1, ?_⟩
  rcases h.2 with hn | ⟨g, cap, cur, rfl, hb, rest⟩
  · exact .inl hn
  · exact .inr ⟨g, cap, cur, rfl, Nat.le_trans hB hb, rest⟩
/-- '[]byte{}', '[]uint32{}'. -/
theorem ownB_empty (w : World) (B : Nat) (hB : B ≤ w.heap.size) : OwnB (w.alloc (.cells #[] 5)) B (.slice (some ⟨w.heap.size, 0, none⟩) 0 0) [] :=
  ⟨rfl, .inr ⟨w.heap.size, 0, #[], rfl, hB, block_new w _, Nat.le_refl _, by decide, rfl, rfl⟩⟩
theorem bys_one (l : List Nat) : ∀ u ∈ bys l, u.oneCell' = true := fun u hu => by
  simp only [bys, List.mem_map] at hu
  obtain ⟨x, _, rfl⟩ := hu; rfl
theorem bys_at {w : World} {b o : Nat} {l : List Nat} (h : BytesAt w b o l) : ∀ j u, (bys l)[j]? = some u → w.cell? ((⟨b, o, none⟩ : Addr).add j) = some u := fun j u hu => by
  have hj : j < l.length := by have := (List.getElem?_eq_some_iff.1 hu).1; rwa [bys_length] at this
  rw [Addr.add_mid, h.2 j hj, ← hu]
  simp [bys, hj]
theorem maxLen_small {n : Nat} (h : n ≤ 16777216) : n ≤ maxLen := by unfold maxLen; omega
/-- A new block of one cell. -/
theorem one_cell {w : World} {v : Value} {t : TypeId} : ∀ j u, [v][j]? = some u → (w.alloc (.cells #[v] t)).cell? ((⟨w.heap.size, 0, none⟩ : Addr).add j) = some u := fun j u hu => by
  match j, hu with
  | 0, hu => simp at hu; subst hu; simp [Addr.add]
theorem one_cell' {w : World} {v : Value} {t : TypeId} {n : Nat} (h : n = w.heap.size) : ∀ j u, [v][j]? = some u → (w.alloc (.cells #[v] t)).cell? ((⟨n, 0, none⟩ : Addr).add j) = some u := by subst h; exact one_cell
theorem grown_below {B : Nat} {w w1 w2 : World} {e : TypeId} {v : Value} {n : Nat} {xs : List Value} (hb : Below B w w1) (ho : w1.ownsRow B e 1 v n xs) (hB : B ≤ w1.heap.size) (hg : w1.grownBy w2 v.ownBlock) : Below B w w2 :=
  hb.grown hg hB fun g hg' => (World.ownsRow.lt ho g hg').1
theorem OwnB.bs {w : World} {B : Nat} {v : Value} {l : List Nat} (h : OwnB w B v l) : ∃ p c, v = .slice p l.length c ∧ Bs0 w p l ∧ l.length ≤ c ∧ (p = none → c = 0) := by
  rcases h.2 with ⟨rfl, h0⟩ | ⟨g, cap, cur, rfl, hb, hg, hc, hm, hs, ht⟩
  · have : l = [] := List.length_eq_zero_iff.1 h0
    subst this
    exact ⟨none, 0, rfl, .inl rfl, Nat.le_refl _, fun _ => rfl⟩
  · exact ⟨some ⟨g, 0, none⟩, cap, rfl, .inr ⟨g, 0, rfl, OwnB.bytes h (Array.getElem?_eq_some_iff.1 hg).1⟩, hc, fun h => by cases h⟩
/-- Bytes are laid behind those of a slice of one's own. -/
theorem app_own {w : World} {B : Nat} {v : Value} {l m : List Nat} {p : Option Addr} {cap k : Nat} (h : OwnB w B v l) (hB : Bs0 w p m) (hk : k = m.length) (hp : p = none → cap = 0) (hBw : B ≤ w.heap.size) (hlen : l.length + m.length ≤ 16777216) :
    ∃ v' w', (Builtin.append_ #[26, 26] 26 #[v, .slice p k cap]).run Try.prog w = .ok v' w' ∧ OwnB w' B v' (l ++ m) ∧ w.grownBy w' v.ownBlock := by
  subst hk
  obtain ⟨i0, hi, hz0, hz1, hz2⟩ := info_parts info_u8
  cases p with
  | none =>
    have hm : m = [] := by
      rcases hB with h | ⟨b, o, h, _⟩
      · exact h
      · cases h
    subst hm
    rw [hp rfl]
    refine ⟨v, w, run_append_owned_none (P := Try.prog) (w := w) B _ _ _ i0 1 Try.underlying26 hi v _ _ h, by rw [List.append_nil]; exact h, ⟨rfl, rfl, rfl, Nat.le_refl _, fun _ _ _ => rfl⟩⟩
  | some a =>
    have hnews : ∀ j u, (bys m)[j]? = some u → w.cell? (a.add j) = some u := by
      rcases hB with rfl | ⟨b, o, he, hB⟩
      · intro j u hu; simp [bys] at hu
      · cases he; exact bys_at hB
    obtain ⟨v', w', h1, h2, h3, _⟩ := run_append_own (P := Try.prog) w B 26 26 5 i0 (.int .u8 0) 1 1 Try.underlying26 hi hz0 hz1 hz2 rfl (by decide) v l.length (bys l) h a m.length cap (bys m) (by rw [bys_length, Nat.mul_one]) hnews (bys_one m) (maxLen_small hlen) (by omega) hBw
    exact ⟨v', w', h1, OwnB.snoc h2, h3⟩
theorem own_below {B : Nat} {w w1 w2 : World} {v : Value} {l : List Nat} (hb : Below B w w1) (ho : OwnB w1 B v l) (hB : B ≤ w1.heap.size) (hg : w1.grownBy w2 v.ownBlock) : Below B w w2 := grown_below hb ho hB hg
theorem own_nil (w : World) (B : Nat) : OwnB w B (.slice none 0 0) [] := World.ownsRow_nil w B _ _
/-- What lay there before lies there still. -/
theorem Bs0.keep {w w' : World} {p : Option Addr} {l : List Nat} (h : Bs0 w p l) (hb : Below w.heap.size w w') : Bs0 w' p l := h.grow hb
theorem Bs0.some {w : World} {g o : Nat} {l : List Nat} (h : BytesAt w g o l) : Bs0 w (some ⟨g, o, none⟩) l := .inr ⟨g, o, rfl, h⟩
theorem slB_h (a : Option Addr) (len cap n : Nat) (h : n ≤ cap) (w : World) : (slB (.slice a len cap) none (some (.int .i64 (n : Int))) none).run Try.prog w = .ok (.slice a n cap) w := by
  unfold slB
  rw [run_sliceAt_slice _ _ _ _ _ _ elem8, run_slice_h _ _ _ _ _ elem8 _ _ (by omega) (by omega), size8]
  cases a <;> simp [sliced, Result.andThen, Addr.add]
@[go_sem] theorem slB_h0 (a : Option Addr) (len cap : Nat) (w : World) : (slB (.slice a len cap) none (some (.int .i64 0)) none).run Try.prog w = .ok (.slice a 0 cap) w := slB_h a len cap 0 (Nat.zero_le _) w
theorem slB_hm (a : Option Addr) (len cap n : Nat) (h : n ≤ cap) (w : World) : (slB (.slice a len cap) none (some (.int .i64 (n : Int))) (some (.int .i64 (n : Int)))).run Try.prog w = .ok (.slice a n n) w := by
  unfold slB
  rw [run_sliceAt_slice _ _ _ _ _ _ elem8, run_slice_hm _ _ _ _ _ elem8 _ _ _ _ (by omega) (Int.le_refl _) (by omega), size8]
  cases a <;> simp [sliced, Result.andThen, Addr.add]
def mkS (l c : Value) : Sem Value := Instr.makeSlice 26 l c
@[go_sem ↓] theorem fold_make (l c : Value) : Instr.makeSlice 26 l c = mkS l c := rfl
theorem made_zs (n : Nat) : madeCells (Value.int IntKind.u8 0).cells (n * 1) = bysA (zs n) := by
  apply Array.ext_getElem?
  intro i
  by_cases h : i < n
  · rw [bysA_get _ i (by rw [zs_length]; exact h)]
    simp only [madeCells, Array.getElem?_map, Array.getElem?_range, Nat.mul_one, if_pos h, Option.map_some, zs, List.getD, List.getElem?_replicate, Option.getD_some]
    rw [show (Value.int IntKind.u8 0).cells.size = 1 from rfl, Nat.mod_one]; rfl
  · rw [Array.getElem?_eq_none (by simp [madeCells]; omega), Array.getElem?_eq_none (by rw [bysA_size, zs_length]; omega)]
theorem run_mkS (w : World) (n : Nat) (h : n ≤ 16777216) : (mkS (.int .i64 (n : Int)) (.int .i64 (n : Int))).run Try.prog w = .ok (.slice (some ⟨w.heap.size, 0, none⟩) n n) (w.alloc (.cells (bysA (zs n)) 5)) := by
  obtain ⟨i0, hi, hz0, hz1, hz2⟩ := info_parts info_u8
  have := run_make (P := Try.prog) w 26 5 i0 (.int .u8 0) Try.underlying26 hi hz0 .i64 .i64 (n : Int) (n : Int) (by omega) (Int.le_refl _) (by rw [hz2]; omega) (by omega)
  unfold mkS
  rw [this, hz1, Int.toNat_natCast, made_zs]
@[go_sem] theorem run_mkS64 (w : World) : (mkS (.int .i64 64) (.int .i64 64)).run Try.prog w = .ok (.slice (some ⟨w.heap.size, 0, none⟩) 64 64) (w.alloc (.cells (bysA (zs 64)) 5)) := run_mkS w 64 (by decide)
theorem setL_bys (r l : List Nat) (h : l.length ≤ r.length) : setL (bysA r) 0 (bys l) = bysA (l ++ r.drop l.length) := by
  apply Array.ext_getElem?
  intro i
  rw [setL_get, bys_length, bysA_size]
  have hn : (l ++ r.drop l.length).length = r.length := by simp; omega
  by_cases hi : i < r.length
  · rw [bysA_get (l ++ r.drop l.length) i (by rw [hn]; exact hi)]
    by_cases h1 : i < l.length
    · rw [if_pos (by omega), Nat.sub_zero]
      simp [bys, List.getD, h1, List.getElem?_append_left h1]
    · rw [if_neg (by omega), bysA_get _ i hi]
      simp only [List.getD]
      rw [List.getElem?_append_right (by omega), List.getElem?_drop, show l.length + (i - l.length) = i by omega]
  · rw [if_neg (by omega), Array.getElem?_eq_none (by rw [bysA_size]; omega), Array.getElem?_eq_none (by rw [bysA_size, hn]; omega)]
/-- Bytes go over the first ones of a row. -/
theorem copy_bytes {W : World} {g c2 cap d s k : Nat} {p : Option Addr} {r l : List Nat} (h : RowAt W g (bysA r)) (hd : d = r.length) (hs : s = l.length) (hk : k = min l.length r.length) (hB : Bs0 W p l) :
    (Builtin.copy_ #[26, 26] 3 #[.slice (some ⟨g, 0, none⟩) d c2, .slice p s cap]).run Try.prog W = .ok (.int .i64 (k : Int)) (W.setRow g (bysA (l.take k ++ r.drop k))) := by
  subst hd hs
  rcases hB with rfl | ⟨b, o, rfl, hB⟩
  · have hk0 : k = 0 := by simpa using hk
    subst hk0
    rw [List.take_zero, List.nil_append, List.drop_zero, setRow_self h]
    exact copy_none W _ _ _ _ _
  · have hl : (bys (l.take k)).length = k := by rw [bys_length, List.length_take]; omega
    have hi : (Try.prog.info? 5).map (·.size) = some 1 := by kernel_rfl
    have := run_copy_cells (P := Try.prog) W 26 26 3 5 g 0 r.length c2 ⟨b, o, none⟩ l.length cap (bys (l.take k)) Try.underlying26 hi (by rw [hl, hk])
      (fun j v hv => by
        have hj : j < k := by have := (List.getElem?_eq_some_iff.1 hv).1; omega
        rw [Addr.add_mid, hB.2 j (by omega), ← hv]
        simp only [bys, List.getElem?_map, List.getElem?_take, if_pos hj, List.getD]
        rw [List.getElem?_eq_getElem (by omega)]; rfl)
      (fun j hj => by rw [h.cellAt (0 + j) (Array.getElem?_eq_getElem (by rw [bysA_size]; omega))]; rfl)
      (fun j _ => h.frozenAt _) (bys_one _)
    rw [this, hl, setCells_row _ _ h, setL_bys _ _ (by rw [List.length_take]; omega)]
    rw [show (l.take k).length = k by rw [List.length_take]; omega]
    rfl
/-- A slice of bytes as a value. -/
def SlV (w : World) (v : Value) (l : List Nat) : Prop := ∃ p c, v = .slice p l.length c ∧ Bs0 w p l ∧ l.length ≤ c ∧ (p = none → c = 0)
theorem SlV.grow {w w' : World} {v : Value} {l : List Nat} (h : SlV w v l) (hb : Below w.heap.size w w') : SlV w' v l := by
  obtain ⟨p, c, rfl, h1, h2, h3⟩ := h
  exact ⟨p, c, rfl, h1.grow hb, h2, h3⟩
theorem u8_wrap (n : Nat) : IntKind.u8.wrap (n : Int) = ((n % 256 : Nat) : Int) := by rw [IntKind.wrap_u8]; omega
def bldB (n : Nat) (ps : Array (Nat × Value)) : Sem Value := Instr.buildSlice 26 n ps
@[go_sem ↓] theorem fold_bldB (n : Nat) (ps : Array (Nat × Value)) : Instr.buildSlice 26 n ps = bldB n ps := rfl
set_option maxRecDepth 100000 in
@[go_sem] theorem run_bldB1 (w : World) (b : Int) : (bldB 1 #[(0, .int .u8 b)]).run Try.prog w = .ok (.slice (some ⟨w.heap.size, 0, none⟩) 1 1) (w.alloc (.cells #[.int .u8 b] 5)) := by
  obtain ⟨ie, h1, h2, h3, _⟩ := info_parts info_u8
  refine run_buildSlice w _ _ 1 _ #[.int .u8 b] ie _ Try.underlying26 h1 h2 (by rw [h3]; decide) (by rw [h3]; decide) ?_
  rw [h3]; kernel_rfl
theorem Bs0.take {w : World} {p : Option Addr} {l : List Nat} (h : Bs0 w p l) (n : Nat) : Bs0 w p (l.take n) := by
  rcases h with rfl | ⟨b, o, rfl, h⟩
  · exact .inl (by simp)
  · refine .inr ⟨b, o, rfl, h.1, fun i hi => ?_⟩
    rw [List.length_take] at hi
    rw [h.2 i (by omega)]
    simp [List.getD, show i < n by omega]
/-- One byte more: the slice lies where it lay, or in a new block. -/
theorem app_at {w : World} {B g : Nat} {v : Value} {l : List Nat} {y : Nat} (h : OwnB w B v l) (hg : BytesAt w g 0 [y]) (hBw : B ≤ w.heap.size) (hlen : l.length + 1 ≤ 16777216) :
    ∃ v' w', (Builtin.append_ #[26, 26] 26 #[v, .slice (some ⟨g, 0, none⟩) 1 1]).run Try.prog w = .ok v' w' ∧ OwnB w' B v' (l ++ [y]) ∧ w.grownBy w' v.ownBlock ∧
      (v'.ownBlock = v.ownBlock ∨ v'.ownBlock = some w.heap.size) := by
  obtain ⟨v', w', h1, h2, h3⟩ := app_own (k := 1) (cap := 1) h (Bs0.some hg) rfl (fun h => by cases h) hBw hlen
  refine ⟨v', w', h1, h2, h3, ?_⟩
  obtain ⟨i0, hi, hz0, hz1, hz2⟩ := info_parts info_u8
  have hnews := bys_at hg
  rcases h.2 with ⟨rfl, h0⟩ | ⟨g0, cap, cur, rfl, hb, hgg, hc, hm, hs, ht⟩
  · have hr := run_append_nil (P := Try.prog) w 26 26 5 i0 (.int .u8 0) Try.underlying26 hi hz0 ⟨g, 0, none⟩ 1 1 (bys [y]) (by rw [hz1]; rfl) hnews (by decide) (by decide) (by rw [hz2]; decide)
    rw [h1] at hr
    cases hr
    exact .inr rfl
  · by_cases hroom : l.length + 1 ≤ cap
    · have hr := run_append_room (P := Try.prog) w 26 26 5 i0 Try.underlying26 hi g0 l.length cap cur hgg ⟨g, 0, none⟩ 1 1 (bys [y]) (by rw [hz1]; rfl) hnews (bys_one _) hroom (by rw [hz1, bys_length]; simp only [List.length_cons, List.length_nil]; omega)
      rw [h1] at hr
      cases hr
      exact .inl rfl
    · have hr := run_append_grow (P := Try.prog) w 26 26 5 i0 (.int .u8 0) Try.underlying26 hi hz0 ⟨g0, 0, none⟩ l.length cap (bys l) (by rw [hz1, bys_length, Nat.mul_one]) (World.ownsRow.cells h (g := g0) rfl) ⟨g, 0, none⟩ 1 1 (bys [y]) (by rw [hz1]; rfl) hnews (by omega) (by omega) (by rw [hz2]; exact growslice_fits (by omega) (by omega))
      rw [h1] at hr
      cases hr
      exact .inr rfl
theorem OwnB.kept {w w' : World} {B : Nat} {v : Value} {l : List Nat} {row : Option Nat} (h : OwnB w B v l) (hg : w.grownBy w' row) (hne : v.ownBlock = none ∨ v.ownBlock ≠ row) : OwnB w' B v l := World.ownsRow.kept h hg hne
theorem OwnB.ltb {w : World} {B : Nat} {v : Value} {l : List Nat} (h : OwnB w B v l) (k : Nat) (hk : v.ownBlock = some k) : B ≤ k ∧ k < w.heap.size := World.ownsRow.lt h k hk
@[go_sem] theorem run_bldB0 (w : World) : (bldB 0 #[]).run Try.prog w = .ok (.slice (some ⟨w.heap.size, 0, none⟩) 0 0) (w.alloc (.cells #[] 5)) := by
  obtain ⟨ie, h1, h2, h3, _⟩ := info_parts info_u8
  simp [bldB, Instr.buildSlice, run_underlying Try.underlying26, sizeOf, typeInfo, h1, Instr.fill, Array.range_zero', newObj, newRow]
  rfl
theorem take_one (s : List Nat) (k : Nat) (h : k < s.length) : s.take k ++ [s.getD k 0] = s.take (k + 1) := by
  rw [List.take_add_one, List.getElem?_eq_getElem h]
  simp [List.getD, h]
end Go.Proofs.Ytbhgmefdimjlaaa
