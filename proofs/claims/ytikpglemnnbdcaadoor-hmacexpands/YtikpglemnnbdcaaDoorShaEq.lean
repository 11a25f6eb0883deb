/-
  Digests that are compared; a slice that is turned into its own type.
-/
import Derived.Test.YtikpglemnnbdcaaDoorShaSum
import Derived.ChangeKeysEq
import Derived.Lib.SlBytesConst
namespace Go.Proofs.YtikpglemnnbdcaaDoor
open Go.RowKit Go.Hold Go.Sh

/-- Two digests, byte by byte. -/
def keqs (s t : St) : Bool := (List.range 32).all fun i => sByte s i == sByte t i
@[go_sem] theorem keqs_self (s : St) : keqs s s = true := by simp [keqs]
theorem run_eqItems_int {P : Program} {e : TypeId} {k k' : IntKind} (d : Nat) (he : P.underlying e = some (.int k')) (xs ys : Array Value) (f g : Nat → Int) (w : World) : ∀ is : List Nat,
    (∀ i ∈ is, xs[i]? = some (.int k (f i)) ∧ ys[i]? = some (.int k (g i))) → (Op.eqItems (d + 1) e 1 xs ys is).run P w = .ok (is.all fun i => f i == g i) w
  | [], _ => by simp [Op.eqItems]
  | i :: is, h => by
    obtain ⟨h1, h2⟩ := h i (by simp)
    have hag : (isAgg e).run P w = .ok false w := by unfold isAgg; rw [Sem.run_bind, run_underlying he w]; simp
    have hp : ∀ (cs : Array Value) (v : Value), cs[i]? = some v → (part e cs (i * 1)).run P w = .ok v w := fun cs v hv => by
      unfold part; rw [Sem.run_bind, hag]; simp [hv]
    have ih := run_eqItems_int d he xs ys f g w is fun j hj => h j (by simp [hj])
    simp only [Op.eqItems, Sem.run_bind, hp xs _ h1, hp ys _ h2, Result.andThen_ok, run_equalIn_int w d e k k' (f i) (g i) he]
    cases hfg : (f i == g i)
    · simp [hfg]
    · simp [hfg, ih]
theorem keA_get (s : St) (i : Nat) (h : i < 32) : (keA s)[i]? = some (.int .u8 (sByte s i)) := by simp [keA, byI, keyL, h]
@[go_sem] theorem run_equalIn_keA (s t : St) (w : World) : (Op.equalIn 10000 25 (.agg (keA s)) (.agg (keA t))).run Tryd.prog w = .ok (keqs s t) w := by
  obtain ⟨i, hi⟩ : ∃ i, Tryd.prog.info? 5 = some i := Option.isSome_iff_exists.1 (by kernel_rfl)
  rw [run_equalIn_array w 9999 (keA s) (keA t) Tryd.underlying25 hi, show Tryd.prog.cellsOf 5 = 1 from by kernel_rfl]
  exact run_eqItems_int 9998 Tryd.underlying5 _ _ (sByte s) (sByte t) w _ fun j hj => ⟨keA_get s j (List.mem_range.1 hj), keA_get t j (List.mem_range.1 hj)⟩
@[go_sem] theorem run_equalIn_zs (w : World) : (Op.equalIn 10000 25 (.agg (bysA (zs 32))) (.agg (bysA (zs 32)))).run Tryd.prog w = .ok true w := by
  obtain ⟨i, hi⟩ : ∃ i, Tryd.prog.info? 5 = some i := Option.isSome_iff_exists.1 (by kernel_rfl)
  rw [run_equalIn_array w 9999 (bysA (zs 32)) (bysA (zs 32)) Tryd.underlying25 hi, show Tryd.prog.cellsOf 5 = 1 from by kernel_rfl]
  have := run_eqItems_int (P := Tryd.prog) (k := .u8) 9998 Tryd.underlying5 (bysA (zs 32)) (bysA (zs 32)) (fun _ => 0) (fun _ => 0) w (List.range 32) fun j hj => by
    have hj' : j < 32 := List.mem_range.1 hj
    have h0 : (bysA (zs 32))[j]? = some (.int .u8 0) := by
      rw [bysA_get _ j (by rw [zs_length]; exact hj')]
      unfold zs List.getD
      rw [List.getElem?_replicate, if_pos hj']; rfl
    exact ⟨h0, h0⟩
  rw [this]
  have e : ((List.range 32).all fun _ => (0 : Int) == 0) = true := by decide
  rw [e]
@[go_sem] theorem eqGuard_key (op : BinOp) (x y : Operand) (xs ys : Array Value) (w : World) : (eqGuard op 25 x y (.agg xs) (.agg ys)).run Tryd.prog w = .ok () w := run_eqGuard_agg w op 25 x y xs ys (by kernel_rfl)
@[go_sem] theorem run_conv (w : World) (C : Array Value) (n c : Nat) : (convert 22 22 (.slice (some ⟨w.heap.size, 0, none⟩) n c)).run Tryd.prog (w.alloc (.cells C 5)) = .ok (.slice (some ⟨w.heap.size, 0, none⟩) n c) (w.alloc (.cells C 5 (C.size, C.size + 1))) :=
  Lib.run_convert_bytes_const w _ _ C n c Tryd.underlying22 Tryd.underlying5
theorem bytes_new (w : World) (l : List Nat) (t : TypeId) (fr : Nat × Nat) : BytesAt (w.alloc (.cells (bysA l) t fr)) w.heap.size 0 l :=
  ⟨by simp, fun i hi => by rw [Nat.zero_add, cell_of_row _ _ i _ _ _ (block_new w _)]; exact bysA_get l i hi⟩
theorem bytes_row {w : World} {b : Nat} {l : List Nat} (h : RowAt w b (bysA l)) : BytesAt w b 0 l :=
  ⟨h.2.2, fun i hi => by rw [Nat.zero_add]; exact h.cellAt i (bysA_get l i hi)⟩
theorem bts_1 (a : Nat) (ha : a < 256) : ∀ i, [a].getD i 0 < 256 := getD_lt fun x hx => by simp at hx; omega
theorem bts_2 (a b : Nat) (ha : a < 256) (hb : b < 256) : ∀ i, [a, b].getD i 0 < 256 := getD_lt fun x hx => by simp at hx; omega
theorem bts_3 (a b c : Nat) (ha : a < 256) (hb : b < 256) (hc : c < 256) : ∀ i, [a, b, c].getD i 0 < 256 := getD_lt fun x hx => by simp at hx; omega
theorem bts_0 : ∀ i, ([] : List Nat).getD i 0 < 256 := fun i => by simp
end Go.Proofs.YtikpglemnnbdcaaDoor
