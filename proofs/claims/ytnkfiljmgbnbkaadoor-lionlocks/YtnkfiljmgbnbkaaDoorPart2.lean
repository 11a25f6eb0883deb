/-
  Part 2 of the texts behind the theorem.
-/
import Derived.Test.YtnkfiljmgbnbkaaDoorPart1
import Derived.ProofKit
import Derived.OpenShut
import Derived.ShutString
import Derived.ChangeOld
import Derived.Below
import Derived.ChangeMaps5
import Derived.Test.YtnkfiljmgbnbkaaDoorCards
import Derived.Test.YtnkfiljmgbnbkaaDoorTie
import Derived.Deep.DeepHandedRow
import Derived.Lib.LaidTab
import Derived.Stop.LaidErr
import Derived.OwnWalk
import Derived.Laws.AppendOwnNone
import Derived.Lib.AppendZerosOnto
import Derived.Great.BuildSlice
import Derived.Laws.MakeOwn
import Derived.Laws.OwnMore
import Derived.Laws.BitsAllLaws
/-
  Package sha: the words as bytes; a block's end.
-/
namespace Go.Proofs.YtnkfiljmgbnbkaaDoor
open Go.RowKit Go.Hold Go.Sh

theorem cast_tmod (k : Nat) : (k : Int).tmod 4 = ((k % 4 : Nat) : Int) := rfl
set_option maxHeartbeats 1000000 in
set_option maxRecDepth 100000 in
theorem key_c (s : St) (w : World) :
    Calls Tryd.prog 68 #[.agg (stA s)] w fun e w' => e = .returned (.agg (keA s)) ∧ Below w.heap.size w w' := by
  go_enter Tryd.func68, Tryd.ntmps68
  go_wp2_with fail
  generalize hW : World.alloc _ _ = W1
  have R0 := Lib.hid (show RowAt W1 w.heap.size (stA s) by rw [← hW]; clear hW; exact ⟨by go_simp, by go_simp, by go_simp⟩)
  have Q0 := Lib.hid (show RowAt W1 (w.heap.size + 1) (byI (keyZ s 0)) by rw [← hW]; clear hW; exact ⟨by go_simp, by go_simp; rfl, by go_simp⟩)
  have K0 := Lib.hid (show RowAt W1 (w.heap.size + 1 + 1) (byI (keyZ s 0)) by rw [← hW]; clear hW; exact ⟨by go_simp, by go_simp; rfl, by go_simp⟩)
  have B0 := Lib.hid (show Below w.heap.size w W1 by rw [← hW]; repeat (first | apply below_more | apply below_alloc | apply Below.drew | exact Below.refl _ _))
  clear hW
  go_loopw [5] (fun i wr => ∃ k : Nat, k ≤ 32 ∧ i = .int .i64 k ∧ RowAt wr (w.heap.size + 1 + 1) (byI (keyZ s k)) ∧ Below (w.heap.size + 1 + 1) W1 wr) (fun i _ => 32 - (intOf i).toNat)
  case atStart => exact ⟨0, by decide, rfl, K0.out, Below.refl _ _⟩
  case round =>
    obtain ⟨k, hk, rfl, hrow, hbel⟩ := hrel
    by_cases hk32 : k < 32
    · have hk0 : (0 : Int) ≤ (k : Int) := by omega
      have hk1 : (k : Int) < 32 := by omega
      have hq : (k : Int).tdiv 4 = ((k / 4 : Nat) : Int) := rfl
      have hm := cast_tmod k
      have hc := (R0.out.keep hbel (by omega)).cellAt (k / 4) (stA_get s (k / 4) (by omega))
      have hck := hrow.cellAt k (byI_get _ _ (keyZ_get s k k hk32))
      have hfk := hrow.frozenAt k
      have Hset := Lib.hid (keyZ_set s k hk32)
      have h0 : (0 : Int) ≤ ((k / 4 : Nat) : Int) := by omega
      have h8 : ((k / 4 : Nat) : Int) < 8 := by omega
      obtain ⟨m, em⟩ : ∃ y, y = k % 4 * 8 := ⟨_, rfl⟩
      obtain ⟨y, ey⟩ : ∃ y, y = 24 - k % 4 * 8 := ⟨_, rfl⟩
      have h1 : IntKind.i64.wrap (((k % 4 : Nat) : Int) * 8) = (m : Int) := by rw [IntWalk.i64_in _ (by omega)]; omega
      have h2 : IntKind.i64.wrap (24 - (m : Int)) = (y : Int) := by rw [IntWalk.i64_in _ (by omega)]; omega
      have hy0 : (0 : Int) ≤ (y : Int) := by omega
      have hy1 : (y : Int) ≤ 32 := by omega
      obtain ⟨v, ev⟩ : ∃ v, v = sByte s k := ⟨_, rfl⟩
      rw [← ev] at Hset
      unfold sByte at ev
      rw [← ey] at ev
      have hv := ev.symm
      clear em ey ev
      generalize sWord s (k / 4) = x at hc hv
      generalize k / 4 = q at *
      generalize k % 4 = r4 at *
      have Hrow := Lib.hid hrow
      have Hbel := Lib.hid hbel
      clear hrow hbel
      go_wp2_with fail
      go_roundw
      case rel =>
        refine ⟨k + 1, by omega, by go_num, ?_, ?_⟩
        · rw [← Hset.out, ← byI_set]; exact Hrow.out.setCell _ _
        · exact Hbel.out.setCell (p := ⟨_, _, none⟩) (Nat.le_refl _) _
      case measure => simp [intOf]; omega
    · obtain rfl : k = 32 := by omega
      rw [keyZ_all] at hrow
      have hr : RowAt wr (w.heap.size + 1 + 1) (keA s) := hrow
      obtain ⟨q1, q2, q3⟩ := Q0.out.keep hbel (by omega)
      obtain ⟨r1, r2, r3⟩ := hr
      have hz : (byI (keyZ s 0)).size = 32 := by rw [byI_size, keyZ_length]
      have Hbel := Lib.hid hbel
      clear hrow hbel
      go_wp2_with fail
      refine bodyPost_ret (v := .agg (keA s)) (results_key Tryd.results68 (keA_size s) _ _ _ rfl (by go_simp) (by go_simp)) rfl ⟨rfl, ?_⟩
      exact below_setRow (B0.out.trans (Hbel.out.mono (by omega))) (by omega) _

set_option maxHeartbeats 1000000 in
set_option maxRecDepth 100000 in
theorem putLength_c (g n : Nat) (r : List Nat) (hr : r.length = 64) (hn : n < 1152921504606846976) (w : World) (h : RowAt w g (bysA r)) :
    Calls Tryd.prog 67 #[.pointer (some ⟨g, 0, none⟩), .int .i64 (n : Int)] w fun e w' => e = .returned (.tuple #[]) ∧ w' = w.setRow g (bysA (r.take 56 ++ len8 n)) := by
  have H := Lib.hid h
  have h1 : IntKind.u64.wrap (n : Int) = (n : Int) := by rw [IntWalk.u64_in _ (by omega)]
  obtain ⟨N, eN⟩ : ∃ N, N = n * 8 := ⟨_, rfl⟩
  have h2 : IntKind.u64.wrap ((n : Int) * 8) = (N : Int) := by rw [IntWalk.u64_in _ (by omega), eN]; omega
  have HN := Lib.hid eN
  clear h eN
  go_enter Tryd.func67, Tryd.ntmps67
  go_wp2_with fail
  go_loopw [4, 5] (fun x i wr => ∃ (j : Nat) (k : Nat), j ≤ 8 ∧ k + j = 63 ∧ i = .int .i64 k ∧ x = .int .u64 ((N / 256 ^ j : Nat) : Int) ∧ wr = w.setRow g (bysA (lenP r n j))) (fun _ i _ => (intOf i).toNat)
  case atStart => exact ⟨0, 63, by decide, rfl, rfl, by simp, by rw [lenP_zero r n hr]; exact (setRow_self H.out).symm⟩
  case round =>
    obtain ⟨j, k, hj, hkj, rfl, rfl, rfl⟩ := hrel
    by_cases hj8 : j < 8
    · obtain ⟨x, ex⟩ : ∃ x, x = N / 256 ^ j := ⟨_, rfl⟩
      rw [← ex]
      obtain ⟨y, ey⟩ : ∃ y, y = x % 256 := ⟨_, rfl⟩
      obtain ⟨z, ez⟩ : ∃ z, z = x / 256 := ⟨_, rfl⟩
      have hxy : (x : Int) % 256 = (y : Int) := by omega
      have hxz : (x : Int) / 256 = (z : Int) := by omega
      have hk0 : (56 : Int) ≤ (k : Int) := by omega
      have hk1 : (k : Int) < 64 := by omega
      have hk2 : (0 : Int) ≤ (k : Int) := by omega
      have RR := H.out.set (bysA (lenP r n j))
      have hck := RR.cellAt k (bysA_get _ k (by rw [lenP_length]; omega))
      have hfk := RR.frozenAt k
      have Hset := Lib.hid (show (bysA (lenP r n j)).setIfInBounds k (.int .u8 (y : Int)) = bysA (lenP r n (j + 1)) by
        rw [bysA_set, ← lenP_set r n j hj8, ey, ex, HN.out, show 63 - j = k by omega])
      have Hz := Lib.hid (show z = N / 256 ^ (j + 1) by rw [ez, ex, Nat.pow_succ, Nat.div_div_eq_div_mul])
      clear ex ey ez RR
      generalize hW : w.setRow g (bysA (lenP r n j)) = W at *
      have HW := Lib.hid hW
      clear hW
      go_wp2_with fail
      go_roundw
      case rel =>
        refine ⟨j + 1, k - 1, by omega, by omega, by congr 1; omega, by rw [Hz.out], ?_⟩
        rw [← HW.out, setCell_setRow H.out, Hset.out]
      case measure => simp [intOf]; omega
    · obtain rfl : j = 8 := by omega
      obtain rfl : k = 55 := by omega
      rw [lenP_all r n hr]
      go_wp2_with fail
      go_end0
      exact ⟨rfl, rfl⟩
end Go.Proofs.YtnkfiljmgbnbkaaDoor

/-
  A hash's row: its parts are read and written in its middle.
-/
namespace Go.Proofs.YtnkfiljmgbnbkaaDoor
open Go.RowKit Go.Hold Go.Sh

/-! ### Some cells of a row are set -/
/-! ### A hash's parts -/
theorem hasA_get (m : Bool) (n : Int) (s : St) (r : List Nat) (i : Nat) (h : i < r.length) : (hasA m n s r)[10 + i]? = some (.int .u8 ((r.getD i 0 : Nat) : Int)) := by
  have : (hasA m n s r)[10 + i]? = (bys r)[i]? := by
    simp only [hasA, List.getElem?_toArray]
    rw [show 10 + i = (8 + i) + 1 + 1 by omega, List.getElem?_cons_succ, List.getElem?_cons_succ, List.getElem?_append_right (by simp [stA])]
    simp [stA]
  rw [this]
  simp [bys, h]
def stPart (c : Array Value) : Array Value := c.extract 2 10
def rsPart (c : Array Value) : Array Value := c.extract 10 74
@[go_sem] theorem stPart_has (m : Bool) (n : Int) (s : St) (r : List Nat) : stPart (hasA m n s r) = stA s := by
  apply Array.ext_getElem?
  intro i
  unfold stPart hasA stA
  rw [Array.getElem?_extract]
  by_cases h : i < 8
  · have : i = 0 ∨ i = 1 ∨ i = 2 ∨ i = 3 ∨ i = 4 ∨ i = 5 ∨ i = 6 ∨ i = 7 := by omega
    rcases this with rfl | rfl | rfl | rfl | rfl | rfl | rfl | rfl <;> simp
  · rw [if_neg (by simp; omega), Array.getElem?_eq_none (by simp; omega)]
theorem rsPart_has (m : Bool) (n : Int) (s : St) (r : List Nat) (hr : r.length = 64) : rsPart (hasA m n s r) = bysA r := by
  apply Array.ext_getElem?
  intro i
  unfold rsPart
  rw [Array.getElem?_extract, hasA_size, hr]
  by_cases h : i < 64
  · rw [if_pos (by omega), hasA_get _ _ _ _ _ (by omega), bysA_get _ _ (by omega)]
  · rw [if_neg (by omega), Array.getElem?_eq_none (by rw [bysA_size]; omega)]
theorem setL_state (m : Bool) (n : Int) (s s' : St) (r : List Nat) : setL (hasA m n s r) 2 (stA s').toList = hasA m n s' r := by
  simp [setL, hasA, stA]
theorem setL_rest (m : Bool) (n : Int) (s : St) (r l : List Nat) (u : Nat) (h : u + l.length ≤ r.length) : setL (hasA m n s r) (10 + u) (bys l) = hasA m n s (r.take u ++ l ++ r.drop (u + l.length)) := by
  have hbl : (bys l).length = l.length := by simp [bys]
  have hnew : (r.take u ++ l ++ r.drop (u + l.length)).length = r.length := by simp; omega
  apply Array.ext_getElem?
  intro i
  rw [setL_get, hbl, hasA_size]
  by_cases h10 : i < 10
  · rw [if_neg (by omega)]
    have : i = 0 ∨ i = 1 ∨ i = 2 ∨ i = 3 ∨ i = 4 ∨ i = 5 ∨ i = 6 ∨ i = 7 ∨ i = 8 ∨ i = 9 := by omega
    rcases this with rfl | rfl | rfl | rfl | rfl | rfl | rfl | rfl | rfl | rfl <;> simp [hasA, stA]
  · obtain ⟨j, rfl⟩ : ∃ j, i = 10 + j := ⟨i - 10, by omega⟩
    by_cases hj : j < r.length
    · rw [hasA_get m n s r j hj, hasA_get m n s (r.take u ++ l ++ r.drop (u + l.length)) j (by omega)]
      by_cases h1 : u ≤ j ∧ j < u + l.length
      · rw [if_pos (by omega)]
        simp only [bys, List.getElem?_map, List.getD]
        rw [show 10 + j - (10 + u) = j - u by omega, List.append_assoc, List.getElem?_append_right (by simp; omega), List.getElem?_append_left (by simp; omega)]
        simp only [List.length_take]
        rw [show min u r.length = u by omega, List.getElem?_eq_getElem (by omega)]
        rfl
      · rw [if_neg (by omega)]
        congr 3
        simp only [List.getD]
        by_cases h2 : j < u
        · rw [List.append_assoc, List.getElem?_append_left (by simp; omega), List.getElem?_take, if_pos h2]
        · rw [List.getElem?_append_right (by simp; omega), List.getElem?_drop]
          congr 2
          simp only [List.length_append, List.length_take]; omega
    · rw [if_neg (by omega), Array.getElem?_eq_none (by rw [hasA_size]; omega), Array.getElem?_eq_none (by rw [hasA_size]; omega)]
theorem setL_len (m : Bool) (n n' : Int) (s : St) (r : List Nat) : (hasA m n s r).setIfInBounds 1 (.int .i64 n') = hasA m n' s r := by
  simp [hasA]

/-! ### As the walk meets them -/
section
variable (w : World) (n : Nat)
@[go_sem] theorem run_loadState (h1 : w.isRow n = true) (h2 : (w.rowOf n).size = 74) : (loadRow 85 (.pointer (some ⟨n, 2, none⟩))).run Tryd.prog w = .ok (.agg (stPart (w.rowOf n))) w := by
  obtain ⟨t, ht⟩ := World.isRow_spec h1
  exact run_loadAt_mid w n 2 _ (stPart (w.rowOf n)).toList _ (World.rangeAt_of_block ht 2 8) Tryd.underlying85 rfl (by
    have : (stPart (w.rowOf n)).toList.length = 8 := by simp [stPart, h2]
    have e : (Tryd.prog.info? 85).map (·.size) = some 8 := by kernel_rfl
    rw [this]; exact e)
@[go_sem] theorem run_loadRest (h1 : w.isRow n = true) (h2 : (w.rowOf n).size = 74) : (loadRow 86 (.pointer (some ⟨n, 10, none⟩))).run Tryd.prog w = .ok (.agg (rsPart (w.rowOf n))) w := by
  obtain ⟨t, ht⟩ := World.isRow_spec h1
  exact run_loadAt_mid w n 10 _ (rsPart (w.rowOf n)).toList _ (World.rangeAt_of_block ht 10 64) Tryd.underlying86 rfl (by
    have : (rsPart (w.rowOf n)).toList.length = 64 := by simp [rsPart, h2]
    have e : (Tryd.prog.info? 86).map (·.size) = some 64 := by kernel_rfl
    rw [this]; exact e)
end
end Go.Proofs.YtnkfiljmgbnbkaaDoor

/-
  Package sha: a hash that is begun, asked, written to.
-/
namespace Go.Proofs.YtnkfiljmgbnbkaaDoor
open Go.RowKit Go.Hold Go.Sh

theorem Hs_get (j : Nat) (h : j < 8) : Hs.getD j 0 = sWord st0 j := by
  have : j = 0 ∨ j = 1 ∨ j = 2 ∨ j = 3 ∨ j = 4 ∨ j = 5 ∨ j = 6 ∨ j = 7 := by omega
  rcases this with rfl | rfl | rfl | rfl | rfl | rfl | rfl | rfl <;> rfl
theorem load_first {w : World} (h : Tabs w) : (loadRow 85 (.pointer (some ⟨0, 0, none⟩))).run Tryd.prog w = .ok (.agg (stA st0)) w := by
  have e : (Tryd.prog.info? 85).map (·.size) = some 8 := by kernel_rfl
  refine run_loadAt_mid w 0 0 _ (stA st0).toList _ (fun j v hv => ?_) Tryd.underlying85 rfl e
  have hj : j < 8 := by
    have := (List.getElem?_eq_some_iff.1 hv).1
    simpa [stA] using this
  rw [Array.getElem?_toList, stA_get st0 j hj] at hv
  rw [Nat.zero_add, h.2.1 j hj, Hs_get j hj]; exact hv
theorem zsize : (hasA false 0 stz (zs 64)).size = 74 := by rw [hasA_size]; rfl
set_option maxRecDepth 100000 in
@[go_sem ↓ high] theorem run_zeroHash (w : World) : (zeroValue 88).run Tryd.prog w = .ok (.agg (hasA false 0 stz (zs 64))) w := by
  obtain ⟨i, hi⟩ : ∃ i, Tryd.prog.info? 88 = some i := Option.isSome_iff_exists.1 (by kernel_rfl)
  have hz : (Tryd.prog.info? 88).bind (·.zero) = some (.agg (hasA false 0 stz (zs 64))) := by kernel_rfl
  rw [hi] at hz
  have hz' : i.zero = some (.agg (hasA false 0 stz (zs 64))) := hz
  simp [zeroValue, typeInfo, hi, hz', Sem.run_bind]
set_option maxHeartbeats 400000 in
set_option maxRecDepth 100000 in
theorem begun_c (w : World) (hT : Tabs w) : Calls Tryd.prog 56 #[] w fun e w' => e = .returned (.agg (hasA true 0 st0 (zs 64))) ∧ Below w.heap.size w w' := by
  have hl : ∀ ob, (loadRow 85 (.pointer (some ⟨0, 0, none⟩))).run Tryd.prog (w.alloc ob) = .ok (.agg (stA st0)) (w.alloc ob) := fun ob => load_first (hT.grow (below_alloc (Below.refl _ _) _))
  have hs : (hasA true 0 st0 (zs 64)).size = 74 := by rw [hasA_size]; rfl
  have hz := zsize
  clear hT
  go_enter Tryd.func56, Tryd.ntmps56
  go_wp2_with fail
  refine bodyPost_ret (v := .agg (hasA true 0 st0 (zs 64))) (results_hash Tryd.results56 hs _ _ _ rfl (by go_simp) (by go_simp)) rfl ⟨rfl, ?_⟩
  repeat (first | apply below_more | apply below_alloc | apply Below.drew | refine below_setRow ?_ (by omega) _ | exact Below.refl _ _)
end Go.Proofs.YtnkfiljmgbnbkaaDoor

/-
  Package sha: the digest of what a hash has.
-/
namespace Go.Proofs.YtnkfiljmgbnbkaaDoor
open Go.RowKit Go.Hold Go.Sh

theorem cast_tmod64 (k : Nat) : (k : Int).tmod 64 = ((k % 64 : Nat) : Int) := rfl
set_option maxHeartbeats 2000000 in
set_option maxRecDepth 100000 in
theorem digest_c (g n : Nat) (s : St) (r : List Nat) (w : World) (hT : Tabs w) (h : RowAt w g (hasA true n s r)) (hr : r.length = 64) (hrb : ∀ i, r.getD i 0 < 256) (hn : n < 1152921504606846976) :
    Calls Tryd.prog 58 #[.pointer (some ⟨g, 0, none⟩)] w fun e w' => e = .returned (.agg (keA (digF n s r))) ∧ Below w.heap.size w w' := by
  have HT := Lib.hid hT
  obtain ⟨h1, h2, h3⟩ := h
  have hs : (hasA true n s r).size = 74 := by rw [hasA_size, hr]
  have hrs := rsPart_has true n s r hr
  have hbr : (bysA r).size = 64 := by rw [bysA_size, hr]
  have h4 : g < w.heap.size + 1 := by omega
  have h5 : g < w.heap.size + 1 + 1 := by omega
  have h6 : g < w.heap.size + 1 + 1 + 1 := by omega
  have hgw := h3
  clear hT
  go_enter Tryd.func58, Tryd.ntmps58
  go_wp2_with fail
  go_region
  · generalize hW : World.drew _ = W1
    have hR0 := Lib.hid (show ∃ c, c.size = 32 ∧ RowAt W1 w.heap.size c by rw [← hW]; clear hW; exact ⟨byI (List.replicate 32 0), by simp [byI], by go_simp, by go_simp; rfl, by go_simp⟩)
    have hP0 := Lib.hid (show RowAt W1 (w.heap.size + 1) (stA s) by rw [← hW]; clear hW; exact ⟨by go_simp, by go_simp, by go_simp⟩)
    have hQ0 := Lib.hid (show RowAt W1 (w.heap.size + 1 + 1) (bysA r) by rw [← hW]; clear hW; exact ⟨by go_simp, by go_simp, by go_simp⟩)
    have hG0 := Lib.hid (show RowAt W1 g (hasA true n s r) by rw [← hW]; clear hW; exact ⟨by go_simp, by go_simp, by go_simp⟩)
    have B0 := Lib.hid (show Below w.heap.size w W1 by rw [← hW]; repeat (first | apply below_more | apply below_alloc | apply Below.drew | exact Below.refl _ _))
    clear hW
    obtain ⟨p, ep⟩ : ∃ p, p = w.heap.size + 1 := ⟨_, rfl⟩
    obtain ⟨q, eq⟩ : ∃ q, q = w.heap.size + 1 + 1 := ⟨_, rfl⟩
    have npq : ¬ p = q := by omega
    have nqp : ¬ q = p := by omega
    have lp : w.heap.size < p := by omega
    have lq : w.heap.size < q := by omega
    rw [← eq] at hQ0 ⊢
    rw [← ep] at hP0 ⊢
    clear ep eq h1 h2 h3 h4 h5 h6
    have hcn := hG0.out.cellAt 1 (show (hasA true n s r)[1]? = some (.int .i64 n) from rfl)
    have hu := cast_tmod64 n
    obtain ⟨u, eu⟩ : ∃ u, u = n % 64 := ⟨_, rfl⟩
    rw [← eu] at hu
    have hu0 : (0 : Int) ≤ (u : Int) := by omega
    have hu1 : (u : Int) < 64 := by omega
    have hul : u < r.length := by omega
    have hqu := hQ0.out.cellAt u (bysA_get r u hul)
    have hqf := hQ0.out.frozenAt u
    have HE := Lib.hid eu
    clear eu
    have hQ1 := Lib.hid (show RowAt (W1.setCell ⟨q, u, none⟩ (.int .u8 128)) q (bysA (r.set u 128)) from (by rw [← bysA_set]; exact hQ0.out.setCell u _))
    have hset := setCell_row hQ0.out u (.int .u8 128)
    have hP1 := Lib.hid (hP0.out.other npq ((bysA r).setIfInBounds u (.int .u8 128)))
    have hG1 := Lib.hid (hG0.out.other (show g ≠ q by omega) ((bysA r).setIfInBounds u (.int .u8 128)))
    obtain ⟨c0, hc0, hR1⟩ := hR0.out
    replace hR1 := Lib.hid (show ∃ c, c.size = 32 ∧ RowAt _ w.heap.size c from ⟨c0, hc0, hR1.other (show w.heap.size ≠ q by omega) ((bysA r).setIfInBounds u (.int .u8 128))⟩)
    have B1 := Lib.hid (below_setRow B0.out (show w.heap.size ≤ q by omega) ((bysA r).setIfInBounds u (.int .u8 128)))
    rw [← hset] at hP1 hG1 hR1 B1
    have hl1 : (r.set u 128).length = 64 := by rw [List.length_set, hr]
    have hs1 : (bysA (r.set u 128)).size = 64 := by rw [bysA_size, hl1]
    have hb1 := bts_set hrb (show 128 < 256 by decide) u
    clear hset hc0 c0
    by_cases h56 : 56 ≤ u
    · have h56' : (56 : Int) ≤ (u : Int) := by omega
      obtain ⟨a1, a2, a3⟩ := hP1.out
      obtain ⟨b1, b2, b3⟩ := hQ1.out
      go_wp2_with fail
      clear hcn hqu hqf hQ0 hP0 hG0 hR0 B0
      generalize W1.setCell ⟨q, u, none⟩ (.int .u8 128) = W2 at *
      refine (behind_c _ _ hl1 hb1 _ (HT.out.grow B1.out)).mono ?_
      rintro e w' ⟨rfl, hbw⟩
      have hzz : (bysA (zs 64)).size = 64 := by rw [bysA_size]; rfl
      have hP2 := Lib.hid (((hP1.out.grow hbw).set (stA (scmp s (r.set u 128)))).other npq (bysA (zs 64)))
      have hQ2 := Lib.hid (((hQ1.out.grow hbw).other nqp (stA (scmp s (r.set u 128)))).set (bysA (zs 64)))
      have hG2 := Lib.hid (((hG1.out.grow hbw).other (show g ≠ p by omega) (stA (scmp s (r.set u 128)))).other (show g ≠ q by omega) (bysA (zs 64)))
      obtain ⟨c0, hc0, hR2⟩ := hR1.out
      replace hR2 := Lib.hid (show ∃ c, c.size = 32 ∧ RowAt _ w.heap.size c from ⟨c0, hc0, ((hR2.grow hbw).other (show w.heap.size ≠ p by omega) (stA (scmp s (r.set u 128)))).other (show w.heap.size ≠ q by omega) (bysA (zs 64))⟩)
      have B2 := Lib.hid (below_setRow (below_setRow (B1.out.trans (hbw.mono B1.out.size)) (show w.heap.size ≤ p by omega) (stA (scmp s (r.set u 128)))) (show w.heap.size ≤ q by omega) (bysA (zs 64)))
      have A1 := hP1.out.grow hbw
      have A2 := hQ1.out.grow hbw
      clear a1 a2 a3 b1 b2 b3
      obtain ⟨a1, a2, a3⟩ := A1
      obtain ⟨b1, b2, b3⟩ := A2
      have hcm := hG2.out.cellAt 1 (show (hasA true n s r)[1]? = some (.int .i64 n) from rfl)
      clear hbw
      go_wp2_with fail
      generalize (w'.setRow p (stA (scmp s (r.set u 128)))).setRow q (bysA (zs 64)) = W3 at *
      clear a1 a2 a3 b1 b2 b3 hP1 hQ1 hG1 hR1 B1 hc0 c0 hcm
      refine (putLength_c q n _ rfl hn _ hQ2.out).mono ?_
      rintro e w' ⟨rfl, rfl⟩
      have hP9 := Lib.hid (hP2.out.other npq (bysA ((zs 64).take 56 ++ len8 n)))
      have hQ9 := Lib.hid (hQ2.out.set (bysA ((zs 64).take 56 ++ len8 n)))
      obtain ⟨c0, hc0, hR9⟩ := hR2.out
      replace hR9 := Lib.hid (hR9.other (show w.heap.size ≠ q by omega) (bysA ((zs 64).take 56 ++ len8 n)))
      have B9 := Lib.hid (below_setRow B2.out (show w.heap.size ≤ q by omega) (bysA ((zs 64).take 56 ++ len8 n)))
      generalize W3.setRow q (bysA ((zs 64).take 56 ++ len8 n)) = W9 at *
      have hs9 : (bysA ((zs 64).take 56 ++ len8 n)).size = 64 := by rw [bysA_size]; exact rfl
      obtain ⟨a1, a2, a3⟩ := hP9.out
      obtain ⟨b1, b2, b3⟩ := hQ9.out
      obtain ⟨r1, r2, r3⟩ := hR9.out
      go_wp2_with fail
      refine (behind_c _ _ rfl (bts_app (bts_take (bts_zs 64) 56) (bts_len8 n)) _ (HT.out.grow B9.out)).mono ?_
      rintro e w' ⟨rfl, hbw⟩
      obtain ⟨oc1, nc1, rfl⟩ := below_plus hbw
      clear hbw
      go_wp2_with fail
      refine (key_c _ _).mono ?_
      rintro e w' ⟨rfl, hbw⟩
      obtain ⟨oc2, nc2, rfl⟩ := below_plus hbw
      clear hbw
      have hlt : w.heap.size < W9.heap.size + oc1.size := by omega
      go_wp2_with fail
      refine bodyPost_ret (v := .agg (keA (digF n s r))) (results_key Tryd.results58 (keA_size _) _ _ _ rfl (by go_simp) (by go_simp; unfold digF; rw [← HE.out, if_pos h56])) rfl ⟨rfl, ?_⟩
      repeat (first | apply below_more | refine below_setRow ?_ (Nat.le_refl _) _ | exact B9.out)
    · have h56' : ¬ (56 : Int) ≤ (u : Int) := by omega
      have hcm := hG1.out.cellAt 1 (show (hasA true n s r)[1]? = some (.int .i64 n) from rfl)
      go_wp2_with fail
      clear hcn hqu hqf hQ0 hP0 hG0 hR0 B0 hcm
      generalize W1.setCell ⟨q, u, none⟩ (.int .u8 128) = W2 at *
      refine (putLength_c q n _ hl1 hn _ hQ1.out).mono ?_
      rintro e w' ⟨rfl, rfl⟩
      have hP9 := Lib.hid (hP1.out.other npq (bysA ((r.set u 128).take 56 ++ len8 n)))
      have hQ9 := Lib.hid (hQ1.out.set (bysA ((r.set u 128).take 56 ++ len8 n)))
      obtain ⟨c0, hc0, hR9⟩ := hR1.out
      replace hR9 := Lib.hid (hR9.other (show w.heap.size ≠ q by omega) (bysA ((r.set u 128).take 56 ++ len8 n)))
      have B9 := Lib.hid (below_setRow B1.out (show w.heap.size ≤ q by omega) (bysA ((r.set u 128).take 56 ++ len8 n)))
      generalize W2.setRow q (bysA ((r.set u 128).take 56 ++ len8 n)) = W9 at *
      have hs9 : (bysA ((r.set u 128).take 56 ++ len8 n)).size = 64 := by rw [bysA_size]; exact (by rw [List.length_append, List.length_take, hl1]; rfl)
      obtain ⟨a1, a2, a3⟩ := hP9.out
      obtain ⟨b1, b2, b3⟩ := hQ9.out
      obtain ⟨r1, r2, r3⟩ := hR9.out
      go_wp2_with fail
      refine (behind_c _ _ (by rw [List.length_append, List.length_take, hl1]; rfl) (bts_app (bts_take hb1 56) (bts_len8 n)) _ (HT.out.grow B9.out)).mono ?_
      rintro e w' ⟨rfl, hbw⟩
      obtain ⟨oc1, nc1, rfl⟩ := below_plus hbw
      clear hbw
      go_wp2_with fail
      refine (key_c _ _).mono ?_
      rintro e w' ⟨rfl, hbw⟩
      obtain ⟨oc2, nc2, rfl⟩ := below_plus hbw
      clear hbw
      have hlt : w.heap.size < W9.heap.size + oc1.size := by omega
      go_wp2_with fail
      refine bodyPost_ret (v := .agg (keA (digF n s r))) (results_key Tryd.results58 (keA_size _) _ _ _ rfl (by go_simp) (by go_simp; unfold digF; rw [← HE.out, if_neg h56])) rfl ⟨rfl, ?_⟩
      repeat (first | apply below_more | refine below_setRow ?_ (Nat.le_refl _) _ | exact B9.out)
  · generalize hW : World.drew _ = W1
    have hR0 := Lib.hid (show ∃ c, c.size = 32 ∧ RowAt W1 w.heap.size c by rw [← hW]; clear hW; exact ⟨byI (List.replicate 32 0), by simp [byI], by go_simp, by go_simp; rfl, by go_simp⟩)
    have hP0 := Lib.hid (show RowAt W1 (w.heap.size + 1 + 1) (stA s) by rw [← hW]; clear hW; exact ⟨by go_simp, by go_simp, by go_simp⟩)
    have hQ0 := Lib.hid (show RowAt W1 (w.heap.size + 1) (bysA r) by rw [← hW]; clear hW; exact ⟨by go_simp, by go_simp, by go_simp⟩)
    have hG0 := Lib.hid (show RowAt W1 g (hasA true n s r) by rw [← hW]; clear hW; exact ⟨by go_simp, by go_simp, by go_simp⟩)
    have B0 := Lib.hid (show Below w.heap.size w W1 by rw [← hW]; repeat (first | apply below_more | apply below_alloc | apply Below.drew | exact Below.refl _ _))
    clear hW
    obtain ⟨p, ep⟩ : ∃ p, p = w.heap.size + 1 + 1 := ⟨_, rfl⟩
    obtain ⟨q, eq⟩ : ∃ q, q = w.heap.size + 1 := ⟨_, rfl⟩
    have npq : ¬ p = q := by omega
    have nqp : ¬ q = p := by omega
    have lp : w.heap.size < p := by omega
    have lq : w.heap.size < q := by omega
    rw [← ep] at hP0 ⊢
    rw [← eq] at hQ0 ⊢
    clear ep eq h1 h2 h3 h4 h5 h6
    have hcn := hG0.out.cellAt 1 (show (hasA true n s r)[1]? = some (.int .i64 n) from rfl)
    have hu := cast_tmod64 n
    obtain ⟨u, eu⟩ : ∃ u, u = n % 64 := ⟨_, rfl⟩
    rw [← eu] at hu
    have hu0 : (0 : Int) ≤ (u : Int) := by omega
    have hu1 : (u : Int) < 64 := by omega
    have hul : u < r.length := by omega
    have hqu := hQ0.out.cellAt u (bysA_get r u hul)
    have hqf := hQ0.out.frozenAt u
    have HE := Lib.hid eu
    clear eu
    have hQ1 := Lib.hid (show RowAt (W1.setCell ⟨q, u, none⟩ (.int .u8 128)) q (bysA (r.set u 128)) from (by rw [← bysA_set]; exact hQ0.out.setCell u _))
    have hset := setCell_row hQ0.out u (.int .u8 128)
    have hP1 := Lib.hid (hP0.out.other npq ((bysA r).setIfInBounds u (.int .u8 128)))
    have hG1 := Lib.hid (hG0.out.other (show g ≠ q by omega) ((bysA r).setIfInBounds u (.int .u8 128)))
    obtain ⟨c0, hc0, hR1⟩ := hR0.out
    replace hR1 := Lib.hid (show ∃ c, c.size = 32 ∧ RowAt _ w.heap.size c from ⟨c0, hc0, hR1.other (show w.heap.size ≠ q by omega) ((bysA r).setIfInBounds u (.int .u8 128))⟩)
    have B1 := Lib.hid (below_setRow B0.out (show w.heap.size ≤ q by omega) ((bysA r).setIfInBounds u (.int .u8 128)))
    rw [← hset] at hP1 hG1 hR1 B1
    have hl1 : (r.set u 128).length = 64 := by rw [List.length_set, hr]
    have hs1 : (bysA (r.set u 128)).size = 64 := by rw [bysA_size, hl1]
    have hb1 := bts_set hrb (show 128 < 256 by decide) u
    clear hset hc0 c0
    by_cases h56 : 56 ≤ u
    · have h56' : (56 : Int) ≤ (u : Int) := by omega
      obtain ⟨a1, a2, a3⟩ := hP1.out
      obtain ⟨b1, b2, b3⟩ := hQ1.out
      go_wp2_with fail
      clear hcn hqu hqf hQ0 hP0 hG0 hR0 B0
      generalize W1.setCell ⟨q, u, none⟩ (.int .u8 128) = W2 at *
      refine (behind_c _ _ hl1 hb1 _ (HT.out.grow B1.out)).mono ?_
      rintro e w' ⟨rfl, hbw⟩
      have hzz : (bysA (zs 64)).size = 64 := by rw [bysA_size]; rfl
      have hP2 := Lib.hid (((hP1.out.grow hbw).set (stA (scmp s (r.set u 128)))).other npq (bysA (zs 64)))
      have hQ2 := Lib.hid (((hQ1.out.grow hbw).other nqp (stA (scmp s (r.set u 128)))).set (bysA (zs 64)))
      have hG2 := Lib.hid (((hG1.out.grow hbw).other (show g ≠ p by omega) (stA (scmp s (r.set u 128)))).other (show g ≠ q by omega) (bysA (zs 64)))
      obtain ⟨c0, hc0, hR2⟩ := hR1.out
      replace hR2 := Lib.hid (show ∃ c, c.size = 32 ∧ RowAt _ w.heap.size c from ⟨c0, hc0, ((hR2.grow hbw).other (show w.heap.size ≠ p by omega) (stA (scmp s (r.set u 128)))).other (show w.heap.size ≠ q by omega) (bysA (zs 64))⟩)
      have B2 := Lib.hid (below_setRow (below_setRow (B1.out.trans (hbw.mono B1.out.size)) (show w.heap.size ≤ p by omega) (stA (scmp s (r.set u 128)))) (show w.heap.size ≤ q by omega) (bysA (zs 64)))
      have A1 := hP1.out.grow hbw
      have A2 := hQ1.out.grow hbw
      clear a1 a2 a3 b1 b2 b3
      obtain ⟨a1, a2, a3⟩ := A1
      obtain ⟨b1, b2, b3⟩ := A2
      have hcm := hG2.out.cellAt 1 (show (hasA true n s r)[1]? = some (.int .i64 n) from rfl)
      clear hbw
      go_wp2_with fail
      generalize (w'.setRow p (stA (scmp s (r.set u 128)))).setRow q (bysA (zs 64)) = W3 at *
      clear a1 a2 a3 b1 b2 b3 hP1 hQ1 hG1 hR1 B1 hc0 c0 hcm
      refine (putLength_c q n _ rfl hn _ hQ2.out).mono ?_
      rintro e w' ⟨rfl, rfl⟩
      have hP9 := Lib.hid (hP2.out.other npq (bysA ((zs 64).take 56 ++ len8 n)))
      have hQ9 := Lib.hid (hQ2.out.set (bysA ((zs 64).take 56 ++ len8 n)))
      obtain ⟨c0, hc0, hR9⟩ := hR2.out
      replace hR9 := Lib.hid (hR9.other (show w.heap.size ≠ q by omega) (bysA ((zs 64).take 56 ++ len8 n)))
      have B9 := Lib.hid (below_setRow B2.out (show w.heap.size ≤ q by omega) (bysA ((zs 64).take 56 ++ len8 n)))
      generalize W3.setRow q (bysA ((zs 64).take 56 ++ len8 n)) = W9 at *
      have hs9 : (bysA ((zs 64).take 56 ++ len8 n)).size = 64 := by rw [bysA_size]; exact rfl
      obtain ⟨a1, a2, a3⟩ := hP9.out
      obtain ⟨b1, b2, b3⟩ := hQ9.out
      obtain ⟨r1, r2, r3⟩ := hR9.out
      go_wp2_with fail
      refine (behind_c _ _ rfl (bts_app (bts_take (bts_zs 64) 56) (bts_len8 n)) _ (HT.out.grow B9.out)).mono ?_
      rintro e w' ⟨rfl, hbw⟩
      obtain ⟨oc1, nc1, rfl⟩ := below_plus hbw
      clear hbw
      go_wp2_with fail
      refine (key_c _ _).mono ?_
      rintro e w' ⟨rfl, hbw⟩
      obtain ⟨oc2, nc2, rfl⟩ := below_plus hbw
      clear hbw
      have hlt : w.heap.size < W9.heap.size + oc1.size := by omega
      go_wp2_with fail
      refine bodyPost_ret (v := .agg (keA (digF n s r))) (results_key Tryd.results58 (keA_size _) _ _ _ rfl (by go_simp) (by go_simp; unfold digF; rw [← HE.out, if_pos h56])) rfl ⟨rfl, ?_⟩
      repeat (first | apply below_more | refine below_setRow ?_ (Nat.le_refl _) _ | exact B9.out)
    · have h56' : ¬ (56 : Int) ≤ (u : Int) := by omega
      have hcm := hG1.out.cellAt 1 (show (hasA true n s r)[1]? = some (.int .i64 n) from rfl)
      go_wp2_with fail
      clear hcn hqu hqf hQ0 hP0 hG0 hR0 B0 hcm
      generalize W1.setCell ⟨q, u, none⟩ (.int .u8 128) = W2 at *
      refine (putLength_c q n _ hl1 hn _ hQ1.out).mono ?_
      rintro e w' ⟨rfl, rfl⟩
      have hP9 := Lib.hid (hP1.out.other npq (bysA ((r.set u 128).take 56 ++ len8 n)))
      have hQ9 := Lib.hid (hQ1.out.set (bysA ((r.set u 128).take 56 ++ len8 n)))
      obtain ⟨c0, hc0, hR9⟩ := hR1.out
      replace hR9 := Lib.hid (hR9.other (show w.heap.size ≠ q by omega) (bysA ((r.set u 128).take 56 ++ len8 n)))
      have B9 := Lib.hid (below_setRow B1.out (show w.heap.size ≤ q by omega) (bysA ((r.set u 128).take 56 ++ len8 n)))
      generalize W2.setRow q (bysA ((r.set u 128).take 56 ++ len8 n)) = W9 at *
      have hs9 : (bysA ((r.set u 128).take 56 ++ len8 n)).size = 64 := by rw [bysA_size]; exact (by rw [List.length_append, List.length_take, hl1]; rfl)
      obtain ⟨a1, a2, a3⟩ := hP9.out
      obtain ⟨b1, b2, b3⟩ := hQ9.out
      obtain ⟨r1, r2, r3⟩ := hR9.out
      go_wp2_with fail
      refine (behind_c _ _ (by rw [List.length_append, List.length_take, hl1]; rfl) (bts_app (bts_take hb1 56) (bts_len8 n)) _ (HT.out.grow B9.out)).mono ?_
      rintro e w' ⟨rfl, hbw⟩
      obtain ⟨oc1, nc1, rfl⟩ := below_plus hbw
      clear hbw
      go_wp2_with fail
      refine (key_c _ _).mono ?_
      rintro e w' ⟨rfl, hbw⟩
      obtain ⟨oc2, nc2, rfl⟩ := below_plus hbw
      clear hbw
      have hlt : w.heap.size < W9.heap.size + oc1.size := by omega
      go_wp2_with fail
      refine bodyPost_ret (v := .agg (keA (digF n s r))) (results_key Tryd.results58 (keA_size _) _ _ _ rfl (by go_simp) (by go_simp; unfold digF; rw [← HE.out, if_neg h56])) rfl ⟨rfl, ?_⟩
      repeat (first | apply below_more | refine below_setRow ?_ (Nat.le_refl _) _ | exact B9.out)
end Go.Proofs.YtnkfiljmgbnbkaaDoor

/-
  Package sha: bytes are laid behind those that there were.
-/
namespace Go.Proofs.YtnkfiljmgbnbkaaDoor
open Go.RowKit Go.Hold Go.Sh

/-- A hash of bytes. -/
def hshA (m : List Nat) : Array Value := hasA true m.length (hrun st0 m) (rst m)

/-- Bytes go into a hash's rest. -/
theorem copy_rest {W : World} {g u b o cap c2 len k : Nat} {N : Int} {s : St} {r l : List Nat} (hr : r.length = 64) (h : RowAt W g (hasA true N s r)) (hu : u ≤ 64) (hlen : len = l.length) (hk : k = min l.length (64 - u)) (hB : BytesAt W b o l) :
    (Builtin.copy_ #[24, 24] 3 #[.slice (some ⟨g, 10 + u, none⟩) (64 - u) c2, .slice (some ⟨b, o, none⟩) len cap]).run Tryd.prog W = .ok (.int .i64 (k : Int)) (W.setRow g (hasA true N s (r.take u ++ l.take k ++ r.drop (u + k)))) := by
  subst hlen
  have hl : (bys (l.take k)).length = k := by rw [bys_length, List.length_take]; omega
  have hi : (Tryd.prog.info? 5).map (·.size) = some 1 := by kernel_rfl
  have hsz : (hasA true N s r).size = 74 := by rw [hasA_size, hr]
  have := run_copy_cells (P := Tryd.prog) W 24 24 3 5 g (10 + u) (64 - u) c2 ⟨b, o, none⟩ l.length cap (bys (l.take k)) Tryd.underlying24 hi (by rw [hl, hk])
    (fun j v hv => by
      have hj : j < k := by have := (List.getElem?_eq_some_iff.1 hv).1; omega
      rw [Addr.add_mid, hB.2 j (by omega), ← hv]
      simp only [bys, List.getElem?_map, List.getElem?_take, if_pos hj, List.getD]
      rw [List.getElem?_eq_getElem (by omega)]; rfl)
    (fun j hj => by rw [h.cellAt (10 + u + j) (Array.getElem?_eq_getElem (by omega))]; rfl)
    (fun j _ => h.frozenAt _) (fun v hv => by simp only [bys, List.mem_map] at hv; obtain ⟨x, _, rfl⟩ := hv; rfl)
  rw [this, hl, setCells_row _ _ h, setL_rest _ _ _ _ _ _ (by rw [List.length_take]; omega)]
  rw [show (l.take k).length = k by rw [List.length_take]; omega]
  rfl
set_option maxHeartbeats 2000000 in
set_option maxRecDepth 100000 in
theorem take_small_c (g b o cap : Nat) (m l : List Nat) (w : World) (h : RowAt w g (hshA m)) (hm : m.length < 1152921504606846976) (hsm : m.length % 64 + l.length < 64) (hB : BytesAt w b o l) (hbg : b ≠ g) :
    Calls Tryd.prog 57 #[.pointer (some ⟨g, 0, none⟩), .slice (some ⟨b, o, none⟩) l.length cap] w fun e w' => e = .returned (.tuple #[]) ∧ ∃ os d, w' = (w.setRow g (hshA (m ++ l))).plus os d := by
  have H := Lib.hid h
  have HB := Lib.hid hB
  obtain ⟨h1, h2, h3⟩ := h
  have hcn := H.out.cellAt 1 (show (hshA m)[1]? = some (.int .i64 m.length) from rfl)
  have hcf := H.out.frozenAt 1
  have hu := cast_tmod64 m.length
  obtain ⟨n, en⟩ : ∃ n, n = m.length := ⟨_, rfl⟩
  obtain ⟨k, ek⟩ : ∃ k, k = l.length := ⟨_, rfl⟩
  obtain ⟨u, eu⟩ : ∃ u, u = m.length % 64 := ⟨_, rfl⟩
  rw [← eu] at hu
  rw [← en] at hcn hu
  have hk : IntKind.i64.wrap ((n : Int) + (k : Int)) = ((n + k : Nat) : Int) := by rw [IntWalk.i64_in _ (by omega)]; omega
  have hs : IntKind.i64.wrap ((u : Int) + (k : Int)) = ((u + k : Nat) : Int) := by rw [IntWalk.i64_in _ (by omega)]; omega
  have hlt : (u : Int) + (k : Int) < 64 := by omega
  have hu0 : (0 : Int) ≤ (u : Int) := by omega
  have hu1 : (u : Int) ≤ 64 := by omega
  clear hB
  rw [← ek]
  have hset : w.setCell ⟨g, 1, none⟩ (.int .i64 ((n + k : Nat) : Int)) = w.setRow g (hasA true ((n + k : Nat) : Int) (hrun st0 m) (rst m)) := by
    rw [setCell_row H.out, hshA, setL_len]
  have hfin : (hasA true ((n + k : Nat) : Int) (hrun st0 m) ((rst m).take u ++ l.take k ++ (rst m).drop (u + k))) = hshA (m ++ l) := by
    obtain ⟨e1, e2⟩ := take_small m l u eu (by omega)
    unfold hshA
    rw [e1, e2, List.length_append, en, ek, List.take_length]
  generalize ((n + k : Nat) : Int) = nk at hk hset hfin
  have hcp := copy_rest (c2 := 64 - u) (cap := cap) (len := k) (k := k) (rst_length m) (H.out.set (hasA true nk (hrun st0 m) (rst m))) (show u ≤ 64 by omega) ek (by omega) (HB.out.other hbg _)
  rw [setRow_setRow, hfin] at hcp
  have En := Lib.hid en
  have Ek := Lib.hid ek
  have Eu := Lib.hid eu
  clear en ek eu hfin
  go_enter Tryd.func57, Tryd.ntmps57
  go_wp2_with fail
  refine bodyPost_ret (v := .tuple #[]) (results_none Tryd.results57 _ _ _) rfl ⟨rfl, #[], (w.setRow g (hshA (m ++ l))).drawn, plus_none' _⟩
end Go.Proofs.YtnkfiljmgbnbkaaDoor

/-
  Package sha: bytes are laid behind those that there were, and fill a block.
-/
namespace Go.Proofs.YtnkfiljmgbnbkaaDoor
open Go.RowKit Go.Hold Go.Sh

/-! ### Slices of bytes -/
theorem arr_at (b o cap : Nat) (w : World) : (Instr.arrayAt 86 (.slice (some ⟨b, o, none⟩) 64 cap)).run Tryd.prog w = .ok (.pointer (some ⟨b, o, none⟩)) w := by
  simp [Instr.arrayAt, run_underlying Tryd.underlying86]
theorem load_chunk {w : World} {b o : Nat} {l : List Nat} (h : BytesAt w b o l) (hl : 64 ≤ l.length) : (loadRow 86 (.pointer (some ⟨b, o, none⟩))).run Tryd.prog w = .ok (.agg (bysA (l.take 64))) w := by
  have e : (Tryd.prog.info? 86).map (·.size) = some 64 := by kernel_rfl
  have hbl : (bys (l.take 64)).length = 64 := by rw [bys_length, List.length_take]; omega
  refine run_loadAt_mid w b o _ (bys (l.take 64)) _ (fun j v hv => ?_) Tryd.underlying86 rfl (by rw [hbl]; exact e)
  have hj : j < 64 := by have := (List.getElem?_eq_some_iff.1 hv).1; omega
  rw [h.2 j (by omega), ← hv]
  simp only [bys, List.getElem?_map, List.getElem?_take, if_pos hj, List.getD]
  rw [List.getElem?_eq_getElem (by omega)]; rfl
theorem Tabs.setRow {w : World} (h : Tabs w) {g : Nat} (hg : 1 < g) (c : Array Value) : Tabs (w.setRow g c) := by
  refine ⟨by rw [size_setRow]; exact h.1, fun i hi => ?_, fun i hi => ?_⟩
  · rw [World.cell?_of_block (w := w) (setRow_other w g 0 c (by omega))]; exact h.2.1 i hi
  · rw [World.cell?_of_block (w := w) (setRow_other w g 1 c (by omega))]; exact h.2.2 i hi
theorem store_state {w : World} {g : Nat} {m : Bool} {n : Int} {s : St} {r : List Nat} (h : RowAt w g (hasA m n s r)) (s' : St) : (storeCells ⟨g, 2, none⟩ (stA s').toList 0).run Tryd.prog w = .ok () (w.setRow g (hasA m n s' r)) := by
  rw [run_storeMid h 2 (stA s') (by rw [stA_size, hasA_size]; omega) (stA_one s'), setL_state]
theorem store_rest {w : World} {g : Nat} {m : Bool} {n : Int} {s : St} {r : List Nat} (h : RowAt w g (hasA m n s r)) (hr : r.length = 64) (r' : List Nat) (hr' : r'.length = 64) : (storeCells ⟨g, 10, none⟩ (bysA r').toList 0).run Tryd.prog w = .ok () (w.setRow g (hasA m n s r')) := by
  rw [run_storeMid h 10 (bysA r') (by rw [bysA_size, hasA_size]; omega) (bysA_one r')]
  have := setL_rest m n s r r' 0 (by omega)
  rw [List.take_zero, List.nil_append, List.drop_eq_nil_of_le (by omega), List.append_nil] at this
  rw [show (bysA r').toList = bys r' from rfl]
  exact congrArg _ (congrArg _ this)

set_option maxHeartbeats 4000000 in
set_option maxRecDepth 100000 in
theorem take_big_c (g b o cap : Nat) (m l : List Nat) (w : World) (hT : Tabs w) (hg : 1 < g) (h : RowAt w g (hshA m)) (hm : m.length + l.length < 1152921504606846976) (hmb : ∀ i, m.getD i 0 < 256) (hlb : ∀ i, l.getD i 0 < 256)
    (hbig : 64 ≤ m.length % 64 + l.length) (hB : BytesAt w b o l) (hcapl : l.length ≤ cap) (hbg : b ≠ g) :
    Calls Tryd.prog 57 #[.pointer (some ⟨g, 0, none⟩), .slice (some ⟨b, o, none⟩) l.length cap] w fun e w' => e = .returned (.tuple #[]) ∧ ∃ os d, w' = (w.setRow g (hshA (m ++ l))).plus os d := by
  have H := Lib.hid h
  have HB := Lib.hid hB
  have HT := Lib.hid hT
  obtain ⟨h1, h2, h3⟩ := h
  have hcn := H.out.cellAt 1 (show (hshA m)[1]? = some (.int .i64 m.length) from rfl)
  have hcf := H.out.frozenAt 1
  have hu := cast_tmod64 m.length
  obtain ⟨n, en⟩ : ∃ n, n = m.length := ⟨_, rfl⟩
  obtain ⟨k, ek⟩ : ∃ k, k = l.length := ⟨_, rfl⟩
  obtain ⟨u, eu⟩ : ∃ u, u = m.length % 64 := ⟨_, rfl⟩
  rw [← eu] at hu
  rw [← en] at hcn hu
  have hk : IntKind.i64.wrap ((n : Int) + (k : Int)) = ((n + k : Nat) : Int) := by rw [IntWalk.i64_in _ (by omega)]; omega
  obtain ⟨uk, euk⟩ : ∃ y, y = u + k := ⟨_, rfl⟩
  have hs : IntKind.i64.wrap ((u : Int) + (k : Int)) = (uk : Int) := by rw [IntWalk.i64_in _ (by omega)]; omega
  have hlt : ¬ (uk : Int) < 64 := by omega
  have huk : 64 ≤ u + k := by omega
  have hu0 : (0 : Int) ≤ (u : Int) := by omega
  have hu1 : (u : Int) ≤ 64 := by omega
  have hu2 : u < 64 := by omega
  clear hB hT
  rw [← ek] at hcapl ⊢
  have hset : w.setCell ⟨g, 1, none⟩ (.int .i64 ((n + k : Nat) : Int)) = w.setRow g (hasA true ((n + k : Nat) : Int) (hrun st0 m) (rst m)) := by
    rw [setCell_row H.out, hshA, setL_len]
  have Enk := Lib.hid (show ((n + k : Nat) : Int) = (((m ++ l).length : Nat) : Int) by rw [List.length_append, en, ek])
  generalize ((n + k : Nat) : Int) = nk at hk hset Enk
  have En := Lib.hid en
  have Ek := Lib.hid ek
  have Eu := Lib.hid eu
  clear en ek eu hm hbig euk
  by_cases hz : u = 0
  · -- no block was begun
    have hup : ¬ (0 : Int) < (u : Int) := by omega
    have hset' := hset
    have HB0 := Lib.hid (HB.out.other hbg (hasA true nk (hrun st0 m) (rst m)))
    obtain ⟨f1, f2⟩ := take_whole m l (by rw [← Eu.out]; exact hz)
    have F1 := Lib.hid f1
    have F2 := Lib.hid f2
    clear f1 f2 hz
    go_enter Tryd.func57, Tryd.ntmps57
    go_wp2_with fail
    obtain ⟨W1, eW1⟩ : ∃ W1, W1 = w.setRow g (hasA true nk (hrun st0 m) (rst m)) := ⟨_, rfl⟩
    have eW2 : W1 = (w.setRow g (hasA true nk (hrun st0 m) (rst m))).plus #[] W1.drawn := by rw [← eW1]; exact (plus_none _).symm
    rw [← eW1] at HB0 ⊢
    rw [eW2] at HB0 ⊢
    generalize W1.drawn = dd at *
    have E0 := Ek
    clear hset hset' hcn hcf h1 h2 h3
    go_loopw [1] (fun v wr => ∃ (j n1 o' cap' : Nat) (os : Array Obj) (d : Nat), 64 * j + n1 = (l).length ∧ v = .slice (some ⟨b, o', none⟩) n1 cap' ∧ n1 ≤ cap' ∧ BytesAt wr b o' ((l).drop (64 * j)) ∧ wr = (w.setRow g (hasA true nk (hruns (hrun st0 m) (l) j) (rst m))).plus os d) (fun v _ => match v with | .slice _ n _ => n | _ => 0)
    case atStart => exact ⟨0, _, _, _, _, _, by rw [Nat.mul_zero, Nat.zero_add]; exact E0.out, rfl, hcapl, by rw [Nat.mul_zero, List.drop_zero]; exact HB0.out, rfl⟩
    case round =>
      obtain ⟨j, n1, o', cap', os, d, hjn, rfl, hcap, hby, rfl⟩ := hrel
      have HR := Lib.hid ((H.out.set (hasA true nk (hruns (hrun st0 m) (l) j) (rst m))).grow (below_more (Below.refl _ _) os d))
      have HBy := Lib.hid hby
      have HTb := Lib.hid ((HT.out.setRow (show 1 < g by omega) (hasA true nk (hruns (hrun st0 m) (l) j) (rst m))).grow (below_more (Below.refl _ _) os d))
      have hgl : (hasA true nk (hruns (hrun st0 m) (l) j) (rst m)).size = 74 := by rw [hasA_size, (rst_length m)]
      obtain ⟨W, eW⟩ : ∃ W, W = (w.setRow g (hasA true nk (hruns (hrun st0 m) (l) j) (rst m))).plus os d := ⟨_, rfl⟩
      rw [← eW] at HR HBy HTb ⊢
      have HW := Lib.hid eW
      clear eW hby
      by_cases h64 : 64 ≤ n1
      · have h64' : (64 : Int) ≤ (n1 : Int) := by omega
        have hcap64 : 64 ≤ cap' := by omega
        have hcl : (((l).drop (64 * j)).take 64).length = 64 := by rw [List.length_take, List.length_drop]; omega
        have hcb := bts_take (bts_drop hlb (64 * j)) 64
        have Hrun := Lib.hid (show scmp (hruns (hrun st0 m) (l) j) (((l).drop (64 * j)).take 64) = hruns (hrun st0 m) (l) (j + 1) from rfl)
        have hcs : (bysA (((l).drop (64 * j)).take 64)).size = 64 := by rw [bysA_size, hcl]
        have hload : ∀ o d, (loadRow 86 (.pointer (some ⟨b, o', none⟩))).run Tryd.prog (W.plus o d) = .ok (.agg (bysA (((l).drop (64 * j)).take 64))) (W.plus o d) := fun o d => load_chunk (HBy.out.grow (below_more (Below.refl _ _) o d)) (by rw [List.length_drop]; omega)
        have hTab : ∀ o d, Tabs (W.plus o d) := fun o d => HTb.out.grow (below_more (Below.refl _ _) o d)
        have harr := arr_at b o' cap'
        have hhi := slB_hi (some ⟨b, o', none⟩) n1 cap' hcap64
        have hlo := slB_lo64 b o' n1 cap' h64
        obtain ⟨r1, r2, r3⟩ := HR.out
        generalize eC : ((l).drop (64 * j)).take 64 = C at *
        generalize eS : hruns (hrun st0 m) (l) j = S at *
        go_wp2_with fail
        refine wp_region_pick W [0, 1, 2, 3, 4, 5, 6, 7, 8, 9, 10, 11] [false, false, false, false, false, false, false, false, false, false, false, false] [] [] 12 (by kernel_rfl) rfl (by kernel_rfl) (by intro c a d v w h; cases d <;> exact h) ((Below.refl _ _).drew) ?_
        simp only [pick, List.getElem?_cons_succ, List.getElem?_cons_zero, List.drop_succ_cons, List.drop_zero]
        iterate 9 (refine wpHoldF_val (wanted_none rfl) (by intro K o d hK; go_simp; exact hK _ (Below.refl _ _)) ?_)
        refine wpHoldF_call (v := .agg (stA (scmp S C))) (wanted_none rfl) (by intro K o d hK; go_simp; refine (behind_c _ _ hcl hcb _ (hTab o d)).mono ?_; rintro e w' ⟨rfl, hbw⟩; exact ⟨_, rfl, hK _ hbw⟩) ?_
        iterate 2 (refine wpHoldF_val (wanted_none rfl) (by intro K o d hK; go_simp; exact hK _ (Below.refl _ _)) ?_)
        refine wpHoldF_nil ?_
        intro w2 hb2 _
        have hst := store_state (HR.out.grow hb2) (scmp S C)
        skip
        obtain ⟨o2, d2, rfl⟩ := below_plus hb2
        have HB2 := Lib.hid ((HBy.out.grow hb2).other hbg (hasA true nk (scmp S C) (rst m)))
        clear hb2 hload hTab harr hhi r1 r2 r3
        go_wp2_with fail
        go_roundw
        case rel =>
          refine ⟨j + 1, n1 - 64, adv o' 64 cap', cap' - 64, os ++ o2, d2, by omega, rfl, by omega, ?_, ?_⟩
          · have := HB2.out.adv (n := 64) (cap := cap') (by rw [List.length_drop]; omega)
            rw [List.drop_drop, show 64 * j + 64 = 64 * (j + 1) by omega] at this
            exact this
          · rw [← Hrun.out, HW.out, World.plus_plus, setRow_plus_all H.out]
        case measure => simp; omega
      · have h64' : ¬ (64 : Int) ≤ (n1 : Int) := by omega
        have hj : (l).length / 64 = j := by omega
        have hstz := store_rest HR.out (rst_length m) (zs 64) (zs_length 64)
        have HR2 := HR.out.set (hasA true nk (hruns (hrun st0 m) (l) j) (zs 64))
        have hcp := copy_rest (u := 0) (c2 := 64) (cap := cap') (len := n1) (k := n1) (zs_length 64) HR2 (by omega) (by rw [List.length_drop]; omega) (by rw [List.length_drop]; omega) (HBy.out.other hbg _)
        rw [setRow_setRow] at hcp
        simp only [Nat.add_zero, Nat.sub_zero, Nat.zero_add] at hcp
        have hfin : hasA true nk (hruns (hrun st0 m) (l) j) ((zs 64).take 0 ++ ((l).drop (64 * j)).take n1 ++ (zs 64).drop n1) = hshA (m ++ l) := by
          rw [List.take_zero, List.nil_append, List.take_of_length_le (by rw [List.length_drop]; omega), zs_drop]
          have e3 : hruns (hrun st0 m) (l) j = hrun (hrun st0 m) (l) := by unfold hrun; rw [hj]
          have e4 : (l).drop (64 * j) ++ zs (64 - n1) = rst (l) := by unfold rst; rw [hj, show (l).length % 64 = n1 by omega]
          rw [e3, e4, F1.out, F2.out]
          unfold hshA; rw [Enk.out]
        rw [hfin] at hcp
        obtain ⟨r1, r2, r3⟩ := HR.out
        clear hfin HR2
        go_wp2_with fail
        go_end0
        exact ⟨rfl, os, d, by rw [HW.out, setRow_plus_all H.out]⟩
  · -- a block was begun
    have hup : (0 : Int) < (u : Int) := by omega
    obtain ⟨k1, ek1⟩ : ∃ k1, k1 = 64 - u := ⟨_, rfl⟩
    obtain ⟨f1, f2⟩ := take_fill m l u k1 Eu.out (by omega) ek1 (by have := Ek.out; omega)
    have F1 := Lib.hid f1
    have F2 := Lib.hid f2
    clear f1 f2
    have hcp := copy_rest (c2 := 64 - u) (cap := cap) (len := k) (k := k1) (rst_length m) (H.out.set (hasA true nk (hrun st0 m) (rst m))) (show u ≤ 64 by omega) Ek.out (by have := Ek.out; omega) (HB.out.other hbg _)
    rw [setRow_setRow] at hcp
    have erB : (rst m).take u ++ l.take k1 ++ (rst m).drop (u + k1) = (rst m).take u ++ l.take k1 := by
      rw [List.drop_eq_nil_of_le (by rw [rst_length]; omega), List.append_nil]
    rw [erB] at hcp
    have hlB : ((rst m).take u ++ l.take k1).length = 64 := by
      rw [List.length_append, List.length_take, List.length_take, rst_length]; have := Ek.out; omega
    have hbB := bts_app (bts_take (rst_bts hmb) u) (bts_take hlb k1)
    obtain ⟨rB, eB⟩ : ∃ rB, rB = (rst m).take u ++ l.take k1 := ⟨_, rfl⟩
    rw [← eB] at hcp hlB hbB F1
    have hrB : rB.length = 64 := hlB
    have hk1 : k1 ≤ k := by have := Ek.out; omega
    have hk1' : (0 : Int) ≤ (k1 : Int) := by omega
    have hlo := slB_lo b o k cap k1 hk1
    clear erB eB ek1
    obtain ⟨W1, eW1⟩ : ∃ W1, W1 = w.setRow g (hasA true nk (hrun st0 m) rB) := ⟨_, rfl⟩
    rw [← eW1] at hcp
    have HR1 := Lib.hid (show RowAt W1 g (hasA true nk (hrun st0 m) rB) by rw [eW1]; exact H.out.set _)
    have HBy := Lib.hid (show BytesAt W1 b o l by rw [eW1]; exact HB.out.other hbg _)
    have HTb := Lib.hid (show Tabs W1 by rw [eW1]; exact HT.out.setRow (show 1 < g by omega) _)
    have HW1 := Lib.hid eW1
    have hgl : (hasA true nk (hrun st0 m) rB).size = 74 := by rw [hasA_size, hrB]
    have hrs := rsPart_has true nk (hrun st0 m) rB hrB
    have hTab : ∀ o d, Tabs (W1.plus o d) := fun o d => HTb.out.grow (below_more (Below.refl _ _) o d)
    clear eW1
    go_enter Tryd.func57, Tryd.ntmps57
    go_wp2_with fail
    clear hset hcn hcf h1 h2 h3 hcp
    obtain ⟨r1, r2, r3⟩ := HR1.out
    refine wp_region_pick W1 [0, 1, 2, 3, 4, 5, 6, 7, 8, 9, 10, 11] [false, false, false, false, false, false, false, false, false, false, false, false] [] [] 12 (by kernel_rfl) rfl (by kernel_rfl) (by intro c a d v w h; cases d <;> exact h) ((Below.refl _ _).drew) ?_
    simp only [pick, List.getElem?_cons_succ, List.getElem?_cons_zero, List.drop_succ_cons, List.drop_zero]
    iterate 9 (refine wpHoldF_val (wanted_none rfl) (by intro K o d hK; go_simp; exact hK _ (Below.refl _ _)) ?_)
    refine wpHoldF_call (v := .agg (stA (scmp (hrun st0 m) rB))) (wanted_none rfl) (by intro K o d hK; go_simp; refine (behind_c _ _ hlB hbB _ (hTab o d)).mono ?_; rintro e w' ⟨rfl, hbw⟩; exact ⟨_, rfl, hK _ hbw⟩) ?_
    iterate 2 (refine wpHoldF_val (wanted_none rfl) (by intro K o d hK; go_simp; exact hK _ (Below.refl _ _)) ?_)
    refine wpHoldF_nil ?_
    intro w2 hb2 _
    have hst := store_state (HR1.out.grow hb2) (scmp (hrun st0 m) rB)
    obtain ⟨o2, d2, rfl⟩ := below_plus hb2
    have hBk : BytesAt ((W1.plus o2 d2).setRow g (hasA true nk (scmp (hrun st0 m) rB) rB)) b (adv o k1 cap) (l.drop k1) := ((HBy.out.grow hb2).other hbg _).adv (by have := Ek.out; omega)
    rw [HW1.out, setRow_plus_all H.out] at hBk
    have HB0 := Lib.hid hBk
    clear hb2 hTab r1 r2 r3 hBk
    go_wp2_with fail
    rw [HW1.out, setRow_plus_all H.out]
    obtain ⟨n0, en0⟩ : ∃ n0, n0 = k - k1 := ⟨_, rfl⟩
    rw [← en0]
    have E0 := Lib.hid (show n0 = (l.drop k1).length by rw [en0, List.length_drop, ← Ek.out])
    have hcap0 : n0 ≤ cap - k1 := by omega
    generalize cap - k1 = cap1 at *
    clear hst en0
    go_loopw [1] (fun v wr => ∃ (j n1 o' cap' : Nat) (os : Array Obj) (d : Nat), 64 * j + n1 = (l.drop k1).length ∧ v = .slice (some ⟨b, o', none⟩) n1 cap' ∧ n1 ≤ cap' ∧ BytesAt wr b o' ((l.drop k1).drop (64 * j)) ∧ wr = (w.setRow g (hasA true nk (hruns (scmp (hrun st0 m) rB) (l.drop k1) j) (rB))).plus os d) (fun v _ => match v with | .slice _ n _ => n | _ => 0)
    case atStart => exact ⟨0, _, _, _, _, _, by rw [Nat.mul_zero, Nat.zero_add]; exact E0.out, rfl, hcap0, by rw [Nat.mul_zero, List.drop_zero]; exact HB0.out, rfl⟩
    case round =>
      obtain ⟨j, n1, o', cap', os, d, hjn, rfl, hcap, hby, rfl⟩ := hrel
      have HR := Lib.hid ((H.out.set (hasA true nk (hruns (scmp (hrun st0 m) rB) (l.drop k1) j) (rB))).grow (below_more (Below.refl _ _) os d))
      have HBy := Lib.hid hby
      have HTb := Lib.hid ((HT.out.setRow (show 1 < g by omega) (hasA true nk (hruns (scmp (hrun st0 m) rB) (l.drop k1) j) (rB))).grow (below_more (Below.refl _ _) os d))
      have hgl : (hasA true nk (hruns (scmp (hrun st0 m) rB) (l.drop k1) j) (rB)).size = 74 := by rw [hasA_size, hrB]
      obtain ⟨W, eW⟩ : ∃ W, W = (w.setRow g (hasA true nk (hruns (scmp (hrun st0 m) rB) (l.drop k1) j) (rB))).plus os d := ⟨_, rfl⟩
      rw [← eW] at HR HBy HTb ⊢
      have HW := Lib.hid eW
      clear eW hby
      by_cases h64 : 64 ≤ n1
      · have h64' : (64 : Int) ≤ (n1 : Int) := by omega
        have hcap64 : 64 ≤ cap' := by omega
        have hcl : (((l.drop k1).drop (64 * j)).take 64).length = 64 := by rw [List.length_take, List.length_drop]; omega
        have hcb := bts_take (bts_drop (bts_drop hlb k1) (64 * j)) 64
        have Hrun := Lib.hid (show scmp (hruns (scmp (hrun st0 m) rB) (l.drop k1) j) (((l.drop k1).drop (64 * j)).take 64) = hruns (scmp (hrun st0 m) rB) (l.drop k1) (j + 1) from rfl)
        have hcs : (bysA (((l.drop k1).drop (64 * j)).take 64)).size = 64 := by rw [bysA_size, hcl]
        have hload : ∀ o d, (loadRow 86 (.pointer (some ⟨b, o', none⟩))).run Tryd.prog (W.plus o d) = .ok (.agg (bysA (((l.drop k1).drop (64 * j)).take 64))) (W.plus o d) := fun o d => load_chunk (HBy.out.grow (below_more (Below.refl _ _) o d)) (by rw [List.length_drop]; omega)
        have hTab : ∀ o d, Tabs (W.plus o d) := fun o d => HTb.out.grow (below_more (Below.refl _ _) o d)
        have harr := arr_at b o' cap'
        have hhi := slB_hi (some ⟨b, o', none⟩) n1 cap' hcap64
        have hlo := slB_lo64 b o' n1 cap' h64
        obtain ⟨r1, r2, r3⟩ := HR.out
        generalize eC : ((l.drop k1).drop (64 * j)).take 64 = C at *
        generalize eS : hruns (scmp (hrun st0 m) rB) (l.drop k1) j = S at *
        go_wp2_with fail
        refine wp_region_pick W [0, 1, 2, 3, 4, 5, 6, 7, 8, 9, 10, 11] [false, false, false, false, false, false, false, false, false, false, false, false] [] [] 12 (by kernel_rfl) rfl (by kernel_rfl) (by intro c a d v w h; cases d <;> exact h) ((Below.refl _ _).drew) ?_
        simp only [pick, List.getElem?_cons_succ, List.getElem?_cons_zero, List.drop_succ_cons, List.drop_zero]
        iterate 9 (refine wpHoldF_val (wanted_none rfl) (by intro K o d hK; go_simp; exact hK _ (Below.refl _ _)) ?_)
        refine wpHoldF_call (v := .agg (stA (scmp S C))) (wanted_none rfl) (by intro K o d hK; go_simp; refine (behind_c _ _ hcl hcb _ (hTab o d)).mono ?_; rintro e w' ⟨rfl, hbw⟩; exact ⟨_, rfl, hK _ hbw⟩) ?_
        iterate 2 (refine wpHoldF_val (wanted_none rfl) (by intro K o d hK; go_simp; exact hK _ (Below.refl _ _)) ?_)
        refine wpHoldF_nil ?_
        intro w2 hb2 _
        have hst := store_state (HR.out.grow hb2) (scmp S C)
        skip
        obtain ⟨o2, d2, rfl⟩ := below_plus hb2
        have HB2 := Lib.hid ((HBy.out.grow hb2).other hbg (hasA true nk (scmp S C) (rB)))
        clear hb2 hload hTab harr hhi r1 r2 r3
        go_wp2_with fail
        go_roundw
        case rel =>
          refine ⟨j + 1, n1 - 64, adv o' 64 cap', cap' - 64, os ++ o2, d2, by omega, rfl, by omega, ?_, ?_⟩
          · have := HB2.out.adv (n := 64) (cap := cap') (by rw [List.length_drop]; omega)
            rw [List.drop_drop, show 64 * j + 64 = 64 * (j + 1) by omega] at this
            exact this
          · rw [← Hrun.out, HW.out, World.plus_plus, setRow_plus_all H.out]
        case measure => simp; omega
      · have h64' : ¬ (64 : Int) ≤ (n1 : Int) := by omega
        have hj : (l.drop k1).length / 64 = j := by omega
        have hstz := store_rest HR.out hrB (zs 64) (zs_length 64)
        have HR2 := HR.out.set (hasA true nk (hruns (scmp (hrun st0 m) rB) (l.drop k1) j) (zs 64))
        have hcp := copy_rest (u := 0) (c2 := 64) (cap := cap') (len := n1) (k := n1) (zs_length 64) HR2 (by omega) (by rw [List.length_drop]; omega) (by rw [List.length_drop]; omega) (HBy.out.other hbg _)
        rw [setRow_setRow] at hcp
        simp only [Nat.add_zero, Nat.sub_zero, Nat.zero_add] at hcp
        have hfin : hasA true nk (hruns (scmp (hrun st0 m) rB) (l.drop k1) j) ((zs 64).take 0 ++ ((l.drop k1).drop (64 * j)).take n1 ++ (zs 64).drop n1) = hshA (m ++ l) := by
          rw [List.take_zero, List.nil_append, List.take_of_length_le (by rw [List.length_drop]; omega), zs_drop]
          have e3 : hruns (scmp (hrun st0 m) rB) (l.drop k1) j = hrun (scmp (hrun st0 m) rB) (l.drop k1) := by unfold hrun; rw [hj]
          have e4 : (l.drop k1).drop (64 * j) ++ zs (64 - n1) = rst (l.drop k1) := by unfold rst; rw [hj, show (l.drop k1).length % 64 = n1 by omega]
          rw [e3, e4, F1.out, F2.out]
          unfold hshA; rw [Enk.out]
        rw [hfin] at hcp
        obtain ⟨r1, r2, r3⟩ := HR.out
        clear hfin HR2
        go_wp2_with fail
        go_end0
        exact ⟨rfl, os, d, by rw [HW.out, setRow_plus_all H.out]⟩
end Go.Proofs.YtnkfiljmgbnbkaaDoor

/-
  Package sha: the digest of bytes.
-/
namespace Go.Proofs.YtnkfiljmgbnbkaaDoor
open Go.RowKit Go.Hold Go.Sh

theorem hshA_nil : hshA [] = hasA true 0 st0 (zs 64) := rfl
theorem hshA_size (m : List Nat) : (hshA m).size = 74 := by unfold hshA; rw [hasA_size, rst_length]
@[go_sem] theorem hshA_one (m : List Nat) : oneAll (hshA m) = true := hasA_one _ _ _ _

set_option maxHeartbeats 1000000 in
set_option maxRecDepth 100000 in
theorem take_nil_c (g cap : Nat) (p : Option Addr) (m : List Nat) (w : World) (h : RowAt w g (hshA m)) (hm : m.length < 1152921504606846976) :
    Calls Tryd.prog 57 #[.pointer (some ⟨g, 0, none⟩), .slice p 0 cap] w fun e w' => e = .returned (.tuple #[]) ∧ ∃ os d, w' = (w.setRow g (hshA m)).plus os d := by
  have H := Lib.hid h
  obtain ⟨h1, h2, h3⟩ := h
  have hcn := H.out.cellAt 1 (show (hshA m)[1]? = some (.int .i64 m.length) from rfl)
  have hcf := H.out.frozenAt 1
  have hu := cast_tmod64 m.length
  obtain ⟨n, en⟩ : ∃ n, n = m.length := ⟨_, rfl⟩
  obtain ⟨u, eu⟩ : ∃ u, u = m.length % 64 := ⟨_, rfl⟩
  rw [← eu] at hu
  rw [← en] at hcn hu
  have hk : IntKind.i64.wrap (n : Int) = (n : Int) := by rw [IntWalk.i64_in _ (by omega)]
  have hku : IntKind.i64.wrap (u : Int) = (u : Int) := by rw [IntWalk.i64_in _ (by omega)]
  have hu0 : (0 : Int) ≤ (u : Int) := by omega
  have hu1 : (u : Int) ≤ 64 := by omega
  have hu2 : (u : Int) < 64 := by omega
  have hset : w.setCell ⟨g, 1, none⟩ (.int .i64 (n : Int)) = w.setRow g (hshA m) := by
    rw [setCell_row H.out, hshA, setL_len, en]
  have hcp : ∀ W : World, (Builtin.copy_ #[24, 24] 3 #[.slice (some ⟨g, 10 + u, none⟩) (64 - u) (64 - u), .slice p 0 cap]).run Tryd.prog W = .ok (.int .i64 0) W := fun W => copy_none W _ _ _ _ _
  have En := Lib.hid en
  have Eu := Lib.hid eu
  clear en eu hm
  go_enter Tryd.func57, Tryd.ntmps57
  go_wp2_with fail
  refine bodyPost_ret (v := .tuple #[]) (results_none Tryd.results57 _ _ _) rfl ⟨rfl, #[], _, plus_none' _⟩
/-- Bytes are laid behind those that there were. -/
theorem take_c (g cap : Nat) (p : Option Addr) (m l : List Nat) (w : World) (hT : Tabs w) (hg : 1 < g) (h : RowAt w g (hshA m)) (hm : m.length + l.length < 1152921504606846976) (hmb : ∀ i, m.getD i 0 < 256) (hlb : ∀ i, l.getD i 0 < 256)
    (hB : Bs w p l g) (hc : l.length ≤ cap) :
    Calls Tryd.prog 57 #[.pointer (some ⟨g, 0, none⟩), .slice p l.length cap] w fun e w' => e = .returned (.tuple #[]) ∧ ∃ os d, w' = (w.setRow g (hshA (m ++ l))).plus os d := by
  rcases hB with rfl | ⟨b, o, rfl, hB, hbg⟩
  · rw [List.append_nil]; exact take_nil_c g cap p m w h (by simp at hm; exact hm)
  · by_cases hs : m.length % 64 + l.length < 64
    · exact take_small_c g b o cap m l w h (by omega) hs hB hbg
    · exact take_big_c g b o cap m l w hT hg h hm hmb hlb (by omega) hB hc hbg
/-- The digest of a hash. -/
theorem digest_h (g : Nat) (m : List Nat) (w : World) (hT : Tabs w) (h : RowAt w g (hshA m)) (hm : m.length < 1152921504606846976) (hmb : ∀ i, m.getD i 0 < 256) :
    Calls Tryd.prog 58 #[.pointer (some ⟨g, 0, none⟩)] w fun e w' => e = .returned (.agg (keA (dig m))) ∧ Below w.heap.size w w' := by
  have := digest_c g m.length (hrun st0 m) (rst m) w hT h (rst_length m) (rst_bts hmb) hm
  rw [digF_all] at this; exact this

set_option maxHeartbeats 1000000 in
set_option maxRecDepth 100000 in
theorem sum_c (cap : Nat) (p : Option Addr) (l : List Nat) (w : World) (hT : Tabs w) (hl : l.length < 1152921504606846976) (hlb : ∀ i, l.getD i 0 < 256) (hB : Bs0 w p l) (hc : l.length ≤ cap) :
    Calls Tryd.prog 47 #[.slice p l.length cap] w fun e w' => e = .returned (.agg (keA (dig l))) ∧ Below w.heap.size w w' := by
  have HT := Lib.hid hT
  have HB := Lib.hid hB
  have hz := zsize
  have hz1 : (hasA true 0 st0 (zs 64)).size = 74 := hshA_size []
  have hT1 := hT.1
  clear hT hB
  go_enter Tryd.func47, Tryd.ntmps47
  go_wp2_with fail
  refine (begun_c _ (HT.out.grow (below_alloc (Below.refl _ _) _))).mono ?_
  rintro e w' ⟨rfl, hbw⟩
  obtain ⟨oc1, nc1, rfl⟩ := below_plus hbw
  clear hbw
  go_wp2_with fail
  generalize hW : World.alloc _ _ = W1
  have hR0 := Lib.hid (show ∃ c, c.size = 32 ∧ RowAt W1 w.heap.size c by rw [← hW]; clear hW; exact ⟨byI (List.replicate 32 0), by simp [byI], by go_simp, by go_simp; rfl, by go_simp⟩)
  have hG0 := Lib.hid (show RowAt W1 (w.heap.size + 1 + oc1.size) (hshA []) by rw [← hW, hshA_nil]; clear hW; exact ⟨by go_simp, by go_simp, by go_simp⟩)
  have B0 := Lib.hid (show Below w.heap.size w W1 by rw [← hW]; repeat (first | apply below_more | apply below_alloc | apply Below.drew | exact Below.refl _ _))
  clear hW
  have hgw : w.heap.size < w.heap.size + 1 + oc1.size := by omega
  generalize w.heap.size + 1 + oc1.size = g at *
  refine (take_c g cap p [] l W1 (HT.out.grow B0.out) (by omega) hG0.out (by simpa using hl) (by intro i; simp) hlb (HB.out.new B0.out (by omega)) hc).mono ?_
  rintro e w' ⟨rfl, os, d, rfl⟩
  rw [List.nil_append]
  have hG1 := Lib.hid ((hG0.out.set (hshA l)).grow (below_more (Below.refl _ _) os d))
  obtain ⟨c0, hc0, hR1⟩ := hR0.out
  replace hR1 := Lib.hid ((hR1.other (show w.heap.size ≠ g by omega) (hshA l)).grow (below_more (Below.refl _ _) os d))
  have B1 := Lib.hid (below_more (below_setRow B0.out (show w.heap.size ≤ g by omega) (hshA l)) os d)
  generalize (W1.setRow g (hshA l)).plus os d = W2 at *
  go_wp2_with fail
  refine (digest_h g l W2 (HT.out.grow B1.out) hG1.out hl hlb).mono ?_
  rintro e w' ⟨rfl, hbw⟩
  obtain ⟨r1, r2, r3⟩ := hR1.out.grow hbw
  have B2 := Lib.hid (B1.out.trans (hbw.mono B1.out.size))
  clear hbw
  go_wp2_with fail
  refine bodyPost_ret (v := .agg (keA (dig l))) (results_key Tryd.results47 (keA_size _) _ _ _ rfl (by go_simp) (by go_simp)) rfl ⟨rfl, ?_⟩
  exact below_setRow B2.out (Nat.le_refl _) _

theorem zk_size : (bysA (zs 32)).size = 32 := by rw [bysA_size]; rfl
end Go.Proofs.YtnkfiljmgbnbkaaDoor

/-
  Digests that are compared; a slice that is turned into its own type.
-/
namespace Go.Proofs.YtnkfiljmgbnbkaaDoor
open Go.RowKit Go.Hold Go.Sh

/-- Two digests, byte by byte. -/
def keqs (s t : St) : Bool := (List.range 32).all fun i => sByte s i == sByte t i
@[go_sem] theorem keqs_self (s : St) : keqs s s = true := by simp [keqs]
theorem keA_get (s : St) (i : Nat) (h : i < 32) : (keA s)[i]? = some (.int .u8 (sByte s i)) := by simp [keA, byI, keyL, h]
@[go_sem] theorem run_equalIn_keA (s t : St) (w : World) : (Op.equalIn 10000 23 (.agg (keA s)) (.agg (keA t))).run Tryd.prog w = .ok (keqs s t) w := by
  obtain ⟨i, hi⟩ : ∃ i, Tryd.prog.info? 5 = some i := Option.isSome_iff_exists.1 (by kernel_rfl)
  rw [run_equalIn_array w 9999 (keA s) (keA t) Tryd.underlying23 hi, show Tryd.prog.cellsOf 5 = 1 from by kernel_rfl]
  exact run_eqItems_int 9998 Tryd.underlying5 _ _ (sByte s) (sByte t) w _ fun j hj => ⟨keA_get s j (List.mem_range.1 hj), keA_get t j (List.mem_range.1 hj)⟩
@[go_sem] theorem run_equalIn_zs (w : World) : (Op.equalIn 10000 23 (.agg (bysA (zs 32))) (.agg (bysA (zs 32)))).run Tryd.prog w = .ok true w := by
  obtain ⟨i, hi⟩ : ∃ i, Tryd.prog.info? 5 = some i := Option.isSome_iff_exists.1 (by kernel_rfl)
  rw [run_equalIn_array w 9999 (bysA (zs 32)) (bysA (zs 32)) Tryd.underlying23 hi, show Tryd.prog.cellsOf 5 = 1 from by kernel_rfl]
  have := run_eqItems_int (P := Tryd.prog) (k := .u8) 9998 Tryd.underlying5 (bysA (zs 32)) (bysA (zs 32)) (fun _ => 0) (fun _ => 0) w (List.range 32) fun j hj => by
    have hj' : j < 32 := List.mem_range.1 hj
    have h0 : (bysA (zs 32))[j]? = some (.int .u8 0) := by
      rw [bysA_get _ j (by rw [zs_length]; exact hj')]
      unfold zs List.getD
      rw [List.getElem?_replicate, if_pos hj']; rfl
    exact ⟨h0, h0⟩
  rw [this]
  have e : ((List.range 32).all fun _ => (0 : Int) == 0) = true := by decide
  rw [e]
end Go.Proofs.YtnkfiljmgbnbkaaDoor

/-
  From a walk to the given row: bytes that came in.
-/
namespace Go.Proofs.YtnkfiljmgbnbkaaDoor
open Go.ChangeShapes Go.WideShapes Go.ChangeAt Go.RowKit Go.Sh

theorem own : ownKnob Tryd.prog.godebug = none := by kernel_rfl
theorem laidOut : laidOutB Tryd.prog = true := by kernel_rfl
set_option maxRecDepth 100000 in
theorem bytes_of_trod {H : Type} {enc : TypeId × Value → H} {w : World} {base : Nat} {spare : Nat → Bool} {held : Bool} {fuel : Nat} {cs : List Value} {x : DataW H × List MemPlace}
    (hf : DataW.trod enc Tryd.prog w base spare held fuel 24 cs = some x) :
    ∃ (pt : Option Addr) (l : List Nat) (cap : Nat), cs = [.slice pt l.length cap] ∧ Bs0 w pt l ∧ l.length ≤ cap ∧ (∀ i, l.getD i 0 < 256) ∧ (pt = none → cap = 0) := by
  have hc1 : Tryd.prog.cellsOf 5 = 1 := by kernel_rfl
  rcases DataW.trod_slice Tryd.underlying24 hf with ⟨h0, _⟩ | ⟨a', len, cap, elems, rest, n, _, hcs, _, _, hle, _, hlen, hel, _⟩
  · exact ⟨none, [], 0, h0, .inl rfl, Nat.le_refl _, bts_0, fun _ => rfl⟩
  · subst hcs
    have each : ∀ i, i < len → ∃ x : Nat, x < 256 ∧ w.cell? (a'.add i) = some (.int .u8 (x : Int)) := fun i hi => by
      have h2 := hel i hi
      rw [List.getElem?_eq_getElem (show i < elems.length by omega), hc1, Nat.mul_one, Option.bind_eq_some_iff] at h2
      obtain ⟨cs, h3, h4⟩ := h2
      obtain ⟨z, e0, _, wz⟩ := DataW.trod_int Tryd.underlying5 h4
      have hb := bounds_u8 wz
      obtain ⟨x, rfl⟩ := Int.eq_ofNat_of_zero_le hb.1
      refine ⟨x, by omega, ?_⟩
      have h5 := (World.cells?_some h3).2.2 0 (by decide)
      rw [e0] at h5
      simpa [Addr.add] using h5
    have hch : ∃ f : Nat → Nat, ∀ i, i < len → f i < 256 ∧ w.cell? (a'.add i) = some (.int .u8 (f i : Int)) :=
      ⟨fun i => if h : i < len then Classical.choose (each i h) else 0, fun i hi => by simp only [hi, dif_pos]; exact Classical.choose_spec (each i hi)⟩
    obtain ⟨f, hf'⟩ := hch
    refine ⟨some a', (List.range len).map f, cap, by simp, ?_, by simpa using hle, getD_lt fun x hx => ?_, fun h => by cases h⟩
    · by_cases h0 : len = 0
      · subst h0; exact .inl rfl
      · have h00 := (hf' 0 (by omega)).2
        obtain ⟨g, o, sp⟩ := a'
        have hsp : sp = none := by
          cases sp with
          | none => rfl
          | some k =>
            exfalso
            unfold World.cell? at h00
            split at h00
            · simp [Addr.add] at h00
            · cases h00
        subst hsp
        refine .inr ⟨g, o, rfl, ?_, fun i hi => ?_⟩
        · have h1 := World.block_lt_of_cell? w _ h00
          rw [Addr.add_mid] at h1
          exact h1
        · have hi' : i < len := by simpa using hi
          have h1 := (hf' i hi').2
          rw [Addr.add_mid] at h1
          rw [h1]
          simp [List.getD, hi']
    · obtain ⟨i, hi, rfl⟩ := List.mem_map.1 hx
      exact (hf' i (List.mem_range.1 hi)).1
set_option maxRecDepth 100000 in
theorem open_bytes {H : Type} {enc : TypeId × Value → H} {w : World} {r : Reach} {b0 base : Nat} {spare : Nat → Bool} {held : Bool} {v : Value} {d : DataW H} {p : List MemPlace}
    (hv : Value.okWide Tryd.prog w r b0 24 v) (h : DataW.Trod enc Tryd.prog w base spare held 24 v d p) :
    ∃ (pt : Option Addr) (l : List Nat) (cap : Nat), v = .slice pt l.length cap ∧ Bs0 w pt l ∧ l.length ≤ cap ∧ (∀ i, l.getD i 0 < 256) ∧ (pt = none → cap = 0) := by
  obtain ⟨a, len, cap, rfl⟩ := okWide_slice Tryd.underlying24 hv
  obtain ⟨fuel, hf⟩ := h
  obtain ⟨pt, l, c, h1, h2⟩ := bytes_of_trod hf
  exact ⟨pt, l, c, by simpa [Value.cells] using h1, h2⟩
end Go.Proofs.YtnkfiljmgbnbkaaDoor

/-
  From a walk to the given row: keys that came in.
-/
namespace Go.Proofs.YtnkfiljmgbnbkaaDoor
open Go.ChangeShapes Go.WideShapes Go.ChangeAt Go.RowKit Go.Sh

set_option maxRecDepth 100000 in
theorem open_key {H : Type} {enc : TypeId × Value → H} {w : World} {r : Reach} {b0 base : Nat} {spare : Nat → Bool} {held : Bool} {v : Value} {d : DataW H} {p : List MemPlace}
    (hv : Value.okWide Tryd.prog w r b0 23 v) (h : DataW.Trod enc Tryd.prog w base spare held 23 v d p) :
    ∃ s : List Nat, v = .agg (bysA s) ∧ s.length = 32 ∧ ∀ i, s.getD i 0 < 256 := by
  have hv' : ∃ cs, v = .agg cs ∧ cs.size = Tryd.prog.cellsOf 23 := by
    unfold Value.okWide at hv
    rw [Tryd.underlying23] at hv
    obtain ⟨cs, h1, h2, _⟩ := hv
    exact ⟨cs, h1, h2⟩
  obtain ⟨cs, rfl, hsz⟩ := hv'
  obtain ⟨fuel, hf⟩ := h
  have hc1 : Tryd.prog.cellsOf 5 = 1 := by kernel_rfl
  have hcn : Tryd.prog.cellsOf 23 = 32 := by kernel_rfl
  obtain ⟨xs, m, _, _, hl, hxl, hx⟩ := DataW.trod_array Tryd.underlying23 hf
  have hget : ∀ i, i < 32 → ∃ z : Nat, z < 256 ∧ cs[i]? = some (.int .u8 z) := fun i hi => by
    have h1 := hx i hi
    rw [hc1, Nat.mul_one] at h1
    have hlt : i < xs.length := by omega
    rw [List.getElem?_eq_getElem hlt] at h1
    obtain ⟨a, e0, _, wa⟩ := DataW.trod_int Tryd.underlying5 h1
    have hcs : cs[i]? = some (.int .u8 a) := by
      have : ((Value.agg cs).cells.toList.drop i)[0]? = some (Value.int .u8 a) := by
        have h2 := congrArg (fun l => l[0]?) e0
        simpa [List.getElem?_take] using h2
      simpa [Value.cells] using this
    have hb := bounds_u8 wa
    obtain ⟨z, rfl⟩ := Int.eq_ofNat_of_zero_le hb.1
    exact ⟨z, by omega, hcs⟩
  have hch : ∃ f : Nat → Nat, ∀ i, i < 32 → f i < 256 ∧ cs[i]? = some (.int .u8 (f i)) :=
    ⟨fun i => if h : i < 32 then Classical.choose (hget i h) else 0, fun i hi => by simp only [hi, dif_pos]; exact Classical.choose_spec (hget i hi)⟩
  obtain ⟨f, hf'⟩ := hch
  refine ⟨(List.range 32).map f, ?_, by simp, getD_lt fun x hx => ?_⟩
  · congr 1
    apply Array.ext_getElem?
    intro i
    by_cases hi : i < 32
    · rw [(hf' i hi).2, bysA_get _ i (by simpa using hi)]
      simp [List.getD, hi]
    · rw [Array.getElem?_eq_none (by omega), Array.getElem?_eq_none (by rw [bysA_size]; simp; omega)]
  · obtain ⟨i, hi, rfl⟩ := List.mem_map.1 hx
    exact (hf' i (List.mem_range.1 hi)).1
end Go.Proofs.YtnkfiljmgbnbkaaDoor

/-
  From a walk to the given row: slices of bytes that came in, and the two tables as the program's text lays them.
-/
namespace Go.Proofs.YtnkfiljmgbnbkaaDoor
open Go.ChangeShapes Go.WideShapes Go.ChangeAt Go.RowKit Go.Sh

/-! ### The tables -/
def laidL : List (String × DataW Unit) := [("pigeonry/sha.firstState", Rows.laid_pigeonry_sha_firstState), ("pigeonry/sha.roundWords", Rows.laid_pigeonry_sha_roundWords)]
theorem gH : Tryd.prog.globalNamed "pigeonry/sha.firstState" = some 0 := by kernel_rfl
theorem gHt : (Tryd.prog.globals[0]?).map (·.type) = some 85 := by kernel_rfl
theorem gK : Tryd.prog.globalNamed "pigeonry/sha.roundWords" = some 1 := by kernel_rfl
theorem gKt : (Tryd.prog.globals[1]?).map (·.type) = some 112 := by kernel_rfl
theorem cellsW : Tryd.prog.cellsOf 85 = 8 := by kernel_rfl
theorem cellsK : Tryd.prog.cellsOf 112 = 64 := by kernel_rfl
theorem cells32 : Tryd.prog.cellsOf 61 = 1 := by kernel_rfl
theorem tabs_of {W : World} (h : laidMetH Tryd.prog laidL W) : Tabs W := by
  have h0 : laidMet Tryd.prog laidL W := h
  have t0 : Lib.TabIs Tryd.prog W "pigeonry/sha.firstState" .u32 Hs := Lib.tabIs_of_head (rest := [("pigeonry/sha.roundWords", Rows.laid_pigeonry_sha_roundWords)]) gH gHt Tryd.underlying85 Tryd.underlying61 cells32 cellsW h0
  have h1 : laidMet Tryd.prog [("pigeonry/sha.roundWords", Rows.laid_pigeonry_sha_roundWords)] W := h0.tail
  have t1 : Lib.TabIs Tryd.prog W "pigeonry/sha.roundWords" .u32 Ks := Lib.tabIs_of_head (rest := []) gK gKt Tryd.underlying112 Tryd.underlying61 cells32 cellsK h1
  refine ⟨?_, fun i hi => t0.cell gH i hi, fun i hi => t1.cell gK i (by rw [Ks_length]; exact hi)⟩
  exact World.block_lt_of_cell? W _ (t1.cell gK 0 (by decide))
def putC (c : Array Value) : Obj → Obj
  | .cells _ t frozen => .cells c t frozen
  | o => o
/-- A world for the witness: the settled one, the tables holding what their initialisers lay. -/
noncomputable def laidWorld (os : Os) : World :=
  { World.holding Tryd.prog os ⟨#[], #[], []⟩ with heap := ((World.holding Tryd.prog os ⟨#[], #[], []⟩).heap.modify 0 (putC (stA st0))).modify 1 (putC (wosA Ks)) }

/-! ### Slices of bytes -/
end Go.Proofs.YtnkfiljmgbnbkaaDoor

/-
  A world in which one row was set, and memory was laid behind it.
-/
namespace Go.Proofs.YtnkfiljmgbnbkaaDoor
open Go.RowKit Go.Hold Go.Sh

/-- World w', of w: row g holds c, and some blocks are new. -/
def Sets (w : World) (g : Nat) (c : Array Value) (w' : World) : Prop := ∃ os d, w' = (w.setRow g c).plus os d
theorem Sets.refl {w : World} {g : Nat} {c : Array Value} (h : RowAt w g c) : Sets w g c w := ⟨#[], w.drawn, by rw [setRow_self h]; exact plus_none' w⟩
theorem Sets.size {w w' : World} {g : Nat} {c : Array Value} (s : Sets w g c w') : w.heap.size ≤ w'.heap.size := by
  obtain ⟨os, d, rfl⟩ := s
  rw [World.size_plus, size_setRow]; omega
theorem Sets.row {w w' : World} {g : Nat} {c0 c : Array Value} (h : RowAt w g c0) (s : Sets w g c w') : RowAt w' g c := by
  obtain ⟨os, d, rfl⟩ := s
  exact (h.set c).grow (below_more (Below.refl _ _) os d)
theorem Sets.old {w w' : World} {g n : Nat} {c c1 : Array Value} (s : Sets w g c w') (h : RowAt w n c1) (hn : n ≠ g) : RowAt w' n c1 := by
  obtain ⟨os, d, rfl⟩ := s
  exact (h.other hn c).grow (below_more (Below.refl _ _) os d)
theorem Sets.bytes {w w' : World} {g b o : Nat} {c : Array Value} {l : List Nat} (s : Sets w g c w') (h : BytesAt w b o l) (hn : b ≠ g) : BytesAt w' b o l := by
  obtain ⟨os, d, rfl⟩ := s
  exact (h.other hn c).grow (below_more (Below.refl _ _) os d)
theorem Sets.grow {w w' w2 : World} {g : Nat} {c : Array Value} (s : Sets w g c w') (hb : Below w'.heap.size w' w2) : Sets w g c w2 := by
  obtain ⟨os, d, rfl⟩ := s
  obtain ⟨o2, d2, rfl⟩ := below_plus hb
  exact ⟨os ++ o2, d2, by rw [World.plus_plus]⟩
theorem Sets.cell {w w' : World} {g i : Nat} {c0 c : Array Value} {v : Value} (h : RowAt w g c0) (s : Sets w g c w') : Sets w g (c.setIfInBounds i v) (w'.setCell ⟨g, i, none⟩ v) := by
  obtain ⟨os, d, rfl⟩ := s
  exact ⟨os, d, by rw [World.setCell_plus _ _ _ _ _ _ (by rw [size_setRow]; exact h.2.2), setCell_setRow h]⟩
theorem Sets.set {w w' : World} {g : Nat} {c0 c c' : Array Value} (h : RowAt w g c0) (s : Sets w g c w') : Sets w g c' (w'.setRow g c') := by
  obtain ⟨os, d, rfl⟩ := s
  exact ⟨os, d, setRow_plus_all h⟩
theorem Sets.trans {w w' w2 : World} {g : Nat} {c0 c c' : Array Value} (h : RowAt w g c0) (s : Sets w g c w') (s2 : Sets w' g c' w2) : Sets w g c' w2 := by
  obtain ⟨o2, d2, rfl⟩ := s2
  obtain ⟨os, d, rfl⟩ := s
  exact ⟨os ++ o2, d2, by rw [setRow_plus_all h, World.plus_plus]⟩
theorem Sets.below {a w w' : World} {B g : Nat} {c : Array Value} (s : Sets w g c w') (hb : Below B a w) (hB : B ≤ g) (hBw : B ≤ w.heap.size) : Below B a w' := by
  obtain ⟨os, d, rfl⟩ := s
  refine below_plus_of _ _ _ ⟨hb.os, hb.tape, hb.output, by rw [size_setRow]; exact hb.size, fun k hk => ?_⟩ (by rw [size_setRow]; exact hBw)
  rw [setRow_other w g k c (by omega)]; exact hb.block k hk
end Go.Proofs.YtnkfiljmgbnbkaaDoor

/-
  ChaCha20 as numbers: quarters, double rounds, a block's bytes, a stream's. Of no program.
-/
namespace Go.Ch
open Go Go.Sh

/-! ### Quarters -/
/-- A word turned left. -/
def rl (x : Int) (n : Nat) : Int := rotr x (32 - n)
structure Q4 where
  (a b c d : Int)
def qr (a b c d : Int) : Q4 :=
  let a1 := add32 a b
  let d1 := rl (x32 d a1) 16
  let c1 := add32 c d1
  let b1 := rl (x32 b c1) 12
  let a2 := add32 a1 b1
  let d2 := rl (x32 d1 a2) 8
  let c2 := add32 c1 d2
  let b2 := rl (x32 b1 c2) 7
  ⟨a2, b2, c2, d2⟩
/-- A quarter of the words at four places. -/
def quart (s : List Int) (i j k l : Nat) : List Int :=
  let q := qr (s.getD i 0) (s.getD j 0) (s.getD k 0) (s.getD l 0)
  (((s.set i q.a).set j q.b).set k q.c).set l q.d
theorem quart_length (s : List Int) (i j k l : Nat) : (quart s i j k l).length = s.length := by simp [quart]
/-- The first n columns. -/
def cols (s : List Int) : Nat → List Int
  | 0 => s
  | n + 1 => quart (cols s n) n (4 + n) (8 + n) (12 + n)
/-- The first n diagonals. -/
def dias (s : List Int) : Nat → List Int
  | 0 => s
  | n + 1 => quart (dias s n) n (4 + (n + 1) % 4) (8 + (n + 2) % 4) (12 + (n + 3) % 4)
theorem cols_length (s : List Int) (n : Nat) : (cols s n).length = s.length := by
  induction n with
  | zero => rfl
  | succ n ih => rw [cols, quart_length, ih]
theorem dias_length (s : List Int) (n : Nat) : (dias s n).length = s.length := by
  induction n with
  | zero => rfl
  | succ n ih => rw [dias, quart_length, ih]
def drnd (s : List Int) : List Int := dias (cols s 4) 4
theorem drnd_length (s : List Int) : (drnd s).length = s.length := by unfold drnd; rw [dias_length, cols_length]
def drnds (s : List Int) : Nat → List Int
  | 0 => s
  | n + 1 => drnd (drnds s n)
theorem drnds_length (s : List Int) (n : Nat) : (drnds s n).length = s.length := by
  induction n with
  | zero => rfl
  | succ n ih => rw [drnds, drnd_length, ih]

/-! ### The first words -/
/-- Of a word's bytes, lowest first, the first m. -/
def pkl (b : List Nat) (j : Nat) : Nat → Nat
  | 0 => 0
  | m + 1 => if m < 4 then pkl b j m + b.getD (4 * j + m) 0 * 256 ^ m else pkl b j m
theorem pkl_top (b : List Nat) (j m : Nat) (h : 4 ≤ m) : pkl b j m = pkl b j 4 := by
  induction m with
  | zero => omega
  | succ m ih =>
    by_cases h4 : m < 4
    · obtain rfl : m = 3 := by omega
      rfl
    · rw [pkl, if_neg h4]; exact ih (by omega)
theorem pkl_lt (b : List Nat) (hb : ∀ i, b.getD i 0 < 256) (j m : Nat) : pkl b j m < 256 ^ m := by
  induction m with
  | zero => simp [pkl]
  | succ m ih =>
    rw [pkl, Nat.pow_succ]
    have h1 : b.getD (4 * j + m) 0 * 256 ^ m ≤ 255 * 256 ^ m := Nat.mul_le_mul_right _ (by have := hb (4 * j + m); omega)
    split <;> omega
/-- A word of bytes. -/
def wd (b : List Nat) (j : Nat) : Int := (pkl b j 4 : Nat)
theorem wd_eq (b : List Nat) (j : Nat) : pkl b j 4 = b.getD (4 * j) 0 + b.getD (4 * j + 1) 0 * 256 + b.getD (4 * j + 2) 0 * 65536 + b.getD (4 * j + 3) 0 * 16777216 := by
  simp [pkl]
/-- Words of which those from 'at' on take bytes: behind i bytes. -/
def wput (s : List Int) (a : Nat) (b : List Nat) (i : Nat) : List Int := (List.range 16).map fun j => if j < a then s.getD j 0 else ((pkl b (j - a) (i - 4 * (j - a)) : Nat) : Int)
theorem wput_length (s : List Int) (a : Nat) (b : List Nat) (i : Nat) : (wput s a b i).length = 16 := by simp [wput]
theorem wput_get (s : List Int) (a : Nat) (b : List Nat) (i j : Nat) (h : j < 16) : (wput s a b i)[j]? = some (if j < a then s.getD j 0 else ((pkl b (j - a) (i - 4 * (j - a)) : Nat) : Int)) := by simp [wput, h]
theorem wput_zero (s : List Int) (a : Nat) (b : List Nat) (hs : s.length = 16) (hz : ∀ j, a ≤ j → s.getD j 0 = 0) : wput s a b 0 = s := by
  apply List.ext_getElem?
  intro j
  by_cases h : j < 16
  · rw [wput_get _ _ _ _ _ h, List.getElem?_eq_getElem (by omega)]
    congr 1
    by_cases ha : j < a
    · rw [if_pos ha]; simp [List.getD, hs, h]
    · rw [if_neg ha, Nat.zero_sub]
      have := hz j (by omega)
      simp only [List.getD, List.getElem?_eq_getElem (show j < s.length by omega), Option.getD_some] at this
      rw [this]; rfl
  · rw [List.getElem?_eq_none (by rw [wput_length]; omega), List.getElem?_eq_none (by omega)]
theorem wput_set (s : List Int) (a : Nat) (b : List Nat) (i : Nat) (h : a + i / 4 < 16) : (wput s a b i).set (a + i / 4) ((pkl b (i / 4) (i % 4 + 1) : Nat) : Int) = wput s a b (i + 1) := by
  apply List.ext_getElem?
  intro j
  rw [List.getElem?_set]
  by_cases hj : j < 16
  · rw [wput_get _ _ _ _ _ hj, wput_get _ _ _ _ _ hj]
    by_cases e : a + i / 4 = j
    · subst e
      rw [if_pos rfl, if_pos (by rw [wput_length]; omega), if_neg (by omega), show a + i / 4 - a = i / 4 by omega, show i + 1 - 4 * (i / 4) = i % 4 + 1 by omega]
    · rw [if_neg e]
      by_cases ha : j < a
      · rw [if_pos ha, if_pos ha]
      · rw [if_neg ha, if_neg ha]
        congr 2
        by_cases h1 : j - a < i / 4
        · rw [pkl_top _ _ _ (by omega), pkl_top _ _ (i + 1 - 4 * (j - a)) (by omega)]
        · rw [show i + 1 - 4 * (j - a) = 0 by omega, show i - 4 * (j - a) = 0 by omega]
  · rw [if_neg (by omega), List.getElem?_eq_none (by rw [wput_length]; omega), List.getElem?_eq_none (by rw [wput_length]; omega)]
/-- One byte more. -/
theorem byte_on (x y m : Nat) (hx : x < 256 ^ m) (hy : y < 256) (hm : m < 4) : o32 (x : Int) ((y : Int) * 2 ^ (m * 8) % 4294967296) = ((x + y * 256 ^ m : Nat) : Int) := by
  have e : 256 ^ m = 2 ^ (m * 8) := by rw [show (256 : Nat) = 2 ^ 8 by decide, ← Nat.pow_mul, Nat.mul_comm]
  have h4 : 256 ^ m ≤ 16777216 := Nat.le_trans (Nat.pow_le_pow_right (by decide) (show m ≤ 3 by omega)) (by decide)
  have h1 : y * 256 ^ m ≤ 255 * 256 ^ m := Nat.mul_le_mul_right _ (by omega)
  have e2 : (y : Int) * 2 ^ (m * 8) % 4294967296 = ((y * 256 ^ m : Nat) : Int) := by
    rw [show ((2 : Int) ^ (m * 8)) = ((256 ^ m : Nat) : Int) by rw [e]; simp]
    omega
  unfold o32
  rw [e2, u32_or_nat _ _ (by omega) (by omega)]
  congr 1
  have := Nat.shiftLeft_add_eq_or_of_lt (b := x) (i := m * 8) (by rw [← e]; exact hx) y
  rw [Nat.shiftLeft_eq, ← e] at this
  rw [Nat.or_comm, ← this, Nat.add_comm]
theorem wput_step (b : List Nat) (hb : ∀ i, b.getD i 0 < 256) (i : Nat) :
    o32 ((pkl b (i / 4) (i % 4) : Nat) : Int) (((b.getD i 0 : Nat) : Int) * 2 ^ (i % 4 * 8) % 4294967296) = ((pkl b (i / 4) (i % 4 + 1) : Nat) : Int) := by
  rw [byte_on _ _ _ (pkl_lt b hb _ _) (hb i) (by omega), pkl, if_pos (by omega), show 4 * (i / 4) + i % 4 = i by omega]
def cst : List Int := [1634760805, 857760878, 2036477234, 1797285236]
/-- A block's first words. -/
def fst (k n : List Nat) (c : Int) : List Int := cst ++ (List.range 8).map (wd k) ++ [c] ++ (List.range 3).map (wd n)
theorem fst_length (k n : List Nat) (c : Int) : (fst k n c).length = 16 := by simp [fst, cst]
theorem fst_get (k n : List Nat) (c : Int) (j : Nat) (h : j < 16) : (fst k n c)[j]? = some (if j < 4 then cst.getD j 0 else if j < 12 then wd k (j - 4) else if j = 12 then c else wd n (j - 13)) := by
  have hc : cst.length = 4 := rfl
  unfold fst
  by_cases h1 : j < 4
  · rw [if_pos h1, List.append_assoc, List.append_assoc, List.getElem?_append_left (by omega), List.getElem?_eq_getElem (by omega)]
    simp [List.getD, hc, h1]
  · rw [if_neg h1]
    by_cases h2 : j < 12
    · rw [if_pos h2, List.append_assoc, List.getElem?_append_left (by simp; omega), List.getElem?_append_right (by omega), hc, List.getElem?_map, List.getElem?_range (by omega)]
      rfl
    · rw [if_neg h2]
      by_cases h3 : j = 12
      · subst h3
        rw [if_pos rfl, List.getElem?_append_left (by simp; omega), List.getElem?_append_right (by simp; omega)]
        simp [hc]
      · have e : (cst ++ (List.range 8).map (wd k) ++ [c]).length = 13 := by simp [hc]
        rw [if_neg h3, List.getElem?_append_right (by omega), e, List.getElem?_map, List.getElem?_range (by omega)]
        rfl
def cst0 : List Int := cst ++ List.replicate 12 0
theorem cst0_length : cst0.length = 16 := rfl
theorem cst0_zero (j : Nat) (h : 4 ≤ j) : cst0.getD j 0 = 0 := by
  unfold cst0 cst
  rw [List.getD, List.getElem?_append_right (by simpa using h), List.getElem?_replicate]
  split <;> rfl
theorem cst0_get (j : Nat) (h : j < 4) : cst0.getD j 0 = cst.getD j 0 := by
  have hc : cst.length = 4 := rfl
  unfold cst0
  rw [List.getD, List.getElem?_append_left (by omega)]; rfl
def mid (k : List Nat) (c : Int) : List Int := (wput cst0 4 k 32).set 12 c
theorem mid_length (k : List Nat) (c : Int) : (mid k c).length = 16 := by unfold mid; rw [List.length_set, wput_length]
theorem mid_get (k : List Nat) (c : Int) (j : Nat) (h : j < 16) : (mid k c).getD j 0 = if j < 4 then cst.getD j 0 else if j < 12 then wd k (j - 4) else if j = 12 then c else 0 := by
  unfold mid List.getD
  rw [List.getElem?_set]
  by_cases e : 12 = j
  · subst e; rw [if_pos rfl, if_pos (by rw [wput_length]; decide)]; rfl
  · rw [if_neg e, wput_get _ _ _ _ _ h, Option.getD_some]
    by_cases h1 : j < 4
    · rw [if_pos h1, if_pos h1]; exact cst0_get j h1
    · rw [if_neg h1, if_neg h1]
      by_cases h2 : j < 12
      · rw [if_pos h2, pkl_top _ _ _ (by omega)]; unfold wd; rfl
      · rw [if_neg h2, if_neg (by omega), show 32 - 4 * (j - 4) = 0 by omega]; rfl
theorem mid_zero (k : List Nat) (c : Int) (j : Nat) (h : 13 ≤ j) : (mid k c).getD j 0 = 0 := by
  by_cases hj : j < 16
  · rw [mid_get _ _ _ hj, if_neg (by omega), if_neg (by omega), if_neg (by omega)]
  · rw [List.getD, List.getElem?_eq_none (by rw [mid_length]; omega)]; rfl
theorem nonce_in (k n : List Nat) (c : Int) : wput (mid k c) 13 n 12 = fst k n c := by
  apply List.ext_getElem?
  intro j
  by_cases h : j < 16
  · rw [wput_get _ _ _ _ _ h, fst_get _ _ _ _ h]
    congr 1
    by_cases h1 : j < 13
    · rw [if_pos h1, mid_get _ _ _ h]
      by_cases h2 : j < 12
      · simp only [if_pos h2]
      · rw [if_neg (by omega), if_neg h2, if_pos (by omega), if_neg (by omega), if_neg h2, if_pos (by omega)]
    · rw [if_neg h1, if_neg (by omega), if_neg (by omega), if_neg (by omega), pkl_top _ _ _ (by omega)]; unfold wd; rfl
  · rw [List.getElem?_eq_none (by rw [wput_length]; omega), List.getElem?_eq_none (by rw [fst_length]; omega)]

/-! ### A block -/
def sum16 (s f : List Int) : List Int := (List.range 16).map fun i => add32 (s.getD i 0) (f.getD i 0)
/-- Of which the first k are sums. -/
def sumW (s f : List Int) (k : Nat) : List Int := (List.range 16).map fun i => if i < k then add32 (s.getD i 0) (f.getD i 0) else s.getD i 0
theorem sumW_length (s f : List Int) (k : Nat) : (sumW s f k).length = 16 := by simp [sumW]
theorem sumW_get (s f : List Int) (k i : Nat) (h : i < 16) : (sumW s f k)[i]? = some (if i < k then add32 (s.getD i 0) (f.getD i 0) else s.getD i 0) := by simp [sumW, h]
theorem sumW_zero (s f : List Int) (hs : s.length = 16) : sumW s f 0 = s := by
  apply List.ext_getElem?
  intro i
  by_cases h : i < 16
  · rw [sumW_get _ _ _ _ h, if_neg (by omega), List.getElem?_eq_getElem (by omega)]; simp [List.getD, hs, h]
  · rw [List.getElem?_eq_none (by rw [sumW_length]; omega), List.getElem?_eq_none (by omega)]
theorem sumW_set (s f : List Int) (k : Nat) (h : k < 16) : (sumW s f k).set k (add32 (s.getD k 0) (f.getD k 0)) = sumW s f (k + 1) := by
  apply List.ext_getElem?
  intro j
  rw [List.getElem?_set]
  by_cases hj : j < 16
  · rw [sumW_get _ _ _ _ hj, sumW_get _ _ _ _ hj]
    by_cases e : k = j
    · subst e; rw [if_pos rfl, if_pos (by rw [sumW_length]; exact h), if_pos (by omega)]
    · rw [if_neg e]
      by_cases h1 : j < k
      · rw [if_pos h1, if_pos (by omega)]
      · rw [if_neg h1, if_neg (by omega)]
  · rw [if_neg (by omega), List.getElem?_eq_none (by rw [sumW_length]; omega), List.getElem?_eq_none (by rw [sumW_length]; omega)]
theorem sumW_all (s f : List Int) : sumW s f 16 = sum16 s f := by
  unfold sumW sum16
  apply List.map_congr_left
  intro i hi
  rw [if_pos (List.mem_range.1 hi)]
theorem sum16_get (s f : List Int) (i : Nat) (h : i < 16) : (sum16 s f).getD i 0 = add32 (s.getD i 0) (f.getD i 0) := by simp [sum16, List.getD, h]
theorem sum16_length (s f : List Int) : (sum16 s f).length = 16 := by simp [sum16]
/-- A byte of words, as a number of the language; and as a plain one. -/
def oI (s : List Int) (i : Nat) : Int := s.getD (i / 4) 0 / 2 ^ (i % 4 * 8) % 256
def oB (s : List Int) (i : Nat) : Nat := (oI s i).toNat
theorem oI_nat (s : List Int) (i : Nat) : ((oB s i : Nat) : Int) = oI s i := by
  unfold oB
  have : 0 ≤ oI s i := Int.emod_nonneg _ (by decide)
  omega
theorem oB_lt (s : List Int) (i : Nat) : oB s i < 256 := by
  have h1 := oI_nat s i
  have h2 : oI s i < 256 := Int.emod_lt_of_pos _ (by decide)
  omega
/-- Of which the first k are there. -/
def outP (s : List Int) (k : Nat) : List Nat := (List.range 64).map fun i => if i < k then oB s i else 0
def outB (s : List Int) : List Nat := (List.range 64).map (oB s)
theorem outP_length (s : List Int) (k : Nat) : (outP s k).length = 64 := by simp [outP]
theorem outP_get (s : List Int) (k i : Nat) (h : i < 64) : (outP s k)[i]? = some (if i < k then oB s i else 0) := by simp [outP, h]
theorem outP_zero (s : List Int) : outP s 0 = zs 64 := by
  apply List.ext_getElem?
  intro i
  by_cases h : i < 64
  · rw [outP_get _ _ _ h, if_neg (by omega), zs, List.getElem?_replicate, if_pos h]
  · rw [List.getElem?_eq_none (by rw [outP_length]; omega), List.getElem?_eq_none (by rw [zs_length]; omega)]
theorem outP_set (s : List Int) (k : Nat) (h : k < 64) : (outP s k).set k (oB s k) = outP s (k + 1) := by
  apply List.ext_getElem?
  intro j
  rw [List.getElem?_set]
  by_cases hj : j < 64
  · rw [outP_get _ _ _ hj, outP_get _ _ _ hj]
    by_cases e : k = j
    · subst e; rw [if_pos rfl, if_pos (by rw [outP_length]; exact h), if_pos (by omega)]
    · rw [if_neg e]
      by_cases h1 : j < k
      · rw [if_pos h1, if_pos (by omega)]
      · rw [if_neg h1, if_neg (by omega)]
  · rw [if_neg (by omega), List.getElem?_eq_none (by rw [outP_length]; omega), List.getElem?_eq_none (by rw [outP_length]; omega)]
theorem outP_all (s : List Int) : outP s 64 = outB s := by
  unfold outP outB
  apply List.map_congr_left
  intro i hi
  rw [if_pos (List.mem_range.1 hi)]
theorem outB_length (s : List Int) : (outB s).length = 64 := by simp [outB]
theorem outB_bts (s : List Int) : ∀ i, (outB s).getD i 0 < 256 := getD_lt fun x hx => by
  obtain ⟨i, _, rfl⟩ := List.mem_map.1 hx
  exact oB_lt s i
/-- A block. -/
@[irreducible] def blk (k n : List Nat) (c : Nat) : List Nat := outB (sum16 (drnds (fst k n (c : Int)) 10) (fst k n (c : Int)))
theorem blk_length (k n : List Nat) (c : Nat) : (blk k n c).length = 64 := by unfold blk; exact outB_length _
theorem blk_bts (k n : List Nat) (c : Nat) : ∀ i, (blk k n c).getD i 0 < 256 := by unfold blk; exact outB_bts _
theorem blk_eq (k n : List Nat) (c : Nat) : blk k n c = outB (sum16 (drnds (fst k n (c : Int)) 10) (fst k n (c : Int))) := by unfold blk; rfl

/-! ### A stream -/
/-- A byte of the stream from block c on. -/
def stB (k n : List Nat) (c i : Nat) : Nat := (blk k n (c + i / 64)).getD (i % 64) 0
theorem stB_lt (k n : List Nat) (c i : Nat) : stB k n c i < 256 := blk_bts _ _ _ _
def strm (k n : List Nat) (c size : Nat) : List Nat := (List.range size).map (stB k n c)
theorem strm_length (k n : List Nat) (c size : Nat) : (strm k n c size).length = size := by simp [strm]
theorem strm_get (k n : List Nat) (c size i : Nat) (h : i < size) : (strm k n c size).getD i 0 = stB k n c i := by simp [strm, List.getD, h]
theorem strm_bts (k n : List Nat) (c size : Nat) : ∀ i, (strm k n c size).getD i 0 < 256 := getD_lt fun x hx => by
  obtain ⟨i, _, rfl⟩ := List.mem_map.1 hx
  exact stB_lt _ _ _ _
/-- Of which the first m bytes are there. -/
def strP (k n : List Nat) (c size m : Nat) : List Nat := (List.range size).map fun i => if i < m then stB k n c i else 0
theorem strP_length (k n : List Nat) (c size m : Nat) : (strP k n c size m).length = size := by simp [strP]
theorem strP_get (k n : List Nat) (c size m i : Nat) (h : i < size) : (strP k n c size m)[i]? = some (if i < m then stB k n c i else 0) := by simp [strP, h]
theorem strP_zero (k n : List Nat) (c size : Nat) : strP k n c size 0 = zs size := by
  apply List.ext_getElem?
  intro i
  by_cases h : i < size
  · rw [strP_get _ _ _ _ _ _ h]; simp [zs, h]
  · rw [List.getElem?_eq_none (by rw [strP_length]; omega), List.getElem?_eq_none (by rw [zs_length]; omega)]
theorem strP_all (k n : List Nat) (c size m : Nat) (h : size ≤ m) : strP k n c size m = strm k n c size := by
  unfold strP strm
  apply List.map_congr_left
  intro i hi
  rw [if_pos (by have := List.mem_range.1 hi; omega)]
/-- One block more goes over. -/
theorem strP_step (k n : List Nat) (c size i t : Nat) (hi : 64 * i < size) (ht : t = min 64 (size - 64 * i)) :
    (strP k n c size (64 * i)).take (64 * i) ++ (blk k n (c + i)).take t ++ (strP k n c size (64 * i)).drop (64 * i + t) = strP k n c size (64 * (i + 1)) := by
  have hl := strP_length k n c size (64 * i)
  have hb := blk_length k n (c + i)
  apply List.ext_getElem?
  intro j
  by_cases hj : j < size
  · rw [strP_get _ _ _ _ _ _ hj]
    by_cases h1 : j < 64 * i
    · rw [List.append_assoc, List.getElem?_append_left (by simp; omega), List.getElem?_take, if_pos h1, strP_get _ _ _ _ _ _ hj, if_pos h1, if_pos (by omega)]
    · by_cases h2 : j < 64 * i + t
      · rw [List.append_assoc, List.getElem?_append_right (by simp; omega), List.getElem?_append_left (by simp; omega)]
        have e : j - ((strP k n c size (64 * i)).take (64 * i)).length = j - 64 * i := by simp; omega
        rw [e, List.getElem?_take, if_pos (by omega), if_pos (by omega), List.getElem?_eq_getElem (by omega)]
        unfold stB
        rw [show c + j / 64 = c + i by omega, show j % 64 = j - 64 * i by omega]
        simp [List.getD, hb, show j - 64 * i < 64 by omega]
      · rw [List.getElem?_append_right (by simp; omega)]
        have e : j - ((strP k n c size (64 * i)).take (64 * i) ++ (blk k n (c + i)).take t).length = j - (64 * i + t) := by simp; omega
        rw [e, List.getElem?_drop, show 64 * i + t + (j - (64 * i + t)) = j by omega, strP_get _ _ _ _ _ _ hj, if_neg h1, if_neg (by omega)]
  · rw [List.getElem?_eq_none (by simp; omega), List.getElem?_eq_none (by rw [strP_length]; omega)]
/-- A stream from a whole block on. -/
theorem strm_drop (k n : List Nat) (c m size : Nat) : (strm k n c (64 * m + size)).drop (64 * m) = strm k n (c + m) size := by
  apply List.ext_getElem?
  intro i
  rw [List.getElem?_drop]
  by_cases h : i < size
  · simp only [strm, List.getElem?_map, List.getElem?_range (show 64 * m + i < 64 * m + size by omega), List.getElem?_range h, Option.map_some]
    unfold stB
    rw [show c + (64 * m + i) / 64 = c + m + i / 64 by omega, show (64 * m + i) % 64 = i % 64 by omega]
  · rw [List.getElem?_eq_none (by rw [strm_length]; omega), List.getElem?_eq_none (by rw [strm_length]; omega)]
theorem strm_take (k n : List Nat) (c size : Nat) (h : 64 ≤ size) : (strm k n c size).take 64 = blk k n c := by
  have hb := blk_length k n c
  apply List.ext_getElem?
  intro i
  rw [List.getElem?_take]
  by_cases hi : i < 64
  · rw [if_pos hi, List.getElem?_eq_getElem (show i < (blk k n c).length by omega)]
    simp only [strm, List.getElem?_map, List.getElem?_range (show i < size by omega), Option.map_some]
    unfold stB
    rw [show c + i / 64 = c by omega, show i % 64 = i by omega]
    simp [List.getD, hb, hi]
  · rw [if_neg hi, List.getElem?_eq_none (by omega)]

/-! ### Bytes that are turned -/
def mixd (a b : List Nat) : List Nat := (List.range b.length).map fun i => a.getD i 0 ^^^ b.getD i 0
theorem mixd_length (a b : List Nat) : (mixd a b).length = b.length := by simp [mixd]
theorem mixd_get (a b : List Nat) (i : Nat) (h : i < b.length) : (mixd a b).getD i 0 = a.getD i 0 ^^^ b.getD i 0 := by simp [mixd, List.getD, h]
theorem mixd_bts {a b : List Nat} (ha : ∀ i, a.getD i 0 < 256) (hb : ∀ i, b.getD i 0 < 256) : ∀ i, (mixd a b).getD i 0 < 256 := getD_lt fun x hx => by
  obtain ⟨i, _, rfl⟩ := List.mem_map.1 hx
  exact xor_lt (ha i) (hb i)
/-- Of which the first m are turned. -/
def mixP (a b : List Nat) (m : Nat) : List Nat := (List.range b.length).map fun i => if i < m then a.getD i 0 ^^^ b.getD i 0 else a.getD i 0
theorem mixP_length (a b : List Nat) (m : Nat) : (mixP a b m).length = b.length := by simp [mixP]
theorem mixP_get (a b : List Nat) (m i : Nat) (h : i < b.length) : (mixP a b m)[i]? = some (if i < m then a.getD i 0 ^^^ b.getD i 0 else a.getD i 0) := by simp [mixP, h]
theorem mixP_zero (a b : List Nat) (h : a.length = b.length) : mixP a b 0 = a := by
  apply List.ext_getElem?
  intro i
  by_cases hi : i < b.length
  · rw [mixP_get _ _ _ _ hi, if_neg (by omega), List.getElem?_eq_getElem (by omega)]; simp [List.getD, h, hi]
  · rw [List.getElem?_eq_none (by rw [mixP_length]; omega), List.getElem?_eq_none (by omega)]
theorem mixP_all (a b : List Nat) : mixP a b b.length = mixd a b := by
  unfold mixP mixd
  apply List.map_congr_left
  intro i hi
  rw [if_pos (List.mem_range.1 hi)]
theorem mixP_set (a b : List Nat) (m : Nat) (h : m < b.length) : (mixP a b m).set m (a.getD m 0 ^^^ b.getD m 0) = mixP a b (m + 1) := by
  apply List.ext_getElem?
  intro j
  rw [List.getElem?_set]
  by_cases hj : j < b.length
  · rw [mixP_get _ _ _ _ hj, mixP_get _ _ _ _ hj]
    by_cases e : m = j
    · subst e; rw [if_pos rfl, if_pos (by rw [mixP_length]; exact h), if_pos (by omega)]
    · rw [if_neg e]
      by_cases h1 : j < m
      · rw [if_pos h1, if_pos (by omega)]
      · rw [if_neg h1, if_neg (by omega)]
  · rw [if_neg (by omega), List.getElem?_eq_none (by rw [mixP_length]; omega), List.getElem?_eq_none (by rw [mixP_length]; omega)]
theorem xor_twice (a b : Nat) : a ^^^ (a ^^^ b) = b := by rw [← Nat.xor_assoc, Nat.xor_self, Nat.zero_xor]
/-- Turned twice. -/
theorem mixd_twice (a b : List Nat) : mixd a (mixd a b) = b := by
  apply List.ext_getElem?
  intro i
  by_cases h : i < b.length
  · simp only [mixd, List.length_map, List.length_range, List.getElem?_map, List.getElem?_range h, Option.map_some]
    rw [List.getElem?_eq_getElem h]
    congr 1
    simp only [List.getD, List.getElem?_map, List.getElem?_range h, Option.map_some, Option.getD_some, List.getElem?_eq_getElem h]
    exact xor_twice _ _
  · rw [List.getElem?_eq_none (by rw [mixd_length, mixd_length]; omega), List.getElem?_eq_none (by omega)]
/-- Noughts are turned to the stream itself. -/
theorem mixd_zs (a : List Nat) (m : Nat) (h : m = a.length) : mixd a (zs m) = a := by
  subst h
  apply List.ext_getElem?
  intro i
  by_cases h : i < a.length
  · simp [mixd, zs, h, List.getD]
  · rw [List.getElem?_eq_none (by rw [mixd_length, zs_length]; omega), List.getElem?_eq_none (by omega)]

/-! ### An answer that the document fixes -/
def key0 : List Nat := List.range 32
def non0 : List Nat := [0, 0, 0, 9, 0, 0, 0, 74, 0, 0, 0, 0]
set_option maxRecDepth 100000 in
theorem alive_blk : (blk key0 non0 1).getD 0 0 = 16 ∧ (blk key0 non0 1).getD 1 0 = 241 := by
  rw [blk_eq]
  decide +kernel
end Go.Ch

/-
  Package chacha, and the reference: words that are turned; rows of words, of a block, of a nonce, by value.
-/
namespace Go.Proofs.YtnkfiljmgbnbkaaDoor
open Go.RowKit Go.Hold Go.Sh Go.Ch

theorem rl_eq (x : Int) (n k : Nat) (hk : n + k = 32) : o32 (x * 2 ^ n % 4294967296) (x / 2 ^ k) = rl x n := by
  unfold o32 rl rotr
  rw [or_comm32, show 32 - n = k by omega, show 32 - k = n by omega]
set_option maxHeartbeats 400000 in
theorem rotP (x : Int) (n k : Nat) (hk : n + k = 32) (hn : 0 < n) (hk' : 0 < k) (hb : bits .and .u64 (n : Int) 31 = (n : Int)) (w : World) : Calls Tryd.prog 81 #[.int .u32 x, .int .i64 (n : Int)] w fun e w' => e = .returned (.int .u32 (rl x n)) ∧ w' = w := by
  have hs : IntKind.u64.wrap (32 - (n : Int)) = (k : Int) := by rw [IntWalk.u64_in _ (by omega)]; omega
  have hw : IntKind.u64.wrap (n : Int) = (n : Int) := IntWalk.u64_in _ (by omega)
  have h1 : (0 : Int) ≤ (k : Int) := by omega
  have h2 : (k : Int) ≤ 32 := by omega
  have h3 : (0 : Int) ≤ (n : Int) := by omega
  have h4 : (n : Int) ≤ 32 := by omega
  have hr := rl_eq x n k hk
  go_enter Tryd.func81, Tryd.ntmps81
  go_wp2_with fail
  go_ret
  exact ⟨rfl, rfl⟩
theorem rotP_16 (x : Int) (w : World) : Calls Tryd.prog 81 #[.int .u32 x, .int .i64 16] w fun e w' => e = .returned (.int .u32 (rl x 16)) ∧ w' = w := rotP x 16 16 rfl (by decide) (by decide) (by decide +kernel) w
theorem rotP_12 (x : Int) (w : World) : Calls Tryd.prog 81 #[.int .u32 x, .int .i64 12] w fun e w' => e = .returned (.int .u32 (rl x 12)) ∧ w' = w := rotP x 12 20 rfl (by decide) (by decide) (by decide +kernel) w
theorem rotP_8 (x : Int) (w : World) : Calls Tryd.prog 81 #[.int .u32 x, .int .i64 8] w fun e w' => e = .returned (.int .u32 (rl x 8)) ∧ w' = w := rotP x 8 24 rfl (by decide) (by decide) (by decide +kernel) w
theorem rotP_7 (x : Int) (w : World) : Calls Tryd.prog 81 #[.int .u32 x, .int .i64 7] w fun e w' => e = .returned (.int .u32 (rl x 7)) ∧ w' = w := rotP x 7 25 rfl (by decide) (by decide) (by decide +kernel) w

/-! ### Whole rows -/
@[go_sem ↓] theorem loadAt_cw (v : Value) : Instr.loadAt 98 v = loadRow 98 v := rfl
@[go_sem ↓] theorem loadAt_b64 (v : Value) : Instr.loadAt 82 v = loadRow 82 v := rfl
@[go_sem ↓] theorem loadAt_non (v : Value) : Instr.loadAt 35 v = loadRow 35 v := rfl
@[go_sem] theorem run_loadCw (w : World) (n : Nat) (h1 : w.isRow n = true) (h2 : (w.rowOf n).size = 16) : (loadRow 98 (.pointer (some ⟨n, 0, none⟩))).run Tryd.prog w = .ok (.agg (w.rowOf n)) w := run_loadRow w Tryd.underlying98 rfl (by kernel_rfl) n h1 h2
@[go_sem] theorem run_loadB64 (w : World) (n : Nat) (h1 : w.isRow n = true) (h2 : (w.rowOf n).size = 64) : (loadRow 82 (.pointer (some ⟨n, 0, none⟩))).run Tryd.prog w = .ok (.agg (w.rowOf n)) w := run_loadRow w Tryd.underlying82 rfl (by kernel_rfl) n h1 h2
@[go_sem] theorem run_loadNon (w : World) (n : Nat) (h1 : w.isRow n = true) (h2 : (w.rowOf n).size = 12) : (loadRow 35 (.pointer (some ⟨n, 0, none⟩))).run Tryd.prog w = .ok (.agg (w.rowOf n)) w := run_loadRow w Tryd.underlying35 rfl (by kernel_rfl) n h1 h2
@[go_sem ↓] theorem loadAt_b12 (v : Value) : Instr.loadAt 34 v = loadRow 34 v := rfl
@[go_sem] theorem run_loadB12 (w : World) (n : Nat) (h1 : w.isRow n = true) (h2 : (w.rowOf n).size = 12) : (loadRow 34 (.pointer (some ⟨n, 0, none⟩))).run Tryd.prog w = .ok (.agg (w.rowOf n)) w := run_loadRow w Tryd.underlying34 rfl (by kernel_rfl) n h1 h2
theorem results_cw {fn : Func} {p : Tmp} {cs : Array Value} (h : fn.results = #[.cell p 98]) (hc : cs.size = 16) (w : World) (tmps : Array Value) (n : Nat) (hp : tmps.getD p undef = .pointer (some ⟨n, 0, none⟩)) (h1 : w.isRow n = true) (h2 : w.rowOf n = cs) : (results fn tmps).run Tryd.prog w = .ok (.agg cs) w :=
  results_row w h Tryd.underlying98 rfl (by rw [hc]; kernel_rfl) tmps n hp h1 h2
theorem results_b64 {fn : Func} {p : Tmp} {cs : Array Value} (h : fn.results = #[.cell p 82]) (hc : cs.size = 64) (w : World) (tmps : Array Value) (n : Nat) (hp : tmps.getD p undef = .pointer (some ⟨n, 0, none⟩)) (h1 : w.isRow n = true) (h2 : w.rowOf n = cs) : (results fn tmps).run Tryd.prog w = .ok (.agg cs) w :=
  results_row w h Tryd.underlying82 rfl (by rw [hc]; kernel_rfl) tmps n hp h1 h2
@[go_sem ↓] theorem build_cw (ps : Array (Nat × Value)) : Instr.build 98 ps = bldA 98 ps := rfl
set_option maxRecDepth 100000 in
@[go_sem] theorem run_bldCw (w : World) : (bldA 98 #[(0, .int .u32 1634760805), (1, .int .u32 857760878), (2, .int .u32 2036477234), (3, .int .u32 1797285236)]).run Tryd.prog w = .ok (.agg (wosA cst0)) w := run_build w _ _ _ (by kernel_rfl)
theorem bysA_size' {l : List Nat} {n : Nat} (h : l.length = n) : (bysA l).size = n := by rw [bysA_size, h]
theorem wosA_size' {l : List Int} {n : Nat} (h : l.length = n) : (wosA l).size = n := by rw [wosA_size, h]
end Go.Proofs.YtnkfiljmgbnbkaaDoor

/-
  A region that draws its order, of which any operations hold, and the others come in one order that is named: some that hold may come late, among these.
-/
namespace Go.Hold
open Go Go.RowKit
section
variable {P : Program} {md : Region.Mode} {W : World} {Q : Exit → Act → World → Prop} {l : List Oper} {hs ts : List Nat} {bs : List Bool} {vs : List Value}

def seqT (md : Region.Mode) (ops : Array Oper) : List Nat → Array Bool → Bool
  | [], listed => (Region.ready md ops listed).isEmpty
  | t :: ts, listed => decide (Region.ready md ops listed = [t]) && seqT md ops ts (listed.setIfInBounds t true)
def takeT (md : Region.Mode) (ops : Array Oper) (ts : List Nat) : List Nat → Array Bool → Bool
  | [], listed => seqT md ops ts listed
  | k :: ks, listed => (Region.ready md ops listed).contains k && Region.free md ops listed k && takeT md ops ts ks (listed.setIfInBounds k true)
def pickTB (md : Region.Mode) (ops : Array Oper) (hs : List Nat) (bs : List Bool) (ts : List Nat) : Bool :=
  Region.noSelect ops && decide (hs.length + ts.length = ops.size) && decide (bs.length = hs.length) && decide hs.Nodup && (hs.all fun i => decide (i < ops.size)) && (ts.all fun i => decide (i < ops.size)) &&
  ((List.range ops.size).all fun t => hs.contains t || ((List.range ops.size).any fun u => !hs.contains u && Region.waitsFor md ops t u) || waitB md ops t (hs.filter fun i => !(late hs bs).contains i)) &&
  takeT md ops ts hs (Array.replicate ops.size false)

theorem wpAny_of_seqT : ∀ (ts : List Nat) (listed : Array Bool) (a : Act) (w : World), (∀ i ∈ ts, i < l.length) → seqT md l.toArray ts listed = true → wpList P l.toArray Q (pick l ts) a w → wpAny P md l.toArray Q ts.length listed a w
  | [], listed, a, w, _, hB, h => ⟨by simpa [seqT] using hB, h⟩
  | t :: ts, listed, a, w, hlt, hB, h => by
    have ht : t < l.length := hlt t (by simp)
    have h0 : l.toArray[t]? = some l[t] := by simp [ht]
    simp only [seqT, Bool.and_eq_true, decide_eq_true_eq] at hB
    refine ⟨fun h1 => (by rw [hB.1] at h1; cases h1), fun i hi => ?_⟩
    rw [hB.1] at hi
    have hik : i = t := by simpa using hi
    subst hik
    rw [pick, List.getElem?_eq_getElem ht] at h
    have hw : wpOp P l.toArray Q i (wpList P l.toArray Q (pick l ts)) a w := by unfold wpOp; simp only [h0]; exact h
    exact wpOp_mono (fun a' w' h' => wpAny_of_seqT ts _ a' w' (fun j hj => hlt j (by simp [hj])) hB.2 h') hw

theorem anyP_heldT (hsel : Region.noSelect l.toArray = true) (hlt : ∀ i ∈ hs, i < l.length) (hts : ∀ i ∈ ts, i < l.length) (hnd : hs.Nodup) (hbl : bs.length = hs.length) (hvl : vs.length = hs.length)
    (hwait : ∀ listed, PickInv md l.toArray (fun i => hs.contains i) listed → ¬ Done l.toArray (fun i => hs.contains i) (fun i => (late hs bs).contains i) listed → ∀ t ∈ Region.ready md l.toArray listed, (fun i => hs.contains i) t = true)
    (hQ : ∀ c a d v w, Q (.panic c) (Act.put a d v) w → Q (.panic c) a w) :
    ∀ (ks : List Nat) (cs : List Bool) (ws : List Value) (p : Nat) (listed : Array Bool) (a : Act), hs.drop p = ks → bs.drop p = cs → vs.drop p = ws → p ≤ hs.length → PickInv md l.toArray (fun i => hs.contains i) listed →
    (∀ i, i ∈ hs → i ∉ ks → listed.getD i false = true) → takeT md l.toArray ts ks listed = true →
    chainF P l.toArray W (fun a' => ∀ w', Below W.heap.size W w' → wpList P l.toArray Q (pick l ts) a' w') (pick l ks) cs ws a →
    anyP (fun _ => none) (look hs vs) (fun i => hs.contains i) (fun i => (late hs bs).contains i) P md l.toArray W Q ts.length ks.length (fun _ => none) listed a
  | [], cs, ws, p, listed, a, hd, hb, hw, hp, inv, hdn, hB, h => by
    have hpe : p = hs.length := by
      have := congrArg List.length hd
      simp at this; omega
    have hwn : ws = [] := by rw [← hw, hpe, ← hvl, List.drop_length]
    subst hwn
    refine ⟨fun i hi => ?_, fun i _ hin _ => hdn i (by simpa using hin) (by simp), fun w hS _ => ?_⟩
    · refine Bool.eq_false_iff.2 fun hc => ?_
      have h1 := (mem_ready.1 hi).1
      have h2 := hdn i (by simpa using hc) (by simp)
      rw [getD_both h1] at h2; cases h2
    · have hq : ∀ w', Below W.heap.size W w' → wpList P l.toArray Q (pick l ts) a w' := by
        cases cs <;> exact h
      exact wpAny_of_seqT ts listed a w hts hB (hq w hS)
  | k :: ks, cs, ws, p, listed, a, hd, hb, hw, hp, inv, hdn, hB, h => by
    have hpk : hs[p]? = some k := by
      have := congrArg (fun x => x[0]?) hd
      simpa using this
    have hkm : k ∈ hs := List.mem_of_getElem? hpk
    have hpl : p < hs.length := (List.getElem?_eq_some_iff.1 hpk).1
    have hkl : k < l.length := hlt k hkm
    have h0 : l.toArray[k]? = some l[k] := by simp [hkl]
    simp only [takeT, Bool.and_eq_true] at hB
    obtain ⟨⟨hr, hf⟩, hB'⟩ := hB
    have hr' : k ∈ Region.ready md l.toArray listed := by simpa using hr
    rw [pick, List.getElem?_eq_getElem hkl] at h
    cases cs with
    | nil => simp [chainF] at h
    | cons c cs =>
    cases ws with
    | nil => simp [chainF] at h
    | cons v ws =>
      obtain ⟨hg, hy, hnx⟩ := h
      have hbp : bs[p]? = some c := by
        have := congrArg (fun x => x[0]?) hb
        simpa using this
      have hvp : vs[p]? = some v := by
        have := congrArg (fun x => x[0]?) hw
        simpa using this
      have hval : look hs vs k = v := look_at hs vs p k v hnd hpk hvp
      have hfl : (late hs bs).contains k = c := late_spec hs bs p k c hnd hbl hpk hbp
      have hsz : k < listed.size := by rw [inv.size]; simpa using hkl
      show anyP _ _ _ _ P md l.toArray W Q _ (ks.length + 1) _ listed a
      refine anyP_take _ _ _ _ h0 hsel (by simpa using hkm) hwait hQ (fun _ => rfl) ks.length _ listed a ⟨0, fun _ _ h => by cases h⟩ (fun _ _ => rfl) inv (Region.free_spec h0 hf) hr' (fun hfk => by rw [hval]; exact hy (hfl.symm.trans hfk))
        ⟨fun _ => ?_, fun t z he => by cases he⟩
      rw [hval]
      refine ⟨hg, anyP_heldT hsel hlt hts hnd hbl hvl hwait hQ ks cs ws (p + 1) _ _ (by rw [← List.drop_drop, hd]; rfl) (by rw [← List.drop_drop, hb]; rfl) (by rw [← List.drop_drop, hw]; rfl) (by omega) (inv.set hr' (by simpa using hkm)) (fun i hi hik => ?_) hB' hnx⟩
      by_cases hik' : i = k
      · subst hik'; simp [hsz]
      · exact getD_set_true (hdn i hi (by simp only [List.mem_cons, not_or]; exact ⟨hik', hik⟩))

/-- A REGION THAT DRAWS ITS ORDER: operations hold, in the order hs (those that bs marks hang on no world, and may come late); the others come in the order ts. -/
theorem wp_region_pickT {id : Nat} {a : Act} {w : World} (W : World) (hs : List Nat) (bs : List Bool) (ts : List Nat) (hm : P.follows .mixedOrders = true) (hB : pickTB .any l.toArray hs bs ts = true)
    (hQ : ∀ c a d v w, Q (.panic c) (Act.put a d v) w → Q (.panic c) a w) (hW : Below W.heap.size W { w with drawn := w.drawn + 1 })
    (h : wpHoldF P l.toArray W (fun a' => ∀ w', Below W.heap.size W w' → wpList P l.toArray Q (pick l ts) a' w') (pick l hs) bs a) :
    (Code.region id l.toArray true).wp P Q a w := by
  simp only [pickTB, Bool.and_eq_true, decide_eq_true_eq] at hB
  obtain ⟨⟨⟨⟨⟨⟨⟨hsel, hsz⟩, hbl⟩, hnd⟩, hlt⟩, hts⟩, hw⟩, htk⟩ := hB
  have hlt' : ∀ i ∈ hs, i < l.length := fun i hi => by simpa using List.all_eq_true.1 hlt i hi
  have hts' : ∀ i ∈ ts, i < l.length := fun i hi => by simpa using List.all_eq_true.1 hts i hi
  have hwait : ∀ listed, PickInv .any l.toArray (fun i => hs.contains i) listed → ¬ Done l.toArray (fun i => hs.contains i) (fun i => (late hs bs).contains i) listed → ∀ t ∈ Region.ready .any l.toArray listed, (fun i => hs.contains i) t = true := by
    intro listed inv hnd' t ht
    cases htn : hs.contains t with
    | true => exact htn
    | false =>
      exfalso
      obtain ⟨_, ot, hot, hdeps⟩ := mem_ready.1 ht
      have hts2 : t < l.toArray.size := (Array.getElem?_eq_some_iff.1 hot).1
      have h1 := List.all_eq_true.1 hw t (List.mem_range.2 hts2)
      simp only [Bool.or_eq_true] at h1
      rcases h1 with (h1 | h1) | h1
      · rw [htn] at h1; cases h1
      · obtain ⟨u, hu, hu2⟩ := List.any_eq_true.1 h1
        simp only [Bool.and_eq_true, Bool.not_eq_true'] at hu2
        obtain ⟨o', ho', e, he, hb, hon⟩ := Region.waitsFor_spec hu2.2
        obtain rfl : o' = ot := Option.some.inj (ho'.symm.trans hot)
        have h3 := hdeps e he hb
        rw [hon, getD_both (inv.tail u hu2.1 (List.mem_range.1 hu))] at h3
        cases h3
      · apply hnd'
        intro i _ hin hfi
        refine waitB_listed inv ht _ h1 i ?_
        rw [List.mem_filter]
        refine ⟨by simpa using hin, ?_⟩
        have hfi' : (late hs bs).contains i = false := hfi
        rw [hfi']; rfl
  obtain ⟨vs, hvl, hc⟩ := valsF _ _ _ h
  have hpl := (pick_eq l hs hlt').1
  have inv0 : PickInv .any l.toArray (fun i => hs.contains i) (Array.replicate l.toArray.size false) :=
    ⟨by simp, fun j oj _ hl => (by rw [getD_replicate_false] at hl; cases hl), fun t _ ht => getD_in (by simpa using ht) (getD_replicate_false _ _)⟩
  have H := anyP_heldT (md := .any) (vs := vs) hsel hlt' hts' hnd hbl (by rw [hvl, hpl]) hwait hQ hs bs vs 0 _ a rfl rfl rfl (Nat.zero_le _) inv0 (fun i hi hni => absurd hi hni) htk hc
  refine wp_region_any hm ?_
  have := wpAny_of_anyP (fun _ => none) (look hs vs) (fun i => hs.contains i) (fun i => (late hs bs).contains i) _ _ _ _ _ hW (fun i g hg => by cases hg) H
  rw [hsz] at this
  exact this
end
end Go.Hold

/-
  A region that draws its order, whose operations make new memory alone: each gives a value of which something is known that stays true while the memory grows. It is walked once, whatever the order. Nothing is assumed.
-/
namespace Go.Hold
open Go Go.RowKit
section
variable {P : Program} {md : Region.Mode} {W : World} {Q : Exit → Act → World → Prop} {ops : Array Oper} {n : Nat} {R : Nat → Value → World → Prop} {G : World → World → Prop}

def dstOf (ops : Array Oper) (i : Nat) : Option Tmp := (ops[i]?).bind (·.dst)
def putAll (ops : Array Oper) (vals : Nat → Value) : List Nat → Act → Act
  | [], a => a
  | i :: is, a => putAll ops vals is (a.put (dstOf ops i) (vals i))
def looksB (ops : Array Oper) (o : Oper) (j : Nat) : Bool := match dstOf ops j with
  | some d => (o.looksAt ops).contains d
  | none => false
def depsOf (ops : Array Oper) (n : Nat) (o : Oper) : List Nat := (List.range n).filter (looksB ops o)
def boundB (md : Region.Mode) (o : Oper) (j : Nat) : Bool := o.after.toList.any fun e => Region.binds md e && Nat.beq e.on j
def doneA (n s : Nat) : Array Bool := (Array.range s).map fun i => Nat.blt i n
def apartD (x y : Option Tmp) : Bool := match x with
  | some d => y != some d
  | none => true
def growB (md : Region.Mode) (ops : Array Oper) (n : Nat) (ts : List Nat) : Bool :=
  Region.noSelect ops && decide (n + ts.length = ops.size) && (ts.all fun i => decide (i < ops.size)) &&
  ((List.range n).all fun i => match ops[i]? with
    | some o => edgesOk md i o && ((List.range n).all fun j => !looksB ops o j || boundB md o j)
    | none => false) &&
  ((List.range n).all fun i => (List.range n).all fun j => Nat.beq i j || apartD (dstOf ops i) (dstOf ops j)) &&
  ((List.range ops.size).all fun t => Nat.blt t n || match ops[t]? with
    | some o => (List.range n).all fun j => boundB md o j
    | none => false) &&
  seqT md ops ts (doneA n ops.size)

theorem putAll_append (vals : Nat → Value) : ∀ (x y : List Nat) (a : Act), putAll ops vals (x ++ y) a = putAll ops vals y (putAll ops vals x a)
  | [], _, _ => rfl
  | i :: x, y, a => by simp only [List.cons_append, putAll]; exact putAll_append vals x y _
theorem putAll_congr {v u : Nat → Value} : ∀ (x : List Nat) (a : Act), (∀ i ∈ x, v i = u i) → putAll ops v x a = putAll ops u x a
  | [], _, _ => rfl
  | i :: x, a, h => by simp only [putAll]; rw [h i (by simp)]; exact putAll_congr x _ fun j hj => h j (by simp [hj])
theorem putAll_perm (vals : Nat → Value) (hd : ∀ i j, i < n → j < n → i ≠ j → ∀ d, dstOf ops i = some d → dstOf ops j ≠ some d) {x y : List Nat} (h : x.Perm y) : (∀ i ∈ x, i < n) → ∀ a, putAll ops vals x a = putAll ops vals y a := by
  induction h with
  | nil => intro _ a; rfl
  | cons i _ ih => intro hx a; simp only [putAll]; exact ih (fun j hj => hx j (by simp [hj])) _
  | swap i j l =>
    intro hx a
    simp only [putAll]
    by_cases e : i = j
    · subst e; rfl
    · rw [Act.put_comm a (vals j) (vals i) (hd j i (hx j (by simp)) (hx i (by simp)) (Ne.symm e))]
  | trans h1 _ ih1 ih2 => intro hx a; rw [ih1 hx, ih2 fun i hi => hx i (h1.mem_iff.2 hi)]
theorem putAll_unlooked (vals : Nat → Value) {o : Oper} (hs : ∀ cs b, o.op ≠ .select cs b) : ∀ (y : List Nat) (a : Act), (∀ i ∈ y, looksB ops o i = false) → execOp (putAll ops vals y a).eval o = execOp a.eval o ∧ Region.wanted o (yielded ops (putAll ops vals y a).tmps) = Region.wanted o (yielded ops a.tmps)
  | [], _, _ => ⟨rfl, rfl⟩
  | i :: y, a, h => by
    have h0 : ∀ d, dstOf ops i = some d → d ∉ o.looksAt ops := fun d hd hm => by
      have := h i (by simp)
      unfold looksB at this
      rw [hd] at this
      simp only at this
      rw [List.contains_iff_mem.2 hm] at this
      cases this
    obtain ⟨e1, e2⟩ := putAll_unlooked vals hs y (a.put (dstOf ops i) (vals i)) fun j hj => h j (by simp [hj])
    simp only [putAll]
    exact ⟨e1.trans (execOp_put o hs a _ _ h0), e2.trans (wanted_put o a _ _ h0)⟩
theorem nodup_le : ∀ (x y : List Nat), x.Nodup → (∀ i ∈ x, i ∈ y) → x.length ≤ y.length
  | [], _, _, _ => Nat.zero_le _
  | i :: x, y, hn, h => by
    have hi := h i (by simp)
    have := nodup_le x (y.erase i) (List.nodup_cons.1 hn).2 fun j hj => by
      have hne : j ≠ i := fun e => (List.nodup_cons.1 hn).1 (e ▸ hj)
      exact (List.mem_erase_of_ne hne).2 (h j (by simp [hj]))
    rw [List.length_erase_of_mem hi] at this
    have hp : 0 < y.length := List.length_pos_of_mem hi
    simp only [List.length_cons]; omega
theorem least_not (D : List Nat) : ∀ n, (∃ i, i < n ∧ i ∉ D) → ∃ i, i < n ∧ i ∉ D ∧ ∀ j, j < i → j ∈ D
  | 0, h => by obtain ⟨i, hi, _⟩ := h; omega
  | n + 1, h => by
    by_cases h1 : ∃ i, i < n ∧ i ∉ D
    · obtain ⟨i, hi, h2⟩ := least_not D n h1
      exact ⟨i, by omega, h2⟩
    · obtain ⟨i, hi, hD⟩ := h
      have hin : i = n := by
        by_cases e : i < n
        · exact absurd ⟨i, e, hD⟩ h1
        · omega
      subst hin
      refine ⟨i, hi, hD, fun j hj => ?_⟩
      by_cases e : j ∈ D
      · exact e
      · exact absurd ⟨j, hj, e⟩ h1

/-- What is asked of one operation. -/
def GrowStep (P : Program) (ops : Array Oper) (W : World) (n : Nat) (G : World → World → Prop) (R : Nat → Value → World → Prop) (a : Act) (vals : Nat → Value) (i : Nat) (o : Oper) : Prop :=
  ∀ w, Below W.heap.size W w → (∀ j ∈ depsOf ops n o, R j (vals j) w) →
    Region.wanted o (yielded ops (putAll ops vals (depsOf ops n o) a).tmps) = true ∧
    comes P o (putAll ops vals (depsOf ops n o) a) (fun v _ w' => G w w' ∧ R i v w') ((execOp (putAll ops vals (depsOf ops n o) a).eval o).run P w)

theorem grow_any {l : List Oper} {ts : List Nat} {a : Act} (hop : ops = l.toArray) (hsel : Region.noSelect ops = true) (hsz : n + ts.length = ops.size) (hts : ∀ i ∈ ts, i < l.length)
    (hedge : ∀ i o, i < n → ops[i]? = some o → edgesOk md i o = true ∧ ∀ j, j < n → looksB ops o j = true → boundB md o j = true)
    (hdst : ∀ i j, i < n → j < n → i ≠ j → ∀ d, dstOf ops i = some d → dstOf ops j ≠ some d)
    (hlate : ∀ t o, n ≤ t → ops[t]? = some o → ∀ j, j < n → boundB md o j = true) (hseq : seqT md ops ts (doneA n ops.size) = true)
    (hGB : ∀ w w', Below W.heap.size W w → G w w' → Below W.heap.size W w') (hmono : ∀ i v w w', R i v w → G w w' → R i v w')
    (hst : ∀ vals i o, i < n → ops[i]? = some o → GrowStep P ops W n G R a vals i o)
    (hfin : ∀ vals w, Below W.heap.size W w → (∀ i, i < n → R i (vals i) w) → wpList P ops Q (pick l ts) (putAll ops vals (List.range n) a) w) :
    ∀ (f : Nat) (D : List Nat) (listed : Array Bool) (vals : Nat → Value) (w : World), D.Nodup → (∀ i ∈ D, i < n) → D.length + f = n → listed.size = ops.size →
    (∀ i, i < ops.size → listed.getD i false = decide (i ∈ D)) → Below W.heap.size W w → (∀ i ∈ D, R i (vals i) w) → wpAny P md ops Q (f + ts.length) listed (putAll ops vals D a) w
  | 0, D, listed, vals, w, hnd, hlt, hlen, hls, hl, hb, hR => by
    have hall : ∀ i, i < n → i ∈ D := fun i hi => by
      by_cases e : i ∈ D
      · exact e
      · exfalso
        have := nodup_le (i :: D) (List.range n) (List.nodup_cons.2 ⟨e, hnd⟩) fun j hj => by
          rcases List.mem_cons.1 hj with rfl | h
          · exact List.mem_range.2 hi
          · exact List.mem_range.2 (hlt j h)
        simp at this; omega
    have hp : D.Perm (List.range n) := (List.perm_ext_iff_of_nodup hnd List.nodup_range).2 fun i => ⟨fun h => List.mem_range.2 (hlt i h), fun h => hall i (List.mem_range.1 h)⟩
    have hle : listed = doneA n ops.size := by
      apply Array.ext_getElem?
      intro i
      by_cases hi : i < ops.size
      · have h1 := hl i hi
        have h2 : listed[i]? = some (listed.getD i false) := by simp [hls, hi]
        rw [h2, h1]
        unfold doneA
        rw [Array.getElem?_map, Array.getElem?_range, if_pos hi]
        simp only [Option.map_some, Option.some.injEq]
        by_cases e : i < n
        · rw [decide_eq_true (hall i e)]; exact ((show Nat.blt i n = true from by rw [Nat.blt_eq]; exact e)).symm
        · rw [decide_eq_false fun h => e (hlt i h)]
          cases hx : Nat.blt i n
          · rfl
          · exact absurd ((by rw [Nat.blt_eq] at hx; exact hx)) e
      · rw [Array.getElem?_eq_none (by omega), Array.getElem?_eq_none (by simp [doneA]; omega)]
    subst hle
    rw [Nat.zero_add, putAll_perm vals hdst hp hlt]
    subst hop
    exact wpAny_of_seqT ts _ _ _ hts hseq (hfin vals w hb fun i hi => hR i (hall i hi))
  | f + 1, D, listed, vals, w, hnd, hlt, hlen, hls, hl, hb, hR => by
    have hex : ∃ i, i < n ∧ i ∉ D := by
      apply Classical.byContradiction
      intro hno
      have := nodup_le (List.range n) D List.nodup_range fun i hi => by
        by_cases e : i ∈ D
        · exact e
        · exact absurd ⟨i, List.mem_range.1 hi, e⟩ hno
      simp at this; omega
    obtain ⟨i0, hi0, hi0D, hmin⟩ := least_not D n hex
    have hget : ∀ i, i < ops.size → listed.getD i true = decide (i ∈ D) := fun i hi => by
      have := hl i hi
      simpa [hls, hi] using this
    have hr0 : i0 ∈ Region.ready md ops listed := by
      have hs0 : i0 < ops.size := by omega
      obtain ⟨o, ho⟩ : ∃ o, ops[i0]? = some o := ⟨_, Array.getElem?_eq_getElem hs0⟩
      refine mem_ready.2 ⟨by rw [hget i0 hs0]; exact decide_eq_false hi0D, o, ho, fun e he hbe => ?_⟩
      have h1 := List.all_eq_true.1 (hedge i0 o hi0 ho).1 e (by simpa using he)
      have h2 : e.on < i0 := by simpa [hbe] using h1
      rw [hl _ (by omega)]; exact decide_eq_true (hmin _ h2)
    rw [show f + 1 + ts.length = (f + ts.length) + 1 by omega]
    refine ⟨fun h => (by rw [h] at hr0; cases hr0), fun i hi => ?_⟩
    obtain ⟨hun, o, ho, hdeps⟩ := mem_ready.1 hi
    have hsi : i < ops.size := (Array.getElem?_eq_some_iff.1 ho).1
    have hiD : i ∉ D := by rw [hget i hsi] at hun; exact of_decide_eq_false hun
    have hbd : ∀ j, j < n → boundB md o j = true → j ∈ D := fun j hj hbj => by
      obtain ⟨e, hem, heb⟩ := List.any_eq_true.1 hbj
      rw [Bool.and_eq_true] at heb
      have h1 := hdeps e (by simpa using hem) heb.1
      rw [Nat.eq_of_beq_eq_true heb.2, hl j (by omega)] at h1
      exact of_decide_eq_true h1
    have hin : i < n := by
      apply Classical.byContradiction
      intro hni
      exact hi0D (hbd i0 hi0 (hlate i o (by omega) ho i0 hi0))
    have hdep : ∀ j ∈ depsOf ops n o, j ∈ D := fun j hj => by
      obtain ⟨h1, h2⟩ := List.mem_filter.1 hj
      have hjn := List.mem_range.1 h1
      exact hbd j hjn ((hedge i o hin ho).2 j hjn h2)
    have hsl := fun cs b => Region.noSelect_spec hsel i o cs b ho
    have hcut : ∀ b, putAll ops vals D b = putAll ops vals (D.filter fun j => !looksB ops o j) (putAll ops vals (depsOf ops n o) b) := fun b => by
      rw [← putAll_append]
      refine putAll_perm vals hdst ?_ hlt b
      refine (List.filter_append_perm (looksB ops o) D).symm.trans (List.Perm.append_right _ ?_)
      refine (List.perm_ext_iff_of_nodup (hnd.filter _) (List.nodup_range.filter _)).2 fun j => ?_
      constructor
      · intro h
        obtain ⟨h1, h2⟩ := List.mem_filter.1 h
        exact List.mem_filter.2 ⟨List.mem_range.2 (hlt j h1), h2⟩
      · intro h
        exact List.mem_filter.2 ⟨hdep j h, (List.mem_filter.1 h).2⟩
    obtain ⟨e1, e2⟩ := putAll_unlooked (ops := ops) vals (o := o) hsl (D.filter fun j => !looksB ops o j) (putAll ops vals (depsOf ops n o) a) fun j hj => by
      have := (List.mem_filter.1 hj).2
      simpa using this
    rw [← hcut] at e1 e2
    obtain ⟨hw, hc⟩ := hst vals i o hin ho w hb fun j hj => hR j (hdep j hj)
    rw [← e2] at hw
    rw [← e1] at hc
    have next : ∀ v w', G w w' → R i v w' → wpAny P md ops Q (f + ts.length) (listed.setIfInBounds i true) ((putAll ops vals D a).put o.dst v) w' := fun v w' hb' hRv => by
      have he : (putAll ops vals D a).put o.dst v = putAll ops (fun j => if j = i then v else vals j) (D ++ [i]) a := by
        rw [putAll_append, putAll_congr (v := fun j => if j = i then v else vals j) (u := vals) D a (fun j hj => if_neg (fun (e : j = i) => hiD (e ▸ hj)))]
        simp [putAll, dstOf, ho]
      rw [he]
      refine grow_any hop hsel hsz hts hedge hdst hlate hseq hGB hmono hst hfin f (D ++ [i]) _ _ w' ?_ ?_ (by simp; omega) (by simp [hls]) ?_ (hGB _ _ hb hb') ?_
      · exact List.nodup_append.2 ⟨hnd, by simp, fun x hx y hy => by simp at hy; subst hy; intro e; subst e; exact hiD hx⟩
      · intro j hj
        rcases List.mem_append.1 hj with h | h
        · exact hlt j h
        · simp at h; omega
      · intro j hj
        by_cases e : j = i
        · subst e; simp [hls, hj]
        · have h1 := hl j hj
          have h2 : (listed.setIfInBounds i true).getD j false = listed.getD j false := by
            simp only [Array.getD_eq_getD_getElem?]
            rw [Array.getElem?_setIfInBounds_ne (fun h => e h.symm)]
          rw [h2, h1]
          simp [e]
      · intro j hj
        rcases List.mem_append.1 hj with h | h
        · have : j ≠ i := fun e => hiD (e ▸ h)
          simp only [this, if_false]
          exact hmono _ _ _ _ (hR j h) hb'
        · simp at h; subst h; simpa using hRv
    unfold Go.wpOp
    simp only [ho, hw, if_true]
    refine .inl ?_
    unfold Oper.wp
    revert hc
    generalize (execOp (putAll ops vals D a).eval o).run P w = r
    intro hc
    cases r with
    | halt x w => exact False.elim hc
    | ok nx w2 =>
      cases nx <;> try exact False.elim hc
      case value u => exact next _ _ hc.1 hc.2
      case skip => exact next _ _ hc.1 hc.2
      case enter fn args =>
        refine Calls.mono (P := P) hc ?_
        rintro e w'' ⟨u, rfl, h1, h2⟩
        exact next _ _ h1 h2

/-- The operations from number k on, each by itself; then what is left. -/
def wpGrow (P : Program) (ops : Array Oper) (W : World) (n : Nat) (G : World → World → Prop) (R : Nat → Value → World → Prop) (a : Act) (vals : Nat → Value) (Fin : Prop) : Nat → List Oper → Prop
  | _, [] => Fin
  | k, o :: r => GrowStep P ops W n G R a vals k o ∧ wpGrow P ops W n G R a vals Fin (k + 1) r
theorem wpGrow_out {a : Act} {vals : Nat → Value} {Fin : Prop} : ∀ (k : Nat) (r : List Oper), wpGrow P ops W n G R a vals Fin k r → Fin ∧ ∀ j o, r[j]? = some o → GrowStep P ops W n G R a vals (k + j) o
  | _, [], h => ⟨h, fun j o ho => by simp at ho⟩
  | k, o :: r, h => by
    obtain ⟨h1, h2⟩ := wpGrow_out (k + 1) r h.2
    refine ⟨h1, fun j x hx => ?_⟩
    cases j with
    | zero => simp at hx; subst hx; exact h.1
    | succ j => rw [show k + (j + 1) = k + 1 + j by omega]; exact h2 j x (by simpa using hx)

/-- A REGION THAT DRAWS ITS ORDER: its first n operations make memory alone; then those of ts come. -/
theorem wp_region_grow {id : Nat} {a : Act} {w : World} {l : List Oper} (W : World) (n : Nat) (G : World → World → Prop) (R : Nat → Value → World → Prop) (ts : List Nat) (hm : P.follows .mixedOrders = true) (hB : growB .any l.toArray n ts = true)
    (hW : Below W.heap.size W { w with drawn := w.drawn + 1 }) (hGB : ∀ w w', Below W.heap.size W w → G w w' → Below W.heap.size W w') (hmono : ∀ i v w w', R i v w → G w w' → R i v w')
    (h : ∀ vals, wpGrow P l.toArray W n G R a vals (∀ w, Below W.heap.size W w → (∀ i, i < n → R i (vals i) w) → wpList P l.toArray Q (pick l ts) (putAll l.toArray vals (List.range n) a) w) 0 (l.take n)) :
    (Code.region id l.toArray true).wp P Q a w := by
  simp only [growB, Bool.and_eq_true, decide_eq_true_eq] at hB
  obtain ⟨⟨⟨⟨⟨⟨hsel, hsz⟩, hts⟩, h1⟩, h2⟩, h3⟩, hseq⟩ := hB
  have hts' : ∀ i ∈ ts, i < l.length := fun i hi => by simpa using List.all_eq_true.1 hts i hi
  refine wp_region_any hm ?_
  have H := grow_any (md := .any) (P := P) (W := W) (Q := Q) (n := n) (R := R) (G := G) (l := l) (ts := ts) (a := a) rfl hsel hsz hts'
    (fun i o hi ho => by
      have := List.all_eq_true.1 h1 i (List.mem_range.2 hi)
      rw [ho] at this
      simp only [Bool.and_eq_true] at this
      refine ⟨this.1, fun j hj hlj => ?_⟩
      have h4 := List.all_eq_true.1 this.2 j (List.mem_range.2 hj)
      simpa [hlj] using h4)
    (fun i j hi hj hne d hd => by
      have := List.all_eq_true.1 (List.all_eq_true.1 h2 i (List.mem_range.2 hi)) j (List.mem_range.2 hj)
      rcases Bool.or_eq_true_iff.1 this with h | h
      · exact absurd (Nat.eq_of_beq_eq_true h) hne
      · rw [hd] at h
        simpa [apartD] using h)
    (fun t o ht ho j hj => by
      have := List.all_eq_true.1 h3 t (List.mem_range.2 (Array.getElem?_eq_some_iff.1 ho).1)
      rw [ho] at this
      rcases Bool.or_eq_true_iff.1 this with h | h
      · exact absurd (by rw [Nat.blt_eq] at h; exact h : t < n) (by omega)
      · exact List.all_eq_true.1 h j (List.mem_range.2 hj))
    hseq hGB hmono
    (fun vals i o hi ho => by
      have := (wpGrow_out 0 _ (h vals)).2 i o (by rw [List.getElem?_take, if_pos hi]; simpa using ho)
      rwa [Nat.zero_add] at this)
    (fun vals w hb hR => (wpGrow_out 0 _ (h vals)).1 w hb hR)
    n [] (Array.replicate l.toArray.size false) (fun _ => undef) { w with drawn := w.drawn + 1 } List.nodup_nil (fun i hi => by cases hi) (by simp) (by simp) (fun i hi => by rw [getD_replicate_false]; simp) hW (fun i hi => by cases hi)
  rw [hsz] at H
  exact H

/-- ONE STEP, no call. -/
theorem growStep_val {a : Act} {vals : Nat → Value} {i : Nat} {o : Oper}
    (h : ∀ (K : Value → Act → World → Prop) (w : World), Below W.heap.size W w → (∀ j ∈ depsOf ops n o, R j (vals j) w) → (∀ v a' w', G w w' → R i v w' → K v a' w') →
      Region.wanted o (yielded ops (putAll ops vals (depsOf ops n o) a).tmps) = true ∧ comesV o (putAll ops vals (depsOf ops n o) a) K ((execOp (putAll ops vals (depsOf ops n o) a).eval o).run P w)) : GrowStep P ops W n G R a vals i o := by
  intro w hb hd
  obtain ⟨h1, h2⟩ := h (fun v _ w' => G w w' ∧ R i v w') w hb hd fun v _ w' x y => ⟨x, y⟩
  refine ⟨h1, ?_⟩
  revert h2
  generalize (execOp (putAll ops vals (depsOf ops n o) a).eval o).run P w = r
  cases r with
  | halt x w => exact fun h => False.elim h
  | ok n w => cases n <;> first | exact fun h => False.elim h | exact fun h => h
/-- ONE STEP, a call. -/
theorem growStep_call {a : Act} {vals : Nat → Value} {i : Nat} {o : Oper}
    (h : ∀ (K : Value → World → Prop) (w : World), Below W.heap.size W w → (∀ j ∈ depsOf ops n o, R j (vals j) w) → (∀ v w', G w w' → R i v w' → K v w') →
      Region.wanted o (yielded ops (putAll ops vals (depsOf ops n o) a).tmps) = true ∧ comesC P K ((execOp (putAll ops vals (depsOf ops n o) a).eval o).run P w)) : GrowStep P ops W n G R a vals i o := by
  intro w hb hd
  obtain ⟨h1, h2⟩ := h (fun v w' => G w w' ∧ R i v w') w hb hd fun v w' x y => ⟨x, y⟩
  refine ⟨h1, ?_⟩
  revert h2
  generalize (execOp (putAll ops vals (depsOf ops n o) a).eval o).run P w = r
  cases r with
  | halt x w => exact fun h => False.elim h
  | ok n w => cases n <;> first | exact fun h => False.elim h | exact fun h => h

/-! ### With the tmps named -/
def putZ : List (Option Tmp) → List Value → Act → Act
  | d :: ds, v :: vs, a => putZ ds vs (a.put d v)
  | _, _, a => a
theorem putZ_eq (vals : Nat → Value) : ∀ (ds : List Nat) (a : Act), putAll ops vals ds a = putZ (ds.map (dstOf ops)) (ds.map vals) a
  | [], _ => rfl
  | i :: ds, a => by simp only [putAll, List.map_cons, putZ]; exact putZ_eq vals ds _
theorem grow_val {a : Act} {vals : Nat → Value} {i : Nat} {o : Oper} (ds : List Nat) (qs : List (Option Tmp)) (hds : depsOf ops n o = ds) (hqs : ds.map (dstOf ops) = qs)
    (h : ∀ (K : Value → Act → World → Prop) (w : World), Below W.heap.size W w → (∀ j ∈ ds, R j (vals j) w) → (∀ v a' w', G w w' → R i v w' → K v a' w') →
      Region.wanted o (yielded ops (putZ qs (ds.map vals) a).tmps) = true ∧ comesV o (putZ qs (ds.map vals) a) K ((execOp (putZ qs (ds.map vals) a).eval o).run P w)) : GrowStep P ops W n G R a vals i o := by
  subst hds hqs
  refine growStep_val fun K w hb hd hK => ?_
  rw [putZ_eq]
  exact h K w hb hd hK
theorem grow_call {a : Act} {vals : Nat → Value} {i : Nat} {o : Oper} (ds : List Nat) (qs : List (Option Tmp)) (hds : depsOf ops n o = ds) (hqs : ds.map (dstOf ops) = qs)
    (h : ∀ (K : Value → World → Prop) (w : World), Below W.heap.size W w → (∀ j ∈ ds, R j (vals j) w) → (∀ v w', G w w' → R i v w' → K v w') →
      Region.wanted o (yielded ops (putZ qs (ds.map vals) a).tmps) = true ∧ comesC P K ((execOp (putZ qs (ds.map vals) a).eval o).run P w)) : GrowStep P ops W n G R a vals i o := by
  subst hds hqs
  refine growStep_call fun K w hb hd hK => ?_
  rw [putZ_eq]
  exact h K w hb hd hK
theorem wp_region_grows {id : Nat} {a : Act} {w : World} {l : List Oper} (W : World) (n : Nat) (G : World → World → Prop) (R : Nat → Value → World → Prop) (ts ns : List Nat) (qa : List (Option Tmp)) (hm : P.follows .mixedOrders = true) (hB : growB .any l.toArray n ts = true)
    (hns : List.range n = ns) (hqa : ns.map (dstOf l.toArray) = qa) (hW : Below W.heap.size W { w with drawn := w.drawn + 1 }) (hGB : ∀ w w', Below W.heap.size W w → G w w' → Below W.heap.size W w') (hmono : ∀ i v w w', R i v w → G w w' → R i v w')
    (h : ∀ vals, wpGrow P l.toArray W n G R a vals (∀ w, Below W.heap.size W w → (∀ i ∈ ns, R i (vals i) w) → wpList P l.toArray Q (pick l ts) (putZ qa (ns.map vals) a) w) 0 (l.take n)) :
    (Code.region id l.toArray true).wp P Q a w := by
  subst hns hqa
  refine wp_region_grow W n G R ts hm hB hW hGB hmono fun vals => ?_
  have := h vals
  revert this
  generalize l.take n = r
  intro h1
  suffices hh : ∀ (k : Nat) (r : List Oper) (F H : Prop), (F → H) → wpGrow P l.toArray W n G R a vals F k r → wpGrow P l.toArray W n G R a vals H k r by
    refine hh 0 r _ _ (fun hf w hb hR => ?_) h1
    rw [putZ_eq]
    exact hf w hb fun i hi => hR i (List.mem_range.1 hi)
  intro k r
  induction r generalizing k with
  | nil => intro F H h h2; exact h h2
  | cons o r ih => intro F H h h2; exact ⟨h2.1, ih (k + 1) F H h h2.2⟩
end
end Go.Hold

/-
  Slices of bytes: those that a call made, with bytes laid behind them; copies; new ones.
-/
namespace Go.Proofs.YtnkfiljmgbnbkaaDoor
open Go.RowKit Go.Hold Go.Sh

theorem info_u8 : (Tryd.prog.info? 5).map (fun i => (i.zero, i.size, i.bytes)) = some (some (.int .u8 0), 1, 1) := by kernel_rfl
def OwnB (w : World) (B : Nat) (v : Value) (l : List Nat) : Prop := w.ownsRow B 5 1 v l.length (bys l)
theorem owns_below {w w' : World} {B : Nat} {e : TypeId} {v : Value} {n : Nat} {xs : List Value} (h : w.ownsRow B e 1 v n xs) (hb : Below w.heap.size w w') : w'.ownsRow B e 1 v n xs :=
  h.kept (row := none) ⟨hb.os, hb.tape, hb.output, hb.size, fun k hk _ => hb.block k hk⟩ (by cases hv : v.ownBlock <;> simp)
theorem OwnB.below {w w' : World} {B : Nat} {v : Value} {l : List Nat} (h : OwnB w B v l) (hb : Below w.heap.size w w') : OwnB w' B v l := owns_below h hb
theorem OwnB.snoc {w : World} {B : Nat} {v : Value} {l m : List Nat} (h : w.ownsRow B 5 1 v (l.length + m.length) (bys l ++ bys m)) : OwnB w B v (l ++ m) := by
  unfold OwnB
  rw [List.length_append, show bys (l ++ m) = bys l ++ bys m by simp [bys]]; exact h
theorem OwnB.addr {w : World} {B : Nat} {v : Value} {l : List Nat} {k : Nat} (h : OwnB w B v l) (hk : l.length = k) (h0 : 0 < k) : ∃ g cap, v = .slice (some ⟨g, 0, none⟩) k cap ∧ B ≤ g ∧ g < w.heap.size ∧ k ≤ cap := by
  subst hk
  rcases h.2 with ⟨_, h1⟩ | ⟨g, cap, cur, rfl, hb, hg, hc, _⟩
  · omega
  · exact ⟨g, cap, rfl, hb, (Array.getElem?_eq_some_iff.1 hg).1, hc⟩
theorem OwnB.bytes {w : World} {B g cap k : Nat} {l : List Nat} (h : OwnB w B (.slice (some ⟨g, 0, none⟩) k cap) l) (hg : g < w.heap.size) : BytesAt w g 0 l := by
  refine ⟨hg, fun i hi => ?_⟩
  have hk : k = l.length := by
    rcases h.2 with ⟨h1, _⟩ | ⟨g', cap', cur, he, _⟩
    · cases h1
    · cases he; rfl
  subst hk
  rw [Nat.zero_add, World.ownsRow.cellAt h i (by omega)]
  simp [bys, hi]
theorem OwnB.base {w : World} {B B' : Nat} {v : Value} {l : List Nat} (h : OwnB w B v l) (hB : B' ≤ B) : OwnB w B' v l := by
  refine ⟨h.1, ?_⟩
  rcases h.2 with hn | ⟨g, cap, cur, rfl, hb, rest⟩
  · exact .inl hn
  · exact .inr ⟨g, cap, cur, rfl, Nat.le_trans hB hb, rest⟩
/-- '[]byte{}', '[]uint32{}'. -/
theorem ownB_empty (w : World) (B : Nat) (hB : B ≤ w.heap.size) : OwnB (w.alloc (.cells #[] 5)) B (.slice (some ⟨w.heap.size, 0, none⟩) 0 0) [] :=
  ⟨rfl, .inr ⟨w.heap.size, 0, #[], rfl, hB, block_new w _, Nat.le_refl _, by decide, rfl, rfl⟩⟩
theorem bys_one (l : List Nat) : ∀ u ∈ bys l, u.oneCell' = true := fun u hu => by
  simp only [bys, List.mem_map] at hu
  obtain ⟨x, _, rfl⟩ := hu; rfl
theorem bys_at {w : World} {b o : Nat} {l : List Nat} (h : BytesAt w b o l) : ∀ j u, (bys l)[j]? = some u → w.cell? ((⟨b, o, none⟩ : Addr).add j) = some u := fun j u hu => by
  have hj : j < l.length := by have := (List.getElem?_eq_some_iff.1 hu).1; rwa [bys_length] at this
  rw [Addr.add_mid, h.2 j hj, ← hu]
  simp [bys, hj]
theorem maxLen_small {n : Nat} (h : n ≤ 16777216) : n ≤ maxLen := by unfold maxLen; omega
/-- A new block of one cell. -/
theorem one_cell {w : World} {v : Value} {t : TypeId} : ∀ j u, [v][j]? = some u → (w.alloc (.cells #[v] t)).cell? ((⟨w.heap.size, 0, none⟩ : Addr).add j) = some u := fun j u hu => by
  match j, hu with
  | 0, hu => simp at hu; subst hu; simp [Addr.add]
theorem one_cell' {w : World} {v : Value} {t : TypeId} {n : Nat} (h : n = w.heap.size) : ∀ j u, [v][j]? = some u → (w.alloc (.cells #[v] t)).cell? ((⟨n, 0, none⟩ : Addr).add j) = some u := by subst h; exact one_cell
theorem grown_below {B : Nat} {w w1 w2 : World} {e : TypeId} {v : Value} {n : Nat} {xs : List Value} (hb : Below B w w1) (ho : w1.ownsRow B e 1 v n xs) (hB : B ≤ w1.heap.size) (hg : w1.grownBy w2 v.ownBlock) : Below B w w2 :=
  hb.grown hg hB fun g hg' => (World.ownsRow.lt ho g hg').1
theorem OwnB.bs {w : World} {B : Nat} {v : Value} {l : List Nat} (h : OwnB w B v l) : ∃ p c, v = .slice p l.length c ∧ Bs0 w p l ∧ l.length ≤ c ∧ (p = none → c = 0) := by
  rcases h.2 with ⟨rfl, h0⟩ | ⟨g, cap, cur, rfl, hb, hg, hc, hm, hs, ht⟩
  · have : l = [] := List.length_eq_zero_iff.1 h0
    subst this
    exact ⟨none, 0, rfl, .inl rfl, Nat.le_refl _, fun _ => rfl⟩
  · exact ⟨some ⟨g, 0, none⟩, cap, rfl, .inr ⟨g, 0, rfl, OwnB.bytes h (Array.getElem?_eq_some_iff.1 hg).1⟩, hc, fun h => by cases h⟩
/-- Bytes are laid behind those of a slice of one's own. -/
theorem app_own {w : World} {B : Nat} {v : Value} {l m : List Nat} {p : Option Addr} {cap k : Nat} (h : OwnB w B v l) (hB : Bs0 w p m) (hk : k = m.length) (hp : p = none → cap = 0) (hBw : B ≤ w.heap.size) (hlen : l.length + m.length ≤ 16777216) :
    ∃ v' w', (Builtin.append_ #[24, 24] 24 #[v, .slice p k cap]).run Tryd.prog w = .ok v' w' ∧ OwnB w' B v' (l ++ m) ∧ w.grownBy w' v.ownBlock := by
  subst hk
  obtain ⟨i0, hi, hz0, hz1, hz2⟩ := info_parts info_u8
  cases p with
  | none =>
    have hm : m = [] := by
      rcases hB with h | ⟨b, o, h, _⟩
      · exact h
      · cases h
    subst hm
    rw [hp rfl]
    refine ⟨v, w, run_append_owned_none (P := Tryd.prog) (w := w) B _ _ _ i0 1 Tryd.underlying24 hi v _ _ h, by rw [List.append_nil]; exact h, ⟨rfl, rfl, rfl, Nat.le_refl _, fun _ _ _ => rfl⟩⟩
  | some a =>
    have hnews : ∀ j u, (bys m)[j]? = some u → w.cell? (a.add j) = some u := by
      rcases hB with rfl | ⟨b, o, he, hB⟩
      · intro j u hu; simp [bys] at hu
      · cases he; exact bys_at hB
    obtain ⟨v', w', h1, h2, h3, _⟩ := run_append_own (P := Tryd.prog) w B 24 24 5 i0 (.int .u8 0) 1 1 Tryd.underlying24 hi hz0 hz1 hz2 rfl (by decide) v l.length (bys l) h a m.length cap (bys m) (by rw [bys_length, Nat.mul_one]) hnews (bys_one m) (maxLen_small hlen) (by omega) hBw
    exact ⟨v', w', h1, OwnB.snoc h2, h3⟩
theorem own_below {B : Nat} {w w1 w2 : World} {v : Value} {l : List Nat} (hb : Below B w w1) (ho : OwnB w1 B v l) (hB : B ≤ w1.heap.size) (hg : w1.grownBy w2 v.ownBlock) : Below B w w2 := grown_below hb ho hB hg
theorem own_nil (w : World) (B : Nat) : OwnB w B (.slice none 0 0) [] := World.ownsRow_nil w B _ _
/-- What lay there before lies there still. -/
theorem Bs0.keep {w w' : World} {p : Option Addr} {l : List Nat} (h : Bs0 w p l) (hb : Below w.heap.size w w') : Bs0 w' p l := h.grow hb
theorem Bs0.some {w : World} {g o : Nat} {l : List Nat} (h : BytesAt w g o l) : Bs0 w (some ⟨g, o, none⟩) l := .inr ⟨g, o, rfl, h⟩
theorem slB_h (a : Option Addr) (len cap n : Nat) (h : n ≤ cap) (w : World) : (slB (.slice a len cap) none (some (.int .i64 (n : Int))) none).run Tryd.prog w = .ok (.slice a n cap) w := by
  unfold slB
  rw [run_sliceAt_slice _ _ _ _ _ _ elem8, run_slice_h _ _ _ _ _ elem8 _ _ (by omega) (by omega), size8]
  cases a <;> simp [sliced, Result.andThen, Addr.add]
@[go_sem] theorem slB_h0 (a : Option Addr) (len cap : Nat) (w : World) : (slB (.slice a len cap) none (some (.int .i64 0)) none).run Tryd.prog w = .ok (.slice a 0 cap) w := slB_h a len cap 0 (Nat.zero_le _) w
theorem slB_hm (a : Option Addr) (len cap n : Nat) (h : n ≤ cap) (w : World) : (slB (.slice a len cap) none (some (.int .i64 (n : Int))) (some (.int .i64 (n : Int)))).run Tryd.prog w = .ok (.slice a n n) w := by
  unfold slB
  rw [run_sliceAt_slice _ _ _ _ _ _ elem8, run_slice_hm _ _ _ _ _ elem8 _ _ _ _ (by omega) (Int.le_refl _) (by omega), size8]
  cases a <;> simp [sliced, Result.andThen, Addr.add]
def mkS (l c : Value) : Sem Value := Instr.makeSlice 24 l c
@[go_sem ↓] theorem fold_make (l c : Value) : Instr.makeSlice 24 l c = mkS l c := rfl
theorem made_zs (n : Nat) : madeCells (Value.int IntKind.u8 0).cells (n * 1) = bysA (zs n) := by
  apply Array.ext_getElem?
  intro i
  by_cases h : i < n
  · rw [bysA_get _ i (by rw [zs_length]; exact h)]
    simp only [madeCells, Array.getElem?_map, Array.getElem?_range, Nat.mul_one, if_pos h, Option.map_some, zs, List.getD, List.getElem?_replicate, Option.getD_some]
    rw [show (Value.int IntKind.u8 0).cells.size = 1 from rfl, Nat.mod_one]; rfl
  · rw [Array.getElem?_eq_none (by simp [madeCells]; omega), Array.getElem?_eq_none (by rw [bysA_size, zs_length]; omega)]
theorem run_mkS (w : World) (n : Nat) (h : n ≤ 16777216) : (mkS (.int .i64 (n : Int)) (.int .i64 (n : Int))).run Tryd.prog w = .ok (.slice (some ⟨w.heap.size, 0, none⟩) n n) (w.alloc (.cells (bysA (zs n)) 5)) := by
  obtain ⟨i0, hi, hz0, hz1, hz2⟩ := info_parts info_u8
  have := run_make (P := Tryd.prog) w 24 5 i0 (.int .u8 0) Tryd.underlying24 hi hz0 .i64 .i64 (n : Int) (n : Int) (by omega) (Int.le_refl _) (by rw [hz2]; omega) (by omega)
  unfold mkS
  rw [this, hz1, Int.toNat_natCast, made_zs]
@[go_sem] theorem run_mkS64 (w : World) : (mkS (.int .i64 64) (.int .i64 64)).run Tryd.prog w = .ok (.slice (some ⟨w.heap.size, 0, none⟩) 64 64) (w.alloc (.cells (bysA (zs 64)) 5)) := run_mkS w 64 (by decide)
theorem setL_bys (r l : List Nat) (h : l.length ≤ r.length) : setL (bysA r) 0 (bys l) = bysA (l ++ r.drop l.length) := by
  apply Array.ext_getElem?
  intro i
  rw [setL_get, bys_length, bysA_size]
  have hn : (l ++ r.drop l.length).length = r.length := by simp; omega
  by_cases hi : i < r.length
  · rw [bysA_get (l ++ r.drop l.length) i (by rw [hn]; exact hi)]
    by_cases h1 : i < l.length
    · rw [if_pos (by omega), Nat.sub_zero]
      simp [bys, List.getD, h1, List.getElem?_append_left h1]
    · rw [if_neg (by omega), bysA_get _ i hi]
      simp only [List.getD]
      rw [List.getElem?_append_right (by omega), List.getElem?_drop, show l.length + (i - l.length) = i by omega]
  · rw [if_neg (by omega), Array.getElem?_eq_none (by rw [bysA_size]; omega), Array.getElem?_eq_none (by rw [bysA_size, hn]; omega)]
/-- Bytes go over the first ones of a row. -/
theorem copy_bytes {W : World} {g c2 cap d s k : Nat} {p : Option Addr} {r l : List Nat} (h : RowAt W g (bysA r)) (hd : d = r.length) (hs : s = l.length) (hk : k = min l.length r.length) (hB : Bs0 W p l) :
    (Builtin.copy_ #[24, 24] 3 #[.slice (some ⟨g, 0, none⟩) d c2, .slice p s cap]).run Tryd.prog W = .ok (.int .i64 (k : Int)) (W.setRow g (bysA (l.take k ++ r.drop k))) := by
  subst hd hs
  rcases hB with rfl | ⟨b, o, rfl, hB⟩
  · have hk0 : k = 0 := by simpa using hk
    subst hk0
    rw [List.take_zero, List.nil_append, List.drop_zero, setRow_self h]
    exact copy_none W _ _ _ _ _
  · have hl : (bys (l.take k)).length = k := by rw [bys_length, List.length_take]; omega
    have hi : (Tryd.prog.info? 5).map (·.size) = some 1 := by kernel_rfl
    have := run_copy_cells (P := Tryd.prog) W 24 24 3 5 g 0 r.length c2 ⟨b, o, none⟩ l.length cap (bys (l.take k)) Tryd.underlying24 hi (by rw [hl, hk])
      (fun j v hv => by
        have hj : j < k := by have := (List.getElem?_eq_some_iff.1 hv).1; omega
        rw [Addr.add_mid, hB.2 j (by omega), ← hv]
        simp only [bys, List.getElem?_map, List.getElem?_take, if_pos hj, List.getD]
        rw [List.getElem?_eq_getElem (by omega)]; rfl)
      (fun j hj => by rw [h.cellAt (0 + j) (Array.getElem?_eq_getElem (by rw [bysA_size]; omega))]; rfl)
      (fun j _ => h.frozenAt _) (bys_one _)
    rw [this, hl, setCells_row _ _ h, setL_bys _ _ (by rw [List.length_take]; omega)]
    rw [show (l.take k).length = k by rw [List.length_take]; omega]
    rfl
/-- A slice of bytes as a value. -/
def SlV (w : World) (v : Value) (l : List Nat) : Prop := ∃ p c, v = .slice p l.length c ∧ Bs0 w p l ∧ l.length ≤ c ∧ (p = none → c = 0)
theorem SlV.grow {w w' : World} {v : Value} {l : List Nat} (h : SlV w v l) (hb : Below w.heap.size w w') : SlV w' v l := by
  obtain ⟨p, c, rfl, h1, h2, h3⟩ := h
  exact ⟨p, c, rfl, h1.grow hb, h2, h3⟩
theorem u8_wrap (n : Nat) : IntKind.u8.wrap (n : Int) = ((n % 256 : Nat) : Int) := by rw [IntKind.wrap_u8]; omega
def bldB (n : Nat) (ps : Array (Nat × Value)) : Sem Value := Instr.buildSlice 24 n ps
@[go_sem ↓] theorem fold_bldB (n : Nat) (ps : Array (Nat × Value)) : Instr.buildSlice 24 n ps = bldB n ps := rfl
set_option maxRecDepth 100000 in
@[go_sem] theorem run_bldB1 (w : World) (b : Int) : (bldB 1 #[(0, .int .u8 b)]).run Tryd.prog w = .ok (.slice (some ⟨w.heap.size, 0, none⟩) 1 1) (w.alloc (.cells #[.int .u8 b] 5)) := by
  obtain ⟨ie, h1, h2, h3, _⟩ := info_parts info_u8
  refine run_buildSlice w _ _ 1 _ #[.int .u8 b] ie _ Tryd.underlying24 h1 h2 (by rw [h3]; decide) (by rw [h3]; decide) ?_
  rw [h3]; kernel_rfl
theorem Bs0.take {w : World} {p : Option Addr} {l : List Nat} (h : Bs0 w p l) (n : Nat) : Bs0 w p (l.take n) := by
  rcases h with rfl | ⟨b, o, rfl, h⟩
  · exact .inl (by simp)
  · refine .inr ⟨b, o, rfl, h.1, fun i hi => ?_⟩
    rw [List.length_take] at hi
    rw [h.2 i (by omega)]
    simp [List.getD, show i < n by omega]
/-- One byte more: the slice lies where it lay, or in a new block. -/
theorem app_at {w : World} {B g : Nat} {v : Value} {l : List Nat} {y : Nat} (h : OwnB w B v l) (hg : BytesAt w g 0 [y]) (hBw : B ≤ w.heap.size) (hlen : l.length + 1 ≤ 16777216) :
    ∃ v' w', (Builtin.append_ #[24, 24] 24 #[v, .slice (some ⟨g, 0, none⟩) 1 1]).run Tryd.prog w = .ok v' w' ∧ OwnB w' B v' (l ++ [y]) ∧ w.grownBy w' v.ownBlock ∧
      (v'.ownBlock = v.ownBlock ∨ v'.ownBlock = some w.heap.size) := by
  obtain ⟨v', w', h1, h2, h3⟩ := app_own (k := 1) (cap := 1) h (Bs0.some hg) rfl (fun h => by cases h) hBw hlen
  refine ⟨v', w', h1, h2, h3, ?_⟩
  obtain ⟨i0, hi, hz0, hz1, hz2⟩ := info_parts info_u8
  have hnews := bys_at hg
  rcases h.2 with ⟨rfl, h0⟩ | ⟨g0, cap, cur, rfl, hb, hgg, hc, hm, hs, ht⟩
  · have hr := run_append_nil (P := Tryd.prog) w 24 24 5 i0 (.int .u8 0) Tryd.underlying24 hi hz0 ⟨g, 0, none⟩ 1 1 (bys [y]) (by rw [hz1]; rfl) hnews (by decide) (by decide) (by rw [hz2]; decide)
    rw [h1] at hr
    cases hr
    exact .inr rfl
  · by_cases hroom : l.length + 1 ≤ cap
    · have hr := run_append_room (P := Tryd.prog) w 24 24 5 i0 Tryd.underlying24 hi g0 l.length cap cur hgg ⟨g, 0, none⟩ 1 1 (bys [y]) (by rw [hz1]; rfl) hnews (bys_one _) hroom (by rw [hz1, bys_length]; simp only [List.length_cons, List.length_nil]; omega)
      rw [h1] at hr
      cases hr
      exact .inl rfl
    · have hr := run_append_grow (P := Tryd.prog) w 24 24 5 i0 (.int .u8 0) Tryd.underlying24 hi hz0 ⟨g0, 0, none⟩ l.length cap (bys l) (by rw [hz1, bys_length, Nat.mul_one]) (World.ownsRow.cells h (g := g0) rfl) ⟨g, 0, none⟩ 1 1 (bys [y]) (by rw [hz1]; rfl) hnews (by omega) (by omega) (by rw [hz2]; exact growslice_fits (by omega) (by omega))
      rw [h1] at hr
      cases hr
      exact .inr rfl
theorem OwnB.kept {w w' : World} {B : Nat} {v : Value} {l : List Nat} {row : Option Nat} (h : OwnB w B v l) (hg : w.grownBy w' row) (hne : v.ownBlock = none ∨ v.ownBlock ≠ row) : OwnB w' B v l := World.ownsRow.kept h hg hne
theorem OwnB.ltb {w : World} {B : Nat} {v : Value} {l : List Nat} (h : OwnB w B v l) (k : Nat) (hk : v.ownBlock = some k) : B ≤ k ∧ k < w.heap.size := World.ownsRow.lt h k hk
@[go_sem] theorem run_bldB0 (w : World) : (bldB 0 #[]).run Tryd.prog w = .ok (.slice (some ⟨w.heap.size, 0, none⟩) 0 0) (w.alloc (.cells #[] 5)) := by
  obtain ⟨ie, h1, h2, h3, _⟩ := info_parts info_u8
  simp [bldB, Instr.buildSlice, run_underlying Tryd.underlying24, sizeOf, typeInfo, h1, Instr.fill, Array.range_zero', newObj, newRow]
  rfl
theorem take_one (s : List Nat) (k : Nat) (h : k < s.length) : s.take k ++ [s.getD k 0] = s.take (k + 1) := by
  rw [List.take_add_one, List.getElem?_eq_getElem h]
  simp [List.getD, h]
end Go.Proofs.YtnkfiljmgbnbkaaDoor

/-
  Wide blocks as lists of numbers. Of no program.
-/
namespace Go.Li
open Go Go.Sh Go.Ch

theorem mixd_comm (a b : List Nat) (h : a.length = b.length) : mixd a b = mixd b a := by
  unfold mixd
  rw [h]
  apply List.map_congr_left
  intro i _
  exact Nat.xor_comm _ _
/-- A block: its left part, its right part. -/
abbrev Blk := List Nat × List Nat
/-- A stream round, a tag round. -/
def sRd (k : List Nat) (x : Blk) : Blk := (x.1, mixd (strm (mixd k x.1) (zs 12) 0 x.2.length) x.2)
def tRd (k : List Nat) (x : Blk) : Blk := (mixd (keyN (mac k x.2)) x.1, x.2)
def rd (t : Bool) (k : List Nat) (x : Blk) : Blk := if t then tRd k x else sRd k x
theorem rd_twice (t : Bool) (k : List Nat) (x : Blk) : rd t k (rd t k x) = x := by
  cases t
  · simp only [rd, sRd, mixd_length, mixd_twice, Bool.false_eq_true, if_false]
  · simp only [rd, tRd, mixd_twice, if_true]
/-- What holds of a block. -/
structure OkB (x : Blk) : Prop where
  left : x.1.length = 32
  lb : ∀ i, x.1.getD i 0 < 256
  rb : ∀ i, x.2.getD i 0 < 256
theorem rd_left (t : Bool) (k : List Nat) (x : Blk) : (rd t k x).1.length = x.1.length := by
  cases t
  · rfl
  · exact mixd_length _ _
theorem rd_right (t : Bool) (k : List Nat) (x : Blk) : (rd t k x).2.length = x.2.length := by
  cases t
  · exact mixd_length _ _
  · rfl
theorem OkB.rd {x : Blk} (h : OkB x) (t : Bool) (k : List Nat) : OkB (rd t k x) := by
  refine ⟨by rw [rd_left]; exact h.left, ?_, ?_⟩
  · cases t
    · exact h.lb
    · exact mixd_bts (keyN_bts _) h.lb
  · cases t
    · exact mixd_bts (strm_bts _ _ _ _) h.rb
    · exact h.rb
/-- A round's label, and its key. -/
def lab (i : Nat) : List Nat := [108, 105, 111, 110, 32, 48 + i]
def rkey (k : List Nat) (i : Nat) : List Nat := keyN (drv k (purp ++ lab i))
theorem rkey_length (k : List Nat) (i : Nat) : (rkey k i).length = 32 := keyN_length _
theorem rkey_bts (k : List Nat) (i : Nat) : ∀ j, (rkey k i).getD j 0 < 256 := keyN_bts _
/-- The i-th round. -/
def rnd (k : List Nat) (i : Nat) (x : Blk) : Blk := rd (i % 2 == 0) (rkey k i) x
def rnds (k : List Nat) : List Nat → Blk → Blk
  | [], x => x
  | i :: l, x => rnds k l (rnd k i x)
theorem rnds_app (k : List Nat) : ∀ (l m : List Nat) (x : Blk), rnds k (l ++ m) x = rnds k m (rnds k l x)
  | [], _, _ => rfl
  | i :: l, m, x => by simp only [List.cons_append, rnds]; exact rnds_app k l m _
theorem rnds_snoc (k : List Nat) (l : List Nat) (i : Nat) (x : Blk) : rnds k (l ++ [i]) x = rnd k i (rnds k l x) := by rw [rnds_app]; rfl
theorem rnds_back (k : List Nat) : ∀ (l : List Nat) (x : Blk), rnds k l.reverse (rnds k l x) = x
  | [], _ => rfl
  | i :: l, x => by rw [List.reverse_cons, rnds_snoc, rnds, rnds_back k l]; exact rd_twice _ _ _
theorem OkB.rnds {k : List Nat} : ∀ (l : List Nat) {x : Blk}, OkB x → OkB (rnds k l x)
  | [], _, h => h
  | _ :: l, _, h => OkB.rnds l (h.rd _ _)
theorem rnds_right (k : List Nat) : ∀ (l : List Nat) (x : Blk), (rnds k l x).2.length = x.2.length
  | [], _ => rfl
  | i :: l, x => by rw [rnds, rnds_right k l]; exact rd_right _ _ _
/-- The parts of bytes, and the bytes of parts. -/
def prt (b : List Nat) : Blk := (b.take 32, b.drop 32)
def jn (x : Blk) : List Nat := x.1 ++ x.2
theorem jn_prt (b : List Nat) : jn (prt b) = b := List.take_append_drop 32 b
theorem prt_jn {x : Blk} (h : OkB x) : prt (jn x) = x := by
  obtain ⟨l, r⟩ := x
  have hl : l.length = 32 := h.left
  unfold prt jn
  rw [List.take_append_of_le_length (by simp only; omega), List.drop_append_of_le_length (by simp only; omega), List.take_of_length_le (by simp only; omega), List.drop_of_length_le (by simp only; omega), List.nil_append]
theorem jn_length {x : Blk} (h : OkB x) : (jn x).length = 32 + x.2.length := by unfold jn; rw [List.length_append, h.left]
theorem jn_bts {x : Blk} (h : OkB x) : ∀ i, (jn x).getD i 0 < 256 := bts_app h.lb h.rb
theorem prt_ok {b : List Nat} (h : 32 ≤ b.length) (hb : ∀ i, b.getD i 0 < 256) : OkB (prt b) :=
  ⟨by simp only [prt, List.length_take]; omega, bts_take hb 32, bts_drop hb 32⟩
/-- A block, mixed by rounds. -/
def mixL (k : List Nat) (l : List Nat) (b : List Nat) : List Nat := jn (rnds k l (prt b))
theorem mixL_length (k l : List Nat) {b : List Nat} (h : 32 ≤ b.length) (hb : ∀ i, b.getD i 0 < 256) : (mixL k l b).length = b.length := by
  unfold mixL
  rw [jn_length ((prt_ok h hb).rnds l), rnds_right]
  simp only [prt, List.length_drop]; omega
theorem mixL_bts (k l : List Nat) {b : List Nat} (h : 32 ≤ b.length) (hb : ∀ i, b.getD i 0 < 256) : ∀ i, (mixL k l b).getD i 0 < 256 := jn_bts ((prt_ok h hb).rnds l)
theorem mixL_back (k l : List Nat) {b : List Nat} (h : 32 ≤ b.length) (hb : ∀ i, b.getD i 0 < 256) : mixL k l.reverse (mixL k l b) = b := by
  unfold mixL
  rw [prt_jn ((prt_ok h hb).rnds l), rnds_back, jn_prt]
/-- The four rounds, and the opposite order. -/
def fwd : List Nat := [1, 2, 3, 4]
def bwd : List Nat := [4, 3, 2, 1]
def lockL (k b : List Nat) : List Nat := mixL k fwd b
def unlockL (k b : List Nat) : List Nat := mixL k bwd b
theorem unlock_lock (k : List Nat) {b : List Nat} (h : 32 ≤ b.length) (hb : ∀ i, b.getD i 0 < 256) : unlockL k (lockL k b) = b := mixL_back k fwd h hb
theorem lock_unlock (k : List Nat) {b : List Nat} (h : 32 ≤ b.length) (hb : ∀ i, b.getD i 0 < 256) : lockL k (unlockL k b) = b := mixL_back k bwd h hb
end Go.Li

/-
  Package lion: a block as cells; a key lying in a row's beginning.
-/
namespace Go.Proofs.YtnkfiljmgbnbkaaDoor
open Go.RowKit Go.Hold Go.Sh Go.Ch Go.Li

/-- A block's cells. -/
def blkA (l : List Nat) (s : Value) : Array Value := (bys l ++ [s]).toArray
theorem blkA_size {l : List Nat} {s : Value} (h : l.length = 32) : (blkA l s).size = 33 := by simp [blkA, bys, h]
theorem blkA_get {l : List Nat} {s : Value} (i : Nat) (h : i < l.length) : (blkA l s)[i]? = some (.int .u8 ((l.getD i 0 : Nat) : Int)) := by
  simp only [blkA, List.getElem?_toArray]
  rw [List.getElem?_append_left (by rw [bys_length]; exact h)]
  simp [bys, h]
theorem blkA_last {l : List Nat} {s : Value} (h : l.length = 32) : (blkA l s)[32]? = some s := by
  simp only [blkA, List.getElem?_toArray]
  rw [List.getElem?_append_right (by rw [bys_length, h]; exact Nat.le_refl _), bys_length, h]; rfl
@[go_sem] theorem blkA_one (l : List Nat) (p : Option Addr) (n c : Nat) : oneAll (blkA l (.slice p n c)) = true := by simp [oneAll, blkA, bys, Value.oneCell']
theorem bytes_blk {w : World} {g : Nat} {l : List Nat} {s : Value} (h : RowAt w g (blkA l s)) : BytesAt w g 0 l :=
  ⟨h.2.2, fun i hi => by rw [Nat.zero_add]; exact h.cellAt i (blkA_get i hi)⟩
theorem cell_blk {w : World} {g : Nat} {l : List Nat} {s : Value} (h : RowAt w g (blkA l s)) (hl : l.length = 32) : w.cell? ⟨g, 32, none⟩ = some s := h.cellAt 32 (blkA_last hl)
/-- A key out of bytes that lie somewhere. -/
theorem load_key {w : World} {b o : Nat} {l : List Nat} (h : BytesAt w b o l) (hl : 32 ≤ l.length) : (loadRow 23 (.pointer (some ⟨b, o, none⟩))).run Tryd.prog w = .ok (.agg (bysA (l.take 32))) w := by
  have e : (Tryd.prog.info? 23).map (·.size) = some 32 := by kernel_rfl
  have hbl : (bys (l.take 32)).length = 32 := by rw [bys_length, List.length_take]; omega
  refine run_loadAt_mid w b o _ (bys (l.take 32)) _ (fun j v hv => ?_) Tryd.underlying23 rfl (by rw [hbl]; exact e)
  have hj : j < 32 := by have := (List.getElem?_eq_some_iff.1 hv).1; omega
  rw [h.2 j (by omega), ← hv]
  simp only [bys, List.getElem?_map, List.getElem?_take, if_pos hj, List.getD]
  rw [List.getElem?_eq_getElem (by omega)]; rfl
theorem load_left {w : World} {g : Nat} {l : List Nat} {s : Value} (h : RowAt w g (blkA l s)) (hl : l.length = 32) : (loadRow 23 (.pointer (some ⟨g, 0, none⟩))).run Tryd.prog w = .ok (.agg (bysA l)) w := by
  have := load_key (bytes_blk h) (by omega)
  rwa [List.take_of_length_le (by omega)] at this
@[go_sem ↓] theorem loadAt_blk (v : Value) : Instr.loadAt 52 v = loadRow 52 v := rfl
@[go_sem] theorem run_loadBlk (w : World) (n : Nat) (h1 : w.isRow n = true) (h2 : (w.rowOf n).size = 33) : (loadRow 52 (.pointer (some ⟨n, 0, none⟩))).run Tryd.prog w = .ok (.agg (w.rowOf n)) w := run_loadRow w Tryd.underlying52 rfl (by kernel_rfl) n h1 h2
theorem results_blk {fn : Func} {p : Tmp} {cs : Array Value} (h : fn.results = #[.cell p 52]) (hc : cs.size = 33) (w : World) (tmps : Array Value) (n : Nat) (hp : tmps.getD p undef = .pointer (some ⟨n, 0, none⟩)) (h1 : w.isRow n = true) (h2 : w.rowOf n = cs) : (results fn tmps).run Tryd.prog w = .ok (.agg cs) w :=
  results_row w h Tryd.underlying52 rfl (by rw [hc]; kernel_rfl) tmps n hp h1 h2
@[go_sem ↓] theorem build_blk (ps : Array (Nat × Value)) : Instr.build 52 ps = bldA 52 ps := rfl
set_option maxRecDepth 100000 in
theorem run_bldBlk {l : List Nat} (hl : l.length = 32) (p : Option Addr) (n c : Nat) (w : World) : (bldA 52 #[(0, .agg (bysA l)), (1, .slice p n c)]).run Tryd.prog w = .ok (.agg (blkA l (.slice p n c))) w := by
  match l, hl with
  | [a0, a1, a2, a3, a4, a5, a6, a7, a8, a9, b0, b1, b2, b3, b4, b5, b6, b7, b8, b9, c0, c1, c2, c3, c4, c5, c6, c7, c8, c9, d0, d1], _ => exact run_build w _ _ _ (by kernel_rfl)
/-- A block as a value: its right part lies in block b. -/
def BlkV (w : World) (v : Value) (x : Blk) (b : Nat) : Prop := ∃ o c, v = .agg (blkA x.1 (.slice (some ⟨b, o, none⟩) x.2.length c)) ∧ BytesAt w b o x.2 ∧ x.2.length ≤ c
theorem BlkV.grow {w w' : World} {v : Value} {x : Blk} {b : Nat} (h : BlkV w v x b) (hb : Below w.heap.size w w') : BlkV w' v x b := by
  obtain ⟨o, c, e, h1, h2⟩ := h
  exact ⟨o, c, e, h1.grow hb, h2⟩
theorem slB_h32 (a : Option Addr) (len cap : Nat) (h : 32 ≤ cap) (w : World) : (slB (.slice a len cap) none (some (.int .i64 32)) none).run Tryd.prog w = .ok (.slice a 32 cap) w := slB_h a len cap 32 h w
theorem slB_lo32 (b o len cap : Nat) (h : 32 ≤ len) (w : World) : (slB (.slice (some ⟨b, o, none⟩) len cap) (some (.int .i64 32)) none none).run Tryd.prog w = .ok (.slice (some ⟨b, adv o 32 cap, none⟩) (len - 32) (cap - 32)) w := slB_lo b o len cap 32 h w
/-- The two parts, each byte turned. -/
theorem mix_step (a b : List Nat) (j : Nat) (h : j < b.length) : (mixP a b j).getD j 0 = a.getD j 0 := by
  simp [List.getD, mixP_get a b j j h]
end Go.Proofs.YtnkfiljmgbnbkaaDoor

/-
  Slices of words that a call made.
-/
namespace Go.Proofs.YtnkfiljmgbnbkaaDoor
open Go.RowKit Go.Hold Go.Sh

theorem info_u32 : (Tryd.prog.info? 61).map (fun i => (i.zero, i.size, i.bytes)) = some (some (.int .u32 0), 1, 4) := by kernel_rfl
def OwnW (w : World) (B : Nat) (v : Value) (l : List Int) : Prop := w.ownsRow B 61 1 v l.length (wos l)
def WordsAt (w : World) (g : Nat) (l : List Int) : Prop := g < w.heap.size ∧ ∀ i, i < l.length → w.cell? ⟨g, i, none⟩ = some (.int .u32 (l.getD i 0))
theorem WordsAt.grow {w w' : World} {g : Nat} {l : List Int} (h : WordsAt w g l) (hb : Below w.heap.size w w') : WordsAt w' g l :=
  ⟨Nat.lt_of_lt_of_le h.1 hb.size, fun i hi => by rw [hb.cell h.1]; exact h.2 i hi⟩
theorem wos_length (l : List Int) : (wos l).length = l.length := by simp [wos]
theorem OwnW.below {w w' : World} {B : Nat} {v : Value} {l : List Int} (h : OwnW w B v l) (hb : Below w.heap.size w w') : OwnW w' B v l := owns_below h hb
theorem OwnW.snoc {w : World} {B : Nat} {v : Value} {l : List Int} {x : Int} (h : w.ownsRow B 61 1 v (l.length + 1) (wos l ++ [.int .u32 x])) : OwnW w B v (l ++ [x]) := by
  unfold OwnW
  rw [List.length_append, show wos (l ++ [x]) = wos l ++ [.int .u32 x] by simp [wos]]; exact h
theorem OwnW.addr {w : World} {B : Nat} {v : Value} {l : List Int} {k : Nat} (h : OwnW w B v l) (hk : l.length = k) (h0 : 0 < k) : ∃ g cap, v = .slice (some ⟨g, 0, none⟩) k cap ∧ B ≤ g ∧ g < w.heap.size ∧ k ≤ cap := by
  subst hk
  rcases h.2 with ⟨_, h1⟩ | ⟨g, cap, cur, rfl, hb, hg, hc, _⟩
  · omega
  · exact ⟨g, cap, rfl, hb, (Array.getElem?_eq_some_iff.1 hg).1, hc⟩
theorem OwnW.words {w : World} {B g cap k : Nat} {l : List Int} (h : OwnW w B (.slice (some ⟨g, 0, none⟩) k cap) l) (hg : g < w.heap.size) : WordsAt w g l := by
  refine ⟨hg, fun i hi => ?_⟩
  have hk : k = l.length := by
    rcases h.2 with ⟨h1, _⟩ | ⟨g', cap', cur, he, _⟩
    · cases h1
    · cases he; rfl
  subst hk
  rw [World.ownsRow.cellAt h i (by omega)]
  simp [wos, hi]
theorem ownW_empty (w : World) (B : Nat) (hB : B ≤ w.heap.size) : OwnW (w.alloc (.cells #[] 61)) B (.slice (some ⟨w.heap.size, 0, none⟩) 0 0) [] :=
  ⟨rfl, .inr ⟨w.heap.size, 0, #[], rfl, hB, block_new w _, Nat.le_refl _, by decide, rfl, rfl⟩⟩
theorem wos_one (l : List Int) : ∀ u ∈ wos l, u.oneCell' = true := fun u hu => by
  simp only [wos, List.mem_map] at hu
  obtain ⟨x, _, rfl⟩ := hu; rfl
theorem wos_at {w : World} {g : Nat} {l : List Int} (h : WordsAt w g l) : ∀ j u, (wos l)[j]? = some u → w.cell? ((⟨g, 0, none⟩ : Addr).add j) = some u := fun j u hu => by
  have hj : j < l.length := by have := (List.getElem?_eq_some_iff.1 hu).1; rwa [wos_length] at this
  rw [Addr.add_mid, Nat.zero_add, h.2 j hj, ← hu]
  simp [wos, hj]
theorem words_row {w : World} {g : Nat} {l : List Int} (h : RowAt w g (wosA l)) : WordsAt w g l := ⟨h.2.2, fun i hi => h.cellAt i (wosA_get l i hi)⟩
theorem words_new (w : World) (l : List Int) (t : TypeId) : WordsAt (w.alloc (.cells (wosA l) t)) w.heap.size l := words_row (RowAt.of (block_new w _))
theorem or_add (a b i : Nat) (h : b < 2 ^ i) : a * 2 ^ i ||| b = a * 2 ^ i + b := by
  have := Nat.shiftLeft_add_eq_or_of_lt h a
  rw [Nat.shiftLeft_eq] at this
  exact this.symm
def bldS (t : TypeId) (n : Nat) (ps : Array (Nat × Value)) : Sem Value := Instr.buildSlice t n ps
/-- Words that may be written. -/
def SlW (w : World) (g : Nat) (l : List Int) : Prop := WordsAt w g l ∧ ∀ i, i < l.length → w.frozen? ⟨g, i, none⟩ = false
theorem SlW.grow {w w' : World} {g : Nat} {l : List Int} (h : SlW w g l) (hb : Below w.heap.size w w') : SlW w' g l :=
  ⟨h.1.grow hb, fun i hi => by rw [World.frozen?_of_block (hb.block g h.1.1)]; exact h.2 i hi⟩
theorem OwnW.slw {w : World} {B g cap k : Nat} {l : List Int} (h : OwnW w B (.slice (some ⟨g, 0, none⟩) k cap) l) (hg : g < w.heap.size) : SlW w g l := by
  refine ⟨h.words hg, fun i _ => ?_⟩
  rcases h.2 with ⟨h1, _⟩ | ⟨g', cap', cur, he, _, hb, _⟩
  · cases h1
  · cases he
    simp [World.frozen?, hb]
theorem SlW.set {w : World} {g i : Nat} {l : List Int} {x : Int} (h : SlW w g l) (hi : i < l.length) : SlW (w.setCell ⟨g, i, none⟩ (.int .u32 x)) g (l.set i x) := by
  refine ⟨⟨by rw [World.size_setCell]; exact h.1.1, fun j hj => ?_⟩, fun j hj => ?_⟩
  · rw [List.length_set] at hj
    by_cases e : i = j
    · subst e
      rw [World.cell?_setCell_same _ _ _ (h.1.2 i hi)]
      simp [List.getD, hi]
    · rw [World.cell?_setCell_other _ _ _ _ (by simp), h.1.2 j hj]
      simp [List.getD, e]
  · rw [List.length_set] at hj
    rw [World.frozen?_setCell]; exact h.2 j hj
/-- Words are laid behind those of a slice of one's own. -/
theorem app_ownW {w : World} {B : Nat} {v : Value} {l m : List Int} {g cap k : Nat} (h : OwnW w B v l) (hg : WordsAt w g m) (hk : k = m.length) (hBw : B ≤ w.heap.size) (hlen : l.length + m.length ≤ 16777216) :
    ∃ v' w', (Builtin.append_ #[93, 93] 93 #[v, .slice (some ⟨g, 0, none⟩) k cap]).run Tryd.prog w = .ok v' w' ∧ OwnW w' B v' (l ++ m) ∧ w.grownBy w' v.ownBlock := by
  subst hk
  obtain ⟨i0, hi, hz0, hz1, hz2⟩ := info_parts info_u32
  obtain ⟨v', w', h1, h2, h3, _⟩ := run_append_own (P := Tryd.prog) w B 93 93 61 i0 (.int .u32 0) 1 4 Tryd.underlying93 hi hz0 hz1 hz2 rfl (by decide) v l.length (wos l) h ⟨g, 0, none⟩ m.length cap (wos m) (by rw [wos_length, Nat.mul_one]) (wos_at hg) (wos_one m) (maxLen_small hlen) (by omega) hBw
  refine ⟨v', w', h1, ?_, h3⟩
  unfold OwnW
  rw [List.length_append, show wos (l ++ m) = wos l ++ wos m by simp [wos]]; exact h2
theorem ownW_below {B : Nat} {w w1 w2 : World} {v : Value} {l : List Int} (hb : Below B w w1) (ho : OwnW w1 B v l) (hB : B ≤ w1.heap.size) (hg : w1.grownBy w2 v.ownBlock) : Below B w w2 := grown_below hb ho hB hg
end Go.Proofs.YtnkfiljmgbnbkaaDoor

/-
  The reference of layer 3: slices of bytes and of words that a call makes itself; the padding.
-/
namespace Go.Proofs.YtnkfiljmgbnbkaaDoor
open Go.RowKit Go.Hold Go.Sh

/-! ### Slices that a call made -/
theorem cast_tmod64' (k : Nat) : (k : Int).tmod 64 = ((k % 64 : Nat) : Int) := rfl
theorem gap_step (n k : Nat) (hk : k ≤ gap n) : (n + 1 + k) % 64 = 56 ↔ k = gap n := by unfold gap at *; omega
theorem zs_snoc (k : Nat) : zs k ++ [0] = zs (k + 1) := by simp [zs, List.replicate_succ']
theorem len8_take (n j : Nat) (hj : j < 8) : (len8 n).take (j + 1) = (len8 n).take j ++ [n * 8 / 256 ^ (7 - j) % 256] := by
  have : j < (len8 n).length := by rw [len8_length]; exact hj
  rw [List.take_add_one, List.getElem?_eq_getElem this]
  simp [len8]
end Go.Proofs.YtnkfiljmgbnbkaaDoor

/-
  Slices of bytes: those that a call made, with bytes laid behind them; copies; new ones.
-/
namespace Go.Proofs.YtnkfiljmgbnbkaaDoor
open Go.RowKit Go.Hold Go.Sh

theorem keA_bys (s : St) : keA s = bysA (keyN s) := by
  unfold keA byI keyL bysA bys keyN
  simp only [List.map_map]
  congr 1
  apply List.map_congr_left
  intro i _
  exact congrArg (Value.int .u8) (sByte_nat s i).symm
theorem keyN_row {w : World} {g : Nat} {s : St} (h : RowAt w g (keA s)) : BytesAt w g 0 (keyN s) := bytes_row (by rw [← keA_bys]; exact h)
/-! ### Parts of slices -/
/-! ### A new slice of noughts -/
/-! ### Copies -/
end Go.Proofs.YtnkfiljmgbnbkaaDoor

/-
  Package hmac: a key in a block, a block with a mask.
-/
namespace Go.Proofs.YtnkfiljmgbnbkaaDoor
open Go.RowKit Go.Hold Go.Sh

set_option maxHeartbeats 400000 in
set_option maxRecDepth 100000 in
theorem filled_c (cap : Nat) (p : Option Addr) (l : List Nat) (w : World) (hT : Tabs w) (hl : l.length ≤ 1000000) (hlb : ∀ i, l.getD i 0 < 256) (hB : Bs0 w p l) (hc : l.length ≤ cap) :
    Calls Tryd.prog 46 #[.slice p l.length cap] w fun e w' => ∃ g, e = .returned (.slice (some ⟨g, 0, none⟩) 64 64) ∧ RowAt w' g (bysA (fillK l)) ∧ w.heap.size ≤ g ∧ Below w.heap.size w w' := by
  have HT := Lib.hid hT
  have HB := Lib.hid hB
  obtain ⟨n, en⟩ : ∃ n, n = l.length := ⟨_, rfl⟩
  have En := Lib.hid en
  have hR0 : RowAt (w.alloc (.cells (bysA (zs 64)) 5)) w.heap.size (bysA (zs 64)) := RowAt.of (block_new w _)
  by_cases h64 : 64 < n
  · have h64' : (64 : Int) < (n : Int) := by omega
    have HS := Lib.hid (sum_c cap p l (w.alloc (.cells (bysA (zs 64)) 5)) (hT.grow (below_alloc (Below.refl _ _) _)) (by omega) hlb (hB.grow (below_alloc (Below.refl _ _) _)) hc)
    have HF := Lib.hid (show fillK l = (keyN (dig l)).take 32 ++ (zs 64).drop 32 by
      unfold fillK
      rw [if_pos (by omega), List.take_of_length_le (by rw [keyN_length]; exact Nat.le_refl _), zs_drop])
    have HR := Lib.hid hR0
    rw [← en] at HS ⊢
    clear hT hB en hc hR0 hl
    generalize dig l = D at *
    go_enter Tryd.func46, Tryd.ntmps46
    go_wp2_with fail
    refine HS.out.mono ?_
    rintro e w1 ⟨rfl, hb1⟩
    have R1 := Lib.hid (HR.out.grow hb1)
    have B1 := Lib.hid ((below_alloc (Below.refl w.heap.size w) (.cells (bysA (zs 64)) 5)).trans (hb1.mono (by simp)))
    clear hb1 HS
    have hcp := copy_bytes (W := w1.alloc (.cells (keA D) 23)) (c2 := 64) (cap := 32) (d := 64) (s := 32) (k := 32) (R1.out.grow (below_alloc (Below.refl _ _) _)) (by rw [zs_length]) (keyN_length D).symm (by rw [zs_length, keyN_length]; decide) (Bs0.some (keyN_row (RowAt.of (block_new w1 _))))
    rw [← HF.out] at hcp
    have R2 := Lib.hid ((R1.out.grow (below_alloc (Below.refl _ _) (.cells (keA D) 23))).set (bysA (fillK l)))
    have B2 := Lib.hid (below_setRow (below_alloc B1.out (.cells (keA D) 23)) (Nat.le_refl _) (bysA (fillK l)))
    generalize (w1.alloc (.cells (keA D) 23)).setRow w.heap.size (bysA (fillK l)) = W3 at *
    go_wp2_with fail
    go_ret
    exact ⟨_, rfl, R2.out, Nat.le_refl _, B2.out⟩
  · have h64' : ¬ (64 : Int) < (n : Int) := by omega
    have hcp := copy_bytes (c2 := 64) (cap := cap) (d := 64) (s := n) (k := n) hR0 (by rw [zs_length]) en (by rw [zs_length]; omega) (hB.grow (below_alloc (Below.refl _ _) _))
    have HF := Lib.hid (show fillK l = l.take n ++ (zs 64).drop n by
      unfold fillK
      rw [if_neg (by omega), List.take_of_length_le (by omega), zs_drop, en])
    rw [← en]
    rw [← HF.out] at hcp
    clear hT hB en hc hR0 hl
    go_enter Tryd.func46, Tryd.ntmps46
    go_wp2_with fail
    go_ret
    refine ⟨_, rfl, ?_, Nat.le_refl _, ?_⟩
    · exact RowAt.of (block_new w _)
    · exact below_alloc (Below.refl _ _) _

theorem xorL_get (m : Nat) (l : List Nat) (i : Nat) (h : i < l.length) : (xorL m l).getD i 0 = l.getD i 0 ^^^ m := by simp [xorL, List.getD, h]
theorem xor_set (m : Nat) (l : List Nat) (i : Nat) (h : i < l.length) : ((xorL m l).take i ++ zs (l.length - i)).set i (l.getD i 0 ^^^ m) = (xorL m l).take (i + 1) ++ zs (l.length - (i + 1)) := by
  have hx : i < (xorL m l).length := by rw [xorL_length]; exact h
  have e : zs (l.length - i) = 0 :: zs (l.length - (i + 1)) := by
    obtain ⟨k, hk⟩ : ∃ k, l.length - i = k + 1 := ⟨l.length - i - 1, by omega⟩
    rw [hk, show l.length - (i + 1) = k by omega]; rfl
  have hlen : ((xorL m l).take i).length = i := by rw [List.length_take]; omega
  rw [List.set_append, if_neg (by omega), hlen, Nat.sub_self, e, List.set_cons_zero, List.take_add_one, List.getElem?_eq_getElem hx, List.append_assoc]
  congr 2
  simp [xorL, List.getD, h]
set_option maxHeartbeats 400000 in
set_option maxRecDepth 100000 in
theorem masked_c (g cap m : Nat) (l : List Nat) (w : World) (hl : l.length = 64) (hlb : ∀ i, l.getD i 0 < 256) (hm : m < 256) (hB : BytesAt w g 0 l) :
    Calls Tryd.prog 48 #[.slice (some ⟨g, 0, none⟩) 64 cap, .int .u8 (m : Int)] w fun e w' => ∃ x, e = .returned (.slice (some ⟨x, 0, none⟩) 64 64) ∧ RowAt w' x (bysA (xorL m l)) ∧ w.heap.size ≤ x ∧ Below w.heap.size w w' := by
  have HB := Lib.hid hB
  have R0 := Lib.hid (show RowAt (w.alloc (.cells (bysA (zs 64)) 5)) w.heap.size (bysA ((xorL m l).take 0 ++ zs (l.length - 0))) by rw [hl]; exact RowAt.of (block_new w _))
  have HL := Lib.hid hl
  clear hB hl
  go_enter Tryd.func48, Tryd.ntmps48
  go_wp2_with fail
  obtain ⟨x, ex⟩ : ∃ x, x = w.heap.size := ⟨_, rfl⟩
  have B0 := Lib.hid (show Below w.heap.size w (w.alloc (.cells (bysA (zs 64)) 5)) from below_alloc (Below.refl _ _) _)
  go_loopw [13] (fun i wr => ∃ k : Nat, k ≤ 64 ∧ i = .int .i64 k ∧ RowAt wr w.heap.size (bysA ((xorL m l).take k ++ zs (l.length - k))) ∧ Below w.heap.size w wr) (fun i _ => 64 - (intOf i).toNat)
  case atStart => exact ⟨0, by decide, rfl, R0.out, B0.out⟩
  case round =>
    obtain ⟨k, hk, rfl, hrow, hbel⟩ := hrel
    by_cases hk64 : k < 64
    · have hk0 : (0 : Int) ≤ (k : Int) := by omega
      have hk1 : (k : Int) < 64 := by omega
      have hkl : k < l.length := by rw [HL.out]; exact hk64
      have hck := (HB.out.grow hbel).2 k hkl
      rw [Nat.zero_add] at hck
      have hx := u8_xor_nat (l.getD k 0) m (hlb k) hm
      have hset := Lib.hid (xor_set m l k hkl)
      generalize l.getD k 0 = y at *
      generalize y ^^^ m = z at *
      have hlx : k < ((xorL m l).take k ++ zs (l.length - k)).length := by rw [List.length_append, List.length_take, xorL_length, zs_length]; omega
      have hcx := hrow.cellAt k (bysA_get _ k hlx)
      have hfx := hrow.frozenAt k
      have Hrow := Lib.hid hrow
      have Hbel := Lib.hid hbel
      clear hrow hbel hlx hkl
      go_wp2_with fail
      go_roundw
      case rel =>
        refine ⟨k + 1, by omega, by go_num, ?_, ?_⟩
        · rw [← hset.out, ← bysA_set]; exact Hrow.out.setCell _ _
        · exact Hbel.out.setCell (p := ⟨_, _, none⟩) (Nat.le_refl _) _
      case measure => simp [intOf]; omega
    · obtain rfl : k = 64 := by omega
      have HR := Lib.hid hrow
      have Hbel := Lib.hid hbel
      clear hrow hbel
      go_wp2_with fail
      go_ret
      refine ⟨_, rfl, ?_, Nat.le_refl _, Hbel.out⟩
      have := HR.out
      rw [HL.out, List.take_of_length_le (by rw [xorL_length, HL.out]; exact Nat.le_refl _), show zs (64 - 64) = [] from rfl, List.append_nil] at this
      exact this
end Go.Proofs.YtnkfiljmgbnbkaaDoor

/-
  slices.Grow and slices.Concat, of bytes.
-/
namespace Go.Proofs.YtnkfiljmgbnbkaaDoor
open Go.RowKit Go.Hold Go.Sh

theorem made_cells (z : Array Value) (n c : Nat) (hz : z = #[.int .u8 0]) : (#[] ++ Builtin.zeroCells z n ++ Builtin.zeroCells z c : Array Value).size = (n + c) * 1 := by
  subst hz
  simp [size_zeroCells]
set_option maxHeartbeats 400000 in
set_option maxRecDepth 100000 in
theorem grow_c (n : Nat) (w : World) (hn : n ≤ 16777216) :
    Calls Tryd.prog 50 #[.slice none 0 0, .int .i64 (n : Int)] w fun e w' => ∃ v, e = .returned v ∧ OwnB w' w.heap.size v [] ∧ Below w.heap.size w w' := by
  have h0 : ¬ (n : Int) < 0 := by omega
  have h1 : IntKind.i64.wrap (n : Int) = (n : Int) := by rw [IntWalk.i64_in _ (by omega)]
  by_cases hz : 0 < n
  · have h2 : (0 : Int) < (n : Int) := by omega
    obtain ⟨i0, hi, hz0, hz1, hz2⟩ := info_parts info_u8
    have hr := Lib.run_append_nil_zeros (P := Tryd.prog) w 24 3 24 5 i0 (.int .u8 0) .i64 .i64 Tryd.underlying24 Tryd.underlying3 hi hz0 n hz (by rw [hz1]; decide) (by omega) (by rw [hz2]; omega)
    have hge := grownCap_ge w n 0 5
    have hle := grownCap_le_maxLen w n 0 5 (maxLen_small hn)
    generalize grownCap w n 0 5 = c at *
    have HO := Lib.hid (show OwnB (w.drew.alloc (.cells (Builtin.zeroCells (Value.int .u8 0).cells n ++ Builtin.zeroCells (Value.int .u8 0).cells (c - n)) 5)) w.heap.size (.slice (some ⟨w.heap.size, 0, none⟩) 0 c) [] from
      World.ownsRow_made w.drew _ c (Nat.le_refl _) hle (by simp [size_zeroCells, Value.cells]; omega))
    have HB := Lib.hid (show Below w.heap.size w (w.drew.alloc (.cells (Builtin.zeroCells (Value.int .u8 0).cells n ++ Builtin.zeroCells (Value.int .u8 0).cells (c - n)) 5)) from (Below.refl w.heap.size w).drew.alloc (Nat.le_refl _) _)
    generalize w.drew.alloc (.cells (Builtin.zeroCells (Value.int .u8 0).cells n ++ Builtin.zeroCells (Value.int .u8 0).cells (c - n)) 5) = W2 at *
    have hc63 : c ≤ 9223372036854775807 := by unfold maxLen at hle; omega
    clear hle hge hn
    go_enter Tryd.func50, Tryd.ntmps50
    go_wp2_with (at_builtin; refine Lib.wpList_append_run _ rfl _ _ _ _ rfl _ _ rfl rfl _ _ hr ?_)
    go_wp2_with fail
    go_ret
    exact ⟨_, rfl, HO.out, HB.out⟩
  · obtain rfl : n = 0 := by omega
    go_enter Tryd.func50, Tryd.ntmps50
    go_wp2_with fail
    go_ret
    exact ⟨_, rfl, own_nil w _, Below.refl _ _⟩

/-! ### Concat -/
/-- A slice of bytes, as it is handed over: where, which bytes, how far. -/
abbrev Bsl := Option Addr × List Nat × Nat
def bsV (s : Bsl) : Value := .slice s.1 s.2.1.length s.2.2
def flat (ss : List Bsl) : List Nat := ss.flatMap fun s => s.2.1
theorem flat_take (ss : List Bsl) (i : Nat) (s : Bsl) (h : ss[i]? = some s) : flat (ss.take (i + 1)) = flat (ss.take i) ++ s.2.1 := by
  rw [List.take_add_one, h]
  simp [flat]
def BslAt (w : World) (ss : List Bsl) : Prop := ∀ s ∈ ss, Bs0 w s.1 s.2.1 ∧ (s.1 = none → s.2.2 = 0)
theorem BslAt.grow {w w' : World} {ss : List Bsl} (h : BslAt w ss) (hb : Below w.heap.size w w') : BslAt w' ss := fun s hs => ⟨(h s hs).1.grow hb, (h s hs).2⟩
theorem flat_le (ss : List Bsl) (i : Nat) : (flat (ss.take i)).length ≤ (flat ss).length := by
  conv => rhs; rw [← List.take_append_drop i ss]
  simp only [flat, List.flatMap_append, List.length_append]
  omega
set_option maxHeartbeats 400000 in
set_option maxRecDepth 100000 in
theorem concat_c (g k cap : Nat) (ss : List Bsl) (w : World) (hk : k = ss.length) (hg : RowAt w g (ss.map bsV).toArray) (hS : BslAt w ss) (hn : (flat ss).length ≤ 16000000) (hk8 : k ≤ 1000) :
    Calls Tryd.prog 36 #[.slice (some ⟨g, 0, none⟩) k cap] w fun e w' => ∃ v, e = .returned v ∧ OwnB w' w.heap.size v (flat ss) ∧ Below w.heap.size w w' := by
  have HG := Lib.hid hg
  have HS := Lib.hid hS
  have HN := Lib.hid hn
  have HK := Lib.hid hk
  have hcell : ∀ (i : Nat) (s : Bsl), ss[i]? = some s → (ss.map bsV).toArray[i]? = some (bsV s) := fun i s h => by simp [h]
  have HC := Lib.hid hcell
  clear hg hS hn hk hcell
  go_enter Tryd.func36, Tryd.ntmps36
  go_wp2_with fail
  go_loopw [3, 11] (fun z i wr => ∃ j : Nat, j ≤ k ∧ i = .int .i64 j ∧ z = .int .i64 ((flat (ss.take j)).length : Int) ∧ w = wr) (fun _ i _ => k - (intOf i).toNat)
  case atStart => exact ⟨0, by omega, rfl, rfl, rfl⟩
  case round =>
    obtain ⟨j, hj, rfl, rfl, rfl⟩ := hrel
    by_cases hjk : j < k
    · have hj0 : (0 : Int) ≤ (j : Int) := by omega
      have hj1 : (j : Int) < (k : Int) := by omega
      obtain ⟨s, hs⟩ : ∃ s, ss[j]? = some s := ⟨_, List.getElem?_eq_getElem (by rw [← HK.out]; exact hjk)⟩
      have hcj := HG.out.cellAt j (HC.out j s hs)
      obtain ⟨p, l, c⟩ := s
      simp only [bsV] at hcj
      have hft := flat_take ss j _ hs
      have hle := flat_le ss (j + 1)
      obtain ⟨m, em⟩ : ∃ m, m = l.length := ⟨_, rfl⟩
      obtain ⟨t, et⟩ : ∃ t, t = (flat (ss.take j)).length := ⟨_, rfl⟩
      obtain ⟨t2, et2⟩ : ∃ t, t = (flat (ss.take (j + 1))).length := ⟨_, rfl⟩
      have htm : t2 = t + m := by rw [et2, hft, List.length_append, et, em]
      have hN := HN.out
      have hw1 : IntKind.i64.wrap ((t : Int) + (m : Int)) = (t2 : Int) := by rw [IntWalk.i64_in _ (by omega)]; omega
      have hw0 : ¬ (t2 : Int) < 0 := by omega
      rw [← em] at hcj
      rw [← et]
      have Et2 := Lib.hid et2
      clear em et et2 htm hft hle hN hs
      go_wp2_with fail
      go_roundw
      case rel => exact ⟨j + 1, by omega, by go_num, by rw [← Et2.out], by first | trivial | rfl⟩
      case measure => simp [intOf]; omega
    · obtain rfl : j = k := by omega
      have hfl : (flat (ss.take j)) = flat ss := by rw [List.take_of_length_le (by rw [← HK.out]; exact Nat.le_refl _)]
      rw [hfl]
      have hN := HN.out
      have GC := Lib.hid (grow_c (flat ss).length w (by omega))
      obtain ⟨t, et⟩ : ∃ t, t = (flat ss).length := ⟨_, rfl⟩
      rw [← et] at GC ⊢
      clear hfl et hN
      go_wp2_with fail
      refine GC.out.mono ?_
      rintro e W1 ⟨v, rfl, hown, hbel⟩
      have HO := Lib.hid hown
      have HB := Lib.hid hbel
      clear hown hbel GC
      go_wp2_with fail
      go_loopw [6, 27] (fun v i wr => ∃ q : Nat, q ≤ j ∧ i = .int .i64 q ∧ OwnB wr w.heap.size v (flat (ss.take q)) ∧ Below w.heap.size w wr) (fun _ i _ => j - (intOf i).toNat)
      case atStart => exact ⟨0, by omega, rfl, HO.out, HB.out⟩
      case round =>
        obtain ⟨q, hq, rfl, hown, hbel⟩ := hrel
        by_cases hqj : q < j
        · have hq0 : (0 : Int) ≤ (q : Int) := by omega
          have hq1 : (q : Int) < (j : Int) := by omega
          obtain ⟨s, hs⟩ : ∃ s, ss[q]? = some s := ⟨_, List.getElem?_eq_getElem (by rw [← HK.out]; exact hqj)⟩
          have hcj := (HG.out.grow hbel).cellAt q (HC.out q s hs)
          have hft := flat_take ss q _ hs
          have hle := flat_le ss (q + 1)
          have hN := HN.out
          have hsm := (HS.out.grow hbel) s (List.mem_of_getElem? hs)
          obtain ⟨p, l, c⟩ := s
          simp only [bsV] at hcj
          obtain ⟨m, em⟩ : ∃ m, m = l.length := ⟨_, rfl⟩
          rw [← em] at hcj
          have hlen : (flat (ss.take q)).length + l.length ≤ 16777216 := by rw [hft, List.length_append] at hle; simp only at hle; omega
          obtain ⟨v2, w2, hr, hown2, hgr⟩ := app_own (cap := c) hown hsm.1 em hsm.2 hbel.size hlen
          rw [← hft] at hown2
          have Hb2 := Lib.hid (own_below hbel hown hbel.size hgr)
          have Ho2 := Lib.hid hown2
          clear hown2 hgr hown hbel hsm hft hle hN hlen em hs
          go_wp2_with (at_builtin; refine Lib.wpList_append_run _ rfl _ _ _ _ rfl _ _ rfl rfl _ _ hr ?_)
          go_wp2_with fail
          go_roundw
          case rel => exact ⟨q + 1, by omega, by go_num, Ho2.out, Hb2.out⟩
          case measure => simp [intOf]; omega
        · obtain rfl : q = j := by omega
          have Ho := Lib.hid hown
          have Hb := Lib.hid hbel
          clear hown hbel
          go_wp2_with fail
          go_ret
          refine ⟨_, rfl, ?_, Hb.out⟩
          have := Ho.out
          rw [List.take_of_length_le (by rw [← HK.out]; exact Nat.le_refl _)] at this
          exact this
end Go.Proofs.YtnkfiljmgbnbkaaDoor

/-
  Package hmac: the tag.
-/
namespace Go.Proofs.YtnkfiljmgbnbkaaDoor
open Go.RowKit Go.Hold Go.Sh

/-! ### Slices of slices that are built -/
def bldV (n : Nat) (ps : Array (Nat × Value)) : Sem Value := Instr.buildSlice 76 n ps
@[go_sem ↓] theorem fold_bldV (n : Nat) (ps : Array (Nat × Value)) : Instr.buildSlice 76 n ps = bldV n ps := rfl
theorem info_sl : (Tryd.prog.info? 24).map (fun i => (i.zero, i.size, i.bytes)) = some (some (.slice none 0 0), 1, 24) := by kernel_rfl
set_option maxRecDepth 100000 in
@[go_sem] theorem run_bldV2 (w : World) (p q : Option Addr) (l c m d : Nat) : (bldV 2 #[(0, .slice p l c), (1, .slice q m d)]).run Tryd.prog w = .ok (.slice (some ⟨w.heap.size, 0, none⟩) 2 2) (w.alloc (.cells #[.slice p l c, .slice q m d] 24)) := by
  obtain ⟨ie, h1, h2, h3, _⟩ := info_parts info_sl
  refine run_buildSlice w _ _ 2 _ #[.slice p l c, .slice q m d] ie _ Tryd.underlying76 h1 h2 (by rw [h3]; decide) (by rw [h3]; decide) ?_
  rw [h3]; kernel_rfl
set_option maxRecDepth 100000 in
@[go_sem] theorem run_bldV3 (w : World) (p q r : Option Addr) (l c m d n e : Nat) : (bldV 3 #[(0, .slice p l c), (1, .slice q m d), (2, .slice r n e)]).run Tryd.prog w = .ok (.slice (some ⟨w.heap.size, 0, none⟩) 3 3) (w.alloc (.cells #[.slice p l c, .slice q m d, .slice r n e] 24)) := by
  obtain ⟨ie, h1, h2, h3, _⟩ := info_parts info_sl
  refine run_buildSlice w _ _ 3 _ #[.slice p l c, .slice q m d, .slice r n e] ie _ Tryd.underlying76 h1 h2 (by rw [h3]; decide) (by rw [h3]; decide) ?_
  rw [h3]; kernel_rfl
/-- Concat of two. -/
theorem concat2_c {W : World} {g : Nat} {p q : Option Addr} {l m : List Nat} {n1 n2 c d : Nat} (hg : RowAt W g #[.slice p n1 c, .slice q n2 d]) (h1 : n1 = l.length) (h2 : n2 = m.length)
    (hp : Bs0 W p l) (hq : Bs0 W q m) (hpc : p = none → c = 0) (hqd : q = none → d = 0) (hn : l.length + m.length ≤ 16000000) :
    Calls Tryd.prog 36 #[.slice (some ⟨g, 0, none⟩) 2 2] W fun e w' => ∃ v, e = .returned v ∧ OwnB w' W.heap.size v (l ++ m) ∧ Below W.heap.size W w' := by
  subst h1 h2
  have := concat_c g 2 2 [(p, l, c), (q, m, d)] W rfl hg (fun s hs => by
    rcases List.mem_cons.1 hs with rfl | hs
    · exact ⟨hp, hpc⟩
    · rcases List.mem_cons.1 hs with rfl | hs
      · exact ⟨hq, hqd⟩
      · cases hs) (by simp [flat]; omega) (by decide)
  simpa [flat] using this
theorem concat3_c {W : World} {g : Nat} {p q r : Option Addr} {l m k : List Nat} {n1 n2 n3 c d e : Nat} (hg : RowAt W g #[.slice p n1 c, .slice q n2 d, .slice r n3 e]) (h1 : n1 = l.length) (h2 : n2 = m.length) (h3 : n3 = k.length)
    (hp : Bs0 W p l) (hq : Bs0 W q m) (hr : Bs0 W r k) (hpc : p = none → c = 0) (hqd : q = none → d = 0) (hre : r = none → e = 0) (hn : l.length + m.length + k.length ≤ 16000000) :
    Calls Tryd.prog 36 #[.slice (some ⟨g, 0, none⟩) 3 3] W fun x w' => ∃ v, x = .returned v ∧ OwnB w' W.heap.size v (l ++ m ++ k) ∧ Below W.heap.size W w' := by
  subst h1 h2 h3
  have := concat_c g 3 3 [(p, l, c), (q, m, d), (r, k, e)] W rfl hg (fun s hs => by
    rcases List.mem_cons.1 hs with rfl | hs
    · exact ⟨hp, hpc⟩
    · rcases List.mem_cons.1 hs with rfl | hs
      · exact ⟨hq, hqd⟩
      · rcases List.mem_cons.1 hs with rfl | hs
        · exact ⟨hr, hre⟩
        · cases hs) (by simp [flat]; omega) (by decide)
  simpa [flat, List.append_assoc] using this

set_option maxHeartbeats 600000 in
set_option maxRecDepth 100000 in
theorem mac_c (kc bc : Nat) (kp bp : Option Addr) (k b : List Nat) (w : World) (hT : Tabs w) (hk : k.length ≤ 1000000) (hkb : ∀ i, k.getD i 0 < 256) (hkB : Bs0 w kp k) (hkc : k.length ≤ kc)
    (hb : b.length ≤ 1000000) (hbb : ∀ i, b.getD i 0 < 256) (hbB : Bs0 w bp b) (hbc : bp = none → bc = 0) :
    Calls Tryd.prog 34 #[.slice kp k.length kc, .slice bp b.length bc] w fun e w' => e = .returned (.agg (keA (mac k b))) ∧ Below w.heap.size w w' := by
  have HT := Lib.hid hT
  have HbB := Lib.hid hbB
  have HF := Lib.hid (fun (W : World) (hW : Below w.heap.size w W) => filled_c kc kp k W (hT.grow hW) hk hkb (hkB.grow hW) hkc)
  have hFb := Lib.hid (fillK_bts hkb)
  have hFl := fillK_length k
  obtain ⟨M, eM⟩ : ∃ M, M = mac k b := ⟨_, rfl⟩
  rw [← eM]
  unfold mac at eM
  generalize fillK k = F at *
  obtain ⟨nk, enk⟩ : ∃ n, n = k.length := ⟨_, rfl⟩
  obtain ⟨nb, enb⟩ : ∃ n, n = b.length := ⟨_, rfl⟩
  rw [← enk] at HF ⊢
  rw [← enb] at hb ⊢
  have Enb := Lib.hid enb
  have EM := Lib.hid eM
  have Hbc := Lib.hid hbc
  have Hbb := Lib.hid hbb
  have HFl := Lib.hid hFl
  have hx54 := Lib.hid (xorL_bts (m := 54) (by decide) hFb.out)
  have hx92 := Lib.hid (xorL_bts (m := 92) (by decide) hFb.out)
  clear hT hbB enk enb eM hbc hbb hFl hkB hkb hk hkc
  go_enter Tryd.func34, Tryd.ntmps34
  go_wp2_with fail
  generalize hW : World.alloc _ _ = W0
  obtain ⟨z0, hz0, hR0⟩ : ∃ c, c.size = 32 ∧ RowAt W0 w.heap.size c := by rw [← hW]; clear hW; exact ⟨byI (List.replicate 32 0), by simp [byI], by go_simp, by go_simp; rfl, by go_simp⟩
  have R0 := Lib.hid hR0
  clear hR0
  have B0 := Lib.hid (show Below w.heap.size w W0 by rw [← hW]; exact below_alloc (Below.refl _ _) _)
  clear hW
  refine (HF.out W0 B0.out).mono ?_
  rintro e W1 ⟨g, rfl, hR, hg, hb1⟩
  have R1 := Lib.hid (R0.out.grow hb1)
  have G1 := Lib.hid hR
  have B1 := Lib.hid (B0.out.trans (hb1.mono B0.out.size))
  clear hR hb1 R0 HF
  go_wp2_with fail
  refine (masked_c g 64 54 F W1 HFl.out hFb.out (by decide) (bytes_row G1.out)).mono ?_
  rintro e W2 ⟨x, rfl, hX, hx, hb2⟩
  have R2 := Lib.hid (R1.out.grow hb2)
  have G2 := Lib.hid (G1.out.grow hb2)
  have X2 := Lib.hid hX
  have B2 := Lib.hid (B1.out.trans (hb2.mono B1.out.size))
  clear hX hb2 R1 G1
  go_wp2_with fail
  have BA := below_alloc (Below.refl W2.heap.size W2) (.cells #[.slice (some ⟨x, 0, none⟩) 64 64, .slice bp nb bc] 24)
  refine (concat2_c (RowAt.of (block_new W2 _)) (by rw [xorL_length, HFl.out]) Enb.out (Bs0.some (bytes_row (X2.out.grow BA))) ((HbB.out.grow B2.out).grow BA) (fun h => by cases h) Hbc.out (by rw [xorL_length, HFl.out, ← Enb.out]; omega)).mono ?_
  rintro e W3 ⟨v, rfl, hown, hb3⟩
  have hb3' := BA.trans (hb3.mono BA.size)
  obtain ⟨pv, cv, rfl, hBs, hcv, _⟩ := hown.bs
  have R3 := Lib.hid (R2.out.grow hb3')
  have G3 := Lib.hid (G2.out.grow hb3')
  have B3 := Lib.hid (B2.out.trans (hb3'.mono B2.out.size))
  obtain ⟨L1, eL1⟩ : ∃ L, L = xorL 54 F ++ b := ⟨_, rfl⟩
  have HL1b := Lib.hid (show ∀ i, L1.getD i 0 < 256 by rw [eL1]; exact bts_app hx54.out Hbb.out)
  have hL1 : L1.length ≤ 2000000 := by rw [eL1, List.length_append, xorL_length, HFl.out, ← Enb.out]; omega
  rw [← eL1] at hBs hcv ⊢
  have EL1 := Lib.hid eL1
  have HS := Lib.hid (sum_c cv pv L1 W3 (HT.out.grow B3.out) (by omega) HL1b.out hBs hcv)
  obtain ⟨n1, en1⟩ : ∃ n, n = L1.length := ⟨_, rfl⟩
  rw [← en1] at HS ⊢
  obtain ⟨D1, eD1⟩ : ∃ D, D = dig L1 := ⟨_, rfl⟩
  rw [← eD1] at HS
  have ED1 := Lib.hid eD1
  clear hb3 hb3' hown hBs hcv en1 eL1 hL1 eD1 R2 G2 X2 BA
  go_wp2_with fail
  refine HS.out.mono ?_
  rintro e W4 ⟨rfl, hb4⟩
  have R4 := Lib.hid (R3.out.grow hb4)
  have G4 := Lib.hid (G3.out.grow hb4)
  have B4 := Lib.hid (B3.out.trans (hb4.mono B3.out.size))
  clear hb4 R3 G3 HS
  go_wp2_with fail
  generalize hW : World.alloc _ _ = W5
  have R5 := Lib.hid (show RowAt W5 w.heap.size z0 by rw [← hW]; exact R4.out.grow (below_alloc (Below.refl _ _) _))
  have G5 := Lib.hid (show RowAt W5 g (bysA F) by rw [← hW]; exact G4.out.grow (below_alloc (Below.refl _ _) _))
  have D5 := Lib.hid (show RowAt W5 W4.heap.size (keA D1) by rw [← hW]; exact RowAt.of (block_new W4 _))
  have B5 := Lib.hid (show Below w.heap.size w W5 by rw [← hW]; exact below_alloc B4.out _)
  clear hW R4 G4
  generalize W4.heap.size = y at *
  refine wp_region_pickT W5 [0, 2] [false, true] [1, 3, 4, 5, 6] (by kernel_rfl) (by kernel_rfl) (by intro c a d v w h; cases d <;> exact h) ((Below.refl _ _).drew) ?_
  simp only [pick, List.getElem?_cons_succ, List.getElem?_cons_zero]
  refine wpHoldF_val (wanted_none rfl) (by intro K o d hK; go_simp; exact hK _ (Below.refl _ _)) ?_
  refine wpHoldF_late (wanted_none rfl) (fun w => by go_simp; rfl) ?_
  refine wpHoldF_nil ?_
  intro W6 hb6
  have R6 := Lib.hid (R5.out.grow hb6)
  have G6 := Lib.hid (G5.out.grow hb6)
  have D6 := Lib.hid (D5.out.grow hb6)
  have B6 := Lib.hid (B5.out.trans (hb6.mono B5.out.size))
  clear hb6 R5 G5 D5
  go_wp2_with fail
  refine (masked_c g 64 92 F W6 HFl.out hFb.out (by decide) (bytes_row G6.out)).mono ?_
  rintro e W7 ⟨x2, rfl, hX, hx2, hb7⟩
  have R7 := Lib.hid (R6.out.grow hb7)
  have D7 := Lib.hid (D6.out.grow hb7)
  have X7 := Lib.hid hX
  have B7 := Lib.hid (B6.out.trans (hb7.mono B6.out.size))
  clear hX hb7 R6 G6 D6
  go_wp2_with fail
  have BA := below_alloc (Below.refl W7.heap.size W7) (.cells #[.slice (some ⟨x2, 0, none⟩) 64 64, .slice (some ⟨y, 0, none⟩) 32 32] 24)
  refine (concat2_c (RowAt.of (block_new W7 _)) (by rw [xorL_length, HFl.out]) (keyN_length D1).symm (Bs0.some (bytes_row (X7.out.grow BA))) (Bs0.some (keyN_row (D7.out.grow BA))) (fun h => by cases h) (fun h => by cases h) (by rw [xorL_length, HFl.out, keyN_length]; decide)).mono ?_
  rintro e W8 ⟨v, rfl, hown, hb8⟩
  have hb8' := BA.trans (hb8.mono BA.size)
  obtain ⟨pv2, cv2, rfl, hBs, hcv, _⟩ := hown.bs
  have R8 := Lib.hid (R7.out.grow hb8')
  have B8 := Lib.hid (B7.out.trans (hb8'.mono B7.out.size))
  obtain ⟨L2, eL2⟩ : ∃ L, L = xorL 92 F ++ keyN D1 := ⟨_, rfl⟩
  have HL2b := Lib.hid (show ∀ i, L2.getD i 0 < 256 by rw [eL2]; exact bts_app hx92.out (keyN_bts _))
  have hL2 : L2.length ≤ 2000000 := by rw [eL2, List.length_append, xorL_length, HFl.out, keyN_length]; decide
  rw [← eL2] at hBs hcv ⊢
  have HS := Lib.hid (sum_c cv2 pv2 L2 W8 (HT.out.grow B8.out) (by omega) HL2b.out hBs hcv)
  rw [show dig L2 = M by rw [EM.out, eL2, ED1.out, EL1.out]] at HS
  obtain ⟨n2, en2⟩ : ∃ n, n = L2.length := ⟨_, rfl⟩
  rw [← en2] at HS ⊢
  clear hb8 hb8' hown hBs hcv en2 eL2 hL2 R7 D7 X7 BA
  go_wp2_with fail
  refine HS.out.mono ?_
  rintro e W9 ⟨rfl, hb9⟩
  obtain ⟨r1, r2, r3⟩ := R8.out.grow hb9
  have B9 := Lib.hid (B8.out.trans (hb9.mono B8.out.size))
  clear hb9 R8 HS
  go_wp2_with fail
  refine bodyPost_ret (v := .agg (keA M)) (results_key Tryd.results34 (keA_size _) _ _ _ rfl (by go_simp) (by go_simp)) rfl ⟨rfl, ?_⟩
  exact below_setRow B9.out (Nat.le_refl _) _
end Go.Proofs.YtnkfiljmgbnbkaaDoor
