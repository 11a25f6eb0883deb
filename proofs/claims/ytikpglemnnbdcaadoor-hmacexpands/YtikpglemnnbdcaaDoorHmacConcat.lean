/-
  slices.Grow and slices.Concat, of bytes.
-/
import Derived.Test.YtikpglemnnbdcaaDoorHmacParts
namespace Go.Proofs.YtikpglemnnbdcaaDoor
open Go.RowKit Go.Hold Go.Sh

theorem made_cells (z : Array Value) (n c : Nat) (hz : z = #[.int .u8 0]) : (#[] ++ Builtin.zeroCells z n ++ Builtin.zeroCells z c : Array Value).size = (n + c) * 1 := by
  subst hz
  simp [size_zeroCells]
set_option maxHeartbeats 400000 in
set_option maxRecDepth 100000 in
theorem grow_c (n : Nat) (w : World) (hn : n ≤ 16777216) :
    Calls Tryd.prog 31 #[.slice none 0 0, .int .i64 (n : Int)] w fun e w' => ∃ v, e = .returned v ∧ OwnB w' w.heap.size v [] ∧ Below w.heap.size w w' := by
  have h0 : ¬ (n : Int) < 0 := by omega
  have h1 : IntKind.i64.wrap (n : Int) = (n : Int) := by rw [IntWalk.i64_in _ (by omega)]
  by_cases hz : 0 < n
  · have h2 : (0 : Int) < (n : Int) := by omega
    obtain ⟨i0, hi, hz0, hz1, hz2⟩ := info_parts info_u8
    have hr := Lib.run_append_nil_zeros (P := Tryd.prog) w 22 3 22 5 i0 (.int .u8 0) .i64 .i64 Tryd.underlying22 Tryd.underlying3 hi hz0 n hz (by rw [hz1]; decide) (by omega) (by rw [hz2]; omega)
    have hge := grownCap_ge w n 0 5
    have hle := grownCap_le_maxLen w n 0 5 (maxLen_small hn)
    generalize grownCap w n 0 5 = c at *
    have HO := Lib.hid (show OwnB (w.drew.alloc (.cells (Builtin.zeroCells (Value.int .u8 0).cells n ++ Builtin.zeroCells (Value.int .u8 0).cells (c - n)) 5)) w.heap.size (.slice (some ⟨w.heap.size, 0, none⟩) 0 c) [] from
      World.ownsRow_made w.drew _ c (Nat.le_refl _) hle (by simp [size_zeroCells, Value.cells]; omega))
    have HB := Lib.hid (show Below w.heap.size w (w.drew.alloc (.cells (Builtin.zeroCells (Value.int .u8 0).cells n ++ Builtin.zeroCells (Value.int .u8 0).cells (c - n)) 5)) from (Below.refl w.heap.size w).drew.alloc (Nat.le_refl _) _)
    generalize w.drew.alloc (.cells (Builtin.zeroCells (Value.int .u8 0).cells n ++ Builtin.zeroCells (Value.int .u8 0).cells (c - n)) 5) = W2 at *
    have hc63 : c ≤ 9223372036854775807 := by unfold maxLen at hle; omega
    clear hle hge hn
    go_enter Tryd.func31, Tryd.ntmps31
    go_wp2_with (at_builtin; refine Lib.wpList_append_run _ rfl _ _ _ _ rfl _ _ rfl rfl _ _ hr ?_)
    go_wp2_with fail
    go_ret
    exact ⟨_, rfl, HO.out, HB.out⟩
  · obtain rfl : n = 0 := by omega
    go_enter Tryd.func31, Tryd.ntmps31
    go_wp2_with fail
    go_ret
    exact ⟨_, rfl, own_nil w _, Below.refl _ _⟩

/-! ### Concat -/
/-- A slice of bytes, as it is handed over: where, which bytes, how far. -/
abbrev Bsl := Option Addr × List Nat × Nat
def bsV (s : Bsl) : Value := .slice s.1 s.2.1.length s.2.2
def flat (ss : List Bsl) : List Nat := ss.flatMap fun s => s.2.1
theorem flat_take (ss : List Bsl) (i : Nat) (s : Bsl) (h : ss[i]? = some s) : flat (ss.take (i + 1)) = flat (ss.take i) ++ s.2.1 := by
  rw [List.take_add_one, h]
  simp [flat]
def BslAt (w : World) (ss : List Bsl) : Prop := ∀ s ∈ ss, Bs0 w s.1 s.2.1 ∧ (s.1 = none → s.2.2 = 0)
theorem BslAt.grow {w w' : World} {ss : List Bsl} (h : BslAt w ss) (hb : Below w.heap.size w w') : BslAt w' ss := fun s hs => ⟨(h s hs).1.grow hb, (h s hs).2⟩
theorem flat_le (ss : List Bsl) (i : Nat) : (flat (ss.take i)).length ≤ (flat ss).length := by
  conv => rhs; rw [← List.take_append_drop i ss]
  simp only [flat, List.flatMap_append, List.length_append]
  omega
set_option maxHeartbeats 400000 in
set_option maxRecDepth 100000 in
theorem concat_c (g k cap : Nat) (ss : List Bsl) (w : World) (hk : k = ss.length) (hg : RowAt w g (ss.map bsV).toArray) (hS : BslAt w ss) (hn : (flat ss).length ≤ 16000000) (hk8 : k ≤ 1000) :
    Calls Tryd.prog 23 #[.slice (some ⟨g, 0, none⟩) k cap] w fun e w' => ∃ v, e = .returned v ∧ OwnB w' w.heap.size v (flat ss) ∧ Below w.heap.size w w' := by
  have HG := Lib.hid hg
  have HS := Lib.hid hS
  have HN := Lib.hid hn
  have HK := Lib.hid hk
  have hcell : ∀ (i : Nat) (s : Bsl), ss[i]? = some s → (ss.map bsV).toArray[i]? = some (bsV s) := fun i s h => by simp [h]
  have HC := Lib.hid hcell
  clear hg hS hn hk hcell
  go_enter Tryd.func23, Tryd.ntmps23
  go_wp2_with fail
  go_loopw [3, 11] (fun z i wr => ∃ j : Nat, j ≤ k ∧ i = .int .i64 j ∧ z = .int .i64 ((flat (ss.take j)).length : Int) ∧ w = wr) (fun _ i _ => k - (intOf i).toNat)
  case atStart => exact ⟨0, by omega, rfl, rfl, rfl⟩
  case round =>
    obtain ⟨j, hj, rfl, rfl, rfl⟩ := hrel
    by_cases hjk : j < k
    · have hj0 : (0 : Int) ≤ (j : Int) := by omega
      have hj1 : (j : Int) < (k : Int) := by omega
      obtain ⟨s, hs⟩ : ∃ s, ss[j]? = some s := ⟨_, List.getElem?_eq_getElem (by rw [← HK.out]; exact hjk)⟩
      have hcj := HG.out.cellAt j (HC.out j s hs)
      obtain ⟨p, l, c⟩ := s
      simp only [bsV] at hcj
      have hft := flat_take ss j _ hs
      have hle := flat_le ss (j + 1)
      obtain ⟨m, em⟩ : ∃ m, m = l.length := ⟨_, rfl⟩
      obtain ⟨t, et⟩ : ∃ t, t = (flat (ss.take j)).length := ⟨_, rfl⟩
      obtain ⟨t2, et2⟩ : ∃ t, t = (flat (ss.take (j + 1))).length := ⟨_, rfl⟩
      have htm : t2 = t + m := by rw [et2, hft, List.length_append, et, em]
      have hN := HN.out
      have hw1 : IntKind.i64.wrap ((t : Int) + (m : Int)) = (t2 : Int) := by rw [IntWalk.i64_in _ (by omega)]; omega
      have hw0 : ¬ (t2 : Int) < 0 := by omega
      rw [← em] at hcj
      rw [← et]
      have Et2 := Lib.hid et2
      clear em et et2 htm hft hle hN hs
      go_wp2_with fail
      go_roundw
      case rel => exact ⟨j + 1, by omega, by go_num, by rw [← Et2.out], by first | trivial | rfl⟩
      case measure => simp [intOf]; omega
    · obtain rfl : j = k := by omega
      have hfl : (flat (ss.take j)) = flat ss := by rw [List.take_of_length_le (by rw [← HK.out]; exact Nat.le_refl _)]
      rw [hfl]
      have hN := HN.out
      have GC := Lib.hid (grow_c (flat ss).length w (by omega))
      obtain ⟨t, et⟩ : ∃ t, t = (flat ss).length := ⟨_, rfl⟩
      rw [← et] at GC ⊢
      clear hfl et hN
      go_wp2_with fail
      refine GC.out.mono ?_
      rintro e W1 ⟨v, rfl, hown, hbel⟩
      have HO := Lib.hid hown
      have HB := Lib.hid hbel
      clear hown hbel GC
      go_wp2_with fail
      go_loopw [6, 27] (fun v i wr => ∃ q : Nat, q ≤ j ∧ i = .int .i64 q ∧ OwnB wr w.heap.size v (flat (ss.take q)) ∧ Below w.heap.size w wr) (fun _ i _ => j - (intOf i).toNat)
      case atStart => exact ⟨0, by omega, rfl, HO.out, HB.out⟩
      case round =>
        obtain ⟨q, hq, rfl, hown, hbel⟩ := hrel
        by_cases hqj : q < j
        · have hq0 : (0 : Int) ≤ (q : Int) := by omega
          have hq1 : (q : Int) < (j : Int) := by omega
          obtain ⟨s, hs⟩ : ∃ s, ss[q]? = some s := ⟨_, List.getElem?_eq_getElem (by rw [← HK.out]; exact hqj)⟩
          have hcj := (HG.out.grow hbel).cellAt q (HC.out q s hs)
          have hft := flat_take ss q _ hs
          have hle := flat_le ss (q + 1)
          have hN := HN.out
          have hsm := (HS.out.grow hbel) s (List.mem_of_getElem? hs)
          obtain ⟨p, l, c⟩ := s
          simp only [bsV] at hcj
          obtain ⟨m, em⟩ : ∃ m, m = l.length := ⟨_, rfl⟩
          rw [← em] at hcj
          have hlen : (flat (ss.take q)).length + l.length ≤ 16777216 := by rw [hft, List.length_append] at hle; simp only at hle; omega
          obtain ⟨v2, w2, hr, hown2, hgr⟩ := app_own (cap := c) hown hsm.1 em hsm.2 hbel.size hlen
          rw [← hft] at hown2
          have Hb2 := Lib.hid (own_below hbel hown hbel.size hgr)
          have Ho2 := Lib.hid hown2
          clear hown2 hgr hown hbel hsm hft hle hN hlen em hs
          go_wp2_with (at_builtin; refine Lib.wpList_append_run _ rfl _ _ _ _ rfl _ _ rfl rfl _ _ hr ?_)
          go_wp2_with fail
          go_roundw
          case rel => exact ⟨q + 1, by omega, by go_num, Ho2.out, Hb2.out⟩
          case measure => simp [intOf]; omega
        · obtain rfl : q = j := by omega
          have Ho := Lib.hid hown
          have Hb := Lib.hid hbel
          clear hown hbel
          go_wp2_with fail
          go_ret
          refine ⟨_, rfl, ?_, Hb.out⟩
          have := Ho.out
          rw [List.take_of_length_le (by rw [← HK.out]; exact Nat.le_refl _)] at this
          exact this
end Go.Proofs.YtikpglemnnbdcaaDoor
