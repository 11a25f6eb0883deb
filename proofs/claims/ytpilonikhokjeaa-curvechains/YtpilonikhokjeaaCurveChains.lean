/-
  A point times any secrets, one behind the other, is the document's, or refused: CurveChains answers true, whatever key and slice of keys it is given.
-/
import Derived.Test.YtpilonikhokjeaaKeysRow
namespace Go.Proofs.Ytpilonikhokjeaa
open Go.RowKit Go.Shelf Go.Hold

theorem chain_V (u q : Nat) (ls : List Nat) (cap : Nat) (p : Option Addr) (r : Nat) (ev : Int) (hq : ptN u % Fp.P = q) (hn : ls.length ≤ 8) (hr : chN q ls = r) (he : errOf r = ev) (w : World) (hk : KeysAt w p ls) :
    Calls Try.prog 16 #[kv u, .slice p ls.length cap] w fun x w' => x = .returned (.tuple #[kv r, .int .i64 ev]) ∧ Below w.heap.size w w' := by
  have := chain_small u q ls cap p hq hn w hk
  rw [hr, he] at this; exact this
theorem rchain_V (u q : Nat) (ls : List Nat) (cap : Nat) (p : Option Addr) (r : Nat) (ev : Int) (hq : ptN u % Fp.P = q) (hn : ls.length ≤ 8) (hr : chN q ls = r) (he : errOf r = ev) (w : World) (hk : KeysAt w p ls) :
    Calls Try.prog 17 #[kv u, .slice p ls.length cap] w fun x w' => x = .returned (.tuple #[kv r, .int .i64 ev]) ∧ Below w.heap.size w w' := by
  have := rchain_small u q ls cap p hq hn w hk
  rw [hr, he] at this; exact this
set_option maxHeartbeats 2000000 in
set_option maxRecDepth 100000 in
theorem chains_most (u : Nat) (ls : List Nat) (cap : Nat) (p : Option Addr) (hn : 20 < ls.length) (w : World) :
    Calls Try.prog 4 #[kv u, .slice p ls.length cap] w fun e w' => e = .returned (.bool true) ∧ Below w.heap.size w w' := by
  have h20 : (20 : Int) < (ls.length : Int) := by omega
  go_enter Try.func4, Try.ntmps4
  go_wp2_with fail
  refine (alive_any _).mono ?_
  rintro e w' ⟨rfl, hbw⟩
  obtain ⟨oc4, nc4, rfl⟩ := below_plus hbw
  clear hbw
  go_wp2_with fail
  go_ret
  refine ⟨rfl, ?_⟩
  repeat (first | apply below_more | apply below_alloc | exact Below.refl _ _)
set_option maxHeartbeats 2000000 in
set_option maxRecDepth 100000 in
theorem chains_big (u : Nat) (ls : List Nat) (cap : Nat) (p : Option Addr) (hn : 8 < ls.length) (_hn' : ls.length ≤ 20) (w : World) :
    Calls Try.prog 4 #[kv u, .slice p ls.length cap] w fun e w' => e = .returned (.bool true) ∧ Below w.heap.size w w' := by
  have h20 : ¬ (20 : Int) < (ls.length : Int) := by omega
  go_enter Try.func4, Try.ntmps4
  go_wp2_with fail
  refine (alive_any _).mono ?_
  rintro e w' ⟨rfl, hbw⟩
  obtain ⟨oc5, nc5, rfl⟩ := below_plus hbw
  clear hbw
  go_wp2_with fail
  generalize hW : World.plus _ _ _ = W1
  have R1x0 := Lib.hid (show RowAt W1 (w.heap.size) (keyA u) by rw [← hW]; clear hW; exact ⟨by go_simp, by go_simp, by go_simp⟩)
  have HB1 := Lib.hid (show Below w.heap.size w W1 by rw [← hW]; repeat (first | apply below_more | apply below_alloc | apply Below.drew | refine below_setRow ?_ (by omega) _ | exact Below.refl _ _))
  clear hW
  obtain ⟨R1x0a, R1x0b, R1x0c⟩ := R1x0.out
  refine (chain_big u ls.length cap p hn _).mono ?_
  rintro e w' ⟨rfl, hbw⟩
  obtain ⟨oc6, nc6, rfl⟩ := below_plus hbw
  clear hbw
  have lt6x0 : w.heap.size < W1.heap.size + oc6.size := by omega
  go_wp2_with fail
  generalize hW : World.alloc _ _ = W2
  have R2x0 := Lib.hid (show RowAt W2 (w.heap.size) (keyA u) by rw [← hW]; clear hW; exact ⟨by go_simp, by go_simp, by go_simp⟩)
  have R2x1 := Lib.hid (show RowAt W2 (W1.heap.size + oc6.size) (keyA 0) by rw [← hW]; clear hW; exact ⟨by go_simp, by go_simp, by go_simp⟩)
  have HB2 := Lib.hid (show Below w.heap.size w W2 by rw [← hW]; repeat (first | apply below_more | apply below_alloc | apply Below.drew | refine below_setRow ?_ (by omega) _ | exact HB1.out))
  clear hW
  have lz2x0 : w.heap.size ≤ W1.heap.size + oc6.size := by have := HB1.out.size; omega
  have nz2x0x0 : ¬ w.heap.size = W1.heap.size + oc6.size := by omega
  have ny2x0x0 : ¬ W1.heap.size + oc6.size = w.heap.size := by omega
  clear R1x0a R1x0b R1x0c R1x0 HB1
  generalize W1.heap.size + oc6.size = g5 at *
  obtain ⟨R2x0a, R2x0b, R2x0c⟩ := R2x0.out
  obtain ⟨R2x1a, R2x1b, R2x1c⟩ := R2x1.out
  refine (rchain_big u ls.length cap p hn _).mono ?_
  rintro e w' ⟨rfl, hbw⟩
  obtain ⟨oc7, nc7, rfl⟩ := below_plus hbw
  clear hbw
  have lt7x0 : w.heap.size < W2.heap.size + oc7.size := by omega
  have lt7x1 : g5 < W2.heap.size + oc7.size := by omega
  go_wp2_with fail
  go_ret
  refine ⟨rfl, ?_⟩
  repeat (first | apply below_more | apply below_alloc | exact HB2.out)
set_option maxHeartbeats 2000000 in
set_option maxRecDepth 100000 in
theorem chains_few (u : Nat) (ls : List Nat) (cap : Nat) (p : Option Addr) (hn : ls.length ≤ 8) (_hn' : ls.length ≤ 20) (w : World) (hk : KeysAt w p ls) :
    Calls Try.prog 4 #[kv u, .slice p ls.length cap] w fun e w' => e = .returned (.bool true) ∧ Below w.heap.size w w' := by
  have h20 : ¬ (20 : Int) < (ls.length : Int) := by omega
  obtain ⟨q, eq⟩ : ∃ nn, nn = ptN u % Fp.P := ⟨_, rfl⟩
  obtain ⟨r, er⟩ : ∃ nn, nn = chN q ls := ⟨_, rfl⟩
  obtain ⟨ev, eev⟩ : ∃ nn, nn = errOf r := ⟨_, rfl⟩
  have Hq := Lib.hid eq.symm
  have Hr := Lib.hid er.symm
  have He := Lib.hid eev.symm
  have HK := Lib.hid hk
  clear eq er eev hk
  go_enter Try.func4, Try.ntmps4
  go_wp2_with fail
  refine (alive_any _).mono ?_
  rintro e w' ⟨rfl, hbw⟩
  obtain ⟨oc8, nc8, rfl⟩ := below_plus hbw
  clear hbw
  go_wp2_with fail
  generalize hW : World.plus _ _ _ = W1
  have R1x0 := Lib.hid (show RowAt W1 (w.heap.size) (keyA u) by rw [← hW]; clear hW; exact ⟨by go_simp, by go_simp, by go_simp⟩)
  have HB1 := Lib.hid (show Below w.heap.size w W1 by rw [← hW]; repeat (first | apply below_more | apply below_alloc | apply Below.drew | refine below_setRow ?_ (by omega) _ | exact Below.refl _ _))
  clear hW
  obtain ⟨R1x0a, R1x0b, R1x0c⟩ := R1x0.out
  refine (chain_V u q ls cap p r ev Hq.out hn Hr.out He.out _ (HK.out.grow HB1.out)).mono ?_
  rintro e w' ⟨rfl, hbw⟩
  obtain ⟨oc9, nc9, rfl⟩ := below_plus hbw
  clear hbw
  have lt9x0 : w.heap.size < W1.heap.size + oc9.size := by omega
  go_wp2_with fail
  generalize hW : World.alloc _ _ = W2
  have R2x0 := Lib.hid (show RowAt W2 (w.heap.size) (keyA u) by rw [← hW]; clear hW; exact ⟨by go_simp, by go_simp, by go_simp⟩)
  have R2x1 := Lib.hid (show RowAt W2 (W1.heap.size + oc9.size) (keyA r) by rw [← hW]; clear hW; exact ⟨by go_simp, by go_simp, by go_simp⟩)
  have HB2 := Lib.hid (show Below w.heap.size w W2 by rw [← hW]; repeat (first | apply below_more | apply below_alloc | apply Below.drew | refine below_setRow ?_ (by omega) _ | exact HB1.out))
  clear hW
  have lz2x0 : w.heap.size ≤ W1.heap.size + oc9.size := by have := HB1.out.size; omega
  have nz2x0x0 : ¬ w.heap.size = W1.heap.size + oc9.size := by omega
  have ny2x0x0 : ¬ W1.heap.size + oc9.size = w.heap.size := by omega
  clear R1x0a R1x0b R1x0c R1x0 HB1
  generalize W1.heap.size + oc9.size = g5 at *
  obtain ⟨R2x0a, R2x0b, R2x0c⟩ := R2x0.out
  obtain ⟨R2x1a, R2x1b, R2x1c⟩ := R2x1.out
  refine (rchain_V u q ls cap p r ev Hq.out hn Hr.out He.out _ (HK.out.grow HB2.out)).mono ?_
  rintro e w' ⟨rfl, hbw⟩
  obtain ⟨oc10, nc10, rfl⟩ := below_plus hbw
  clear hbw
  have lt10x0 : w.heap.size < W2.heap.size + oc10.size := by omega
  have lt10x1 : g5 < W2.heap.size + oc10.size := by omega
  go_wp2_with fail
  go_ret
  refine ⟨rfl, ?_⟩
  repeat (first | apply below_more | apply below_alloc | exact HB2.out)
theorem chains_any (u : Nat) (ls : List Nat) (cap : Nat) (p : Option Addr) (w : World) (hk : KeysAt w p ls) :
    Calls Try.prog 4 #[kv u, .slice p ls.length cap] w fun e w' => e = .returned (.bool true) ∧ Below w.heap.size w w' := by
  by_cases h1 : 20 < ls.length
  · exact chains_most u ls cap p h1 w
  · by_cases h2 : 8 < ls.length
    · exact chains_big u ls cap p h2 (by omega) w
    · exact chains_few u ls cap p (by omega) (by omega) w hk
end Go.Proofs.Ytpilonikhokjeaa
