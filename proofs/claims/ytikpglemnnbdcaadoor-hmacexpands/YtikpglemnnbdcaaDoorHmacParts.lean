/-
  Package hmac: a key in a block, a block with a mask.
-/
import Derived.Test.YtikpglemnnbdcaaDoorHmacSlices
import Derived.Laws.BitsAllLaws
namespace Go.Proofs.YtikpglemnnbdcaaDoor
open Go.RowKit Go.Hold Go.Sh

set_option maxHeartbeats 400000 in
set_option maxRecDepth 100000 in
theorem filled_c (cap : Nat) (p : Option Addr) (l : List Nat) (w : World) (hT : Tabs w) (hl : l.length ≤ 1000000) (hlb : ∀ i, l.getD i 0 < 256) (hB : Bs0 w p l) (hc : l.length ≤ cap) :
    Calls Tryd.prog 22 #[.slice p l.length cap] w fun e w' => ∃ g, e = .returned (.slice (some ⟨g, 0, none⟩) 64 64) ∧ RowAt w' g (bysA (fillK l)) ∧ w.heap.size ≤ g ∧ Below w.heap.size w w' := by
  have HT := Lib.hid hT
  have HB := Lib.hid hB
  obtain ⟨n, en⟩ : ∃ n, n = l.length := ⟨_, rfl⟩
  have En := Lib.hid en
  have hR0 : RowAt (w.alloc (.cells (bysA (zs 64)) 5)) w.heap.size (bysA (zs 64)) := RowAt.of (block_new w _)
  by_cases h64 : 64 < n
  · have h64' : (64 : Int) < (n : Int) := by omega
    have HS := Lib.hid (sum_c cap p l (w.alloc (.cells (bysA (zs 64)) 5)) (hT.grow (below_alloc (Below.refl _ _) _)) (by omega) hlb (hB.grow (below_alloc (Below.refl _ _) _)) hc)
    have HF := Lib.hid (show fillK l = (keyN (dig l)).take 32 ++ (zs 64).drop 32 by
      unfold fillK
      rw [if_pos (by omega), List.take_of_length_le (by rw [keyN_length]; exact Nat.le_refl _), zs_drop])
    have HR := Lib.hid hR0
    rw [← en] at HS ⊢
    clear hT hB en hc hR0 hl
    generalize dig l = D at *
    go_enter Tryd.func22, Tryd.ntmps22
    go_wp2_with fail
    refine HS.out.mono ?_
    rintro e w1 ⟨rfl, hb1⟩
    have R1 := Lib.hid (HR.out.grow hb1)
    have B1 := Lib.hid ((below_alloc (Below.refl w.heap.size w) (.cells (bysA (zs 64)) 5)).trans (hb1.mono (by simp)))
    clear hb1 HS
    have hcp := copy_bytes (W := w1.alloc (.cells (keA D) 25)) (c2 := 64) (cap := 32) (d := 64) (s := 32) (k := 32) (R1.out.grow (below_alloc (Below.refl _ _) _)) (by rw [zs_length]) (keyN_length D).symm (by rw [zs_length, keyN_length]; decide) (Bs0.some (keyN_row (RowAt.of (block_new w1 _))))
    rw [← HF.out] at hcp
    have R2 := Lib.hid ((R1.out.grow (below_alloc (Below.refl _ _) (.cells (keA D) 25))).set (bysA (fillK l)))
    have B2 := Lib.hid (below_setRow (below_alloc B1.out (.cells (keA D) 25)) (Nat.le_refl _) (bysA (fillK l)))
    generalize (w1.alloc (.cells (keA D) 25)).setRow w.heap.size (bysA (fillK l)) = W3 at *
    go_wp2_with fail
    go_ret
    exact ⟨_, rfl, R2.out, Nat.le_refl _, B2.out⟩
  · have h64' : ¬ (64 : Int) < (n : Int) := by omega
    have hcp := copy_bytes (c2 := 64) (cap := cap) (d := 64) (s := n) (k := n) hR0 (by rw [zs_length]) en (by rw [zs_length]; omega) (hB.grow (below_alloc (Below.refl _ _) _))
    have HF := Lib.hid (show fillK l = l.take n ++ (zs 64).drop n by
      unfold fillK
      rw [if_neg (by omega), List.take_of_length_le (by omega), zs_drop, en])
    rw [← en]
    rw [← HF.out] at hcp
    clear hT hB en hc hR0 hl
    go_enter Tryd.func22, Tryd.ntmps22
    go_wp2_with fail
    go_ret
    refine ⟨_, rfl, ?_, Nat.le_refl _, ?_⟩
    · exact RowAt.of (block_new w _)
    · exact below_alloc (Below.refl _ _) _

theorem xorL_get (m : Nat) (l : List Nat) (i : Nat) (h : i < l.length) : (xorL m l).getD i 0 = l.getD i 0 ^^^ m := by simp [xorL, List.getD, h]
theorem xor_set (m : Nat) (l : List Nat) (i : Nat) (h : i < l.length) : ((xorL m l).take i ++ zs (l.length - i)).set i (l.getD i 0 ^^^ m) = (xorL m l).take (i + 1) ++ zs (l.length - (i + 1)) := by
  have hx : i < (xorL m l).length := by rw [xorL_length]; exact h
  have e : zs (l.length - i) = 0 :: zs (l.length - (i + 1)) := by
    obtain ⟨k, hk⟩ : ∃ k, l.length - i = k + 1 := ⟨l.length - i - 1, by omega⟩
    rw [hk, show l.length - (i + 1) = k by omega]; rfl
  have hlen : ((xorL m l).take i).length = i := by rw [List.length_take]; omega
  rw [List.set_append, if_neg (by omega), hlen, Nat.sub_self, e, List.set_cons_zero, List.take_add_one, List.getElem?_eq_getElem hx, List.append_assoc]
  congr 2
  simp [xorL, List.getD, h]
set_option maxHeartbeats 400000 in
set_option maxRecDepth 100000 in
theorem masked_c (g cap m : Nat) (l : List Nat) (w : World) (hl : l.length = 64) (hlb : ∀ i, l.getD i 0 < 256) (hm : m < 256) (hB : BytesAt w g 0 l) :
    Calls Tryd.prog 24 #[.slice (some ⟨g, 0, none⟩) 64 cap, .int .u8 (m : Int)] w fun e w' => ∃ x, e = .returned (.slice (some ⟨x, 0, none⟩) 64 64) ∧ RowAt w' x (bysA (xorL m l)) ∧ w.heap.size ≤ x ∧ Below w.heap.size w w' := by
  have HB := Lib.hid hB
  have R0 := Lib.hid (show RowAt (w.alloc (.cells (bysA (zs 64)) 5)) w.heap.size (bysA ((xorL m l).take 0 ++ zs (l.length - 0))) by rw [hl]; exact RowAt.of (block_new w _))
  have HL := Lib.hid hl
  clear hB hl
  go_enter Tryd.func24, Tryd.ntmps24
  go_wp2_with fail
  obtain ⟨x, ex⟩ : ∃ x, x = w.heap.size := ⟨_, rfl⟩
  have B0 := Lib.hid (show Below w.heap.size w (w.alloc (.cells (bysA (zs 64)) 5)) from below_alloc (Below.refl _ _) _)
  go_loopw [13] (fun i wr => ∃ k : Nat, k ≤ 64 ∧ i = .int .i64 k ∧ RowAt wr w.heap.size (bysA ((xorL m l).take k ++ zs (l.length - k))) ∧ Below w.heap.size w wr) (fun i _ => 64 - (intOf i).toNat)
  case atStart => exact ⟨0, by decide, rfl, R0.out, B0.out⟩
  case round =>
    obtain ⟨k, hk, rfl, hrow, hbel⟩ := hrel
    by_cases hk64 : k < 64
    · have hk0 : (0 : Int) ≤ (k : Int) := by omega
      have hk1 : (k : Int) < 64 := by omega
      have hkl : k < l.length := by rw [HL.out]; exact hk64
      have hck := (HB.out.grow hbel).2 k hkl
      rw [Nat.zero_add] at hck
      have hx := u8_xor_nat (l.getD k 0) m (hlb k) hm
      have hset := Lib.hid (xor_set m l k hkl)
      generalize l.getD k 0 = y at *
      generalize y ^^^ m = z at *
      have hlx : k < ((xorL m l).take k ++ zs (l.length - k)).length := by rw [List.length_append, List.length_take, xorL_length, zs_length]; omega
      have hcx := hrow.cellAt k (bysA_get _ k hlx)
      have hfx := hrow.frozenAt k
      have Hrow := Lib.hid hrow
      have Hbel := Lib.hid hbel
      clear hrow hbel hlx hkl
      go_wp2_with fail
      go_roundw
      case rel =>
        refine ⟨k + 1, by omega, by go_num, ?_, ?_⟩
        · rw [← hset.out, ← bysA_set]; exact Hrow.out.setCell _ _
        · exact Hbel.out.setCell (p := ⟨_, _, none⟩) (Nat.le_refl _) _
      case measure => simp [intOf]; omega
    · obtain rfl : k = 64 := by omega
      have HR := Lib.hid hrow
      have Hbel := Lib.hid hbel
      clear hrow hbel
      go_wp2_with fail
      go_ret
      refine ⟨_, rfl, ?_, Nat.le_refl _, Hbel.out⟩
      have := HR.out
      rw [HL.out, List.take_of_length_le (by rw [xorL_length, HL.out]; exact Nat.le_refl _), show zs (64 - 64) = [] from rfl, List.append_nil] at this
      exact this
end Go.Proofs.YtikpglemnnbdcaaDoor
