/-
  The reference of layer 4: a tag's first half. Equal, its lengths named.
-/
import Derived.Test.YtikpglemnnbdcaaDoorHmacAt
namespace Go.Proofs.YtikpglemnnbdcaaDoor
open Go.RowKit Go.Hold Go.Sh

theorem equal_at {ac bc na nb : Nat} {ap bp : Option Addr} {a b : List Nat} {r : Bool} {w : World} (hna : na = a.length) (hnb : nb = b.length) (hr : decide (a = b) = r) (ha : a.length ≤ 1000000) (hab : ∀ i, a.getD i 0 < 256) (haB : Bs0 w ap a) (hbb : ∀ i, b.getD i 0 < 256) (hbB : Bs0 w bp b) :
    Calls Tryd.prog 18 #[.slice ap na ac, .slice bp nb bc] w fun e w' => e = .returned (.bool r) ∧ Below w.heap.size w w' := by
  subst hna hnb hr
  exact equal_c ac bc ap bp a b w ha hab haB hbb hbB
theorem tk_set (s : List Nat) (k : Nat) (h : k < 16) (hs : s.length = 32) : (s.take k ++ zs (16 - k)).set k (s.getD k 0) = s.take (k + 1) ++ zs (16 - (k + 1)) := by
  have hk : k < s.length := by omega
  have e : zs (16 - k) = 0 :: zs (16 - (k + 1)) := by
    obtain ⟨m, hm⟩ : ∃ m, 16 - k = m + 1 := ⟨15 - k, by omega⟩
    rw [hm, show 16 - (k + 1) = m by omega]; rfl
  have hlen : (s.take k).length = k := by rw [List.length_take]; omega
  rw [List.set_append, if_neg (by omega), hlen, Nat.sub_self, e, List.set_cons_zero, List.take_add_one, List.getElem?_eq_getElem hk, List.append_assoc]
  congr 2
  simp [List.getD, hk]
set_option maxHeartbeats 400000 in
set_option maxRecDepth 100000 in
theorem rshort_c (s : List Nat) (hs : s.length = 32) (w : World) : Calls Tryd.prog 20 #[.agg (bysA s)] w fun e w' => e = .returned (.agg (bysA (s.take 16))) ∧ Below w.heap.size w w' := by
  have hz2 : (bysA (s.take 16)).size = 16 := by rw [bysA_size, List.length_take, hs]; rfl
  have Hs := Lib.hid hs
  clear hs
  go_enter Tryd.func20, Tryd.ntmps20
  go_wp2_with fail
  generalize hW : World.alloc _ _ = W0
  have K0 := Lib.hid (show RowAt W0 w.heap.size (bysA s) by rw [← hW]; clear hW; exact ⟨by go_simp, by go_simp, by go_simp⟩)
  obtain ⟨z0, hz0, hR0⟩ : ∃ c : Array Value, c.size = 16 ∧ RowAt W0 (w.heap.size + 1) c := by rw [← hW]; clear hW; exact ⟨bysA (zs 16), by rw [bysA_size, zs_length], by go_simp, by go_simp; rfl, by go_simp⟩
  have T0 := Lib.hid (show RowAt W0 (w.heap.size + 1 + 1) (bysA (zs 16)) by rw [← hW]; clear hW; exact ⟨by go_simp, by go_simp; rfl, by go_simp⟩)
  have R0 := Lib.hid hR0
  have B0 := Lib.hid (show Below w.heap.size w W0 by rw [← hW]; repeat (first | apply below_more | apply below_alloc | exact Below.refl _ _))
  clear hW hR0
  go_loopw [4] (fun i wr => ∃ k : Nat, k ≤ 16 ∧ i = .int .i64 k ∧ RowAt wr (w.heap.size + 1 + 1) (bysA (s.take k ++ zs (16 - k))) ∧ Below (w.heap.size + 1 + 1) W0 wr) (fun i _ => 16 - (intOf i).toNat)
  case atStart => exact ⟨0, by decide, rfl, T0.out, Below.refl _ _⟩
  case round =>
    obtain ⟨k, hk, rfl, hrow, hbel⟩ := hrel
    by_cases hk16 : k < 16
    · have hk0 : (0 : Int) ≤ (k : Int) := by omega
      have hk1 : (k : Int) < 16 := by omega
      have hk32 : (k : Int) < 32 := by omega
      have hc := (K0.out.keep hbel (by omega)).cellAt k (bysA_get s k (by rw [Hs.out]; omega))
      have Hset := Lib.hid (tk_set s k hk16 Hs.out)
      generalize s.getD k 0 = y at *
      have hlx : k < (s.take k ++ zs (16 - k)).length := by rw [List.length_append, List.length_take, zs_length, Hs.out]; omega
      have hcx := hrow.cellAt k (bysA_get _ k hlx)
      have hfx := hrow.frozenAt k
      have Hrow := Lib.hid hrow
      have Hbel := Lib.hid hbel
      clear hrow hbel hlx
      go_wp2_with fail
      go_roundw
      case rel =>
        refine ⟨k + 1, by omega, by go_num, ?_, ?_⟩
        · rw [← Hset.out, ← bysA_set]; exact Hrow.out.setCell _ _
        · exact Hbel.out.setCell (p := ⟨_, _, none⟩) (Nat.le_refl _) _
      case measure => simp [intOf]; omega
    · obtain rfl : k = 16 := by omega
      rw [show zs (16 - 16) = [] from rfl, List.append_nil] at hrow
      obtain ⟨t1, t2, t3⟩ := hrow
      obtain ⟨r1, r2, r3⟩ := R0.out.keep hbel (by omega)
      have Hbel := Lib.hid hbel
      clear hbel
      go_wp2_with fail
      refine bodyPost_ret (v := .agg (bysA (s.take 16))) (results_tag Tryd.results20 hz2 _ _ _ rfl (by go_simp) (by go_simp)) rfl ⟨rfl, ?_⟩
      exact below_setRow (B0.out.trans (Hbel.out.mono (by omega))) (by omega) _
end Go.Proofs.YtikpglemnnbdcaaDoor
