/-
  The reference of layer 4: a key for a purpose.
-/
import Derived.Test.YtikpglemnnbdcaaDoorHmacRExp
import Derived.Test.YtikpglemnnbdcaaDoorHmacDerive
namespace Go.Proofs.YtikpglemnnbdcaaDoor
open Go.RowKit Go.Hold Go.Sh

theorem tk_set32 (s : List Nat) (k : Nat) (h : k < 32) (hs : s.length = 32) : (s.take k ++ zs (32 - k)).set k (s.getD k 0) = s.take (k + 1) ++ zs (32 - (k + 1)) := by
  have hk : k < s.length := by omega
  have e : zs (32 - k) = 0 :: zs (32 - (k + 1)) := by
    obtain ⟨m, hm⟩ : ∃ m, 32 - k = m + 1 := ⟨31 - k, by omega⟩
    rw [hm, show 32 - (k + 1) = m by omega]; rfl
  have hlen : (s.take k).length = k := by rw [List.length_take]; omega
  rw [List.set_append, if_neg (by omega), hlen, Nat.sub_self, e, List.set_cons_zero, List.take_add_one, List.getElem?_eq_getElem hk, List.append_assoc]
  congr 2
  simp [List.getD, hk]
set_option maxHeartbeats 1000000 in
set_option maxRecDepth 100000 in
theorem rderive_c (s : List Nat) (lab : ByteArray) (w : World) (hs : s.length = 32) (hsb : ∀ i, s.getD i 0 < 256) (hl : lab.size ≤ 50000) :
    Calls Tryd.prog 17 #[.agg (bysA s), .string lab] w fun e w' => e = .returned (.agg (keA (drv s (purp ++ strB lab)))) ∧ Below w.heap.size w w' := by
  have hz : (bysA s).size = 32 := by rw [bysA_size, hs]
  have Hs := Lib.hid hs
  have Hsb := Lib.hid hsb
  obtain ⟨D, eD⟩ : ∃ y, y = drv s (purp ++ strB lab) := ⟨_, rfl⟩
  rw [← eD]
  have ED := Lib.hid eD
  clear hs hsb eD
  go_enter Tryd.func17, Tryd.ntmps17
  go_wp2_with fail
  generalize hS : ({ data := #[112, 105, 103, 101, 111, 110, 114, 121, 32] } : ByteArray) ++ lab = S0
  have HS0 := Lib.hid (show strB S0 = purp ++ strB lab by rw [← hS, strB_app, purp_str])
  have hS0 : S0.size ≤ 60000 := by
    have := congrArg List.length HS0.out
    rw [strB_length, List.length_append, strB_length] at this
    simp [purp] at this; omega
  clear hS
  generalize hW : World.alloc _ _ = W0
  obtain ⟨z0, hz0, hR0⟩ : ∃ c : Array Value, c.size = 32 ∧ RowAt W0 (w.heap.size + 1) c := by rw [← hW]; clear hW; exact ⟨byI (List.replicate 32 0), by simp [byI], by go_simp, by go_simp; rfl, by go_simp⟩
  have R0 := Lib.hid hR0
  have B0 := Lib.hid (show Below w.heap.size w W0 by rw [← hW]; repeat (first | apply below_more | apply below_alloc | exact Below.refl _ _))
  clear hW hR0
  have hg3 : w.heap.size ≤ w.heap.size + 1 := by omega
  generalize w.heap.size + 1 = r at *
  obtain ⟨c, W1, hr, hby, hb1, hc⟩ := run_cvSB S0 W0
  have HE := rexpand_c c 32 S0.size (some ⟨W0.heap.size, 0, none⟩) s (strB S0) W1 (strB_length _).symm Hs.out Hsb.out (by omega) (strB_bts _) (Bs0.some hby) (fun h => by cases h) (by decide)
  rw [expN_32, HS0.out, ← ED.out] at HE
  have HE := Lib.hid HE
  have R1 := Lib.hid (R0.out.grow hb1)
  have B1 := Lib.hid (B0.out.trans (hb1.mono B0.out.size))
  clear hby hb1 hc R0 hS0
  rw [hr]
  go_simp
  go_wp2_with fail
  refine HE.out.mono ?_
  rintro e W2 ⟨p, c2, rfl, hB2, hb2⟩
  have hD := keyN_length D
  obtain ⟨g, o, rfl, hby2⟩ : ∃ g o, p = some ⟨g, o, none⟩ ∧ BytesAt W2 g o (keyN D) := by
    rcases hB2 with h | h
    · rw [h] at hD; cases hD
    · exact h
  have HY := Lib.hid hby2
  have HDl := Lib.hid hD
  have R2 := Lib.hid (R1.out.grow hb2)
  have B2 := Lib.hid (B1.out.trans (hb2.mono B1.out.size))
  clear hb2 hB2 HE R1 hby2 hD
  go_wp2_with fail
  generalize hW : World.alloc _ _ = W3
  have BW := Lib.hid (show Below W2.heap.size W2 W3 by rw [← hW]; exact below_alloc (Below.refl _ _) _)
  have T0 := Lib.hid (show RowAt W3 W2.heap.size (bysA (zs 32)) by rw [← hW]; clear hW; exact ⟨by go_simp, by go_simp; rfl, by go_simp⟩)
  clear hW
  have hgt : g < W2.heap.size := HY.out.1
  have hrt : r < W2.heap.size := R2.out.2.2
  have hwt : w.heap.size ≤ W2.heap.size := B2.out.size
  have Y3 := Lib.hid (HY.out.grow BW.out)
  have R3 := Lib.hid (R2.out.grow BW.out)
  have B3 := Lib.hid (B2.out.trans (BW.out.mono B2.out.size))
  clear HY R2 B2 BW
  generalize W2.heap.size = t at *
  go_loopw [8] (fun i wr => ∃ k : Nat, k ≤ 32 ∧ i = .int .i64 k ∧ RowAt wr t (bysA ((keyN D).take k ++ zs (32 - k))) ∧ Below t W3 wr) (fun i _ => 32 - (intOf i).toNat)
  case atStart => exact ⟨0, by decide, rfl, T0.out, Below.refl _ _⟩
  case round =>
    obtain ⟨k, hk, rfl, hrow, hbel⟩ := hrel
    by_cases hk32 : k < 32
    · have hk0 : (0 : Int) ≤ (k : Int) := by omega
      have hk1 : (k : Int) < 32 := by omega
      have hc : wr.cell? ⟨g, o + k, none⟩ = some (.int .u8 (((keyN D).getD k 0 : Nat) : Int)) := by
        rw [hbel.cell hgt]; exact Y3.out.2 k (by rw [HDl.out]; exact hk32)
      have Hset := Lib.hid (tk_set32 (keyN D) k hk32 HDl.out)
      generalize (keyN D).getD k 0 = y at *
      have hlx : k < ((keyN D).take k ++ zs (32 - k)).length := by rw [List.length_append, List.length_take, zs_length, HDl.out]; omega
      have hcx := hrow.cellAt k (bysA_get _ k hlx)
      have hfx := hrow.frozenAt k
      have Hrow := Lib.hid hrow
      have Hbel := Lib.hid hbel
      clear hrow hbel hlx
      go_wp2_with fail
      go_roundw
      case rel =>
        refine ⟨k + 1, by omega, by go_num, ?_, ?_⟩
        · rw [← Hset.out, ← bysA_set]; exact Hrow.out.setCell _ _
        · exact Hbel.out.setCell (p := ⟨_, _, none⟩) (Nat.le_refl _) _
      case measure => simp [intOf]; omega
    · obtain rfl : k = 32 := by omega
      rw [show zs (32 - 32) = [] from rfl, List.append_nil, List.take_of_length_le (by rw [HDl.out]; exact Nat.le_refl _), ← keA_bys] at hrow
      obtain ⟨t1, t2, t3⟩ := hrow
      obtain ⟨r1, r2, r3⟩ := R3.out.keep hbel hrt
      have Hbel := Lib.hid hbel
      clear hbel
      go_wp2_with fail
      refine bodyPost_ret (v := .agg (keA D)) (results_key Tryd.results17 (keA_size _) _ _ _ rfl (by go_simp) (by go_simp)) rfl ⟨rfl, ?_⟩
      exact below_setRow (B3.out.trans (Hbel.out.mono hwt)) hg3 _
end Go.Proofs.YtikpglemnnbdcaaDoor
