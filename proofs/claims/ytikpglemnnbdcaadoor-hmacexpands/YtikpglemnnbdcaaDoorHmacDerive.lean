/-
  Package hmac: a key of its own for a purpose.
-/
import Derived.Test.YtikpglemnnbdcaaDoorHmacExpand
import Derived.Test.YtikpglemnnbdcaaDoorHmacStr
namespace Go.Proofs.YtikpglemnnbdcaaDoor
open Go.RowKit Go.Hold Go.Sh

theorem purp_str : strB ⟨#[112, 105, 103, 101, 111, 110, 114, 121, 32]⟩ = purp := by decide
set_option maxHeartbeats 400000 in
set_option maxRecDepth 100000 in
theorem derive_c (s : List Nat) (lab : ByteArray) (w : World) (hT : Tabs w) (hs : s.length = 32) (hsb : ∀ i, s.getD i 0 < 256) (hl : lab.size ≤ 50000) :
    Calls Tryd.prog 16 #[.agg (bysA s), .string lab] w fun e w' => e = .returned (.agg (keA (drv s (purp ++ strB lab)))) ∧ Below w.heap.size w w' := by
  have hz : (bysA s).size = 32 := by rw [bysA_size, hs]
  have HT := Lib.hid hT
  have Hs := Lib.hid hs
  have Hsb := Lib.hid hsb
  obtain ⟨D, eD⟩ : ∃ y, y = drv s (purp ++ strB lab) := ⟨_, rfl⟩
  rw [← eD]
  have ED := Lib.hid eD
  clear hT hs hsb eD
  go_enter Tryd.func16, Tryd.ntmps16
  go_wp2_with fail
  generalize hS : ({ data := #[112, 105, 103, 101, 111, 110, 114, 121, 32] } : ByteArray) ++ lab = S0
  have HS0 := Lib.hid (show strB S0 = purp ++ strB lab by rw [← hS, strB_app, purp_str])
  have hS0 : S0.size ≤ 60000 := by
    have := congrArg List.length HS0.out
    rw [strB_length, List.length_append, strB_length] at this
    simp [purp] at this; omega
  clear hS
  generalize hW : World.alloc _ _ = W0
  obtain ⟨z0, hz0, hR0⟩ : ∃ c : Array Value, c.size = 32 ∧ RowAt W0 (w.heap.size + 1) c := by rw [← hW]; clear hW; exact ⟨byI (List.replicate 32 0), by simp [byI], by go_simp, by go_simp; rfl, by go_simp⟩
  have K0 := Lib.hid (show RowAt W0 (w.heap.size + 1 + 1) (bysA (zs 32)) by rw [← hW]; clear hW; exact ⟨by go_simp, by go_simp; rfl, by go_simp⟩)
  have R0 := Lib.hid hR0
  have B0 := Lib.hid (show Below w.heap.size w W0 by rw [← hW]; repeat (first | apply below_more | apply below_alloc | exact Below.refl _ _))
  clear hW hR0
  have hg1 : w.heap.size ≤ w.heap.size + 1 + 1 := by omega
  have hg2 : ¬ w.heap.size + 1 = w.heap.size + 1 + 1 := by omega
  have hg3 : w.heap.size ≤ w.heap.size + 1 := by omega
  generalize w.heap.size + 1 + 1 = t at *
  generalize w.heap.size + 1 = r at *
  obtain ⟨c, W1, hr, hby, hb1, hc⟩ := run_cvSB S0 W0
  have HE := expand_c c 32 (some ⟨W0.heap.size, 0, none⟩) s (strB S0) W1 ((HT.out.grow B0.out).grow hb1) Hs.out Hsb.out (by rw [strB_length]; omega) (strB_bts _) (Bs0.some hby) (fun h => by cases h) (by decide)
  rw [strB_length, expN_32, HS0.out, ← ED.out] at HE
  have HE := Lib.hid HE
  have R1 := Lib.hid (R0.out.grow hb1)
  have K1 := Lib.hid (K0.out.grow hb1)
  have B1 := Lib.hid (B0.out.trans (hb1.mono B0.out.size))
  clear hby hb1 hc R0 K0 hS0
  rw [hr]
  go_simp
  go_wp2_with fail
  refine HE.out.mono ?_
  rintro e W2 ⟨p, rfl, hB2, hp2, hb2⟩
  have hcp := copy_bytes (c2 := 32) (cap := 32) (d := 32) (s := 32) (k := 32) (K1.out.grow hb2) (by rw [zs_length]) (keyN_length D).symm (by rw [zs_length, keyN_length]; decide) hB2
  rw [show (keyN D).take 32 ++ (zs 32).drop 32 = keyN D by rw [List.take_of_length_le (by rw [keyN_length]; exact Nat.le_refl _), zs_drop]; simp [zs], ← keA_bys] at hcp
  have K2 := (K1.out.grow hb2).set (keA D)
  have R2 := (R1.out.grow hb2).other hg2 (keA D)
  have B2 := Lib.hid (below_setRow (B1.out.trans (hb2.mono B1.out.size)) hg1 (keA D))
  generalize W2.setRow t (keA D) = W3 at *
  obtain ⟨k1, k2, k3⟩ := K2
  obtain ⟨r1, r2, r3⟩ := R2
  clear hb2 hB2 hp2 HE K1 R1
  go_wp2_with fail
  refine bodyPost_ret (v := .agg (keA D)) (results_key Tryd.results16 (keA_size _) _ _ _ rfl (by go_simp) (by go_simp)) rfl ⟨rfl, ?_⟩
  exact below_setRow B2.out hg3 _
end Go.Proofs.YtikpglemnnbdcaaDoor
