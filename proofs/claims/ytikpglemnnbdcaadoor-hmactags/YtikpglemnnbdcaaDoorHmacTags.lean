/-
  The tag of any bytes, by any key, and a secret that is extracted, is the document's.
-/
import Derived.Test.YtikpglemnnbdcaaDoorHmacRTag
import Derived.Test.YtikpglemnnbdcaaDoorHmacAt
namespace Go.Proofs.YtikpglemnnbdcaaDoor
open Go.RowKit Go.Hold Go.Sh

set_option maxHeartbeats 400000 in
set_option maxRecDepth 100000 in
theorem rextract_c (kc bc nk nb : Nat) (kp bp : Option Addr) (k b : List Nat) (w : World) (hnk : nk = k.length) (hnb : nb = b.length) (hk : k.length ≤ 90000) (hkb : ∀ i, k.getD i 0 < 256) (hkB : Bs0 w kp k) (hkp : kp = none → kc = 0)
    (hb : b.length ≤ 90000) (hbb : ∀ i, b.getD i 0 < 256) (hbB : Bs0 w bp b) (hbp : bp = none → bc = 0) :
    Calls Tryd.prog 13 #[.slice kp nk kc, .slice bp nb bc] w fun e w' => e = .returned (.agg (keA (mac k b))) ∧ Below w.heap.size w w' := by
  have HM := Lib.hid (fun (W : World) (hW : Below w.heap.size w W) => rmac_c kc bc nk nb kp bp k b W hnk hnb hk hkb (hkB.grow hW) hkp hb hbb (hbB.grow hW) hbp)
  generalize mac k b = M at *
  clear hk hkb hkB hkp hb hbb hbB hbp hnk hnb
  go_enter Tryd.func13, Tryd.ntmps13
  go_wp2_with fail
  generalize hW : World.alloc _ _ = W0
  obtain ⟨z0, hz0, hR0⟩ : ∃ c, c.size = 32 ∧ RowAt W0 w.heap.size c := by rw [← hW]; clear hW; exact ⟨byI (List.replicate 32 0), by simp [byI], by go_simp, by go_simp; rfl, by go_simp⟩
  have R0 := Lib.hid hR0
  have B0 := Lib.hid (show Below w.heap.size w W0 by rw [← hW]; exact below_alloc (Below.refl _ _) _)
  clear hW hR0
  refine (HM.out W0 B0.out).mono ?_
  rintro e W1 ⟨rfl, hb1⟩
  obtain ⟨r1, r2, r3⟩ := R0.out.grow hb1
  have B1 := Lib.hid (B0.out.trans (hb1.mono B0.out.size))
  clear hb1 R0 HM
  go_wp2_with fail
  refine bodyPost_ret (v := .agg (keA M)) (results_key Tryd.results13 (keA_size _) _ _ _ rfl (by go_simp) (by go_simp)) rfl ⟨rfl, ?_⟩
  exact below_setRow B1.out (Nat.le_refl _) _

set_option maxHeartbeats 1000000 in
set_option maxRecDepth 100000 in
theorem tags_any (kc bc : Nat) (kp bp : Option Addr) (k b : List Nat) (w : World) (hT : Tabs w) (hkb : ∀ i, k.getD i 0 < 256) (hkB : Bs0 w kp k) (hkc : k.length ≤ kc) (hkp : kp = none → kc = 0)
    (hbb : ∀ i, b.getD i 0 < 256) (hbB : Bs0 w bp b) (_hbc : b.length ≤ bc) (hbp : bp = none → bc = 0) :
    Calls Tryd.prog 3 #[.slice kp k.length kc, .slice bp b.length bc] w fun e w' => e = .returned (.bool true) ∧ Below w.heap.size w w' := by
  have HT := Lib.hid hT
  obtain ⟨nk, enk⟩ : ∃ n, n = k.length := ⟨_, rfl⟩
  obtain ⟨nb, enb⟩ : ∃ n, n = b.length := ⟨_, rfl⟩
  have HM := Lib.hid (fun (W : World) (hW : Below w.heap.size w W) (h1 : nk ≤ 1000) (h2 : nb ≤ 1000) => mac_at (kc := kc) (bc := bc) (kp := kp) (bp := bp) enk enb (rfl : mac k b = mac k b) (hT.grow hW) (by omega) hkb (hkB.grow hW) hkc (by omega) hbb (hbB.grow hW) hbp)
  have HX := Lib.hid (fun (W : World) (hW : Below w.heap.size w W) (h1 : nk ≤ 1000) (h2 : nb ≤ 1000) => extract_at (kc := kc) (bc := bc) (kp := kp) (bp := bp) enk enb (rfl : mac k b = mac k b) (hT.grow hW) (by omega) hkb (hkB.grow hW) hkc (by omega) hbb (hbB.grow hW) hbp)
  have HRM := Lib.hid (fun (W : World) (hW : Below w.heap.size w W) (h1 : nk ≤ 1000) (h2 : nb ≤ 1000) => rmac_c kc bc nk nb kp bp k b W enk enb (by omega) hkb (hkB.grow hW) hkp (by omega) hbb (hbB.grow hW) hbp)
  have HRX := Lib.hid (fun (W : World) (hW : Below w.heap.size w W) (h1 : nk ≤ 1000) (h2 : nb ≤ 1000) => rextract_c kc bc nk nb kp bp k b W enk enb (by omega) hkb (hkB.grow hW) hkp (by omega) hbb (hbB.grow hW) hbp)
  rw [← enk, ← enb]
  generalize mac k b = M at *
  clear hT hkB hbB hkp hbp hkb hbb enk enb hkc
  go_enter Tryd.func3, Tryd.ntmps3
  go_wp2_with fail
  refine (alive_c _ HT.out).mono ?_
  rintro e W1 ⟨rfl, hb1⟩
  have B1 := Lib.hid hb1
  clear hb1
  by_cases h1 : 1000 < nk
  · have h1' : (1000 : Int) < (nk : Int) := by omega
    go_wp2_with fail
    go_ret
    exact ⟨rfl, B1.out⟩
  by_cases h2 : 1000 < nb
  · have h1' : ¬ (1000 : Int) < (nk : Int) := by omega
    have h2' : (1000 : Int) < (nb : Int) := by omega
    go_wp2_with fail
    go_ret
    exact ⟨rfl, B1.out⟩
  have h1' : ¬ (1000 : Int) < (nk : Int) := by omega
  have h2' : ¬ (1000 : Int) < (nb : Int) := by omega
  go_wp2_with fail
  refine (HM.out W1 B1.out (by omega) (by omega)).mono ?_
  rintro e W2 ⟨rfl, hb2⟩
  have B2 := Lib.hid (B1.out.trans (hb2.mono B1.out.size))
  clear hb2
  go_wp2_with fail
  refine (HRM.out W2 B2.out (by omega) (by omega)).mono ?_
  rintro e W3 ⟨rfl, hb3⟩
  have B3 := Lib.hid (B2.out.trans (hb3.mono B2.out.size))
  clear hb3
  go_wp2_with fail
  refine (HX.out W3 B3.out (by omega) (by omega)).mono ?_
  rintro e W4 ⟨rfl, hb4⟩
  have B4 := Lib.hid (B3.out.trans (hb4.mono B3.out.size))
  clear hb4
  go_wp2_with fail
  refine (HRX.out W4 B4.out (by omega) (by omega)).mono ?_
  rintro e W5 ⟨rfl, hb5⟩
  have B5 := Lib.hid (B4.out.trans (hb5.mono B4.out.size))
  clear hb5
  go_wp2_with fail
  go_ret
  exact ⟨rfl, B5.out⟩
end Go.Proofs.YtikpglemnnbdcaaDoor
