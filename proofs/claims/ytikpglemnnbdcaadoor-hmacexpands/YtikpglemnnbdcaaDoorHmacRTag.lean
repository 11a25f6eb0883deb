/-
  The reference of layer 4: the tag.
-/
import Derived.Test.YtikpglemnnbdcaaDoorHmacRMac
import Derived.Test.YtikpglemnnbdcaaDoorRShaSum
namespace Go.Proofs.YtikpglemnnbdcaaDoor
open Go.RowKit Go.Hold Go.Sh

set_option maxHeartbeats 800000 in
set_option maxRecDepth 100000 in
theorem rmac_c (kc bc nk nb : Nat) (kp bp : Option Addr) (k b : List Nat) (w : World) (hnk : nk = k.length) (hnb : nb = b.length) (hk : k.length ≤ 90000) (hkb : ∀ i, k.getD i 0 < 256) (hkB : Bs0 w kp k) (hkp : kp = none → kc = 0)
    (hb : b.length ≤ 90000) (hbb : ∀ i, b.getD i 0 < 256) (hbB : Bs0 w bp b) (hbp : bp = none → bc = 0) :
    Calls Tryd.prog 11 #[.slice kp nk kc, .slice bp nb bc] w fun e w' => e = .returned (.agg (keA (mac k b))) ∧ Below w.heap.size w w' := by
  have HkB := Lib.hid hkB
  have HbB := Lib.hid hbB
  have Hkp := Lib.hid hkp
  have Hbp := Lib.hid hbp
  have Hkb := Lib.hid hkb
  have Hbb := Lib.hid hbb
  have Enk := Lib.hid hnk
  have Enb := Lib.hid hnb
  have Hk := Lib.hid hk
  have Hb := Lib.hid hb
  obtain ⟨M, eM⟩ : ∃ M, M = mac k b := ⟨_, rfl⟩
  rw [← eM]
  unfold mac at eM
  have HFb := Lib.hid (fillK_bts hkb)
  have HFl := Lib.hid (fillK_length k)
  have HFs := Lib.hid (show fillK k = if 64 < k.length then keyN (dig k) ++ zs 32 else k ++ zs (64 - k.length) from rfl)
  have EM := Lib.hid eM
  generalize fillK k = F at *
  clear hkB hbB hkp hbp hkb hbb hnk hnb hk hb eM
  by_cases h64 : 64 < nk
  · have h64' : (64 : Int) < (nk : Int) := by omega
    go_enter Tryd.func11, Tryd.ntmps11
    go_wp2_with fail
    generalize hW : World.alloc _ _ = W0
    obtain ⟨z0, hz0, hR0⟩ : ∃ c, c.size = 32 ∧ RowAt W0 w.heap.size c := by rw [← hW]; clear hW; exact ⟨byI (List.replicate 32 0), by simp [byI], by go_simp, by go_simp; rfl, by go_simp⟩
    have R0 := Lib.hid hR0
    have B0 := Lib.hid (show Below w.heap.size w W0 by rw [← hW]; exact below_alloc (Below.refl _ _) _)
    clear hW hR0
    have HS := rsum_c kc kp k W0 (by have := Hk.out; omega) Hkb.out (HkB.out.grow B0.out) Hkp.out
    rw [← Enk.out] at HS
    obtain ⟨D, eD⟩ : ∃ D, D = dig k := ⟨_, rfl⟩
    rw [← eD] at HS
    have HFk := Lib.hid (show F = keyN D ++ zs (64 - 32) by rw [HFs.out, if_pos (by rw [← Enk.out]; exact h64), eD])
    clear eD
    refine HS.mono ?_
    rintro e W1 ⟨rfl, hb1⟩
    have R1 := Lib.hid (R0.out.grow hb1)
    have B1 := Lib.hid (B0.out.trans (hb1.mono B0.out.size))
    clear hb1 R0 HS
    go_wp2_with fail
    have HBy := rbytes_c (keyN D) (keyN_length D) W1
    rw [← keA_bys] at HBy
    refine HBy.mono ?_
    rintro e W2 ⟨v, rfl, hown, hb2⟩
    obtain ⟨pk, ck, rfl, hBk, hck, hpk⟩ := hown.bs
    rw [keyN_length] at hck ⊢
    obtain ⟨n1, en1⟩ : ∃ n, n = 32 := ⟨_, rfl⟩
    rw [← en1] at hck HFk ⊢
    have En1 := Lib.hid (show n1 = (keyN D).length by rw [keyN_length]; exact en1)
    have HK := Lib.hid hBk
    have R2 := Lib.hid (R1.out.grow hb2)
    have B2 := Lib.hid (B1.out.trans (hb2.mono B1.out.size))
    clear hb2 R1 HBy hown hBk hck hpk en1
    go_wp2_with fail
    have hxl54 := Lib.hid (show (xorL 54 F).length = 64 by rw [xorL_length, HFl.out])
    have hxl92 := Lib.hid (show (xorL 92 F).length = 64 by rw [xorL_length, HFl.out])
    go_loopw [5, 6, 7] (fun v u i wr => ∃ j : Nat, j ≤ 64 ∧ i = .int .i64 j ∧ OwnB wr W2.heap.size v ((xorL 54 F).take j) ∧ OwnB wr W2.heap.size u ((xorL 92 F).take j) ∧ Apart v u ∧ Below W2.heap.size W2 wr) (fun _ _ i _ => 64 - (intOf i).toNat)
    case atStart => exact ⟨0, by decide, rfl, own_nil W2 _, own_nil W2 _, .inl rfl, Below.refl _ _⟩
    case round =>
      obtain ⟨j, hj, rfl, hov, hou, hap, hbel⟩ := hrel
      by_cases hj64 : j < 64
      · have hj0 : (0 : Int) ≤ (j : Int) := by omega
        have hj1 : (j : Int) < 64 := by omega
        have hjF : j < F.length := by rw [HFl.out]; exact hj64
        have ht1 := take_one (xorL 54 F) j (by rw [xorL_length]; exact hjF)
        have ht2 := take_one (xorL 92 F) j (by rw [xorL_length]; exact hjF)
        rw [xorL_get 54 F j hjF] at ht1
        rw [xorL_get 92 F j hjF] at ht2
        have hx1 : bits .xor .u8 ((F.getD j 0 : Nat) : Int) 54 = ((F.getD j 0 ^^^ 54 : Nat) : Int) := u8_xor_nat (F.getD j 0) 54 (HFb.out j) (by decide)
        have hx2 : bits .xor .u8 ((F.getD j 0 : Nat) : Int) 92 = ((F.getD j 0 ^^^ 92 : Nat) : Int) := u8_xor_nat (F.getD j 0) 92 (HFb.out j) (by decide)
        obtain ⟨v', w1, u', w2, hr1, hr2, ho1, ho2, hap2, hb2⟩ := app_two (y := F.getD j 0 ^^^ 54) (z := F.getD j 0 ^^^ 92) hov hou hap hbel.size (by rw [List.length_take]; omega) (by rw [List.length_take]; omega)
        rw [ht1] at ho1
        rw [ht2] at ho2
        have Ho1 := Lib.hid ho1
        have Ho2 := Lib.hid ho2
        have Hap := Lib.hid hap2
        have Hb2 := Lib.hid (hbel.trans hb2)
        have hcF : j < n1 → wr.cell? ⟨(pk.getD ⟨0, 0, none⟩).block, (pk.getD ⟨0, 0, none⟩).off + j, none⟩ = some (.int .u8 ((F.getD j 0 : Nat) : Int)) ∧ pk = some ⟨(pk.getD ⟨0, 0, none⟩).block, (pk.getD ⟨0, 0, none⟩).off, none⟩ := fun hjn => by
          rcases HK.out.grow hbel with h | ⟨g, o, rfl, h⟩
          · exfalso; have := En1.out; rw [h] at this; simp at this; omega
          · refine ⟨?_, rfl⟩
            show wr.cell? ⟨g, o + j, none⟩ = _
            rw [h.2 j (by rw [← En1.out]; exact hjn), HFk.out]
            simp only [List.getD]
            rw [List.getElem?_append_left (by rw [← En1.out]; exact hjn)]
        have hF0 : ¬ j < n1 → F.getD j 0 = 0 := fun hjn => by
          rw [HFk.out]
          simp only [List.getD]
          rw [List.getElem?_append_right (by rw [← En1.out]; omega)]
          simp [zs, List.getElem?_replicate]
          split <;> rfl
        generalize F.getD j 0 = y at *
        generalize hy1 : y ^^^ 54 = y1 at *
        generalize hy2 : y ^^^ 92 = y2 at *
        clear ho1 ho2 hap2 hb2 hov hou hap hbel ht1 ht2 hjF
        by_cases hjn : j < n1
        · have hjn' : (j : Int) < (n1 : Int) := by omega
          obtain ⟨hc, hpk⟩ := hcF hjn
          generalize (pk.getD ⟨0, 0, none⟩).block = g at *
          generalize (pk.getD ⟨0, 0, none⟩).off = o at *
          subst hpk
          clear hcF hF0 hy1 hy2
          go_wp2_with (at_builtin; first | refine Lib.wpList_append_run _ rfl _ _ _ _ rfl _ _ rfl rfl _ _ hr1 ?_ | refine Lib.wpList_append_run _ rfl _ _ _ _ rfl _ _ rfl rfl _ _ hr2 ?_)
          go_wp2_with fail
          go_roundw
          case rel => exact ⟨j + 1, by omega, by go_num, Ho1.out, Ho2.out, Hap.out, Hb2.out⟩
          case measure => simp [intOf]; omega
        · have hjn' : ¬ (j : Int) < (n1 : Int) := by omega
          have hy0 := hF0 hjn
          have hx3 : bits .xor .u8 0 54 = (y1 : Int) := by rw [hy0] at hx1; exact hx1
          have hx4 : bits .xor .u8 0 92 = (y2 : Int) := by rw [hy0] at hx2; exact hx2
          clear hcF hF0 hy1 hy2 hx1 hx2 hy0
          go_wp2_with (at_builtin; first | refine Lib.wpList_append_run _ rfl _ _ _ _ rfl _ _ rfl rfl _ _ hr1 ?_ | refine Lib.wpList_append_run _ rfl _ _ _ _ rfl _ _ rfl rfl _ _ hr2 ?_)
          go_wp2_with fail
          go_roundw
          case rel => exact ⟨j + 1, by omega, by go_num, Ho1.out, Ho2.out, Hap.out, Hb2.out⟩
          case measure => simp [intOf]; omega
      · obtain rfl : j = 64 := by omega
        rw [List.take_of_length_le (by rw [hxl54.out]; exact Nat.le_refl _)] at hov
        rw [List.take_of_length_le (by rw [hxl92.out]; exact Nat.le_refl _)] at hou
        obtain ⟨pi, ci, rfl, hBi, _, hpi⟩ := hov.bs
        obtain ⟨po, co, rfl, hBo, _, hpo⟩ := hou.bs
        rw [hxl54.out, hxl92.out]
        have HBi := Lib.hid hBi
        have Hpi := Lib.hid hpi
        have HBo := Lib.hid hBo
        have Hpo := Lib.hid hpo
        have R3 := Lib.hid (R2.out.grow hbel)
        have B3 := Lib.hid (B2.out.trans (hbel.mono B2.out.size))
        clear hov hou hap hbel hBi hpi hBo hpo
        go_wp2_with fail
        refine (rjoin_c ci bc 64 nb pi bp (xorL 54 F) b wr hxl54.out.symm Enb.out HBi.out Hpi.out (HbB.out.grow B3.out) Hbp.out (by rw [hxl54.out]; have := Hb.out; omega)).mono ?_
        rintro e W4 ⟨v4, rfl, hown4, hb4⟩
        obtain ⟨p4, c4, rfl, hB4, _, hp4⟩ := hown4.bs
        have O4 := Lib.hid (HBo.out.grow hb4)
        have R4 := Lib.hid (R3.out.grow hb4)
        have B4 := Lib.hid (B3.out.trans (hb4.mono B3.out.size))
        obtain ⟨L1, eL1⟩ : ∃ L, L = xorL 54 F ++ b := ⟨_, rfl⟩
        rw [← eL1] at hB4 ⊢
        have HS1 := rsum_c c4 p4 L1 W4 (by rw [eL1, List.length_append, hxl54.out]; have := Hb.out; omega) (by rw [eL1]; exact bts_app (xorL_bts (by decide) HFb.out) Hbb.out) hB4 hp4
        obtain ⟨n4, en4⟩ : ∃ n, n = L1.length := ⟨_, rfl⟩
        obtain ⟨D1, eD1⟩ : ∃ D, D = dig L1 := ⟨_, rfl⟩
        rw [← en4, ← eD1] at HS1
        rw [← en4]
        have HS1 := Lib.hid HS1
        have ED1 := Lib.hid (show D1 = dig (xorL 54 F ++ b) by rw [eD1, eL1])
        clear hown4 hb4 hB4 hp4 en4 eD1 eL1 R3
        go_wp2_with fail
        refine HS1.out.mono ?_
        rintro e W5 ⟨rfl, hb5⟩
        have O5 := Lib.hid (O4.out.grow hb5)
        have R5 := Lib.hid (R4.out.grow hb5)
        have B5 := Lib.hid (B4.out.trans (hb5.mono B4.out.size))
        clear hb5 O4 R4 HS1
        go_wp2_with fail
        have HB1 := rbytes_c (keyN D1) (keyN_length D1) W5
        rw [← keA_bys] at HB1
        refine HB1.mono ?_
        rintro e W6 ⟨v6, rfl, hown6, hb6⟩
        obtain ⟨p6, c6, rfl, hB6, _, hp6⟩ := hown6.bs
        rw [keyN_length]
        have O6 := Lib.hid (O5.out.grow hb6)
        have R6 := Lib.hid (R5.out.grow hb6)
        have B6 := Lib.hid (B5.out.trans (hb6.mono B5.out.size))
        have HB6 := Lib.hid hB6
        have Hp6 := Lib.hid hp6
        clear hb6 O5 R5 HB1 hown6 hB6 hp6
        go_wp2_with fail
        refine (rjoin_c co c6 64 32 po p6 (xorL 92 F) (keyN D1) W6 hxl92.out.symm (keyN_length D1).symm O6.out Hpo.out HB6.out Hp6.out (by rw [hxl92.out, keyN_length]; decide)).mono ?_
        rintro e W7 ⟨v7, rfl, hown7, hb7⟩
        obtain ⟨p7, c7, rfl, hB7, _, hp7⟩ := hown7.bs
        have R7 := Lib.hid (R6.out.grow hb7)
        have B7 := Lib.hid (B6.out.trans (hb7.mono B6.out.size))
        obtain ⟨L2, eL2⟩ : ∃ L, L = xorL 92 F ++ keyN D1 := ⟨_, rfl⟩
        rw [← eL2] at hB7 ⊢
        have HS2 := rsum_c c7 p7 L2 W7 (by rw [eL2, List.length_append, hxl92.out, keyN_length]; decide) (by rw [eL2]; exact bts_app (xorL_bts (by decide) HFb.out) (keyN_bts _)) hB7 hp7
        rw [show dig L2 = M by rw [EM.out, eL2, ED1.out]] at HS2
        obtain ⟨n7, en7⟩ : ∃ n, n = L2.length := ⟨_, rfl⟩
        rw [← en7] at HS2 ⊢
        have HS2 := Lib.hid HS2
        clear hown7 hb7 hB7 hp7 en7 eL2 R6
        go_wp2_with fail
        refine HS2.out.mono ?_
        rintro e W8 ⟨rfl, hb8⟩
        obtain ⟨r1, r2, r3⟩ := R7.out.grow hb8
        have B8 := Lib.hid (B7.out.trans (hb8.mono B7.out.size))
        clear hb8 R7 HS2
        go_wp2_with fail
        refine bodyPost_ret (v := .agg (keA M)) (results_key Tryd.results11 (keA_size _) _ _ _ rfl (by go_simp) (by go_simp)) rfl ⟨rfl, ?_⟩
        exact below_setRow B8.out (Nat.le_refl _) _
  · have h64' : ¬ (64 : Int) < (nk : Int) := by omega
    have HFk := Lib.hid (show F = k ++ zs (64 - nk) by rw [HFs.out, if_neg (by rw [← Enk.out]; exact h64), Enk.out])
    go_enter Tryd.func11, Tryd.ntmps11
    go_wp2_with fail
    generalize hW : World.alloc _ _ = W2
    obtain ⟨z0, hz0, hR0⟩ : ∃ c, c.size = 32 ∧ RowAt W2 w.heap.size c := by rw [← hW]; clear hW; exact ⟨byI (List.replicate 32 0), by simp [byI], by go_simp, by go_simp; rfl, by go_simp⟩
    have R2 := Lib.hid hR0
    have B2 := Lib.hid (show Below w.heap.size w W2 by rw [← hW]; exact below_alloc (Below.refl _ _) _)
    clear hW hR0
    have HK := Lib.hid (HkB.out.grow B2.out)
    have En1 := Lib.hid Enk.out
    obtain ⟨pk, epk⟩ : ∃ y, y = kp := ⟨_, rfl⟩
    obtain ⟨n1, en1⟩ : ∃ y, y = nk := ⟨_, rfl⟩
    rw [← epk] at HK ⊢
    rw [← en1] at HFk En1 h64' ⊢
    clear epk en1
    have hxl54 := Lib.hid (show (xorL 54 F).length = 64 by rw [xorL_length, HFl.out])
    have hxl92 := Lib.hid (show (xorL 92 F).length = 64 by rw [xorL_length, HFl.out])
    go_loopw [5, 6, 7] (fun v u i wr => ∃ j : Nat, j ≤ 64 ∧ i = .int .i64 j ∧ OwnB wr W2.heap.size v ((xorL 54 F).take j) ∧ OwnB wr W2.heap.size u ((xorL 92 F).take j) ∧ Apart v u ∧ Below W2.heap.size W2 wr) (fun _ _ i _ => 64 - (intOf i).toNat)
    case atStart => exact ⟨0, by decide, rfl, own_nil W2 _, own_nil W2 _, .inl rfl, Below.refl _ _⟩
    case round =>
      obtain ⟨j, hj, rfl, hov, hou, hap, hbel⟩ := hrel
      by_cases hj64 : j < 64
      · have hj0 : (0 : Int) ≤ (j : Int) := by omega
        have hj1 : (j : Int) < 64 := by omega
        have hjF : j < F.length := by rw [HFl.out]; exact hj64
        have ht1 := take_one (xorL 54 F) j (by rw [xorL_length]; exact hjF)
        have ht2 := take_one (xorL 92 F) j (by rw [xorL_length]; exact hjF)
        rw [xorL_get 54 F j hjF] at ht1
        rw [xorL_get 92 F j hjF] at ht2
        have hx1 : bits .xor .u8 ((F.getD j 0 : Nat) : Int) 54 = ((F.getD j 0 ^^^ 54 : Nat) : Int) := u8_xor_nat (F.getD j 0) 54 (HFb.out j) (by decide)
        have hx2 : bits .xor .u8 ((F.getD j 0 : Nat) : Int) 92 = ((F.getD j 0 ^^^ 92 : Nat) : Int) := u8_xor_nat (F.getD j 0) 92 (HFb.out j) (by decide)
        obtain ⟨v', w1, u', w2, hr1, hr2, ho1, ho2, hap2, hb2⟩ := app_two (y := F.getD j 0 ^^^ 54) (z := F.getD j 0 ^^^ 92) hov hou hap hbel.size (by rw [List.length_take]; omega) (by rw [List.length_take]; omega)
        rw [ht1] at ho1
        rw [ht2] at ho2
        have Ho1 := Lib.hid ho1
        have Ho2 := Lib.hid ho2
        have Hap := Lib.hid hap2
        have Hb2 := Lib.hid (hbel.trans hb2)
        have hcF : j < n1 → wr.cell? ⟨(pk.getD ⟨0, 0, none⟩).block, (pk.getD ⟨0, 0, none⟩).off + j, none⟩ = some (.int .u8 ((F.getD j 0 : Nat) : Int)) ∧ pk = some ⟨(pk.getD ⟨0, 0, none⟩).block, (pk.getD ⟨0, 0, none⟩).off, none⟩ := fun hjn => by
          rcases HK.out.grow hbel with h | ⟨g, o, rfl, h⟩
          · exfalso; have := En1.out; rw [h] at this; simp at this; omega
          · refine ⟨?_, rfl⟩
            show wr.cell? ⟨g, o + j, none⟩ = _
            rw [h.2 j (by rw [← En1.out]; exact hjn), HFk.out]
            simp only [List.getD]
            rw [List.getElem?_append_left (by rw [← En1.out]; exact hjn)]
        have hF0 : ¬ j < n1 → F.getD j 0 = 0 := fun hjn => by
          rw [HFk.out]
          simp only [List.getD]
          rw [List.getElem?_append_right (by rw [← En1.out]; omega)]
          simp [zs, List.getElem?_replicate]
          split <;> rfl
        generalize F.getD j 0 = y at *
        generalize hy1 : y ^^^ 54 = y1 at *
        generalize hy2 : y ^^^ 92 = y2 at *
        clear ho1 ho2 hap2 hb2 hov hou hap hbel ht1 ht2 hjF
        by_cases hjn : j < n1
        · have hjn' : (j : Int) < (n1 : Int) := by omega
          obtain ⟨hc, hpk⟩ := hcF hjn
          generalize (pk.getD ⟨0, 0, none⟩).block = g at *
          generalize (pk.getD ⟨0, 0, none⟩).off = o at *
          subst hpk
          clear hcF hF0 hy1 hy2
          go_wp2_with (at_builtin; first | refine Lib.wpList_append_run _ rfl _ _ _ _ rfl _ _ rfl rfl _ _ hr1 ?_ | refine Lib.wpList_append_run _ rfl _ _ _ _ rfl _ _ rfl rfl _ _ hr2 ?_)
          go_wp2_with fail
          go_roundw
          case rel => exact ⟨j + 1, by omega, by go_num, Ho1.out, Ho2.out, Hap.out, Hb2.out⟩
          case measure => simp [intOf]; omega
        · have hjn' : ¬ (j : Int) < (n1 : Int) := by omega
          have hy0 := hF0 hjn
          have hx3 : bits .xor .u8 0 54 = (y1 : Int) := by rw [hy0] at hx1; exact hx1
          have hx4 : bits .xor .u8 0 92 = (y2 : Int) := by rw [hy0] at hx2; exact hx2
          clear hcF hF0 hy1 hy2 hx1 hx2 hy0
          go_wp2_with (at_builtin; first | refine Lib.wpList_append_run _ rfl _ _ _ _ rfl _ _ rfl rfl _ _ hr1 ?_ | refine Lib.wpList_append_run _ rfl _ _ _ _ rfl _ _ rfl rfl _ _ hr2 ?_)
          go_wp2_with fail
          go_roundw
          case rel => exact ⟨j + 1, by omega, by go_num, Ho1.out, Ho2.out, Hap.out, Hb2.out⟩
          case measure => simp [intOf]; omega
      · obtain rfl : j = 64 := by omega
        rw [List.take_of_length_le (by rw [hxl54.out]; exact Nat.le_refl _)] at hov
        rw [List.take_of_length_le (by rw [hxl92.out]; exact Nat.le_refl _)] at hou
        obtain ⟨pi, ci, rfl, hBi, _, hpi⟩ := hov.bs
        obtain ⟨po, co, rfl, hBo, _, hpo⟩ := hou.bs
        rw [hxl54.out, hxl92.out]
        have HBi := Lib.hid hBi
        have Hpi := Lib.hid hpi
        have HBo := Lib.hid hBo
        have Hpo := Lib.hid hpo
        have R3 := Lib.hid (R2.out.grow hbel)
        have B3 := Lib.hid (B2.out.trans (hbel.mono B2.out.size))
        clear hov hou hap hbel hBi hpi hBo hpo
        go_wp2_with fail
        refine (rjoin_c ci bc 64 nb pi bp (xorL 54 F) b wr hxl54.out.symm Enb.out HBi.out Hpi.out (HbB.out.grow B3.out) Hbp.out (by rw [hxl54.out]; have := Hb.out; omega)).mono ?_
        rintro e W4 ⟨v4, rfl, hown4, hb4⟩
        obtain ⟨p4, c4, rfl, hB4, _, hp4⟩ := hown4.bs
        have O4 := Lib.hid (HBo.out.grow hb4)
        have R4 := Lib.hid (R3.out.grow hb4)
        have B4 := Lib.hid (B3.out.trans (hb4.mono B3.out.size))
        obtain ⟨L1, eL1⟩ : ∃ L, L = xorL 54 F ++ b := ⟨_, rfl⟩
        rw [← eL1] at hB4 ⊢
        have HS1 := rsum_c c4 p4 L1 W4 (by rw [eL1, List.length_append, hxl54.out]; have := Hb.out; omega) (by rw [eL1]; exact bts_app (xorL_bts (by decide) HFb.out) Hbb.out) hB4 hp4
        obtain ⟨n4, en4⟩ : ∃ n, n = L1.length := ⟨_, rfl⟩
        obtain ⟨D1, eD1⟩ : ∃ D, D = dig L1 := ⟨_, rfl⟩
        rw [← en4, ← eD1] at HS1
        rw [← en4]
        have HS1 := Lib.hid HS1
        have ED1 := Lib.hid (show D1 = dig (xorL 54 F ++ b) by rw [eD1, eL1])
        clear hown4 hb4 hB4 hp4 en4 eD1 eL1 R3
        go_wp2_with fail
        refine HS1.out.mono ?_
        rintro e W5 ⟨rfl, hb5⟩
        have O5 := Lib.hid (O4.out.grow hb5)
        have R5 := Lib.hid (R4.out.grow hb5)
        have B5 := Lib.hid (B4.out.trans (hb5.mono B4.out.size))
        clear hb5 O4 R4 HS1
        go_wp2_with fail
        have HB1 := rbytes_c (keyN D1) (keyN_length D1) W5
        rw [← keA_bys] at HB1
        refine HB1.mono ?_
        rintro e W6 ⟨v6, rfl, hown6, hb6⟩
        obtain ⟨p6, c6, rfl, hB6, _, hp6⟩ := hown6.bs
        rw [keyN_length]
        have O6 := Lib.hid (O5.out.grow hb6)
        have R6 := Lib.hid (R5.out.grow hb6)
        have B6 := Lib.hid (B5.out.trans (hb6.mono B5.out.size))
        have HB6 := Lib.hid hB6
        have Hp6 := Lib.hid hp6
        clear hb6 O5 R5 HB1 hown6 hB6 hp6
        go_wp2_with fail
        refine (rjoin_c co c6 64 32 po p6 (xorL 92 F) (keyN D1) W6 hxl92.out.symm (keyN_length D1).symm O6.out Hpo.out HB6.out Hp6.out (by rw [hxl92.out, keyN_length]; decide)).mono ?_
        rintro e W7 ⟨v7, rfl, hown7, hb7⟩
        obtain ⟨p7, c7, rfl, hB7, _, hp7⟩ := hown7.bs
        have R7 := Lib.hid (R6.out.grow hb7)
        have B7 := Lib.hid (B6.out.trans (hb7.mono B6.out.size))
        obtain ⟨L2, eL2⟩ : ∃ L, L = xorL 92 F ++ keyN D1 := ⟨_, rfl⟩
        rw [← eL2] at hB7 ⊢
        have HS2 := rsum_c c7 p7 L2 W7 (by rw [eL2, List.length_append, hxl92.out, keyN_length]; decide) (by rw [eL2]; exact bts_app (xorL_bts (by decide) HFb.out) (keyN_bts _)) hB7 hp7
        rw [show dig L2 = M by rw [EM.out, eL2, ED1.out]] at HS2
        obtain ⟨n7, en7⟩ : ∃ n, n = L2.length := ⟨_, rfl⟩
        rw [← en7] at HS2 ⊢
        have HS2 := Lib.hid HS2
        clear hown7 hb7 hB7 hp7 en7 eL2 R6
        go_wp2_with fail
        refine HS2.out.mono ?_
        rintro e W8 ⟨rfl, hb8⟩
        obtain ⟨r1, r2, r3⟩ := R7.out.grow hb8
        have B8 := Lib.hid (B7.out.trans (hb8.mono B7.out.size))
        clear hb8 R7 HS2
        go_wp2_with fail
        refine bodyPost_ret (v := .agg (keA M)) (results_key Tryd.results11 (keA_size _) _ _ _ rfl (by go_simp) (by go_simp)) rfl ⟨rfl, ?_⟩
        exact below_setRow B8.out (Nat.le_refl _) _
end Go.Proofs.YtikpglemnnbdcaaDoor
