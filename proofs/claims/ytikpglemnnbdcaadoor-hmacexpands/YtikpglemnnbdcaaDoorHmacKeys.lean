/-
  A key, and the same with noughts behind it up to 64 bytes, give the same tags; a long one, and its digest, too.
-/
import Derived.Test.YtikpglemnnbdcaaDoorHmacAlive
namespace Go.Proofs.YtikpglemnnbdcaaDoor
open Go.RowKit Go.Hold Go.Sh

theorem zs_more (k : List Nat) (j : Nat) : k ++ zs j ++ [0] = k ++ zs (j + 1) := by rw [List.append_assoc, zs_snoc]
theorem mac_at {kc bc m nb : Nat} {kp bp : Option Addr} {k b : List Nat} {M : St} {w : World} (hm : m = k.length) (hnb : nb = b.length) (hM : mac k b = M) (hT : Tabs w) (hk : k.length ≤ 1000000) (hkb : ∀ i, k.getD i 0 < 256) (hkB : Bs0 w kp k) (hkc : k.length ≤ kc)
    (hb : b.length ≤ 1000000) (hbb : ∀ i, b.getD i 0 < 256) (hbB : Bs0 w bp b) (hbc : bp = none → bc = 0) :
    Calls Tryd.prog 10 #[.slice kp m kc, .slice bp nb bc] w fun e w' => e = .returned (.agg (keA M)) ∧ Below w.heap.size w w' := by
  subst hm hnb hM
  exact mac_c kc bc kp bp k b w hT hk hkb hkB hkc hb hbb hbB hbc
set_option maxHeartbeats 1000000 in
set_option maxRecDepth 100000 in
theorem keys_any (kc bc n : Nat) (kp bp : Option Addr) (k b : List Nat) (w : World) (hT : Tabs w) (hkb : ∀ i, k.getD i 0 < 256) (hkB : Bs0 w kp k) (hkc : k.length ≤ kc) (hkp : kp = none → kc = 0)
    (hbb : ∀ i, b.getD i 0 < 256) (hbB : Bs0 w bp b) (hbp : bp = none → bc = 0) (hn : n < 256) :
    Calls Tryd.prog 7 #[.slice kp k.length kc, .slice bp b.length bc, .int .u8 (n : Int)] w fun e w' => e = .returned (.bool true) ∧ Below w.heap.size w w' := by
  have HT := Lib.hid hT
  have HkB := Lib.hid hkB
  have HbB := Lib.hid hbB
  have Hkp := Lib.hid hkp
  have Hbp := Lib.hid hbp
  have Hkb := Lib.hid hkb
  have Hbb := Lib.hid hbb
  obtain ⟨nk, enk⟩ : ∃ n, n = k.length := ⟨_, rfl⟩
  obtain ⟨nb, enb⟩ : ∃ n, n = b.length := ⟨_, rfl⟩
  by_cases h1 : 1000 < nk
  · have h1' : (1000 : Int) < (nk : Int) := by omega
    rw [← enk, ← enb]
    clear hT hkB hbB hkp hbp hkb hbb enk enb hkc
    go_enter Tryd.func7, Tryd.ntmps7
    go_wp2_with fail
    refine (alive_c _ HT.out).mono ?_
    rintro e w' ⟨rfl, hbw⟩
    go_wp2_with fail
    go_ret
    exact ⟨rfl, hbw⟩
  by_cases h2 : 1000 < nb
  · have h1' : ¬ (1000 : Int) < (nk : Int) := by omega
    have h2' : (1000 : Int) < (nb : Int) := by omega
    rw [← enk, ← enb]
    clear hT hkB hbB hkp hbp hkb hbb enk enb hkc
    go_enter Tryd.func7, Tryd.ntmps7
    go_wp2_with fail
    refine (alive_c _ HT.out).mono ?_
    rintro e w' ⟨rfl, hbw⟩
    go_wp2_with fail
    go_ret
    exact ⟨rfl, hbw⟩
  have h1' : ¬ (1000 : Int) < (nk : Int) := by omega
  have h2' : ¬ (1000 : Int) < (nb : Int) := by omega
  have HM := Lib.hid (fun (W : World) (hW : Below w.heap.size w W) => mac_c kc bc kp bp k b W (hT.grow hW) (by omega) hkb (hkB.grow hW) hkc (by omega) hbb (hbB.grow hW) hbp)
  have HM2 := Lib.hid (fun (W : World) (hW : Below w.heap.size w W) (p : Option Addr) (c m : Nat) (l : List Nat) (hm : m = l.length) (hl : l.length ≤ 1000) (hlb : ∀ i, l.getD i 0 < 256) (hB : Bs0 W p l) (hc : l.length ≤ c) (hmac : mac l b = mac k b) =>
    mac_at (kc := c) (bc := bc) (kp := p) (bp := bp) hm rfl hmac (hT.grow hW) (by omega) hlb hB hc (by omega) hbb (hbB.grow hW) hbp)
  have HS := Lib.hid (fun (W : World) (hW : Below w.heap.size w W) => sum_c kc kp k W (hT.grow hW) (by omega) hkb (hkB.grow hW) hkc)
  have Hzs := Lib.hid (fun j => mac_zs k b j)
  have Hdg := Lib.hid (mac_dig k b)
  rw [← enk, ← enb] at HM ⊢
  rw [← enk] at HS Hzs Hdg
  rw [← enb] at HM2
  generalize mac k b = M at *
  have Enk := Lib.hid enk
  clear hT hkB hbB hkp hbp hkb hbb enk enb hkc h2
  go_enter Tryd.func7, Tryd.ntmps7
  go_wp2_with fail
  refine (alive_c _ HT.out).mono ?_
  rintro e W1 ⟨rfl, hb1⟩
  obtain ⟨va, wa, hra, howna, hgra⟩ := app_own (k := nk) (cap := kc) (own_nil W1 w.heap.size) (HkB.out.grow hb1) Enk.out Hkp.out hb1.size (by rw [← Enk.out]; simp only [List.length_nil]; omega)
  have Ba := Lib.hid (own_below hb1 (own_nil W1 w.heap.size) hb1.size hgra)
  have Oa := Lib.hid (show OwnB wa w.heap.size va k from howna)
  clear hb1 howna hgra
  by_cases h64 : 64 < nk
  · have h64' : (64 : Int) < (nk : Int) := by omega
    go_wp2_with (at_builtin; refine Lib.wpList_append_run _ rfl _ _ _ _ rfl _ _ rfl rfl _ _ hra ?_)
    go_wp2_with fail
    refine (HS.out wa Ba.out).mono ?_
    rintro e W2 ⟨rfl, hb2⟩
    have B2 := Lib.hid (Ba.out.trans (hb2.mono Ba.out.size))
    obtain ⟨D, eD⟩ : ∃ D, D = dig k := ⟨_, rfl⟩
    rw [← eD] at Hdg ⊢
    clear hb2 eD
    go_wp2_with fail
    generalize hW : World.alloc _ _ = W3
    have X3 := Lib.hid (show RowAt W3 W2.heap.size (keA D) by rw [← hW]; exact RowAt.of (block_new W2 _))
    have B3 := Lib.hid (show Below w.heap.size w W3 by rw [← hW]; exact below_alloc B2.out _)
    clear hW
    refine (HM.out W3 B3.out).mono ?_
    rintro e W4 ⟨rfl, hb4⟩
    have X4 := Lib.hid (X3.out.grow hb4)
    have B4 := Lib.hid (B3.out.trans (hb4.mono B3.out.size))
    clear hb4 X3
    go_wp2_with fail
    refine (HM2.out W4 B4.out (some ⟨W2.heap.size, 0, none⟩) 32 32 (keyN D) (keyN_length D).symm (by rw [keyN_length]; decide) (keyN_bts D) (Bs0.some (keyN_row X4.out)) (by rw [keyN_length]; decide) (Hdg.out h64)).mono ?_
    rintro e W5 ⟨rfl, hb5⟩
    have B5 := Lib.hid (B4.out.trans (hb5.mono B4.out.size))
    clear hb5
    go_wp2_with fail
    go_ret
    exact ⟨rfl, B5.out⟩
  · have h64' : ¬ (64 : Int) < (nk : Int) := by omega
    go_wp2_with (at_builtin; refine Lib.wpList_append_run _ rfl _ _ _ _ rfl _ _ rfl rfl _ _ hra ?_)
    go_wp2_with fail
    go_loopw [2, 7] (fun c v wr => ∃ m j : Nat, m < 256 ∧ nk + j ≤ 64 ∧ c = .int .u8 (m : Int) ∧ OwnB wr w.heap.size v (k ++ zs j) ∧ Below w.heap.size w wr) (fun c _ _ => (intOf c).toNat)
    case atStart => exact ⟨n, 0, hn, by omega, rfl, by rw [show zs 0 = [] from rfl, List.append_nil]; exact Oa.out, Ba.out⟩
    case round =>
      obtain ⟨m, j, hm, hj, rfl, hown, hbel⟩ := hrel
      obtain ⟨pv, cv, rfl, hBv, hcv, hpv⟩ := hown.bs
      have hlen : (k ++ zs j).length = nk + j := by rw [List.length_append, zs_length, ← Enk.out]
      rw [hlen] at hown hcv ⊢
      obtain ⟨nv, env⟩ : ∃ y, y = nk + j := ⟨_, rfl⟩
      rw [← env] at hown hcv hj ⊢
      have Hown := Lib.hid hown
      have HBv := Lib.hid hBv
      have Hbel := Lib.hid hbel
      have Env := Lib.hid env
      have Hlen := Lib.hid hlen
      clear hown hBv hbel env hlen hpv
      by_cases hgo : nv < 64 ∧ 0 < m
      · have hv : (nv : Int) < 64 := by omega
        have hm0 : (0 : Int) < (m : Int) := by omega
        obtain ⟨m2, em2⟩ : ∃ y, y = m - 1 := ⟨_, rfl⟩
        have hw8 : IntKind.u8.wrap ((m : Int) - 1) = (m2 : Int) := by rw [IntKind.wrap_u8]; omega
        have BA := below_alloc (Below.refl wr.heap.size wr) (.cells #[.int .u8 0] 5)
        obtain ⟨v2, w2, hr2, hown2, hgr2⟩ := app_own (k := 1) (cap := 1) (Hown.out.below BA) (Bs0.some (bytes_new wr [0] 5 (0, 0))) rfl (fun h => by cases h) (Nat.le_trans Hbel.out.size BA.size) (by rw [Hlen.out, ← Env.out]; simp only [List.length_cons, List.length_nil]; omega)
        have Hb2 := Lib.hid (own_below (Hbel.out.alloc Hbel.out.size (.cells #[.int .u8 0] 5)) (Hown.out.below BA) (Nat.le_trans Hbel.out.size BA.size) hgr2)
        have Ho2 := Lib.hid (show OwnB w2 w.heap.size v2 (k ++ zs (j + 1)) by rw [← zs_more]; exact hown2)
        have Em2 := Lib.hid em2
        have Hgo := Lib.hid hgo
        clear hown2 hgr2 BA em2 hgo
        go_wp2_with (at_builtin; refine Lib.wpList_append_run _ rfl _ _ _ _ rfl _ _ rfl rfl _ _ hr2 ?_)
        go_wp2_with fail
        go_roundw
        case rel => exact ⟨m2, j + 1, by have := Em2.out; omega, by have := Env.out; have := Hgo.out; omega, rfl, Ho2.out, Hb2.out⟩
        case measure => have := Em2.out; simp [intOf]; omega
      · have hmac := Hzs.out j (by have := Env.out; omega)
        have HMv := Lib.hid (fun (W : World) (hW : Below w.heap.size w W) (hB : Bs0 W pv (k ++ zs j)) => HM2.out W hW pv cv nv (k ++ zs j) (by rw [Hlen.out]; exact Env.out) (by rw [Hlen.out, ← Env.out]; omega) (bts_app Hkb.out (bts_zs _)) hB (by rw [Hlen.out, ← Env.out]; exact hcv) hmac)
        have hc : (nv : Int) < 64 ∧ ¬ (0 : Int) < (m : Int) ∨ ¬ (nv : Int) < 64 := by omega
        clear hmac hgo hcv
        rcases hc with ⟨hv, hm0⟩ | hv
        · go_wp2_with fail
          refine (HM.out wr Hbel.out).mono ?_
          rintro e W4 ⟨rfl, hb4⟩
          have B4 := Lib.hid (Hbel.out.trans (hb4.mono Hbel.out.size))
          have V4 := Lib.hid (HBv.out.grow hb4)
          clear hb4
          go_wp2_with fail
          refine (HMv.out W4 B4.out V4.out).mono ?_
          rintro e W5 ⟨rfl, hb5⟩
          have B5 := Lib.hid (B4.out.trans (hb5.mono B4.out.size))
          clear hb5
          go_wp2_with fail
          go_ret
          exact ⟨rfl, B5.out⟩
        · go_wp2_with fail
          refine (HM.out wr Hbel.out).mono ?_
          rintro e W4 ⟨rfl, hb4⟩
          have B4 := Lib.hid (Hbel.out.trans (hb4.mono Hbel.out.size))
          have V4 := Lib.hid (HBv.out.grow hb4)
          clear hb4
          go_wp2_with fail
          refine (HMv.out W4 B4.out V4.out).mono ?_
          rintro e W5 ⟨rfl, hb5⟩
          have B5 := Lib.hid (B4.out.trans (hb5.mono B4.out.size))
          clear hb5
          go_wp2_with fail
          go_ret
          exact ⟨rfl, B5.out⟩
end Go.Proofs.YtikpglemnnbdcaaDoor
