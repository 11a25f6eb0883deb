/-
  The reference of layer 4: as many bytes as one likes of a secret.
-/
import Derived.Test.YtikpglemnnbdcaaDoorHmacRTag
namespace Go.Proofs.YtikpglemnnbdcaaDoor
open Go.RowKit Go.Hold Go.Sh

set_option maxHeartbeats 1000000 in
set_option maxRecDepth 100000 in
theorem rexpand_c (ic n m : Nat) (ip : Option Addr) (s info : List Nat) (w : World) (hm : m = info.length) (hs : s.length = 32) (hsb : ∀ i, s.getD i 0 < 256) (hi : m ≤ 80000) (hib : ∀ i, info.getD i 0 < 256) (hiB : Bs0 w ip info) (hic : ip = none → ic = 0) (hn : n ≤ 8160) :
    Calls Tryd.prog 15 #[.agg (bysA s), .slice ip m ic, .int .i64 (n : Int)] w fun e w' => ∃ p c, e = .returned (.tuple #[.slice p n c, .int .i64 0]) ∧ Bs0 w' p (expN s info n) ∧ Below w.heap.size w w' := by
  have HI := Lib.hid hiB
  have HIc := Lib.hid hic
  have Hsb := Lib.hid hsb
  have Hib := Lib.hid hib
  have Hs := Lib.hid hs
  have h0 : ¬ (n : Int) < 0 := by omega
  have h1 : ¬ (8160 : Int) < (n : Int) := by omega
  have Em := Lib.hid hm
  have hsz : (bysA s).size = 32 := by rw [bysA_size, hs]
  clear hiB hic hsb hib hs hm
  go_enter Tryd.func15, Tryd.ntmps15
  go_wp2_with fail
  generalize hW : World.alloc _ _ = W0
  have R0 := Lib.hid (show RowAt W0 w.heap.size (bysA s) by rw [← hW]; exact RowAt.of (block_new w _))
  have B0 := Lib.hid (show Below w.heap.size w W0 by rw [← hW]; exact below_alloc (Below.refl _ _) _)
  clear hW
  obtain ⟨x, ex⟩ : ∃ x, x = w.heap.size := ⟨_, rfl⟩
  rw [← ex] at R0 ⊢
  have Ex := Lib.hid ex
  clear ex
  go_loopw [8, 9, 10] (fun all last i wr => ∃ j : Nat, i = .int .i64 ((j + 1 : Nat) : Int) ∧ 32 * j < n + 32 ∧ OwnB wr W0.heap.size all (exps s info j) ∧ SlV wr last (tagT s info j) ∧ Below W0.heap.size W0 wr) (fun _ _ i _ => 300 - (intOf i).toNat)
  case atStart => exact ⟨0, rfl, by omega, own_nil W0 _, ⟨none, 0, rfl, .inl rfl, Nat.le_refl _, fun _ => rfl⟩, Below.refl _ _⟩
  case round =>
    obtain ⟨j, rfl, hj, hown, hlast, hbel⟩ := hrel
    have hel := exps_length s info j
    obtain ⟨pa, ca, rfl, hBa, hca, hpa⟩ := hown.bs
    rw [hel] at hown hca ⊢
    obtain ⟨na, ena⟩ : ∃ y, y = 32 * j := ⟨_, rfl⟩
    rw [← ena] at hown hca hj ⊢
    have Hown := Lib.hid hown
    have Hlast := Lib.hid hlast
    have Hbel := Lib.hid hbel
    have Ena := Lib.hid ena
    have HBa := Lib.hid hBa
    clear hown hlast hbel ena hel hBa hpa
    obtain ⟨j1, ej1⟩ : ∃ y, y = j + 1 := ⟨_, rfl⟩
    rw [← ej1]
    by_cases hjn : na < n
    · have hlt : (na : Int) < (n : Int) := by omega
      have hw8 := u8_wrap j1
      obtain ⟨pl, cl, rfl, hBl, hcl, hpl⟩ := Hlast.out
      obtain ⟨nl, enl⟩ : ∃ y, y = (tagT s info j).length := ⟨_, rfl⟩
      have hnl := tagT_le s info j
      rw [← enl] at hcl hnl ⊢
      have Enl := Lib.hid enl
      have HBl := Lib.hid hBl
      have Hpl := Lib.hid hpl
      have Ej1 := Lib.hid ej1
      have hj1 : j1 ≤ 256 := by have := Ena.out; omega
      clear hBl hpl enl ej1 hcl Hlast
      obtain ⟨L, eL⟩ : ∃ y, y = tagT s info j ++ info ++ [j1 % 256] := ⟨_, rfl⟩
      obtain ⟨D, eD⟩ : ∃ y, y = mac s L := ⟨_, rfl⟩
      have Htag := Lib.hid (show tagT s info (j + 1) = keyN D by rw [tagT, eD, eL, Ej1.out])
      have HLb := Lib.hid (show ∀ i, L.getD i 0 < 256 by rw [eL]; exact bts_app (bts_app (tagT_bts _ _ _) Hib.out) (bts_1 _ (Nat.mod_lt _ (by decide))))
      have hLl : L.length ≤ 90000 := by rw [eL, List.length_append, List.length_append, ← Enl.out, ← Em.out]; simp only [List.length_cons, List.length_nil]; omega
      have EL := Lib.hid eL
      have ED := Lib.hid eD
      clear eL eD
      have R1 := Lib.hid (R0.out.grow Hbel.out)
      have I1 := Lib.hid ((HI.out.grow B0.out).grow Hbel.out)
      obtain ⟨r1, r2, r3⟩ := R1.out
      obtain ⟨b8, eb8⟩ : ∃ y, y = j1 % 256 := ⟨_, rfl⟩
      rw [← eb8] at hw8
      have Eb8 := Lib.hid eb8
      clear eb8
      go_wp2_with fail
      refine (rbytes_c s Hs.out wr).mono ?_
      rintro e W1 ⟨v1, rfl, ho1, hb1⟩
      obtain ⟨p1, c1, rfl, hB1, hc1, hp1⟩ := ho1.bs
      rw [Hs.out]
      have H1 := Lib.hid hB1
      have Hp1 := Lib.hid hp1
      have B1 := Lib.hid hb1
      clear ho1 hB1 hb1 hc1 hp1 r1 r2 r3
      go_wp2_with fail
      refine (rjoin_c cl ic nl m pl ip (tagT s info j) info W1 Enl.out Em.out (HBl.out.grow B1.out) Hpl.out (I1.out.grow B1.out) HIc.out (by rw [← Enl.out, ← Em.out]; omega)).mono ?_
      rintro e W2 ⟨v2, rfl, ho2, hb2⟩
      have B2 := Lib.hid (B1.out.trans (hb2.mono B1.out.size))
      have BA := below_alloc (Below.refl W2.heap.size W2) (.cells #[.int .u8 (b8 : Int)] 5)
      obtain ⟨v3, W3, hr3, ho3, hg3⟩ := app_own (k := 1) (cap := 1) (ho2.below BA) (Bs0.some (bytes_new W2 [b8] 5 (0, 0))) rfl (fun h => by cases h) (Nat.le_trans hb2.size BA.size) (by rw [List.length_append, ← Enl.out, ← Em.out]; simp only [List.length_cons, List.length_nil]; omega)
      have hb3 := own_below (hb2.alloc hb2.size (.cells #[.int .u8 (b8 : Int)] 5)) (ho2.below BA) (Nat.le_trans hb2.size BA.size) hg3
      have B3 := Lib.hid (B1.out.trans (hb3.mono B1.out.size))
      rw [Eb8.out, ← EL.out] at ho3
      obtain ⟨p3, c3, ev3, hB3, hc3, hp3⟩ := ho3.bs
      obtain ⟨n3, en3⟩ : ∃ y, y = L.length := ⟨_, rfl⟩
      rw [← en3] at ev3
      subst ev3
      have H3 := Lib.hid hB3
      have Hp3 := Lib.hid hp3
      have En3 := Lib.hid en3
      have H31 := Lib.hid (H1.out.grow hb3)
      clear ho2 hb2 BA ho3 hg3 hb3 hB3 hc3 hp3 en3 B2
      go_wp2_with (at_builtin; refine Lib.wpList_append_run _ rfl _ _ _ _ rfl _ _ rfl rfl _ _ hr3 ?_)
      have HM := rmac_c c1 c3 32 n3 p1 p3 s L W3 Hs.out.symm En3.out (by rw [Hs.out]; decide) Hsb.out H31.out Hp1.out hLl HLb.out H3.out Hp3.out
      rw [← ED.out, keA_bys] at HM
      refine HM.mono ?_
      rintro e W4 ⟨rfl, hb4⟩
      have B4 := Lib.hid (B3.out.trans (hb4.mono B3.out.size))
      clear hb4 HM
      go_wp2_with fail
      refine (rbytes_c (keyN D) (keyN_length D) W4).mono ?_
      rintro e W5 ⟨v5, rfl, ho5, hb5⟩
      have B5 := Lib.hid (B4.out.trans (hb5.mono B4.out.size))
      have hown5 : OwnB W5 W0.heap.size (.slice pa na ca) (exps s info j) := Hown.out.below B5.out
      obtain ⟨p5, c5, ev5, hB5, hc5, hp5⟩ := ho5.bs
      rw [keyN_length] at ev5
      have hb05 : Below W0.heap.size W0 W5 := Hbel.out.trans (B5.out.mono Hbel.out.size)
      obtain ⟨va, wa, hra, howna, hgra⟩ := app_own (cap := c5) (k := 32) hown5 hB5 (keyN_length D).symm hp5 hb05.size (by rw [exps_length, keyN_length]; have := Ena.out; omega)
      have Hba := Lib.hid (own_below hb05 hown5 hb05.size hgra)
      have Hoa := Lib.hid (show OwnB wa W0.heap.size va (exps s info (j + 1)) by rw [exps, Htag.out]; exact howna)
      have Hla := Lib.hid (show SlV wa (.slice p5 32 c5) (tagT s info (j + 1)) by
        rw [Htag.out, ← ev5]
        refine (ho5.kept hgra ?_).bs
        cases hvb : v5.ownBlock with
        | none => exact .inl rfl
        | some k =>
          right
          intro he
          have h1 := (ho5.ltb k hvb).1
          have h2 := (Hown.out.ltb k he.symm).2
          have := B4.out.size
          omega)
      subst ev5
      clear ho5 hb5 hown5 hB5 hc5 hp5 hb05 howna hgra
      go_wp2_with (at_builtin; refine Lib.wpList_append_run _ rfl _ _ _ _ rfl _ _ rfl rfl _ _ hra ?_)
      go_wp2_with fail
      go_roundw
      case rel => exact ⟨j + 1, by rw [← Ej1.out]; go_num, by have := Ena.out; omega, Hoa.out, Hla.out, Hba.out⟩
      case measure => simp [intOf]; omega
    · have hlt : ¬ (na : Int) < (n : Int) := by omega
      have hsl := slB_h pa na ca n (by omega)
      clear ej1
      go_wp2_with fail
      refine bodyPost_ret (v := .tuple #[.slice pa n ca, .int .i64 0]) (results_tmp2 Tryd.results15 _ _ _) rfl ⟨pa, ⟨ca, rfl⟩, ?_, B0.out.trans (Hbel.out.mono B0.out.size)⟩
      rw [expN_take s info n j (by have := Ena.out; omega)]
      exact Bs0.take HBa.out n

set_option maxHeartbeats 400000 in
set_option maxRecDepth 100000 in
theorem rexpand_bad (z : Int) (s : List Nat) (v : Value) (w : World) (hz : z < 0 ∨ 8160 < z) :
    Calls Tryd.prog 15 #[.agg (bysA s), v, .int .i64 z] w fun e w' => e = .returned (.tuple #[.slice none 0 0, .int .i64 3]) ∧ Below w.heap.size w w' := by
  rcases hz with h | h
  · go_enter Tryd.func15, Tryd.ntmps15
    go_wp2_with fail
    refine bodyPost_ret (v := .tuple #[.slice none 0 0, .int .i64 3]) (results_tmp2 Tryd.results15 _ _ _) rfl ⟨rfl, below_alloc (Below.refl _ _) _⟩
  · have h' : ¬ z < 0 := by omega
    go_enter Tryd.func15, Tryd.ntmps15
    go_wp2_with fail
    refine bodyPost_ret (v := .tuple #[.slice none 0 0, .int .i64 3]) (results_tmp2 Tryd.results15 _ _ _) rfl ⟨rfl, below_alloc (Below.refl _ _) _⟩
end Go.Proofs.YtikpglemnnbdcaaDoor
