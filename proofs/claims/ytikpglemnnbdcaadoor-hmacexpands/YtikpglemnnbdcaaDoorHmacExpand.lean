/-
  Package hmac: as many bytes as one likes of a secret.
-/
import Derived.Test.YtikpglemnnbdcaaDoorHmacMac
namespace Go.Proofs.YtikpglemnnbdcaaDoor
open Go.RowKit Go.Hold Go.Sh

/-- A slice of bytes as a value. -/
def SlV (w : World) (v : Value) (l : List Nat) : Prop := ∃ p c, v = .slice p l.length c ∧ Bs0 w p l ∧ l.length ≤ c ∧ (p = none → c = 0)
theorem SlV.grow {w w' : World} {v : Value} {l : List Nat} (h : SlV w v l) (hb : Below w.heap.size w w') : SlV w' v l := by
  obtain ⟨p, c, rfl, h1, h2, h3⟩ := h
  exact ⟨p, c, rfl, h1.grow hb, h2, h3⟩
theorem u8_wrap (n : Nat) : IntKind.u8.wrap (n : Int) = ((n % 256 : Nat) : Int) := by rw [IntKind.wrap_u8]; omega
def bldB (n : Nat) (ps : Array (Nat × Value)) : Sem Value := Instr.buildSlice 22 n ps
@[go_sem ↓] theorem fold_bldB (n : Nat) (ps : Array (Nat × Value)) : Instr.buildSlice 22 n ps = bldB n ps := rfl
set_option maxRecDepth 100000 in
@[go_sem] theorem run_bldB1 (w : World) (b : Int) : (bldB 1 #[(0, .int .u8 b)]).run Tryd.prog w = .ok (.slice (some ⟨w.heap.size, 0, none⟩) 1 1) (w.alloc (.cells #[.int .u8 b] 5)) := by
  obtain ⟨ie, h1, h2, h3, _⟩ := info_parts info_u8
  refine run_buildSlice w _ _ 1 _ #[.int .u8 b] ie _ Tryd.underlying22 h1 h2 (by rw [h3]; decide) (by rw [h3]; decide) ?_
  rw [h3]; kernel_rfl
theorem Bs0.take {w : World} {p : Option Addr} {l : List Nat} (h : Bs0 w p l) (n : Nat) : Bs0 w p (l.take n) := by
  rcases h with rfl | ⟨b, o, rfl, h⟩
  · exact .inl (by simp)
  · refine .inr ⟨b, o, rfl, h.1, fun i hi => ?_⟩
    rw [List.length_take] at hi
    rw [h.2 i (by omega)]
    simp [List.getD, show i < n by omega]
/-- What is known of each operation of 'next := Mac(secret[:], slices.Concat(last, info, []byte{byte(i)}))'. -/
def expR (W : World) (x : Nat) (last info : Value) (j : Nat) (L : List Nat) (D : St) : Nat → Value → World → Prop
  | 0, v, _ => v = .slice (some ⟨x, 0, none⟩) 32 32
  | 1, v, _ => v = last
  | 2, v, _ => v = info
  | 3, v, _ => v = .int .i64 (j : Int)
  | 4, v, _ => v = .int .u8 ((j % 256 : Nat) : Int)
  | 5, v, w => ∃ g, v = .slice (some ⟨g, 0, none⟩) 1 1 ∧ BytesAt w g 0 [j % 256]
  | 6, v, w => ∃ g gb, v = .slice (some ⟨g, 0, none⟩) 3 3 ∧ RowAt w g #[last, info, .slice (some ⟨gb, 0, none⟩) 1 1] ∧ BytesAt w gb 0 [j % 256]
  | 7, v, w => SlV w v L
  | 8, v, _ => v = .agg (keA D)
  | 9, v, w => ∃ g, v = .pointer (some ⟨g, 0, none⟩) ∧ W.heap.size ≤ g ∧ ∃ c, c.size = 32 ∧ RowAt w g c
  | _, _, _ => True
theorem expR_mono (W : World) (x : Nat) (last info : Value) (j : Nat) (L : List Nat) (D : St) : ∀ i v w w', expR W x last info j L D i v w → Below w.heap.size w w' → expR W x last info j L D i v w'
  | 0, _, _, _, h, _ => h
  | 1, _, _, _, h, _ => h
  | 2, _, _, _, h, _ => h
  | 3, _, _, _, h, _ => h
  | 4, _, _, _, h, _ => h
  | 5, _, _, _, h, hb => by obtain ⟨g, h1, h2⟩ := h; exact ⟨g, h1, h2.grow hb⟩
  | 6, _, _, _, h, hb => by obtain ⟨g, gb, h1, h2, h3⟩ := h; exact ⟨g, gb, h1, h2.grow hb, h3.grow hb⟩
  | 7, _, _, _, h, hb => SlV.grow h hb
  | 8, _, _, _, h, _ => h
  | 9, _, _, _, h, hb => by obtain ⟨g, h1, h2, c, h3, h4⟩ := h; exact ⟨g, h1, h2, c, h3, h4.grow hb⟩
  | _ + 10, _, _, _, _, _ => trivial

set_option maxHeartbeats 600000 in
set_option maxRecDepth 100000 in
theorem expand_c (ic n : Nat) (ip : Option Addr) (s info : List Nat) (w : World) (hT : Tabs w) (hs : s.length = 32) (hsb : ∀ i, s.getD i 0 < 256) (hi : info.length ≤ 100000) (hib : ∀ i, info.getD i 0 < 256) (hiB : Bs0 w ip info) (hic : ip = none → ic = 0) (hn : n ≤ 8160) :
    Calls Tryd.prog 14 #[.agg (bysA s), .slice ip info.length ic, .int .i64 (n : Int)] w fun e w' => ∃ p, e = .returned (.tuple #[.slice p n n, .int .i64 0]) ∧ Bs0 w' p (expN s info n) ∧ (p = none → n = 0) ∧ Below w.heap.size w w' := by
  have HT := Lib.hid hT
  have HI := Lib.hid hiB
  have HIc := Lib.hid hic
  have Hsb := Lib.hid hsb
  have Hib := Lib.hid hib
  have Hs := Lib.hid hs
  have h0 : ¬ (n : Int) < 0 := by omega
  have h1 : ¬ (8160 : Int) < (n : Int) := by omega
  obtain ⟨m, em⟩ : ∃ m, m = info.length := ⟨_, rfl⟩
  rw [← em] at hi ⊢
  have Em := Lib.hid em
  clear hT hiB hic hsb hib hs em
  go_enter Tryd.func14, Tryd.ntmps14
  go_wp2_with fail
  generalize hW : World.alloc _ _ = W0
  have R0 := Lib.hid (show RowAt W0 w.heap.size (bysA s) by rw [← hW]; exact RowAt.of (block_new w _))
  have B0 := Lib.hid (show Below w.heap.size w W0 by rw [← hW]; exact below_alloc (Below.refl _ _) _)
  clear hW
  obtain ⟨x, ex⟩ : ∃ x, x = w.heap.size := ⟨_, rfl⟩
  rw [← ex] at R0 ⊢
  have Ex := Lib.hid ex
  clear ex
  go_loopw [8, 9, 10] (fun all last i wr => ∃ j : Nat, i = .int .i64 ((j + 1 : Nat) : Int) ∧ 32 * j < n + 32 ∧ OwnB wr W0.heap.size all (exps s info j) ∧ SlV wr last (tagT s info j) ∧ Below W0.heap.size W0 wr) (fun _ _ i _ => 300 - (intOf i).toNat)
  case atStart => exact ⟨0, rfl, by omega, own_nil W0 _, ⟨none, 0, rfl, .inl rfl, Nat.le_refl _, fun _ => rfl⟩, Below.refl _ _⟩
  case round =>
    obtain ⟨j, rfl, hj, hown, hlast, hbel⟩ := hrel
    have hel := exps_length s info j
    obtain ⟨pa, ca, rfl, hBa, hca, hpa⟩ := hown.bs
    rw [hel] at hown hca ⊢
    obtain ⟨na, ena⟩ : ∃ y, y = 32 * j := ⟨_, rfl⟩
    rw [← ena] at hown hca hj ⊢
    have Hown := Lib.hid hown
    have Hlast := Lib.hid hlast
    have Hbel := Lib.hid hbel
    have Ena := Lib.hid ena
    have HBa := Lib.hid hBa
    have Hpa := Lib.hid hpa
    clear hown hlast hbel ena hel hBa hpa
    obtain ⟨j1, ej1⟩ : ∃ y, y = j + 1 := ⟨_, rfl⟩
    rw [← ej1]
    by_cases hjn : na < n
    · have hlt : (na : Int) < (n : Int) := by omega
      have hw8 := u8_wrap j1
      obtain ⟨pl, cl, rfl, hBl, hcl, hpl⟩ := Hlast.out
      obtain ⟨nl, enl⟩ : ∃ y, y = (tagT s info j).length := ⟨_, rfl⟩
      have hnl := tagT_le s info j
      rw [← enl] at hcl hnl ⊢
      have Enl := Lib.hid enl
      have HBl := Lib.hid hBl
      have Hpl := Lib.hid hpl
      have Ej1 := Lib.hid ej1
      have hj1 : j1 ≤ 256 := by have := Ena.out; omega
      clear hBl hpl enl ej1 hcl
      obtain ⟨L, eL⟩ : ∃ y, y = tagT s info j ++ info ++ [j1 % 256] := ⟨_, rfl⟩
      obtain ⟨D, eD⟩ : ∃ y, y = mac s L := ⟨_, rfl⟩
      have Htag := Lib.hid (show tagT s info (j + 1) = keyN D by rw [tagT, eD, eL, Ej1.out])
      have HLb := Lib.hid (show ∀ i, L.getD i 0 < 256 by rw [eL]; exact bts_app (bts_app (tagT_bts _ _ _) Hib.out) (bts_1 _ (Nat.mod_lt _ (by decide))))
      have hLl : L.length ≤ 200000 := by rw [eL, List.length_append, List.length_append, ← Enl.out, ← Em.out]; simp only [List.length_cons, List.length_nil]; omega
      have EL := Lib.hid eL
      have ED := Lib.hid eD
      clear eL eD
      have hWr := Hbel.out.size
      have R1 := Lib.hid (R0.out.grow Hbel.out)
      have I1 := Lib.hid ((HI.out.grow B0.out).grow Hbel.out)
      have T1 := Lib.hid ((HT.out.grow B0.out).grow Hbel.out)
      have BB1 := Lib.hid (B0.out.trans (Hbel.out.mono B0.out.size))
      go_wp2_with fail
      refine wp_region_grows wr 10 (fun w w' => Below w.heap.size w w') (expR wr x (.slice pl nl cl) (.slice ip m ic) j1 L D) [10] [0, 1, 2, 3, 4, 5, 6, 7, 8, 9] [some 24, some 25, some 26, some 27, some 28, some 29, some 30, some 31, some 32, some 11] (by kernel_rfl) (by kernel_rfl) (by kernel_rfl) (by kernel_rfl) ((Below.refl _ _).drew) (fun w w' h h' => h.trans (h'.mono h.size)) (expR_mono _ _ _ _ _ _ _) ?_
      intro vals
      simp only [List.take_succ_cons, List.take_zero]
      refine ⟨grow_val [] [] (by kernel_rfl) rfl (fun K w hb hd hK => ⟨wanted_none rfl, ?_⟩), ?_⟩
      · simp only [putZ]; go_simp; exact hK _ _ _ (Below.refl _ _) rfl
      refine ⟨grow_val [] [] (by kernel_rfl) rfl (fun K w hb hd hK => ⟨wanted_none rfl, ?_⟩), ?_⟩
      · simp only [putZ]; go_simp; exact hK _ _ _ (Below.refl _ _) rfl
      refine ⟨grow_val [] [] (by kernel_rfl) rfl (fun K w hb hd hK => ⟨wanted_none rfl, ?_⟩), ?_⟩
      · simp only [putZ]; go_simp; exact hK _ _ _ (Below.refl _ _) rfl
      refine ⟨grow_val [] [] (by kernel_rfl) rfl (fun K w hb hd hK => ⟨wanted_none rfl, ?_⟩), ?_⟩
      · simp only [putZ]; go_simp; exact hK _ _ _ (Below.refl _ _) rfl
      refine ⟨grow_val [3] [some 27] (by kernel_rfl) (by kernel_rfl) (fun K w hb hd hK => ⟨wanted_none rfl, ?_⟩), ?_⟩
      · have d3 : vals 3 = .int .i64 (j1 : Int) := hd 3 (by simp)
        simp only [List.map_cons, List.map_nil, putZ, d3]; go_simp; exact hK _ _ _ (Below.refl _ _) rfl
      refine ⟨grow_val [4] [some 28] (by kernel_rfl) (by kernel_rfl) (fun K w hb hd hK => ⟨wanted_none rfl, ?_⟩), ?_⟩
      · have d4 : vals 4 = .int .u8 ((j1 % 256 : Nat) : Int) := hd 4 (by simp)
        obtain ⟨b, eb⟩ : ∃ b, b = j1 % 256 := ⟨_, rfl⟩
        rw [← eb] at d4
        have Eb := Lib.hid eb
        clear eb
        simp only [List.map_cons, List.map_nil, putZ, d4]; go_simp; exact hK _ _ _ (below_alloc (Below.refl _ _) _) ⟨_, rfl, by rw [← Eb.out]; exact bytes_new w [b] _ _⟩
      refine ⟨grow_val [1, 2, 5] [some 25, some 26, some 29] (by kernel_rfl) (by kernel_rfl) (fun K w hb hd hK => ⟨wanted_none rfl, ?_⟩), ?_⟩
      · have d1 : vals 1 = .slice pl nl cl := hd 1 (by simp)
        have d2 : vals 2 = .slice ip m ic := hd 2 (by simp)
        obtain ⟨gb, d5, hgb⟩ : ∃ g, vals 5 = .slice (some ⟨g, 0, none⟩) 1 1 ∧ BytesAt w g 0 [j1 % 256] := hd 5 (by simp)
        simp only [List.map_cons, List.map_nil, putZ, d1, d2, d5]; go_simp; exact hK _ _ _ (below_alloc (Below.refl _ _) _) ⟨_, gb, rfl, RowAt.of (block_new w _), hgb.grow (below_alloc (Below.refl _ _) _)⟩
      refine ⟨grow_call [6] [some 30] (by kernel_rfl) (by kernel_rfl) (fun K w hb hd hK => ⟨wanted_none rfl, ?_⟩), ?_⟩
      · obtain ⟨g6, gb, d6, hr6, hgb⟩ : ∃ g gb, vals 6 = .slice (some ⟨g, 0, none⟩) 3 3 ∧ RowAt w g #[.slice pl nl cl, .slice ip m ic, .slice (some ⟨gb, 0, none⟩) 1 1] ∧ BytesAt w gb 0 [j1 % 256] := hd 6 (by simp)
        simp only [List.map_cons, List.map_nil, putZ, d6]; go_simp
        refine (concat3_c hr6 Enl.out Em.out (k := [j1 % 256]) rfl (HBl.out.grow hb) (I1.out.grow hb) (Bs0.some hgb) Hpl.out HIc.out (fun h => by cases h) (by rw [← Enl.out, ← Em.out]; simp only [List.length_cons, List.length_nil]; omega)).mono ?_
        rintro e w' ⟨v, rfl, hown, hb'⟩
        refine ⟨v, rfl, hK _ _ hb' ?_⟩
        show SlV w' v L
        rw [EL.out]; exact hown.bs
      refine ⟨grow_call [0, 7] [some 24, some 31] (by kernel_rfl) (by kernel_rfl) (fun K w hb hd hK => ⟨wanted_none rfl, ?_⟩), ?_⟩
      · have d0 : vals 0 = .slice (some ⟨x, 0, none⟩) 32 32 := hd 0 (by simp)
        obtain ⟨p7, c7, d7, hB7, _, hp7⟩ : SlV w (vals 7) L := hd 7 (by simp)
        simp only [List.map_cons, List.map_nil, putZ, d0, d7]; go_simp
        have HM := mac_c 32 c7 (some ⟨x, 0, none⟩) p7 s L w (T1.out.grow hb) (by rw [Hs.out]; decide) Hsb.out (Bs0.some (bytes_row (R1.out.grow hb))) (by rw [Hs.out]; decide) (by omega) HLb.out hB7 hp7
        rw [Hs.out, ← ED.out] at HM
        refine HM.mono ?_
        rintro e w' ⟨rfl, hb'⟩
        exact ⟨_, rfl, hK _ _ hb' rfl⟩
      refine ⟨grow_val [] [] (by kernel_rfl) rfl (fun K w hb hd hK => ⟨wanted_none rfl, ?_⟩), ?_⟩
      · simp only [putZ]; go_simp; exact hK _ _ _ (below_alloc (Below.refl _ _) _) ⟨_, rfl, hb.size, _, by simp, RowAt.of (block_new w _)⟩
      intro W1 hb1 hd
      have d8 : vals 8 = .agg (keA D) := hd 8 (by simp)
      obtain ⟨g, d9, hg, c9, hc9, hR9⟩ : ∃ g, vals 9 = .pointer (some ⟨g, 0, none⟩) ∧ wr.heap.size ≤ g ∧ ∃ c : Array Value, c.size = 32 ∧ RowAt W1 g c := hd 9 (by simp)
      clear hd
      simp only [List.map_cons, List.map_nil, putZ, d8, d9, pick, List.getElem?_cons_succ, List.getElem?_cons_zero]
      generalize vals 0 = v0
      generalize vals 1 = v1
      generalize vals 2 = v2
      generalize vals 3 = v3
      generalize vals 4 = v4
      generalize vals 5 = v5
      generalize vals 6 = v6
      generalize vals 7 = v7
      clear d8 d9
      have hown1 : OwnB W1 W0.heap.size (.slice pa na ca) (exps s info j) := Hown.out.below hb1
      have hown2 : OwnB (W1.setRow g (keA D)) W0.heap.size (.slice pa na ca) (exps s info j) :=
        World.ownsRow.kept (row := some g) hown1 ⟨rfl, rfl, rfl, by rw [size_setRow]; exact Nat.le_refl _, fun k _ hk => setRow_other W1 g k _ (fun e => hk (by rw [e]))⟩ (by
          right
          intro he
          have := (World.ownsRow.lt Hown.out g he).2
          omega)
      have RG := hR9.set (keA D)
      have hsz2 : W0.heap.size ≤ (W1.setRow g (keA D)).heap.size := by rw [size_setRow]; have := hb1.size; omega
      have hB2 : Below W0.heap.size W0 (W1.setRow g (keA D)) := by
        have := Hbel.out.trans (hb1.mono Hbel.out.size)
        exact below_setRow this (by omega) _
      obtain ⟨va, wa, hra, howna, hgra⟩ := app_own (cap := 32) (k := 32) hown2 (Bs0.some (keyN_row RG)) (keyN_length D).symm (fun h => by cases h) hsz2 (by rw [exps_length, keyN_length]; have := Ena.out; omega)
      have Hba := Lib.hid (own_below hB2 hown2 hsz2 hgra)
      have Hoa := Lib.hid (show OwnB wa W0.heap.size va (exps s info (j + 1)) by rw [exps, Htag.out]; exact howna)
      have Hla := Lib.hid (show SlV wa (.slice (some ⟨g, 0, none⟩) 32 32) (tagT s info (j + 1)) by
        rw [Htag.out]
        refine ⟨some ⟨g, 0, none⟩, 32, by rw [keyN_length], Bs0.some (keyN_row ?_), by rw [keyN_length]; exact Nat.le_refl _, fun h => by cases h⟩
        obtain ⟨t, ht⟩ := RG.block
        refine RowAt.of (t := t) ?_
        rw [hgra.block g RG.2.2 (fun he => by have := (World.ownsRow.lt Hown.out g he.symm).2; omega)]
        exact ht)
      obtain ⟨r1, r2, r3⟩ := hR9
      clear hown1 hown2 RG hsz2 hB2 howna hgra
      go_wp2_with (at_builtin; refine Lib.wpList_append_run _ rfl _ _ _ _ rfl _ _ rfl rfl _ _ hra ?_)
      go_wp2_with fail
      go_roundw
      case rel => exact ⟨j + 1, by rw [← Ej1.out]; go_num, by have := Ena.out; omega, Hoa.out, Hla.out, Hba.out⟩
      case measure => simp [intOf]; omega
    · have hlt : ¬ (na : Int) < (n : Int) := by omega
      have hsl := slB_hm pa na ca n (by omega)
      clear ej1
      go_wp2_with fail
      refine bodyPost_ret (v := .tuple #[.slice pa n n, .int .i64 0]) (results_tmp2 Tryd.results14 _ _ _) rfl ⟨pa, rfl, ?_, fun h => ?_, B0.out.trans (Hbel.out.mono B0.out.size)⟩
      · rw [expN_take s info n j (by have := Ena.out; omega)]
        exact Bs0.take HBa.out n
      · have hz : exps s info j = [] := by
          rcases HBa.out with h1 | ⟨b, o, h1, _⟩
          · exact h1
          · rw [h] at h1; cases h1
        have := exps_length s info j
        rw [hz] at this
        have := Ena.out
        simp at *; omega

set_option maxHeartbeats 400000 in
set_option maxRecDepth 100000 in
theorem expand_bad (z : Int) (s : List Nat) (v : Value) (w : World) (hz : z < 0 ∨ 8160 < z) :
    Calls Tryd.prog 14 #[.agg (bysA s), v, .int .i64 z] w fun e w' => e = .returned (.tuple #[.slice none 0 0, .int .i64 3]) ∧ Below w.heap.size w w' := by
  rcases hz with h | h
  · go_enter Tryd.func14, Tryd.ntmps14
    go_wp2_with fail
    refine bodyPost_ret (v := .tuple #[.slice none 0 0, .int .i64 3]) (results_tmp2 Tryd.results14 _ _ _) rfl ⟨rfl, below_alloc (Below.refl _ _) _⟩
  · have h' : ¬ z < 0 := by omega
    go_enter Tryd.func14, Tryd.ntmps14
    go_wp2_with fail
    refine bodyPost_ret (v := .tuple #[.slice none 0 0, .int .i64 3]) (results_tmp2 Tryd.results14 _ _ _) rfl ⟨rfl, below_alloc (Below.refl _ _) _⟩
end Go.Proofs.YtikpglemnnbdcaaDoor
