/-
  Part 3 of the texts behind the theorem.
-/
import Derived.Test.YtnkfiljmgbnbkaaDoorPart2
import Derived.Lib.ConvBytes
import Derived.Laws.BytesString
import Derived.Test.YtnkfiljmgbnbkaaDoorPart1
import Derived.Laws.BitsAllLaws
/-
  Package hmac: as many bytes as one likes of a secret.
-/
namespace Go.Proofs.YtnkfiljmgbnbkaaDoor
open Go.RowKit Go.Hold Go.Sh

/-- What is known of each operation of 'next := Mac(secret[:], slices.Concat(last, info, []byte{byte(i)}))'. -/
def expR (W : World) (x : Nat) (last info : Value) (j : Nat) (L : List Nat) (D : St) : Nat → Value → World → Prop
  | 0, v, _ => v = .slice (some ⟨x, 0, none⟩) 32 32
  | 1, v, _ => v = last
  | 2, v, _ => v = info
  | 3, v, _ => v = .int .i64 (j : Int)
  | 4, v, _ => v = .int .u8 ((j % 256 : Nat) : Int)
  | 5, v, w => ∃ g, v = .slice (some ⟨g, 0, none⟩) 1 1 ∧ BytesAt w g 0 [j % 256]
  | 6, v, w => ∃ g gb, v = .slice (some ⟨g, 0, none⟩) 3 3 ∧ RowAt w g #[last, info, .slice (some ⟨gb, 0, none⟩) 1 1] ∧ BytesAt w gb 0 [j % 256]
  | 7, v, w => SlV w v L
  | 8, v, _ => v = .agg (keA D)
  | 9, v, w => ∃ g, v = .pointer (some ⟨g, 0, none⟩) ∧ W.heap.size ≤ g ∧ ∃ c, c.size = 32 ∧ RowAt w g c
  | _, _, _ => True
theorem expR_mono (W : World) (x : Nat) (last info : Value) (j : Nat) (L : List Nat) (D : St) : ∀ i v w w', expR W x last info j L D i v w → Below w.heap.size w w' → expR W x last info j L D i v w'
  | 0, _, _, _, h, _ => h
  | 1, _, _, _, h, _ => h
  | 2, _, _, _, h, _ => h
  | 3, _, _, _, h, _ => h
  | 4, _, _, _, h, _ => h
  | 5, _, _, _, h, hb => by obtain ⟨g, h1, h2⟩ := h; exact ⟨g, h1, h2.grow hb⟩
  | 6, _, _, _, h, hb => by obtain ⟨g, gb, h1, h2, h3⟩ := h; exact ⟨g, gb, h1, h2.grow hb, h3.grow hb⟩
  | 7, _, _, _, h, hb => SlV.grow h hb
  | 8, _, _, _, h, _ => h
  | 9, _, _, _, h, hb => by obtain ⟨g, h1, h2, c, h3, h4⟩ := h; exact ⟨g, h1, h2, c, h3, h4.grow hb⟩
  | _ + 10, _, _, _, _, _ => trivial

set_option maxHeartbeats 600000 in
set_option maxRecDepth 100000 in
theorem expand_c (ic n : Nat) (ip : Option Addr) (s info : List Nat) (w : World) (hT : Tabs w) (hs : s.length = 32) (hsb : ∀ i, s.getD i 0 < 256) (hi : info.length ≤ 100000) (hib : ∀ i, info.getD i 0 < 256) (hiB : Bs0 w ip info) (hic : ip = none → ic = 0) (hn : n ≤ 8160) :
    Calls Tryd.prog 45 #[.agg (bysA s), .slice ip info.length ic, .int .i64 (n : Int)] w fun e w' => ∃ p, e = .returned (.tuple #[.slice p n n, .int .i64 0]) ∧ Bs0 w' p (expN s info n) ∧ (p = none → n = 0) ∧ Below w.heap.size w w' := by
  have HT := Lib.hid hT
  have HI := Lib.hid hiB
  have HIc := Lib.hid hic
  have Hsb := Lib.hid hsb
  have Hib := Lib.hid hib
  have Hs := Lib.hid hs
  have h0 : ¬ (n : Int) < 0 := by omega
  have h1 : ¬ (8160 : Int) < (n : Int) := by omega
  obtain ⟨m, em⟩ : ∃ m, m = info.length := ⟨_, rfl⟩
  rw [← em] at hi ⊢
  have Em := Lib.hid em
  clear hT hiB hic hsb hib hs em
  go_enter Tryd.func45, Tryd.ntmps45
  go_wp2_with fail
  generalize hW : World.alloc _ _ = W0
  have R0 := Lib.hid (show RowAt W0 w.heap.size (bysA s) by rw [← hW]; exact RowAt.of (block_new w _))
  have B0 := Lib.hid (show Below w.heap.size w W0 by rw [← hW]; exact below_alloc (Below.refl _ _) _)
  clear hW
  obtain ⟨x, ex⟩ : ∃ x, x = w.heap.size := ⟨_, rfl⟩
  rw [← ex] at R0 ⊢
  have Ex := Lib.hid ex
  clear ex
  go_loopw [8, 9, 10] (fun all last i wr => ∃ j : Nat, i = .int .i64 ((j + 1 : Nat) : Int) ∧ 32 * j < n + 32 ∧ OwnB wr W0.heap.size all (exps s info j) ∧ SlV wr last (tagT s info j) ∧ Below W0.heap.size W0 wr) (fun _ _ i _ => 300 - (intOf i).toNat)
  case atStart => exact ⟨0, rfl, by omega, own_nil W0 _, ⟨none, 0, rfl, .inl rfl, Nat.le_refl _, fun _ => rfl⟩, Below.refl _ _⟩
  case round =>
    obtain ⟨j, rfl, hj, hown, hlast, hbel⟩ := hrel
    have hel := exps_length s info j
    obtain ⟨pa, ca, rfl, hBa, hca, hpa⟩ := hown.bs
    rw [hel] at hown hca ⊢
    obtain ⟨na, ena⟩ : ∃ y, y = 32 * j := ⟨_, rfl⟩
    rw [← ena] at hown hca hj ⊢
    have Hown := Lib.hid hown
    have Hlast := Lib.hid hlast
    have Hbel := Lib.hid hbel
    have Ena := Lib.hid ena
    have HBa := Lib.hid hBa
    have Hpa := Lib.hid hpa
    clear hown hlast hbel ena hel hBa hpa
    obtain ⟨j1, ej1⟩ : ∃ y, y = j + 1 := ⟨_, rfl⟩
    rw [← ej1]
    by_cases hjn : na < n
    · have hlt : (na : Int) < (n : Int) := by omega
      have hw8 := u8_wrap j1
      obtain ⟨pl, cl, rfl, hBl, hcl, hpl⟩ := Hlast.out
      obtain ⟨nl, enl⟩ : ∃ y, y = (tagT s info j).length := ⟨_, rfl⟩
      have hnl := tagT_le s info j
      rw [← enl] at hcl hnl ⊢
      have Enl := Lib.hid enl
      have HBl := Lib.hid hBl
      have Hpl := Lib.hid hpl
      have Ej1 := Lib.hid ej1
      have hj1 : j1 ≤ 256 := by have := Ena.out; omega
      clear hBl hpl enl ej1 hcl
      obtain ⟨L, eL⟩ : ∃ y, y = tagT s info j ++ info ++ [j1 % 256] := ⟨_, rfl⟩
      obtain ⟨D, eD⟩ : ∃ y, y = mac s L := ⟨_, rfl⟩
      have Htag := Lib.hid (show tagT s info (j + 1) = keyN D by rw [tagT, eD, eL, Ej1.out])
      have HLb := Lib.hid (show ∀ i, L.getD i 0 < 256 by rw [eL]; exact bts_app (bts_app (tagT_bts _ _ _) Hib.out) (bts_1 _ (Nat.mod_lt _ (by decide))))
      have hLl : L.length ≤ 200000 := by rw [eL, List.length_append, List.length_append, ← Enl.out, ← Em.out]; simp only [List.length_cons, List.length_nil]; omega
      have EL := Lib.hid eL
      have ED := Lib.hid eD
      clear eL eD
      have hWr := Hbel.out.size
      have R1 := Lib.hid (R0.out.grow Hbel.out)
      have I1 := Lib.hid ((HI.out.grow B0.out).grow Hbel.out)
      have T1 := Lib.hid ((HT.out.grow B0.out).grow Hbel.out)
      have BB1 := Lib.hid (B0.out.trans (Hbel.out.mono B0.out.size))
      go_wp2_with fail
      refine wp_region_grows wr 10 (fun w w' => Below w.heap.size w w') (expR wr x (.slice pl nl cl) (.slice ip m ic) j1 L D) [10] [0, 1, 2, 3, 4, 5, 6, 7, 8, 9] [some 24, some 25, some 26, some 27, some 28, some 29, some 30, some 31, some 32, some 11] (by kernel_rfl) (by kernel_rfl) (by kernel_rfl) (by kernel_rfl) ((Below.refl _ _).drew) (fun w w' h h' => h.trans (h'.mono h.size)) (expR_mono _ _ _ _ _ _ _) ?_
      intro vals
      simp only [List.take_succ_cons, List.take_zero]
      refine ⟨grow_val [] [] (by kernel_rfl) rfl (fun K w hb hd hK => ⟨wanted_none rfl, ?_⟩), ?_⟩
      · simp only [putZ]; go_simp; exact hK _ _ _ (Below.refl _ _) rfl
      refine ⟨grow_val [] [] (by kernel_rfl) rfl (fun K w hb hd hK => ⟨wanted_none rfl, ?_⟩), ?_⟩
      · simp only [putZ]; go_simp; exact hK _ _ _ (Below.refl _ _) rfl
      refine ⟨grow_val [] [] (by kernel_rfl) rfl (fun K w hb hd hK => ⟨wanted_none rfl, ?_⟩), ?_⟩
      · simp only [putZ]; go_simp; exact hK _ _ _ (Below.refl _ _) rfl
      refine ⟨grow_val [] [] (by kernel_rfl) rfl (fun K w hb hd hK => ⟨wanted_none rfl, ?_⟩), ?_⟩
      · simp only [putZ]; go_simp; exact hK _ _ _ (Below.refl _ _) rfl
      refine ⟨grow_val [3] [some 27] (by kernel_rfl) (by kernel_rfl) (fun K w hb hd hK => ⟨wanted_none rfl, ?_⟩), ?_⟩
      · have d3 : vals 3 = .int .i64 (j1 : Int) := hd 3 (by simp)
        simp only [List.map_cons, List.map_nil, putZ, d3]; go_simp; exact hK _ _ _ (Below.refl _ _) rfl
      refine ⟨grow_val [4] [some 28] (by kernel_rfl) (by kernel_rfl) (fun K w hb hd hK => ⟨wanted_none rfl, ?_⟩), ?_⟩
      · have d4 : vals 4 = .int .u8 ((j1 % 256 : Nat) : Int) := hd 4 (by simp)
        obtain ⟨b, eb⟩ : ∃ b, b = j1 % 256 := ⟨_, rfl⟩
        rw [← eb] at d4
        have Eb := Lib.hid eb
        clear eb
        simp only [List.map_cons, List.map_nil, putZ, d4]; go_simp; exact hK _ _ _ (below_alloc (Below.refl _ _) _) ⟨_, rfl, by rw [← Eb.out]; exact bytes_new w [b] _ _⟩
      refine ⟨grow_val [1, 2, 5] [some 25, some 26, some 29] (by kernel_rfl) (by kernel_rfl) (fun K w hb hd hK => ⟨wanted_none rfl, ?_⟩), ?_⟩
      · have d1 : vals 1 = .slice pl nl cl := hd 1 (by simp)
        have d2 : vals 2 = .slice ip m ic := hd 2 (by simp)
        obtain ⟨gb, d5, hgb⟩ : ∃ g, vals 5 = .slice (some ⟨g, 0, none⟩) 1 1 ∧ BytesAt w g 0 [j1 % 256] := hd 5 (by simp)
        simp only [List.map_cons, List.map_nil, putZ, d1, d2, d5]; go_simp; exact hK _ _ _ (below_alloc (Below.refl _ _) _) ⟨_, gb, rfl, RowAt.of (block_new w _), hgb.grow (below_alloc (Below.refl _ _) _)⟩
      refine ⟨grow_call [6] [some 30] (by kernel_rfl) (by kernel_rfl) (fun K w hb hd hK => ⟨wanted_none rfl, ?_⟩), ?_⟩
      · obtain ⟨g6, gb, d6, hr6, hgb⟩ : ∃ g gb, vals 6 = .slice (some ⟨g, 0, none⟩) 3 3 ∧ RowAt w g #[.slice pl nl cl, .slice ip m ic, .slice (some ⟨gb, 0, none⟩) 1 1] ∧ BytesAt w gb 0 [j1 % 256] := hd 6 (by simp)
        simp only [List.map_cons, List.map_nil, putZ, d6]; go_simp
        refine (concat3_c hr6 Enl.out Em.out (k := [j1 % 256]) rfl (HBl.out.grow hb) (I1.out.grow hb) (Bs0.some hgb) Hpl.out HIc.out (fun h => by cases h) (by rw [← Enl.out, ← Em.out]; simp only [List.length_cons, List.length_nil]; omega)).mono ?_
        rintro e w' ⟨v, rfl, hown, hb'⟩
        refine ⟨v, rfl, hK _ _ hb' ?_⟩
        show SlV w' v L
        rw [EL.out]; exact hown.bs
      refine ⟨grow_call [0, 7] [some 24, some 31] (by kernel_rfl) (by kernel_rfl) (fun K w hb hd hK => ⟨wanted_none rfl, ?_⟩), ?_⟩
      · have d0 : vals 0 = .slice (some ⟨x, 0, none⟩) 32 32 := hd 0 (by simp)
        obtain ⟨p7, c7, d7, hB7, _, hp7⟩ : SlV w (vals 7) L := hd 7 (by simp)
        simp only [List.map_cons, List.map_nil, putZ, d0, d7]; go_simp
        have HM := mac_c 32 c7 (some ⟨x, 0, none⟩) p7 s L w (T1.out.grow hb) (by rw [Hs.out]; decide) Hsb.out (Bs0.some (bytes_row (R1.out.grow hb))) (by rw [Hs.out]; decide) (by omega) HLb.out hB7 hp7
        rw [Hs.out, ← ED.out] at HM
        refine HM.mono ?_
        rintro e w' ⟨rfl, hb'⟩
        exact ⟨_, rfl, hK _ _ hb' rfl⟩
      refine ⟨grow_val [] [] (by kernel_rfl) rfl (fun K w hb hd hK => ⟨wanted_none rfl, ?_⟩), ?_⟩
      · simp only [putZ]; go_simp; exact hK _ _ _ (below_alloc (Below.refl _ _) _) ⟨_, rfl, hb.size, _, by simp, RowAt.of (block_new w _)⟩
      intro W1 hb1 hd
      have d8 : vals 8 = .agg (keA D) := hd 8 (by simp)
      obtain ⟨g, d9, hg, c9, hc9, hR9⟩ : ∃ g, vals 9 = .pointer (some ⟨g, 0, none⟩) ∧ wr.heap.size ≤ g ∧ ∃ c : Array Value, c.size = 32 ∧ RowAt W1 g c := hd 9 (by simp)
      clear hd
      simp only [List.map_cons, List.map_nil, putZ, d8, d9, pick, List.getElem?_cons_succ, List.getElem?_cons_zero]
      generalize vals 0 = v0
      generalize vals 1 = v1
      generalize vals 2 = v2
      generalize vals 3 = v3
      generalize vals 4 = v4
      generalize vals 5 = v5
      generalize vals 6 = v6
      generalize vals 7 = v7
      clear d8 d9
      have hown1 : OwnB W1 W0.heap.size (.slice pa na ca) (exps s info j) := Hown.out.below hb1
      have hown2 : OwnB (W1.setRow g (keA D)) W0.heap.size (.slice pa na ca) (exps s info j) :=
        World.ownsRow.kept (row := some g) hown1 ⟨rfl, rfl, rfl, by rw [size_setRow]; exact Nat.le_refl _, fun k _ hk => setRow_other W1 g k _ (fun e => hk (by rw [e]))⟩ (by
          right
          intro he
          have := (World.ownsRow.lt Hown.out g he).2
          omega)
      have RG := hR9.set (keA D)
      have hsz2 : W0.heap.size ≤ (W1.setRow g (keA D)).heap.size := by rw [size_setRow]; have := hb1.size; omega
      have hB2 : Below W0.heap.size W0 (W1.setRow g (keA D)) := by
        have := Hbel.out.trans (hb1.mono Hbel.out.size)
        exact below_setRow this (by omega) _
      obtain ⟨va, wa, hra, howna, hgra⟩ := app_own (cap := 32) (k := 32) hown2 (Bs0.some (keyN_row RG)) (keyN_length D).symm (fun h => by cases h) hsz2 (by rw [exps_length, keyN_length]; have := Ena.out; omega)
      have Hba := Lib.hid (own_below hB2 hown2 hsz2 hgra)
      have Hoa := Lib.hid (show OwnB wa W0.heap.size va (exps s info (j + 1)) by rw [exps, Htag.out]; exact howna)
      have Hla := Lib.hid (show SlV wa (.slice (some ⟨g, 0, none⟩) 32 32) (tagT s info (j + 1)) by
        rw [Htag.out]
        refine ⟨some ⟨g, 0, none⟩, 32, by rw [keyN_length], Bs0.some (keyN_row ?_), by rw [keyN_length]; exact Nat.le_refl _, fun h => by cases h⟩
        obtain ⟨t, ht⟩ := RG.block
        refine RowAt.of (t := t) ?_
        rw [hgra.block g RG.2.2 (fun he => by have := (World.ownsRow.lt Hown.out g he.symm).2; omega)]
        exact ht)
      obtain ⟨r1, r2, r3⟩ := hR9
      clear hown1 hown2 RG hsz2 hB2 howna hgra
      go_wp2_with (at_builtin; refine Lib.wpList_append_run _ rfl _ _ _ _ rfl _ _ rfl rfl _ _ hra ?_)
      go_wp2_with fail
      go_roundw
      case rel => exact ⟨j + 1, by rw [← Ej1.out]; go_num, by have := Ena.out; omega, Hoa.out, Hla.out, Hba.out⟩
      case measure => simp [intOf]; omega
    · have hlt : ¬ (na : Int) < (n : Int) := by omega
      have hsl := slB_hm pa na ca n (by omega)
      clear ej1
      go_wp2_with fail
      refine bodyPost_ret (v := .tuple #[.slice pa n n, .int .i64 0]) (results_tmp2 Tryd.results45 _ _ _) rfl ⟨pa, rfl, ?_, fun h => ?_, B0.out.trans (Hbel.out.mono B0.out.size)⟩
      · rw [expN_take s info n j (by have := Ena.out; omega)]
        exact Bs0.take HBa.out n
      · have hz : exps s info j = [] := by
          rcases HBa.out with h1 | ⟨b, o, h1, _⟩
          · exact h1
          · rw [h] at h1; cases h1
        have := exps_length s info j
        rw [hz] at this
        have := Ena.out
        simp at *; omega

set_option maxHeartbeats 400000 in
set_option maxRecDepth 100000 in
theorem expand_bad (z : Int) (s : List Nat) (v : Value) (w : World) (hz : z < 0 ∨ 8160 < z) :
    Calls Tryd.prog 45 #[.agg (bysA s), v, .int .i64 z] w fun e w' => e = .returned (.tuple #[.slice none 0 0, .int .i64 3]) ∧ Below w.heap.size w w' := by
  rcases hz with h | h
  · go_enter Tryd.func45, Tryd.ntmps45
    go_wp2_with fail
    refine bodyPost_ret (v := .tuple #[.slice none 0 0, .int .i64 3]) (results_tmp2 Tryd.results45 _ _ _) rfl ⟨rfl, below_alloc (Below.refl _ _) _⟩
  · have h' : ¬ z < 0 := by omega
    go_enter Tryd.func45, Tryd.ntmps45
    go_wp2_with fail
    refine bodyPost_ret (v := .tuple #[.slice none 0 0, .int .i64 3]) (results_tmp2 Tryd.results45 _ _ _) rfl ⟨rfl, below_alloc (Below.refl _ _) _⟩
end Go.Proofs.YtnkfiljmgbnbkaaDoor

/-
  Bytes and strings.
-/
namespace Go.Proofs.YtnkfiljmgbnbkaaDoor
open Go.RowKit Go.Hold Go.Sh

/-- A string's bytes. -/
def strB (s : ByteArray) : List Nat := s.data.toList.map fun b => b.toNat
theorem strB_length (s : ByteArray) : (strB s).length = s.size := by simp [strB]
theorem strB_bts (s : ByteArray) : ∀ i, (strB s).getD i 0 < 256 := getD_lt fun x hx => by
  obtain ⟨b, _, rfl⟩ := List.mem_map.1 hx
  exact b.toNat_lt
theorem strB_app (s t : ByteArray) : strB (s ++ t) = strB s ++ strB t := by simp [strB]
def cvSB (v : Value) : Sem Value := convert 9 24 v
@[go_sem ↓ high] theorem fold_cvSB (v : Value) : convert 9 24 v = cvSB v := rfl
/-- A string is turned into bytes. -/
theorem run_cvSB (s : ByteArray) (w : World) : ∃ c W, (cvSB (.string s)).run Tryd.prog w = .ok (.slice (some ⟨w.heap.size, 0, none⟩) s.size c) W ∧ BytesAt W w.heap.size 0 (strB s) ∧ Below w.heap.size w W ∧ s.size ≤ c := by
  refine ⟨grownCap w s.size 0 5, Lib.bytesWorld w 5 s, Lib.run_convert_string_bytes w _ _ 5 s Tryd.underlying9 Tryd.underlying24 Tryd.underlying5, ⟨by rw [Lib.bytesWorld_size]; omega, fun i hi => ?_⟩, ⟨?_, ?_, ?_, by rw [Lib.bytesWorld_size]; omega, fun k hk => Lib.bytesWorld_at_old w _ s k hk⟩, grownCap_ge _ _ _ _⟩
  · rw [strB_length] at hi
    rw [Nat.zero_add, Lib.bytesWorld_cell w _ s i hi]
    simp [strB, List.getD, hi]
  · rfl
  · rfl
  · rfl
/-- Bytes as a string. -/
def toS (l : List Nat) : ByteArray := ⟨(l.map UInt8.ofNat).toArray⟩
theorem strB_toS {l : List Nat} (h : ∀ i, l.getD i 0 < 256) : strB (toS l) = l := by
  unfold strB toS
  simp only [List.map_map]
  conv => rhs; rw [← List.map_id l]
  apply List.map_congr_left
  intro x hx
  have := mem_lt h x hx
  simp only [Function.comp, id]
  rw [UInt8.toNat_ofNat']
  omega
theorem toS_inj {a b : List Nat} (ha : ∀ i, a.getD i 0 < 256) (hb : ∀ i, b.getD i 0 < 256) : toS a = toS b ↔ a = b := by
  constructor
  · intro h
    rw [← strB_toS ha, ← strB_toS hb, h]
  · rintro rfl; rfl
theorem toS_size (l : List Nat) : (toS l).size = l.length := by simp [toS, ByteArray.size]
def cvBS (v : Value) : Sem Value := convert 24 9 v
@[go_sem ↓ high] theorem fold_cvBS (v : Value) : convert 24 9 v = cvBS v := rfl
theorem foldl_toS : ∀ (l : List Nat) (s : ByteArray), (l.map fun n : Nat => (n : Int)).foldl (fun r n => r.push (UInt8.ofNat n.toNat)) s = ⟨s.data ++ (l.map UInt8.ofNat).toArray⟩
  | [], s => by simp
  | n :: l, s => by
    rw [List.map_cons, List.foldl_cons, foldl_toS l]
    simp [ByteArray.push]
theorem run_cvBS {w : World} {p : Option Addr} {l : List Nat} {n c : Nat} (h : Bs0 w p l) (hn : n = l.length) : (cvBS (.slice p n c)).run Tryd.prog w = .ok (.string (toS l)) w := by
  subst hn
  unfold cvBS
  rw [run_convert_bytes_string w _ _ 5 _ _ _ Tryd.underlying24 Tryd.underlying5 Tryd.underlying9]
  have key : ∀ a : Addr, (∀ j u, (bys l)[j]? = some u → w.cell? (a.add j) = some u) → (Conv.bytesToString (.slice (some a) l.length c)).run Tryd.prog w = .ok (.string (toS l)) w := fun a ha => by
    have h1 := run_loadCells_list (P := Tryd.prog) w a (bys l) ha
    rw [bys_length] at h1
    have h2 : bys l = (l.map fun n : Nat => (n : Int)).map (Value.int .u8) := by simp [bys]
    rw [h2] at h1
    rw [run_bytesToString w a l.length c _ h1, foldl_toS]
    simp [toS]
  cases p with
  | none =>
    have hl : l = [] := by
      rcases h with h | ⟨b, o, h, _⟩
      · exact h
      · cases h
    subst hl
    simp [Conv.bytesToString, toS]
    rfl
  | some a =>
    refine key a ?_
    rcases h with rfl | ⟨b, o, he, h⟩
    · intro j u hu; simp [bys] at hu
    · cases he; exact bys_at h
end Go.Proofs.YtnkfiljmgbnbkaaDoor

/-
  Package hmac: a key of its own for a purpose.
-/
namespace Go.Proofs.YtnkfiljmgbnbkaaDoor
open Go.RowKit Go.Hold Go.Sh

theorem purp_str : strB ⟨#[112, 105, 103, 101, 111, 110, 114, 121, 32]⟩ = purp := by decide
set_option maxHeartbeats 400000 in
set_option maxRecDepth 100000 in
theorem derive_c (s : List Nat) (lab : ByteArray) (w : World) (hT : Tabs w) (hs : s.length = 32) (hsb : ∀ i, s.getD i 0 < 256) (hl : lab.size ≤ 50000) :
    Calls Tryd.prog 32 #[.agg (bysA s), .string lab] w fun e w' => e = .returned (.agg (keA (drv s (purp ++ strB lab)))) ∧ Below w.heap.size w w' := by
  have hz : (bysA s).size = 32 := by rw [bysA_size, hs]
  have HT := Lib.hid hT
  have Hs := Lib.hid hs
  have Hsb := Lib.hid hsb
  obtain ⟨D, eD⟩ : ∃ y, y = drv s (purp ++ strB lab) := ⟨_, rfl⟩
  rw [← eD]
  have ED := Lib.hid eD
  clear hT hs hsb eD
  go_enter Tryd.func32, Tryd.ntmps32
  go_wp2_with fail
  generalize hS : ({ data := #[112, 105, 103, 101, 111, 110, 114, 121, 32] } : ByteArray) ++ lab = S0
  have HS0 := Lib.hid (show strB S0 = purp ++ strB lab by rw [← hS, strB_app, purp_str])
  have hS0 : S0.size ≤ 60000 := by
    have := congrArg List.length HS0.out
    rw [strB_length, List.length_append, strB_length] at this
    simp [purp] at this; omega
  clear hS
  generalize hW : World.alloc _ _ = W0
  obtain ⟨z0, hz0, hR0⟩ : ∃ c : Array Value, c.size = 32 ∧ RowAt W0 (w.heap.size + 1) c := by rw [← hW]; clear hW; exact ⟨byI (List.replicate 32 0), by simp [byI], by go_simp, by go_simp; rfl, by go_simp⟩
  have K0 := Lib.hid (show RowAt W0 (w.heap.size + 1 + 1) (bysA (zs 32)) by rw [← hW]; clear hW; exact ⟨by go_simp, by go_simp; rfl, by go_simp⟩)
  have R0 := Lib.hid hR0
  have B0 := Lib.hid (show Below w.heap.size w W0 by rw [← hW]; repeat (first | apply below_more | apply below_alloc | exact Below.refl _ _))
  clear hW hR0
  have hg1 : w.heap.size ≤ w.heap.size + 1 + 1 := by omega
  have hg2 : ¬ w.heap.size + 1 = w.heap.size + 1 + 1 := by omega
  have hg3 : w.heap.size ≤ w.heap.size + 1 := by omega
  generalize w.heap.size + 1 + 1 = t at *
  generalize w.heap.size + 1 = r at *
  obtain ⟨c, W1, hr, hby, hb1, hc⟩ := run_cvSB S0 W0
  have HE := expand_c c 32 (some ⟨W0.heap.size, 0, none⟩) s (strB S0) W1 ((HT.out.grow B0.out).grow hb1) Hs.out Hsb.out (by rw [strB_length]; omega) (strB_bts _) (Bs0.some hby) (fun h => by cases h) (by decide)
  rw [strB_length, expN_32, HS0.out, ← ED.out] at HE
  have HE := Lib.hid HE
  have R1 := Lib.hid (R0.out.grow hb1)
  have K1 := Lib.hid (K0.out.grow hb1)
  have B1 := Lib.hid (B0.out.trans (hb1.mono B0.out.size))
  clear hby hb1 hc R0 K0 hS0
  rw [hr]
  go_simp
  go_wp2_with fail
  refine HE.out.mono ?_
  rintro e W2 ⟨p, rfl, hB2, hp2, hb2⟩
  have hcp := copy_bytes (c2 := 32) (cap := 32) (d := 32) (s := 32) (k := 32) (K1.out.grow hb2) (by rw [zs_length]) (keyN_length D).symm (by rw [zs_length, keyN_length]; decide) hB2
  rw [show (keyN D).take 32 ++ (zs 32).drop 32 = keyN D by rw [List.take_of_length_le (by rw [keyN_length]; exact Nat.le_refl _), zs_drop]; simp [zs], ← keA_bys] at hcp
  have K2 := (K1.out.grow hb2).set (keA D)
  have R2 := (R1.out.grow hb2).other hg2 (keA D)
  have B2 := Lib.hid (below_setRow (B1.out.trans (hb2.mono B1.out.size)) hg1 (keA D))
  generalize W2.setRow t (keA D) = W3 at *
  obtain ⟨k1, k2, k3⟩ := K2
  obtain ⟨r1, r2, r3⟩ := R2
  clear hb2 hB2 hp2 HE K1 R1
  go_wp2_with fail
  refine bodyPost_ret (v := .agg (keA D)) (results_key Tryd.results32 (keA_size _) _ _ _ rfl (by go_simp) (by go_simp)) rfl ⟨rfl, ?_⟩
  exact below_setRow B2.out hg3 _
end Go.Proofs.YtnkfiljmgbnbkaaDoor

/-
  Package chacha, and the reference: words that are turned; rows of words, of a block, of a nonce, by value.
-/
namespace Go.Proofs.YtnkfiljmgbnbkaaDoor
open Go.RowKit Go.Hold Go.Sh Go.Ch

theorem rl_eq (x : Int) (n k : Nat) (hk : n + k = 32) : o32 (x * 2 ^ n % 4294967296) (x / 2 ^ k) = rl x n := by
  unfold o32 rl rotr
  rw [or_comm32, show 32 - n = k by omega, show 32 - k = n by omega]
set_option maxHeartbeats 400000 in
theorem rotP (x : Int) (n k : Nat) (hk : n + k = 32) (hn : 0 < n) (hk' : 0 < k) (hb : bits .and .u64 (n : Int) 31 = (n : Int)) (w : World) : Calls Tryd.prog 81 #[.int .u32 x, .int .i64 (n : Int)] w fun e w' => e = .returned (.int .u32 (rl x n)) ∧ w' = w := by
  have hs : IntKind.u64.wrap (32 - (n : Int)) = (k : Int) := by rw [IntWalk.u64_in _ (by omega)]; omega
  have hw : IntKind.u64.wrap (n : Int) = (n : Int) := IntWalk.u64_in _ (by omega)
  have h1 : (0 : Int) ≤ (k : Int) := by omega
  have h2 : (k : Int) ≤ 32 := by omega
  have h3 : (0 : Int) ≤ (n : Int) := by omega
  have h4 : (n : Int) ≤ 32 := by omega
  have hr := rl_eq x n k hk
  go_enter Tryd.func81, Tryd.ntmps81
  go_wp2_with fail
  go_ret
  exact ⟨rfl, rfl⟩
theorem rotP_16 (x : Int) (w : World) : Calls Tryd.prog 81 #[.int .u32 x, .int .i64 16] w fun e w' => e = .returned (.int .u32 (rl x 16)) ∧ w' = w := rotP x 16 16 rfl (by decide) (by decide) (by decide +kernel) w
theorem rotP_12 (x : Int) (w : World) : Calls Tryd.prog 81 #[.int .u32 x, .int .i64 12] w fun e w' => e = .returned (.int .u32 (rl x 12)) ∧ w' = w := rotP x 12 20 rfl (by decide) (by decide) (by decide +kernel) w
theorem rotP_8 (x : Int) (w : World) : Calls Tryd.prog 81 #[.int .u32 x, .int .i64 8] w fun e w' => e = .returned (.int .u32 (rl x 8)) ∧ w' = w := rotP x 8 24 rfl (by decide) (by decide) (by decide +kernel) w
theorem rotP_7 (x : Int) (w : World) : Calls Tryd.prog 81 #[.int .u32 x, .int .i64 7] w fun e w' => e = .returned (.int .u32 (rl x 7)) ∧ w' = w := rotP x 7 25 rfl (by decide) (by decide) (by decide +kernel) w

/-! ### Whole rows -/
@[go_sem ↓] theorem loadAt_cw (v : Value) : Instr.loadAt 98 v = loadRow 98 v := rfl
@[go_sem ↓] theorem loadAt_b64 (v : Value) : Instr.loadAt 82 v = loadRow 82 v := rfl
@[go_sem ↓] theorem loadAt_non (v : Value) : Instr.loadAt 35 v = loadRow 35 v := rfl
@[go_sem] theorem run_loadCw (w : World) (n : Nat) (h1 : w.isRow n = true) (h2 : (w.rowOf n).size = 16) : (loadRow 98 (.pointer (some ⟨n, 0, none⟩))).run Tryd.prog w = .ok (.agg (w.rowOf n)) w := run_loadRow w Tryd.underlying98 rfl (by kernel_rfl) n h1 h2
@[go_sem] theorem run_loadB64 (w : World) (n : Nat) (h1 : w.isRow n = true) (h2 : (w.rowOf n).size = 64) : (loadRow 82 (.pointer (some ⟨n, 0, none⟩))).run Tryd.prog w = .ok (.agg (w.rowOf n)) w := run_loadRow w Tryd.underlying82 rfl (by kernel_rfl) n h1 h2
@[go_sem] theorem run_loadNon (w : World) (n : Nat) (h1 : w.isRow n = true) (h2 : (w.rowOf n).size = 12) : (loadRow 35 (.pointer (some ⟨n, 0, none⟩))).run Tryd.prog w = .ok (.agg (w.rowOf n)) w := run_loadRow w Tryd.underlying35 rfl (by kernel_rfl) n h1 h2
@[go_sem ↓] theorem loadAt_b12 (v : Value) : Instr.loadAt 34 v = loadRow 34 v := rfl
@[go_sem] theorem run_loadB12 (w : World) (n : Nat) (h1 : w.isRow n = true) (h2 : (w.rowOf n).size = 12) : (loadRow 34 (.pointer (some ⟨n, 0, none⟩))).run Tryd.prog w = .ok (.agg (w.rowOf n)) w := run_loadRow w Tryd.underlying34 rfl (by kernel_rfl) n h1 h2
theorem results_cw {fn : Func} {p : Tmp} {cs : Array Value} (h : fn.results = #[.cell p 98]) (hc : cs.size = 16) (w : World) (tmps : Array Value) (n : Nat) (hp : tmps.getD p undef = .pointer (some ⟨n, 0, none⟩)) (h1 : w.isRow n = true) (h2 : w.rowOf n = cs) : (results fn tmps).run Tryd.prog w = .ok (.agg cs) w :=
  results_row w h Tryd.underlying98 rfl (by rw [hc]; kernel_rfl) tmps n hp h1 h2
theorem results_b64 {fn : Func} {p : Tmp} {cs : Array Value} (h : fn.results = #[.cell p 82]) (hc : cs.size = 64) (w : World) (tmps : Array Value) (n : Nat) (hp : tmps.getD p undef = .pointer (some ⟨n, 0, none⟩)) (h1 : w.isRow n = true) (h2 : w.rowOf n = cs) : (results fn tmps).run Tryd.prog w = .ok (.agg cs) w :=
  results_row w h Tryd.underlying82 rfl (by rw [hc]; kernel_rfl) tmps n hp h1 h2
@[go_sem ↓] theorem build_cw (ps : Array (Nat × Value)) : Instr.build 98 ps = bldA 98 ps := rfl
set_option maxRecDepth 100000 in
@[go_sem] theorem run_bldCw (w : World) : (bldA 98 #[(0, .int .u32 1634760805), (1, .int .u32 857760878), (2, .int .u32 2036477234), (3, .int .u32 1797285236)]).run Tryd.prog w = .ok (.agg (wosA cst0)) w := run_build w _ _ _ (by kernel_rfl)
theorem bysA_size' {l : List Nat} {n : Nat} (h : l.length = n) : (bysA l).size = n := by rw [bysA_size, h]
theorem wosA_size' {l : List Int} {n : Nat} (h : l.length = n) : (wosA l).size = n := by rw [wosA_size, h]
end Go.Proofs.YtnkfiljmgbnbkaaDoor

/-
  Package chacha: bytes are put into words.
-/
namespace Go.Proofs.YtnkfiljmgbnbkaaDoor
open Go.RowKit Go.Hold Go.Sh Go.Ch

set_option maxHeartbeats 1000000 in
set_option maxRecDepth 100000 in
theorem put_c (g b a n cap : Nat) (s : List Int) (l : List Nat) (w : World) (hn : n = l.length) (hs : s.length = 16) (hz : ∀ j, a ≤ j → s.getD j 0 = 0) (ha : a + (n + 3) / 4 ≤ 16) (hlb : ∀ i, l.getD i 0 < 256) (h : RowAt w g (wosA s)) (hB : BytesAt w b 0 l) (hbg : b ≠ g) :
    Calls Tryd.prog 74 #[.pointer (some ⟨g, 0, none⟩), .int .i64 (a : Int), .slice (some ⟨b, 0, none⟩) n cap] w fun e w' => e = .returned (.tuple #[]) ∧ Sets w g (wosA (wput s a l n)) w' := by
  have H := Lib.hid h
  have HB := Lib.hid hB
  have Hn := Lib.hid hn
  have S0 := Lib.hid (show Sets w g (wosA (wput s a l 0)) w by rw [wput_zero s a l hs hz]; exact Sets.refl h)
  clear h hB hn hs hz
  go_enter Tryd.func74, Tryd.ntmps74
  go_wp2_with fail
  go_loopw [10] (fun i wr => ∃ k : Nat, k ≤ n ∧ i = .int .i64 k ∧ Sets w g (wosA (wput s a l k)) wr) (fun i _ => n - (intOf i).toNat)
  case atStart => exact ⟨0, by omega, rfl, S0.out⟩
  case round =>
    obtain ⟨k, hk, rfl, hset⟩ := hrel
    by_cases hkn : k < n
    · have hk0 : (0 : Int) ≤ (k : Int) := by omega
      have hk1 : (k : Int) < (n : Int) := by omega
      have hkl : k < l.length := by rw [← Hn.out]; exact hkn
      have hrow := hset.row H.out
      have hcb : wr.cell? ⟨b, k, none⟩ = some (.int .u8 ((l.getD k 0 : Nat) : Int)) := by
        have := (hset.bytes HB.out hbg).2 k hkl
        rwa [Nat.zero_add] at this
      have hq : (k : Int).tdiv 4 = ((k / 4 : Nat) : Int) := rfl
      have hm : (k : Int).tmod 4 = ((k % 4 : Nat) : Int) := rfl
      have hc := hrow.cellAt (a + k / 4) (wosA_get' _ _ (wput_get s a l k (a + k / 4) (by omega)))
      rw [if_neg (by omega), show a + k / 4 - a = k / 4 by omega, show k - 4 * (k / 4) = k % 4 by omega] at hc
      have hf := hrow.frozenAt (a + k / 4)
      have hst := wput_step l hlb k
      have Hset := Lib.hid (wput_set s a l k (by omega))
      have hlt := hlb k
      generalize l.getD k 0 = y at hcb hst hlt
      have hyw : IntKind.u32.wrap (y : Int) = (y : Int) := IntWalk.u32_in _ (by omega)
      have hm3 : k % 4 < 4 := by omega
      generalize pkl l (k / 4) (k % 4) = p at hc hst
      generalize ((pkl l (k / 4) (k % 4 + 1) : Nat) : Int) = p' at hst Hset
      have hq4 : a + k / 4 < 16 := by omega
      generalize k / 4 = q at *
      generalize k % 4 = r at *
      obtain ⟨x, ex⟩ : ∃ x, x = a + q := ⟨_, rfl⟩
      rw [← ex] at hc hf hq4 Hset
      have hqw : IntKind.i64.wrap (q : Int) = (q : Int) := IntWalk.i64_in _ (by omega)
      have hx : IntKind.i64.wrap ((a : Int) + (q : Int)) = (x : Int) := by rw [IntWalk.i64_in _ (by omega)]; omega
      have hx0 : (0 : Int) ≤ (x : Int) := by omega
      have hx1 : (x : Int) < 16 := by omega
      obtain ⟨m, em⟩ : ∃ m, m = r * 8 := ⟨_, rfl⟩
      rw [← em] at hst
      have hmw : IntKind.i64.wrap ((r : Int) * 8) = (m : Int) := by rw [IntWalk.i64_in _ (by omega)]; omega
      have hm0 : (0 : Int) ≤ (m : Int) := by omega
      have hm1 : (m : Int) ≤ 32 := by omega
      have Hset2 := Lib.hid hset
      have hgl := hrow.2.2
      clear ex em hset hrow hkl
      go_wp2_with fail
      refine wp_region_pick wr [0, 1, 2, 3, 4, 5, 6, 7, 8, 9, 10, 11, 12, 13, 14, 15, 16] [false, false, false, false, false, false, false, false, false, false, false, false, false, false, false, false, false] [] [] 17 (by kernel_rfl) rfl (by kernel_rfl) (by intro c a d v w h; cases d <;> exact h) ((Below.refl _ _).drew) ?_
      simp only [pick, List.getElem?_cons_succ, List.getElem?_cons_zero, List.drop_succ_cons, List.drop_zero]
      iterate 17 (refine wpHoldF_val (wanted_none rfl) (by intro K o d hK; go_simp; exact hK _ (Below.refl _ _)) ?_)
      refine wpHoldF_nil ?_
      intro w2 hb2 _
      have S2 := Lib.hid (Hset2.out.grow hb2)
      have hc2 : w2.cell? ⟨g, x, none⟩ = some (.int .u32 (p : Int)) := by rw [hb2.cell hgl]; exact hc
      have hf2 := (S2.out.row H.out).frozenAt x
      clear hb2 hc hf Hset2
      go_wp2_with fail
      go_roundw
      case rel =>
        refine ⟨k + 1, by omega, by go_num, ?_⟩
        rw [← Hset.out, ← wosA_set]; exact S2.out.cell H.out
      case measure => simp [intOf]; omega
    · obtain rfl : k = n := by omega
      have HS := Lib.hid hset
      clear hset
      go_wp2_with fail
      go_end0
      exact ⟨rfl, HS.out⟩
end Go.Proofs.YtnkfiljmgbnbkaaDoor

/-
  Package chacha: a quarter.
-/
namespace Go.Proofs.YtnkfiljmgbnbkaaDoor
open Go.RowKit Go.Hold Go.Sh Go.Ch

theorem quart_eq (s : List Int) (i j k l : Nat) : quart s i j k l = (((s.set i (qr (s.getD i 0) (s.getD j 0) (s.getD k 0) (s.getD l 0)).a).set j (qr (s.getD i 0) (s.getD j 0) (s.getD k 0) (s.getD l 0)).b).set k (qr (s.getD i 0) (s.getD j 0) (s.getD k 0) (s.getD l 0)).c).set l (qr (s.getD i 0) (s.getD j 0) (s.getD k 0) (s.getD l 0)).d := rfl
theorem wos_cell {w : World} {g : Nat} {s : List Int} (h : RowAt w g (wosA s)) (i : Nat) (hi : i < s.length) : w.cell? ⟨g, i, none⟩ = some (.int .u32 (s.getD i 0)) := h.cellAt i (wosA_get s i hi)
set_option maxHeartbeats 1000000 in
set_option maxRecDepth 100000 in
theorem quarter_c (g i j k l : Nat) (s : List Int) (w : World) (hs : s.length = 16) (hi : i < j) (hj : j < k) (hk : k < l) (hl : l < 16) (h : RowAt w g (wosA s)) :
    Calls Tryd.prog 75 #[.pointer (some ⟨g, 0, none⟩), .int .i64 (i : Int), .int .i64 (j : Int), .int .i64 (k : Int), .int .i64 (l : Int)] w fun e w' => e = .returned (.tuple #[]) ∧ Sets w g (wosA (quart s i j k l)) w' := by
  have H := Lib.hid h
  have Hq := Lib.hid (quart_eq s i j k l)
  have Hs := Lib.hid hs
  have hi0 : (0 : Int) ≤ (i : Int) := by omega
  have hi1 : (i : Int) < 16 := by omega
  have hj0 : (0 : Int) ≤ (j : Int) := by omega
  have hj1 : (j : Int) < 16 := by omega
  have hk0 : (0 : Int) ≤ (k : Int) := by omega
  have hk1 : (k : Int) < 16 := by omega
  have hl0 : (0 : Int) ≤ (l : Int) := by omega
  have hl1 : (l : Int) < 16 := by omega
  have hci := wos_cell h i (by omega)
  have hcj := wos_cell h j (by omega)
  have hck := wos_cell h k (by omega)
  have hcl := wos_cell h l (by omega)
  have hgl := h.2.2
  generalize s.getD i 0 = a0 at *
  generalize s.getD j 0 = b0 at *
  generalize s.getD k 0 = c0 at *
  generalize s.getD l 0 = d0 at *
  have n1 : ¬ i = j := by omega
  have n2 : ¬ i = k := by omega
  have n3 : ¬ i = l := by omega
  have n4 : ¬ j = k := by omega
  have n5 : ¬ j = l := by omega
  have n6 : ¬ k = l := by omega
  clear h hs
  go_enter Tryd.func75, Tryd.ntmps75
  go_wp2_with fail
  refine wp_region_fast (fun w' => ∃ o d, w' = w.plus o d) (by kernel_rfl) (by kernel_rfl) ⟨#[], _, rfl⟩ ?_
  iterate 24 (refine wpHold_val ⟨_, #[], 0, rfl⟩ (wanted_none rfl) (by rintro K _ ⟨o, d, rfl⟩ hK; go_simp; exact hK _ ⟨o, d, rfl⟩) ?_)
  refine wpHold_nil ?_
  rintro _ ⟨o1, n1, rfl⟩
  have S1 := Lib.hid ((Sets.refl H.out).grow (below_more (Below.refl _ _) o1 n1))
  clear hci hcj hck hcl
  generalize w.plus o1 n1 = W1 at *
  go_wp2_with fail
  refine (rotP_16 _ _).mono ?_
  rintro e w' ⟨rfl, hwE⟩
  rw [hwE]
  clear hwE w'
  go_wp2_with fail
  refine (rotP_12 _ _).mono ?_
  rintro e w' ⟨rfl, hwE⟩
  rw [hwE]
  clear hwE w'
  go_wp2_with fail
  refine (rotP_8 _ _).mono ?_
  rintro e w' ⟨rfl, hwE⟩
  rw [hwE]
  clear hwE w'
  go_wp2_with fail
  refine (rotP_7 _ _).mono ?_
  rintro e w' ⟨rfl, hwE⟩
  rw [hwE]
  clear hwE w'
  go_wp2_with fail
  refine wp_region_pickT W1 [0, 1, 2, 3, 4, 5, 6, 7, 8, 9, 10, 11, 12, 15, 18, 21] [true, true, true, true, true, true, true, true, true, true, true, true, true, true, true, true] [13, 14, 16, 17, 19, 20, 22, 23] (by kernel_rfl) (by kernel_rfl) (by intro c a d v w h; cases d <;> exact h) ((Below.refl _ _).drew) ?_
  simp only [pick, List.getElem?_cons_succ, List.getElem?_cons_zero]
  iterate 16 (refine wpHoldF_late (wanted_none rfl) (fun w => by go_simp; rfl) ?_)
  refine wpHoldF_nil ?_
  intro W2 hb2
  have S2 := Lib.hid (S1.out.grow hb2)
  have R2 := S2.out.row H.out
  have hci := wos_cell R2 i (by rw [Hs.out]; omega)
  have hcj := wos_cell R2 j (by rw [Hs.out]; omega)
  have hck := wos_cell R2 k (by rw [Hs.out]; omega)
  have hcl := wos_cell R2 l (by rw [Hs.out]; omega)
  have hfi := R2.frozenAt i
  have hfj := R2.frozenAt j
  have hfk := R2.frozenAt k
  have hfl := R2.frozenAt l
  clear hb2 R2 S1
  go_wp2_with fail
  go_end0
  refine ⟨rfl, ?_⟩
  have h4 := (((S2.out.cell (i := i) (v := .int .u32 (qr a0 b0 c0 d0).a) H.out).cell (i := j) (v := .int .u32 (qr a0 b0 c0 d0).b) H.out).cell (i := k) (v := .int .u32 (qr a0 b0 c0 d0).c) H.out).cell (i := l) (v := .int .u32 (qr a0 b0 c0 d0).d) H.out
  rw [wosA_set, wosA_set, wosA_set, wosA_set, ← Hq.out] at h4
  exact h4
end Go.Proofs.YtnkfiljmgbnbkaaDoor

/-
  Package chacha: a double round; words as bytes.
-/
namespace Go.Proofs.YtnkfiljmgbnbkaaDoor
open Go.RowKit Go.Hold Go.Sh Go.Ch

set_option maxHeartbeats 1000000 in
set_option maxRecDepth 100000 in
theorem doubleRound_c (g : Nat) (s : List Int) (w : World) (hs : s.length = 16) (h : RowAt w g (wosA s)) :
    Calls Tryd.prog 64 #[.pointer (some ⟨g, 0, none⟩)] w fun e w' => e = .returned (.tuple #[]) ∧ Sets w g (wosA (drnd s)) w' := by
  have H := Lib.hid h
  have Hs := Lib.hid hs
  clear h hs
  go_enter Tryd.func64, Tryd.ntmps64
  go_wp2_with fail
  go_loopw [4] (fun i wr => ∃ n : Nat, n ≤ 4 ∧ i = .int .i64 n ∧ Sets w g (wosA (cols s n)) wr) (fun i _ => 4 - (intOf i).toNat)
  case atStart => exact ⟨0, by decide, rfl, Sets.refl H.out⟩
  case round =>
    obtain ⟨n, hn, rfl, hset⟩ := hrel
    by_cases hn4 : n < 4
    · have hn0 : (n : Int) < 4 := by omega
      have h1 : IntKind.i64.wrap (4 + (n : Int)) = ((4 + n : Nat) : Int) := by rw [IntWalk.i64_in _ (by omega)]; omega
      have h2 : IntKind.i64.wrap (8 + (n : Int)) = ((8 + n : Nat) : Int) := by rw [IntWalk.i64_in _ (by omega)]; omega
      have h3 : IntKind.i64.wrap (12 + (n : Int)) = ((12 + n : Nat) : Int) := by rw [IntWalk.i64_in _ (by omega)]; omega
      have HQ := Lib.hid (quarter_c g n (4 + n) (8 + n) (12 + n) (cols s n) wr (by rw [cols_length, Hs.out]) (by omega) (by omega) (by omega) (by omega) (hset.row H.out))
      have HE := Lib.hid (show cols s (n + 1) = quart (cols s n) n (4 + n) (8 + n) (12 + n) from rfl)
      generalize ((4 + n : Nat) : Int) = x1 at *
      generalize ((8 + n : Nat) : Int) = x2 at *
      generalize ((12 + n : Nat) : Int) = x3 at *
      have HS := Lib.hid hset
      clear hset
      go_wp2_with fail
      refine HQ.out.mono ?_
      rintro e W ⟨rfl, hW⟩
      have HW := Lib.hid (HS.out.trans H.out hW)
      clear hW
      go_wp2_with fail
      go_roundw
      case rel => exact ⟨n + 1, by omega, by go_num, by rw [HE.out]; exact HW.out⟩
      case measure => simp [intOf]; omega
    · obtain rfl : n = 4 := by omega
      have HS := Lib.hid hset
      clear hset
      rw [show ((4 : Nat) : Int) = 4 from rfl]
      go_wp2_with fail
      obtain ⟨W2, eW2⟩ : ∃ x, x = wr := ⟨_, rfl⟩
      rw [← eW2] at HS ⊢
      clear eW2
      go_loopw [17] (fun i wr => ∃ n : Nat, n ≤ 4 ∧ i = .int .i64 n ∧ Sets w g (wosA (dias (cols s 4) n)) wr) (fun i _ => 4 - (intOf i).toNat)
      case atStart => exact ⟨0, by decide, rfl, HS.out⟩
      case round =>
        obtain ⟨n, hn, rfl, hset⟩ := hrel
        by_cases hn4 : n < 4
        · have hn0 : (n : Int) < 4 := by omega
          have h1 : IntKind.i64.wrap ((n : Int) + 1) = ((n + 1 : Nat) : Int) := by rw [IntWalk.i64_in _ (by omega)]; omega
          have h2 : IntKind.i64.wrap ((n : Int) + 2) = ((n + 2 : Nat) : Int) := by rw [IntWalk.i64_in _ (by omega)]; omega
          have h3 : IntKind.i64.wrap ((n : Int) + 3) = ((n + 3 : Nat) : Int) := by rw [IntWalk.i64_in _ (by omega)]; omega
          have t1 : ((n + 1 : Nat) : Int).tmod 4 = (((n + 1) % 4 : Nat) : Int) := rfl
          have t2 : ((n + 2 : Nat) : Int).tmod 4 = (((n + 2) % 4 : Nat) : Int) := rfl
          have t3 : ((n + 3 : Nat) : Int).tmod 4 = (((n + 3) % 4 : Nat) : Int) := rfl
          have m1 : IntKind.i64.wrap (4 + (((n + 1) % 4 : Nat) : Int)) = ((4 + (n + 1) % 4 : Nat) : Int) := by rw [IntWalk.i64_in _ (by omega)]; omega
          have m2 : IntKind.i64.wrap (8 + (((n + 2) % 4 : Nat) : Int)) = ((8 + (n + 2) % 4 : Nat) : Int) := by rw [IntWalk.i64_in _ (by omega)]; omega
          have m3 : IntKind.i64.wrap (12 + (((n + 3) % 4 : Nat) : Int)) = ((12 + (n + 3) % 4 : Nat) : Int) := by rw [IntWalk.i64_in _ (by omega)]; omega
          have HQ := Lib.hid (quarter_c g n (4 + (n + 1) % 4) (8 + (n + 2) % 4) (12 + (n + 3) % 4) (dias (cols s 4) n) wr (by rw [dias_length, cols_length, Hs.out]) (by omega) (by omega) (by omega) (by omega) (hset.row H.out))
          have HE := Lib.hid (show dias (cols s 4) (n + 1) = quart (dias (cols s 4) n) n (4 + (n + 1) % 4) (8 + (n + 2) % 4) (12 + (n + 3) % 4) from rfl)
          generalize ((4 + (n + 1) % 4 : Nat) : Int) = x1 at *
          generalize ((8 + (n + 2) % 4 : Nat) : Int) = x2 at *
          generalize ((12 + (n + 3) % 4 : Nat) : Int) = x3 at *
          generalize (((n + 1) % 4 : Nat) : Int) = y1 at *
          generalize (((n + 2) % 4 : Nat) : Int) = y2 at *
          generalize (((n + 3) % 4 : Nat) : Int) = y3 at *
          generalize ez1 : ((n + 1 : Nat) : Int) = z1 at *
          have Ez1 := Lib.hid ez1
          clear ez1
          generalize ((n + 2 : Nat) : Int) = z2 at *
          generalize ((n + 3 : Nat) : Int) = z3 at *
          have HS := Lib.hid hset
          clear hset
          go_wp2_with fail
          refine HQ.out.mono ?_
          rintro e W ⟨rfl, hW⟩
          have HW := Lib.hid (HS.out.trans H.out hW)
          clear hW
          go_wp2_with fail
          go_roundw
          case rel => exact ⟨n + 1, by omega, by rw [Ez1.out], by rw [HE.out]; exact HW.out⟩
          case measure => have := Ez1.out; simp [intOf]; omega
        · obtain rfl : n = 4 := by omega
          have HS := Lib.hid hset
          clear hset
          go_wp2_with fail
          go_end0
          exact ⟨rfl, HS.out⟩

set_option maxHeartbeats 1000000 in
set_option maxRecDepth 100000 in
theorem wblock_c (s : List Int) (hs : s.length = 16) (w : World) :
    Calls Tryd.prog 65 #[.agg (wosA s)] w fun e w' => e = .returned (.agg (bysA (outB s))) ∧ Below w.heap.size w w' := by
  have hsz := wosA_size' hs
  go_enter Tryd.func65, Tryd.ntmps65
  go_wp2_with fail
  generalize hW : World.alloc _ _ = W1
  have R0 := Lib.hid (show RowAt W1 w.heap.size (wosA s) by rw [← hW]; clear hW; exact ⟨by go_simp, by go_simp, by go_simp⟩)
  have Q0 := Lib.hid (show RowAt W1 (w.heap.size + 1) (bysA (outP s 0)) by rw [← hW, outP_zero]; clear hW; exact ⟨by go_simp, by go_simp; rfl, by go_simp⟩)
  have K0 := Lib.hid (show RowAt W1 (w.heap.size + 1 + 1) (bysA (outP s 0)) by rw [← hW, outP_zero]; clear hW; exact ⟨by go_simp, by go_simp; rfl, by go_simp⟩)
  have B0 := Lib.hid (show Below w.heap.size w W1 by rw [← hW]; repeat (first | apply below_more | apply below_alloc | apply Below.drew | exact Below.refl _ _))
  clear hW
  go_loopw [5] (fun i wr => ∃ k : Nat, k ≤ 64 ∧ i = .int .i64 k ∧ RowAt wr (w.heap.size + 1 + 1) (bysA (outP s k)) ∧ Below (w.heap.size + 1 + 1) W1 wr) (fun i _ => 64 - (intOf i).toNat)
  case atStart => exact ⟨0, by decide, rfl, K0.out, Below.refl _ _⟩
  case round =>
    obtain ⟨k, hk, rfl, hrow, hbel⟩ := hrel
    by_cases hk64 : k < 64
    · have hk0 : (0 : Int) ≤ (k : Int) := by omega
      have hk1 : (k : Int) < 64 := by omega
      have hq : (k : Int).tdiv 4 = ((k / 4 : Nat) : Int) := rfl
      have hm : (k : Int).tmod 4 = ((k % 4 : Nat) : Int) := rfl
      have hc := wos_cell (R0.out.keep hbel (by omega)) (k / 4) (by omega)
      have hck := hrow.cellAt k (bysA_get _ k (by rw [outP_length]; exact hk64))
      have hfk := hrow.frozenAt k
      have Hset := Lib.hid (outP_set s k hk64)
      have h0 : (0 : Int) ≤ ((k / 4 : Nat) : Int) := by omega
      have h8 : ((k / 4 : Nat) : Int) < 16 := by omega
      obtain ⟨m, em⟩ : ∃ y, y = k % 4 * 8 := ⟨_, rfl⟩
      have h1 : IntKind.i64.wrap (((k % 4 : Nat) : Int) * 8) = (m : Int) := by rw [IntWalk.i64_in _ (by omega)]; omega
      have hm0 : (0 : Int) ≤ (m : Int) := by omega
      have hm1 : (m : Int) ≤ 32 := by omega
      obtain ⟨v, ev⟩ : ∃ v, v = oB s k := ⟨_, rfl⟩
      rw [← ev] at Hset
      have hv : s.getD (k / 4) 0 / 2 ^ m % 256 = (v : Int) := by rw [ev, oI_nat, em]; rfl
      clear em ev
      generalize s.getD (k / 4) 0 = x at hc hv
      have hqw : IntKind.i64.wrap ((k / 4 : Nat) : Int) = ((k / 4 : Nat) : Int) := IntWalk.i64_in _ (by omega)
      generalize k / 4 = q at *
      generalize k % 4 = r4 at *
      have Hrow := Lib.hid hrow
      have Hbel := Lib.hid hbel
      clear hrow hbel
      go_wp2_with fail
      go_roundw
      case rel =>
        refine ⟨k + 1, by omega, by go_num, ?_, ?_⟩
        · rw [← Hset.out, ← bysA_set]; exact Hrow.out.setCell _ _
        · exact Hbel.out.setCell (p := ⟨_, _, none⟩) (Nat.le_refl _) _
      case measure => simp [intOf]; omega
    · obtain rfl : k = 64 := by omega
      rw [outP_all] at hrow
      obtain ⟨q1, q2, q3⟩ := Q0.out.keep hbel (by omega)
      obtain ⟨r1, r2, r3⟩ := hrow
      have hz := bysA_size' (outP_length s 0)
      have hy := bysA_size' (outB_length s)
      have Hbel := Lib.hid hbel
      clear hbel
      go_wp2_with fail
      refine bodyPost_ret (v := .agg (bysA (outB s))) (results_b64 Tryd.results65 hy _ _ _ rfl (by go_simp) (by go_simp)) rfl ⟨rfl, ?_⟩
      exact below_setRow (B0.out.trans (Hbel.out.mono (by omega))) (by omega) _
end Go.Proofs.YtnkfiljmgbnbkaaDoor

/-
  Package chacha: a block's first words; a block.
-/
namespace Go.Proofs.YtnkfiljmgbnbkaaDoor
open Go.RowKit Go.Hold Go.Sh Go.Ch

set_option maxHeartbeats 1000000 in
set_option maxRecDepth 100000 in
theorem firstWords_c (k n : List Nat) (c : Int) (hk : k.length = 32) (hkb : ∀ i, k.getD i 0 < 256) (hn : n.length = 12) (hnb : ∀ i, n.getD i 0 < 256) (w : World) :
    Calls Tryd.prog 63 #[.agg (bysA k), .agg (bysA n), .int .u32 c] w fun e w' => e = .returned (.agg (wosA (fst k n c))) ∧ Below w.heap.size w w' := by
  have hks := bysA_size' hk
  have hns := bysA_size' hn
  have hcs := wosA_size' cst0_length
  go_enter Tryd.func63, Tryd.ntmps63
  go_wp2_with fail
  generalize hW : World.alloc _ _ = W1
  have K1 := Lib.hid (show RowAt W1 w.heap.size (bysA k) by rw [← hW]; clear hW; exact ⟨by go_simp, by go_simp, by go_simp⟩)
  have N1 := Lib.hid (show RowAt W1 (w.heap.size + 1) (bysA n) by rw [← hW]; clear hW; exact ⟨by go_simp, by go_simp, by go_simp⟩)
  obtain ⟨z0, hz0, hR0⟩ : ∃ c : Array Value, c.size = 16 ∧ RowAt W1 (w.heap.size + 1 + 1) c := by rw [← hW]; clear hW; exact ⟨wosA (List.replicate 16 0), by rw [wosA_size]; rfl, by go_simp, by go_simp; rfl, by go_simp⟩
  have C1 := Lib.hid (show RowAt W1 (w.heap.size + 1 + 1 + 1) (wosA cst0) by rw [← hW]; clear hW; exact ⟨by go_simp, by go_simp, by go_simp⟩)
  have B1 := Lib.hid (show Below w.heap.size w W1 by rw [← hW]; repeat (first | apply below_more | apply below_alloc | apply Below.drew | exact Below.refl _ _))
  have R1 := Lib.hid hR0
  clear hW hR0
  have l0 : w.heap.size ≤ w.heap.size + 1 + 1 + 1 := by omega
  have l1 : w.heap.size ≤ w.heap.size + 1 + 1 := by omega
  have e0 : w.heap.size ≠ w.heap.size + 1 + 1 + 1 := by omega
  have e1 : w.heap.size + 1 ≠ w.heap.size + 1 + 1 + 1 := by omega
  have e2 : w.heap.size + 1 + 1 ≠ w.heap.size + 1 + 1 + 1 := by omega
  generalize w.heap.size + 1 + 1 + 1 = gc at *
  generalize w.heap.size + 1 + 1 = gr at *
  generalize w.heap.size + 1 = gn at *
  have HP := Lib.hid (put_c gc w.heap.size 4 32 32 cst0 k W1 hk.symm cst0_length cst0_zero (by decide) hkb C1.out (bytes_row K1.out) e0)
  refine HP.out.mono ?_
  rintro e W2 ⟨rfl, hS2⟩
  have N2 := Lib.hid (hS2.old N1.out e1)
  have R2 := Lib.hid (hS2.old R1.out e2)
  have C2 := Lib.hid (hS2.row C1.out)
  have B2 := Lib.hid (hS2.below B1.out l0 B1.out.size)
  clear hS2 HP K1 N1 R1 C1 B1
  have hc12 := wos_cell C2.out 12 (by rw [wput_length]; decide)
  have hf12 := C2.out.frozenAt 12
  have S3 := Lib.hid ((Sets.refl C2.out).cell (i := 12) (v := .int .u32 c) C2.out)
  go_wp2_with fail
  generalize hW : World.setCell _ _ _ = W3
  rw [hW] at S3
  clear hW hc12 hf12
  have hS3 := S3.out
  rw [wosA_set] at hS3
  have N3 := Lib.hid (hS3.old N2.out e1)
  have R3 := Lib.hid (hS3.old R2.out e2)
  have C3 := Lib.hid (show RowAt W3 gc (wosA (mid k c)) from hS3.row C2.out)
  have B3 := Lib.hid (hS3.below B2.out l0 B2.out.size)
  clear hS3 S3 N2 R2 C2 B2
  have HP := Lib.hid (put_c gc gn 13 12 12 (mid k c) n W3 hn.symm (mid_length k c) (mid_zero k c) (by decide) hnb C3.out (bytes_row N3.out) e1)
  rw [nonce_in] at HP
  refine HP.out.mono ?_
  rintro e W4 ⟨rfl, hS4⟩
  obtain ⟨r1, r2, r3⟩ := hS4.old R3.out e2
  obtain ⟨c1, c2, c3⟩ := hS4.row C3.out
  have B4 := Lib.hid (hS4.below B3.out l0 B3.out.size)
  have hfz := wosA_size' (fst_length k n c)
  clear hS4 HP N3 R3 C3 B3
  go_wp2_with fail
  refine bodyPost_ret (v := .agg (wosA (fst k n c))) (results_cw Tryd.results63 hfz _ _ _ rfl (by go_simp) (by go_simp)) rfl ⟨rfl, ?_⟩
  exact below_setRow B4.out l1 _

set_option maxHeartbeats 1000000 in
set_option maxRecDepth 100000 in
theorem chablock_c (k n : List Nat) (c : Nat) (hk : k.length = 32) (hkb : ∀ i, k.getD i 0 < 256) (hn : n.length = 12) (hnb : ∀ i, n.getD i 0 < 256) (w : World) :
    Calls Tryd.prog 55 #[.agg (bysA k), .agg (bysA n), .int .u32 (c : Int)] w fun e w' => e = .returned (.agg (bysA (blk k n c))) ∧ Below w.heap.size w w' := by
  have hks := bysA_size' hk
  have hns := bysA_size' hn
  have HF := Lib.hid (firstWords_c k n (c : Int) hk hkb hn hnb)
  have Hb := Lib.hid (blk_eq k n c)
  have hlf := fst_length k n (c : Int)
  generalize fst k n (c : Int) = F at *
  have hFs := wosA_size' hlf
  have Hlf := Lib.hid hlf
  clear hlf hk hkb hn hnb
  go_enter Tryd.func55, Tryd.ntmps55
  go_wp2_with fail
  generalize hW : World.alloc _ _ = W1
  obtain ⟨z0, hz0, hR0⟩ : ∃ c : Array Value, c.size = 64 ∧ RowAt W1 (w.heap.size + 1 + 1) c := by rw [← hW]; clear hW; exact ⟨bysA (zs 64), by rw [bysA_size]; rfl, by go_simp, by go_simp; rfl, by go_simp⟩
  have R1 := Lib.hid hR0
  have B1 := Lib.hid (show Below w.heap.size w W1 by rw [← hW]; repeat (first | apply below_more | apply below_alloc | apply Below.drew | exact Below.refl _ _))
  clear hW hR0
  have l1 : w.heap.size ≤ w.heap.size + 1 + 1 := by omega
  generalize w.heap.size + 1 + 1 = gr at *
  refine (HF.out _).mono ?_
  rintro e W2 ⟨rfl, hb2⟩
  have R2 := Lib.hid (R1.out.grow hb2)
  have B2 := Lib.hid (B1.out.trans (hb2.mono B1.out.size))
  clear hb2 R1 B1 HF
  have l2 : w.heap.size ≤ W2.heap.size := B2.out.size
  have l3 : gr < W2.heap.size := R2.out.2.2
  go_wp2_with fail
  generalize hW : World.alloc _ _ = W3
  have F3 := Lib.hid (show RowAt W3 W2.heap.size (wosA F) by rw [← hW]; clear hW; exact ⟨by go_simp, by go_simp, by go_simp⟩)
  have C3 := Lib.hid (show RowAt W3 (W2.heap.size + 1) (wosA F) by rw [← hW]; clear hW; exact ⟨by go_simp, by go_simp, by go_simp⟩)
  have R3 := Lib.hid (show RowAt W3 gr z0 by rw [← hW]; exact R2.out.grow (below_alloc (below_alloc (Below.refl _ _) _) _))
  have B3 := Lib.hid (show Below w.heap.size w W3 by rw [← hW]; exact below_alloc (below_alloc B2.out _) _)
  clear hW R2 B2
  have e1 : gr ≠ W2.heap.size + 1 := by omega
  have e2 : W2.heap.size ≠ W2.heap.size + 1 := by omega
  have l4 : w.heap.size ≤ W2.heap.size + 1 := by omega
  generalize W2.heap.size + 1 = gc at *
  generalize W2.heap.size = gf at *
  go_loopw [15] (fun i wr => ∃ m : Nat, m ≤ 10 ∧ i = .int .i64 m ∧ Sets W3 gc (wosA (drnds F m)) wr) (fun i _ => 10 - (intOf i).toNat)
  case atStart => exact ⟨0, by decide, rfl, Sets.refl C3.out⟩
  case round =>
    obtain ⟨m, hm, rfl, hset⟩ := hrel
    by_cases hm10 : m < 10
    · have hm0 : (m : Int) < 10 := by omega
      have HQ := Lib.hid (doubleRound_c gc (drnds F m) wr (by rw [drnds_length, Hlf.out]) (hset.row C3.out))
      have HS := Lib.hid hset
      clear hset
      go_wp2_with fail
      refine HQ.out.mono ?_
      rintro e W ⟨rfl, hW⟩
      have HW := Lib.hid (HS.out.trans C3.out hW)
      clear hW
      go_wp2_with fail
      go_roundw
      case rel => exact ⟨m + 1, by omega, by go_num, HW.out⟩
      case measure => simp [intOf]; omega
    · obtain rfl : m = 10 := by omega
      have hlD : (drnds F 10).length = 16 := by rw [drnds_length, Hlf.out]
      have HlD := Lib.hid hlD
      generalize drnds F 10 = D at *
      have HS := Lib.hid hset
      clear hset hlD
      rw [show ((10 : Nat) : Int) = 10 from rfl]
      go_wp2_with fail
      have S4 := Lib.hid (show Sets W3 gc (wosA (sumW D F 0)) wr by rw [sumW_zero D F HlD.out]; exact HS.out)
      obtain ⟨W4, eW4⟩ : ∃ x, x = wr := ⟨_, rfl⟩
      rw [← eW4] at S4 ⊢
      clear eW4 HS
      go_loopw [19] (fun i wr => ∃ m : Nat, m ≤ 16 ∧ i = .int .i64 m ∧ Sets W3 gc (wosA (sumW D F m)) wr) (fun i _ => 16 - (intOf i).toNat)
      case atStart => exact ⟨0, by decide, rfl, S4.out⟩
      case round =>
        obtain ⟨m, hm, rfl, hset⟩ := hrel
        by_cases hm16 : m < 16
        · have hm0 : (m : Int) < 16 := by omega
          have hm1 : (0 : Int) ≤ (m : Int) := by omega
          have hrow := hset.row C3.out
          have hca := hrow.cellAt m (wosA_get' _ _ (sumW_get D F m m hm16))
          rw [if_neg (by omega)] at hca
          have hcb := wos_cell (hset.old F3.out e2) m (by rw [Hlf.out]; exact hm16)
          have Hset := Lib.hid (sumW_set D F m hm16)
          generalize D.getD m 0 = xd at hca Hset
          generalize F.getD m 0 = xf at hcb Hset
          have hgl := hrow.2.2
          have hgf := (hset.old F3.out e2).2.2
          have HS := Lib.hid hset
          clear hset hrow
          go_wp2_with fail
          refine wp_region_pick wr [0, 1, 2, 3, 4, 5, 6, 7] [false, false, false, false, false, false, false, false] [] [] 8 (by kernel_rfl) rfl (by kernel_rfl) (by intro c a d v w h; cases d <;> exact h) ((Below.refl _ _).drew) ?_
          simp only [pick, List.getElem?_cons_succ, List.getElem?_cons_zero, List.drop_succ_cons, List.drop_zero]
          iterate 8 (refine wpHoldF_val (wanted_none rfl) (by intro K o d hK; go_simp; exact hK _ (Below.refl _ _)) ?_)
          refine wpHoldF_nil ?_
          intro w2 hb2 _
          have S2 := Lib.hid (HS.out.grow hb2)
          have hc2 : w2.cell? ⟨gc, m, none⟩ = some (.int .u32 xd) := by rw [hb2.cell hgl]; exact hca
          have hf2 := (S2.out.row C3.out).frozenAt m
          clear hb2 hca hcb HS
          go_wp2_with fail
          go_roundw
          case rel =>
            refine ⟨m + 1, by omega, by go_num, ?_⟩
            rw [← Hset.out, ← wosA_set]; exact S2.out.cell C3.out
          case measure => simp [intOf]; omega
        · obtain rfl : m = 16 := by omega
          rw [sumW_all] at hset
          obtain ⟨c1, c2, c3⟩ := hset.row C3.out
          have hz := wosA_size' (sum16_length D F)
          have HQ := Lib.hid (wblock_c (sum16 D F) (sum16_length D F) wr)
          have R5 := Lib.hid (hset.old R3.out e1)
          have B5 := Lib.hid (hset.below B3.out l4 B3.out.size)
          clear hset
          go_wp2_with fail
          refine HQ.out.mono ?_
          rintro e W6 ⟨rfl, hb6⟩
          obtain ⟨r1, r2, r3⟩ := R5.out.grow hb6
          have B6 := Lib.hid (B5.out.trans (hb6.mono B5.out.size))
          have hy := bysA_size' (outB_length (sum16 D F))
          clear hb6
          go_wp2_with fail
          refine bodyPost_ret (v := .agg (bysA (outB (sum16 D F)))) (results_b64 Tryd.results55 hy _ _ _ rfl (by go_simp) (by go_simp)) rfl ⟨by rw [Hb.out], ?_⟩
          exact below_setRow B6.out l1 _
end Go.Proofs.YtnkfiljmgbnbkaaDoor

/-
  Bytes go over those of a row, from a place on.
-/
namespace Go.Proofs.YtnkfiljmgbnbkaaDoor
open Go.RowKit Go.Hold Go.Sh

theorem setL_at (r l : List Nat) (u : Nat) (h : u + l.length ≤ r.length) : setL (bysA r) u (bys l) = bysA (r.take u ++ l ++ r.drop (u + l.length)) := by
  apply Array.ext_getElem?
  intro i
  rw [setL_get, bys_length, bysA_size]
  have hn : (r.take u ++ l ++ r.drop (u + l.length)).length = r.length := by simp; omega
  by_cases hi : i < r.length
  · rw [bysA_get (r.take u ++ l ++ r.drop (u + l.length)) i (by rw [hn]; exact hi)]
    by_cases h1 : u ≤ i ∧ i < u + l.length
    · rw [if_pos (by omega)]
      simp only [bys, List.getElem?_map, List.getD]
      rw [List.append_assoc, List.getElem?_append_right (by simp; omega), List.getElem?_append_left (by simp; omega)]
      simp only [List.length_take]
      rw [show min u r.length = u by omega, List.getElem?_eq_getElem (by omega)]
      rfl
    · rw [if_neg (by omega), bysA_get _ i hi]
      congr 3
      simp only [List.getD]
      by_cases h2 : i < u
      · rw [List.append_assoc, List.getElem?_append_left (by simp; omega), List.getElem?_take, if_pos h2]
      · rw [List.getElem?_append_right (by simp; omega), List.getElem?_drop]
        congr 2
        simp only [List.length_append, List.length_take]; omega
  · rw [if_neg (by omega), Array.getElem?_eq_none (by rw [bysA_size]; omega), Array.getElem?_eq_none (by rw [bysA_size, hn]; omega)]
theorem copy_at {W : World} {g u c2 cap d s k : Nat} {p : Option Addr} {r l : List Nat} (h : RowAt W g (bysA r)) (hu : u ≤ r.length) (hd : d = r.length - u) (hs : s = l.length) (hk : k = min l.length (r.length - u)) (hB : Bs0 W p l) :
    (Builtin.copy_ #[24, 24] 3 #[.slice (some ⟨g, u, none⟩) d c2, .slice p s cap]).run Tryd.prog W = .ok (.int .i64 (k : Int)) (W.setRow g (bysA (r.take u ++ l.take k ++ r.drop (u + k)))) := by
  subst hd hs
  rcases hB with rfl | ⟨b, o, rfl, hB⟩
  · have hk0 : k = 0 := by simpa using hk
    subst hk0
    rw [List.take_zero, List.append_nil, Nat.add_zero, List.take_append_drop, setRow_self h]
    exact copy_none W _ _ _ _ _
  · have hl : (bys (l.take k)).length = k := by rw [bys_length, List.length_take]; omega
    have hi : (Tryd.prog.info? 5).map (·.size) = some 1 := by kernel_rfl
    have := run_copy_cells (P := Tryd.prog) W 24 24 3 5 g u (r.length - u) c2 ⟨b, o, none⟩ l.length cap (bys (l.take k)) Tryd.underlying24 hi (by rw [hl, hk])
      (fun j v hv => by
        have hj : j < k := by have := (List.getElem?_eq_some_iff.1 hv).1; omega
        rw [Addr.add_mid, hB.2 j (by omega), ← hv]
        simp only [bys, List.getElem?_map, List.getElem?_take, if_pos hj, List.getD]
        rw [List.getElem?_eq_getElem (by omega)]; rfl)
      (fun j hj => by rw [h.cellAt (u + j) (Array.getElem?_eq_getElem (by rw [bysA_size]; omega))]; rfl)
      (fun j _ => h.frozenAt _) (bys_one _)
    rw [this, hl, setCells_row _ _ h, setL_at _ _ _ (by rw [List.length_take]; omega)]
    rw [show (l.take k).length = k by rw [List.length_take]; omega]
    rfl
end Go.Proofs.YtnkfiljmgbnbkaaDoor

/-
  Package chacha: so many bytes of a stream.
-/
namespace Go.Proofs.YtnkfiljmgbnbkaaDoor
open Go.RowKit Go.Hold Go.Sh Go.Ch

set_option maxHeartbeats 400000 in
theorem blocksOf_c (n : Nat) (hn : n ≤ 1000000) (w : World) : Calls Tryd.prog 54 #[.int .i64 (n : Int)] w fun e w' => e = .returned (.int .i64 (((n + 63) / 64 : Nat) : Int)) ∧ w' = w := by
  have h1 : IntKind.i64.wrap ((n : Int) + 64) = ((n + 64 : Nat) : Int) := by rw [IntWalk.i64_in _ (by omega)]; omega
  have h2 : IntKind.i64.wrap (((n + 64 : Nat) : Int) - 1) = ((n + 63 : Nat) : Int) := by rw [IntWalk.i64_in _ (by omega)]; omega
  have h3 : ((n + 63 : Nat) : Int).tdiv 64 = (((n + 63) / 64 : Nat) : Int) := rfl
  have h4 : IntKind.i64.wrap (((n + 63) / 64 : Nat) : Int) = (((n + 63) / 64 : Nat) : Int) := by rw [IntWalk.i64_in _ (by omega)]
  generalize (((n + 63) / 64 : Nat) : Int) = x at *
  generalize ((n + 63 : Nat) : Int) = y at *
  generalize ((n + 64 : Nat) : Int) = z at *
  go_enter Tryd.func54, Tryd.ntmps54
  go_wp2_with fail
  go_ret
  exact ⟨rfl, rfl⟩

set_option maxHeartbeats 400000 in
set_option maxRecDepth 100000 in
/-- What is refused. -/
theorem stream_bad (k n : List Nat) (c : Nat) (z er : Int) (hc : c < 4294967296) (w : World)
    (h : z < 0 ∧ er = 2 ∨ 65536 < z ∧ er = 3 ∨ 0 ≤ z ∧ z ≤ 65536 ∧ 4294967296 < c + (z.toNat + 63) / 64 ∧ er = 3) :
    Calls Tryd.prog 44 #[.agg (bysA k), .agg (bysA n), .int .u32 (c : Int), .int .i64 z] w fun e w' => e = .returned (.tuple #[.slice none 0 0, .int .i64 er]) ∧ Below w.heap.size w w' := by
  rcases h with ⟨h1, rfl⟩ | ⟨h1, rfl⟩ | ⟨h0, h1, h2, rfl⟩
  · go_enter Tryd.func44, Tryd.ntmps44
    go_wp2_with fail
    refine bodyPost_ret (v := .tuple #[.slice none 0 0, .int .i64 2]) (results_tmp2 Tryd.results44 _ _ _) rfl ⟨rfl, by repeat (first | apply below_alloc | exact Below.refl _ _)⟩
  · have h0 : ¬ z < 0 := by omega
    go_enter Tryd.func44, Tryd.ntmps44
    go_wp2_with fail
    refine bodyPost_ret (v := .tuple #[.slice none 0 0, .int .i64 3]) (results_tmp2 Tryd.results44 _ _ _) rfl ⟨rfl, by repeat (first | apply below_alloc | exact Below.refl _ _)⟩
  · obtain ⟨m, rfl⟩ : ∃ m : Nat, z = (m : Int) := ⟨z.toNat, by omega⟩
    rw [Int.toNat_natCast] at h2
    have h3 : ¬ (m : Int) < 0 := by omega
    have h4 : ¬ (65536 : Int) < (m : Int) := by omega
    have HB := Lib.hid (blocksOf_c m (by omega))
    obtain ⟨x, ex⟩ : ∃ x, x = (m + 63) / 64 := ⟨_, rfl⟩
    rw [← ex] at HB h2
    have h5 : IntKind.u64.wrap (c : Int) = (c : Int) := IntWalk.u64_in _ (by omega)
    have h6 : IntKind.u64.wrap (x : Int) = (x : Int) := IntWalk.u64_in _ (by omega)
    have h7 : IntKind.u64.wrap ((c : Int) + (x : Int)) = ((c + x : Nat) : Int) := by rw [IntWalk.u64_in _ (by omega)]; omega
    have h8 : (4294967296 : Int) < ((c + x : Nat) : Int) := by omega
    generalize ((c + x : Nat) : Int) = y at *
    clear ex
    go_enter Tryd.func44, Tryd.ntmps44
    go_wp2_with fail
    refine (HB.out _).mono ?_
    rintro e w' ⟨rfl, hwE⟩
    rw [hwE]
    clear hwE w'
    go_wp2_with fail
    refine bodyPost_ret (v := .tuple #[.slice none 0 0, .int .i64 3]) (results_tmp2 Tryd.results44 _ _ _) rfl ⟨rfl, by repeat (first | apply below_alloc | exact Below.refl _ _)⟩

set_option maxHeartbeats 1000000 in
set_option maxRecDepth 100000 in
theorem stream_c (k n : List Nat) (c m : Nat) (hk : k.length = 32) (hkb : ∀ i, k.getD i 0 < 256) (hn : n.length = 12) (hnb : ∀ i, n.getD i 0 < 256) (hm : m ≤ 65536) (hc : c + (m + 63) / 64 ≤ 4294967296) (hc' : c < 4294967296) (w : World) :
    Calls Tryd.prog 44 #[.agg (bysA k), .agg (bysA n), .int .u32 (c : Int), .int .i64 (m : Int)] w fun e w' => ∃ g, e = .returned (.tuple #[.slice (some ⟨g, 0, none⟩) m m, .int .i64 0]) ∧ RowAt w' g (bysA (strm k n c m)) ∧ w.heap.size ≤ g ∧ Below w.heap.size w w' := by
  have hks := bysA_size' hk
  have hns := bysA_size' hn
  have h3 : ¬ (m : Int) < 0 := by omega
  have h4 : ¬ (65536 : Int) < (m : Int) := by omega
  have HB := Lib.hid (blocksOf_c m (by omega))
  obtain ⟨x, ex⟩ : ∃ x, x = (m + 63) / 64 := ⟨_, rfl⟩
  rw [← ex] at HB hc
  have h5 : IntKind.u64.wrap (c : Int) = (c : Int) := IntWalk.u64_in _ (by omega)
  have h6 : IntKind.u64.wrap (x : Int) = (x : Int) := IntWalk.u64_in _ (by omega)
  have h7 : IntKind.u64.wrap ((c : Int) + (x : Int)) = ((c + x : Nat) : Int) := by rw [IntWalk.u64_in _ (by omega)]; omega
  have h8 : ¬ (4294967296 : Int) < ((c + x : Nat) : Int) := by omega
  generalize ((c + x : Nat) : Int) = y at *
  have Ex := Lib.hid ex
  have Hc := Lib.hid hc
  have Hm := Lib.hid hm
  have hxb : (x : Int) ≤ 2000 := by omega
  clear ex hc hm
  have hmk := fun W => run_mkS W m (by have := Hm.out; omega)
  have HBl := Lib.hid (fun c' => chablock_c k n c' hk hkb hn hnb)
  clear hk hkb hn hnb
  go_enter Tryd.func44, Tryd.ntmps44
  go_wp2_with fail
  refine (HB.out _).mono ?_
  rintro e w' ⟨rfl, hwE⟩
  rw [hwE]
  clear hwE w'
  go_wp2_with fail
  generalize hW : World.alloc _ _ = W1
  have K1 := Lib.hid (show RowAt W1 w.heap.size (bysA k) by rw [← hW]; clear hW; exact ⟨by go_simp, by go_simp, by go_simp⟩)
  have N1 := Lib.hid (show RowAt W1 (w.heap.size + 1) (bysA n) by rw [← hW]; clear hW; exact ⟨by go_simp, by go_simp, by go_simp⟩)
  have S1 := Lib.hid (show RowAt W1 (w.heap.size + 1 + 1) (bysA (strP k n c m (64 * 0))) by rw [← hW, Nat.mul_zero, strP_zero]; clear hW; exact ⟨by go_simp, by go_simp, by go_simp⟩)
  have B1 := Lib.hid (show Below w.heap.size w W1 by rw [← hW]; repeat (first | apply below_more | apply below_alloc | apply Below.drew | exact Below.refl _ _))
  clear hW
  have l0 : w.heap.size ≤ w.heap.size + 1 + 1 := by omega
  have e0 : w.heap.size ≠ w.heap.size + 1 + 1 := by omega
  have e1 : w.heap.size + 1 ≠ w.heap.size + 1 + 1 := by omega
  generalize w.heap.size + 1 + 1 = g at *
  generalize w.heap.size + 1 = gn at *
  go_loopw [29] (fun i wr => ∃ j : Nat, j ≤ x ∧ i = .int .i64 j ∧ Sets W1 g (bysA (strP k n c m (64 * j))) wr) (fun i _ => x - (intOf i).toNat)
  case atStart => exact ⟨0, Nat.zero_le _, rfl, Sets.refl S1.out⟩
  case round =>
    obtain ⟨j, hj, rfl, hset⟩ := hrel
    by_cases hjx : j < x
    · have hj0 : (j : Int) < (x : Int) := by omega
      have hju : 64 * j < m := by have := Ex.out; omega
      have hjw : IntKind.u32.wrap (j : Int) = (j : Int) := IntWalk.u32_in _ (by have := Hm.out; omega)
      obtain ⟨cj, ecj⟩ : ∃ y, y = c + j := ⟨_, rfl⟩
      have hcj : add32 (c : Int) (j : Int) = (cj : Int) := by unfold add32; rw [IntWalk.u32_in _ (by have := Hc.out; omega), ecj]; omega
      obtain ⟨k1, k2, k3⟩ := hset.old K1.out e0
      obtain ⟨n1, n2, n3⟩ := hset.old N1.out e1
      have hgl := (hset.row S1.out).2.2
      obtain ⟨u, eu⟩ : ∃ u, u = 64 * j := ⟨_, rfl⟩
      have hjm : IntKind.i64.wrap ((j : Int) * 64) = (u : Int) := by rw [IntWalk.i64_in _ (by have := Hm.out; omega), eu]; omega
      have hsl := slB_lo g 0 m m u (by omega)
      rw [show adv 0 u m = u by unfold adv; rw [if_neg (by omega), Nat.zero_add]] at hsl
      obtain ⟨t, et⟩ : ∃ t, t = min 64 (m - u) := ⟨_, rfl⟩
      have Hst := Lib.hid (strP_step k n c m j t hju (by rw [et, eu]))
      rw [← ecj, ← eu] at Hst
      rw [← eu] at hset
      have hPl := strP_length k n c m u
      have hbl := blk_length k n cj
      have hbz := bysA_size' hbl
      have HBj := Lib.hid (HBl.out cj wr)
      generalize blk k n cj = b at *
      generalize strP k n c m u = P at *
      have Et := Lib.hid et
      have Eu := Lib.hid eu
      have HPl := Lib.hid hPl
      have Hbl := Lib.hid hbl
      have Hju := Lib.hid hju
      have HS := Lib.hid hset
      clear hset ecj eu et hPl hbl hju
      go_wp2_with fail
      refine HBj.out.mono ?_
      rintro e W2 ⟨rfl, hb2⟩
      have S2 := Lib.hid (HS.out.grow hb2)
      clear hb2 k1 k2 k3 n1 n2 n3
      go_wp2_with fail
      generalize hW : World.alloc _ _ = W3
      have b3 := Lib.hid (show RowAt W3 W2.heap.size (bysA b) by rw [← hW]; clear hW; exact ⟨by go_simp, by go_simp, by go_simp⟩)
      have S3 := Lib.hid (show Sets W1 g (bysA P) W3 by rw [← hW]; exact S2.out.grow (below_alloc (Below.refl _ _) _))
      clear hW S2
      generalize W2.heap.size = gb at *
      refine wp_region_pickT W3 [0, 1, 2, 3, 4] [true, true, true, true, true] [5] (by kernel_rfl) (by kernel_rfl) (by intro c a d v w h; cases d <;> exact h) ((Below.refl _ _).drew) ?_
      simp only [pick, List.getElem?_cons_succ, List.getElem?_cons_zero]
      iterate 5 (refine wpHoldF_late (wanted_none rfl) (fun w => by go_simp; rfl) ?_)
      refine wpHoldF_nil ?_
      intro W4 hb4
      have S4 := Lib.hid (S3.out.grow hb4)
      have hcp := copy_at (c2 := m - u) (cap := 64) (d := m - u) (s := 64) (u := u) (k := t) (S4.out.row S1.out) (by rw [HPl.out, Eu.out]; have := Hju.out; omega) (by rw [HPl.out]) Hbl.out.symm (by rw [HPl.out, Hbl.out, Et.out]) (Bs0.some (bytes_row (b3.out.grow hb4)))
      rw [Hst.out] at hcp
      have S5 := Lib.hid (S4.out.set (c' := bysA (strP k n c m (64 * (j + 1)))) S1.out)
      generalize W4.setRow g (bysA (strP k n c m (64 * (j + 1)))) = W5 at *
      clear hb4
      go_wp2_with fail
      go_roundw
      case rel => exact ⟨j + 1, by omega, by go_num, S5.out⟩
      case measure => simp [intOf]; omega
    · obtain rfl : j = x := by omega
      have R2 := Lib.hid (hset.row S1.out)
      have B2 := Lib.hid (hset.below B1.out l0 B1.out.size)
      clear hset
      go_wp2_with fail
      refine bodyPost_ret (v := .tuple #[.slice (some ⟨g, 0, none⟩) m m, .int .i64 0]) (results_tmp2 Tryd.results44 _ _ _) rfl ⟨g, rfl, ?_, l0, B2.out⟩
      have h1 := R2.out
      rw [strP_all k n c m _ (by have := Ex.out; omega)] at h1
      exact h1
end Go.Proofs.YtnkfiljmgbnbkaaDoor

/-
  Package chacha: bytes, each turned by one of the stream.
-/
namespace Go.Proofs.YtnkfiljmgbnbkaaDoor
open Go.RowKit Go.Hold Go.Sh Go.Ch

set_option maxHeartbeats 400000 in
set_option maxRecDepth 100000 in
/-- What is refused. -/
theorem xor_bad (k n : List Nat) (c m cap : Nat) (p : Option Addr) (hk : k.length = 32) (hn : n.length = 12) (hc : c < 4294967296) (w : World) (h : 65536 < m ∨ m ≤ 65536 ∧ 4294967296 < c + (m + 63) / 64) :
    Calls Tryd.prog 31 #[.agg (bysA k), .agg (bysA n), .int .u32 (c : Int), .slice p m cap] w fun e w' => e = .returned (.tuple #[.slice none 0 0, .int .i64 3]) ∧ Below w.heap.size w w' := by
  have hks := bysA_size' hk
  have hns := bysA_size' hn
  have HS := Lib.hid (fun W => stream_bad k n c (m : Int) 3 hc W (by omega))
  go_enter Tryd.func31, Tryd.ntmps31
  go_wp2_with fail
  refine (HS.out _).mono ?_
  rintro e W2 ⟨rfl, hb2⟩
  have B2 := Lib.hid ((below_alloc (below_alloc (Below.refl w.heap.size w) (.cells (bysA k) 23)) (.cells (bysA n) 35)).trans (hb2.mono (by simp; omega)))
  clear hb2
  go_wp2_with fail
  refine bodyPost_ret (v := .tuple #[.slice none 0 0, .int .i64 3]) (results_tmp2 Tryd.results31 _ _ _) rfl ⟨rfl, B2.out⟩

set_option maxHeartbeats 1000000 in
set_option maxRecDepth 100000 in
theorem xor_c (k n l : List Nat) (c m cap : Nat) (p : Option Addr) (hk : k.length = 32) (hkb : ∀ i, k.getD i 0 < 256) (hn : n.length = 12) (hnb : ∀ i, n.getD i 0 < 256) (hl : m = l.length) (hlb : ∀ i, l.getD i 0 < 256)
    (hm : m ≤ 65536) (hc : c + (m + 63) / 64 ≤ 4294967296) (hc' : c < 4294967296) (w : World) (hB : Bs0 w p l) :
    Calls Tryd.prog 31 #[.agg (bysA k), .agg (bysA n), .int .u32 (c : Int), .slice p m cap] w fun e w' => ∃ g, e = .returned (.tuple #[.slice (some ⟨g, 0, none⟩) m m, .int .i64 0]) ∧ RowAt w' g (bysA (mixd (strm k n c m) l)) ∧ w.heap.size ≤ g ∧ Below w.heap.size w w' := by
  have hks := bysA_size' hk
  have hns := bysA_size' hn
  have HS := Lib.hid (fun W => stream_c k n c m hk hkb hn hnb hm hc hc' W)
  have hTl := strm_length k n c m
  have hTb := strm_bts k n c m
  generalize strm k n c m = T at *
  have HL := Lib.hid hl
  have HTl := Lib.hid hTl
  have HB := Lib.hid hB
  have hmi : (m : Int) ≤ 65536 := by omega
  clear hk hkb hn hnb hc hc' hB hl hTl
  go_enter Tryd.func31, Tryd.ntmps31
  go_wp2_with fail
  refine (HS.out _).mono ?_
  rintro e W2 ⟨g, rfl, hr2, hg, hb2⟩
  have l0 : w.heap.size ≤ g := by simp at hg; omega
  have B2 := Lib.hid ((below_alloc (below_alloc (Below.refl w.heap.size w) (.cells (bysA k) 23)) (.cells (bysA n) 35)).trans (hb2.mono (by simp; omega)))
  have R2 := Lib.hid (show RowAt W2 g (bysA (mixP T l 0)) by rw [mixP_zero T l (by rw [HTl.out, HL.out])]; exact hr2)
  have HB2 := Lib.hid (HB.out.grow B2.out)
  clear hb2 hr2 hg HS
  go_wp2_with fail
  go_loopw [28] (fun i wr => ∃ j : Nat, j ≤ m ∧ i = .int .i64 j ∧ Sets W2 g (bysA (mixP T l j)) wr) (fun i _ => m - (intOf i).toNat)
  case atStart => exact ⟨0, Nat.zero_le _, rfl, Sets.refl R2.out⟩
  case round =>
    obtain ⟨j, hj, rfl, hset⟩ := hrel
    by_cases hjm : j < m
    · have hj0 : (j : Int) < (m : Int) := by omega
      have hj1 : (0 : Int) ≤ (j : Int) := by omega
      have hjl : j < l.length := by rw [← HL.out]; exact hjm
      obtain ⟨b, o, rfl, hbw⟩ : ∃ b o, p = some ⟨b, o, none⟩ ∧ BytesAt w b o l := by
        rcases HB.out with h | h
        · rw [h] at hjl; simp at hjl
        · exact h
      have hbg : b ≠ g := by have := hbw.1; omega
      have hcb := (hset.bytes (hbw.grow B2.out) hbg).2 j hjl
      have hrow := hset.row R2.out
      have hca := hrow.cellAt j (bysA_get _ j (by rw [mixP_length]; exact hjl))
      rw [List.getD, mixP_get T l j j hjl, if_neg (by omega), Option.getD_some] at hca
      have hfa := hrow.frozenAt j
      have hx := u8_xor_nat (T.getD j 0) (l.getD j 0) (hTb j) (hlb j)
      have Hset := Lib.hid (mixP_set T l j hjl)
      generalize T.getD j 0 = y at *
      generalize l.getD j 0 = z at *
      generalize y ^^^ z = v at *
      have hgl := hrow.2.2
      have HSet := Lib.hid hset
      clear hset hrow hjl hbw
      go_wp2_with fail
      go_roundw
      case rel =>
        refine ⟨j + 1, by omega, by go_num, ?_⟩
        rw [← Hset.out, ← bysA_set]; exact HSet.out.cell R2.out
      case measure => simp [intOf]; omega
    · obtain rfl : j = m := by omega
      have R3 := Lib.hid (hset.row R2.out)
      have B3 := Lib.hid (hset.below B2.out l0 B2.out.size)
      clear hset
      go_wp2_with fail
      refine bodyPost_ret (v := .tuple #[.slice (some ⟨g, 0, none⟩) j j, .int .i64 0]) (results_tmp2 Tryd.results31 _ _ _) rfl ⟨g, rfl, ?_, l0, B3.out⟩
      have h1 := R3.out
      rw [HL.out, mixP_all] at h1
      exact h1
end Go.Proofs.YtnkfiljmgbnbkaaDoor

/-
  What is known of the operations of a drawn region that make memory, as a list of relations on value and world (for wp_region_grows).
-/
namespace Go.Proofs.YtnkfiljmgbnbkaaDoor
open Go.RowKit Go.Hold Go.Sh

/-- A relation that stays true while memory grows. -/
def Stays (r : Value → World → Prop) : Prop := ∀ v w w', r v w → Below w.heap.size w w' → r v w'
def StaysAll : List (Value → World → Prop) → Prop
  | [] => True
  | r :: L => Stays r ∧ StaysAll L
def listR (L : List (Value → World → Prop)) (i : Nat) (v : Value) (w : World) : Prop := match L[i]? with | some r => r v w | none => True
theorem staysAll_get {L : List (Value → World → Prop)} (h : StaysAll L) : ∀ (i : Nat) (r : Value → World → Prop), L[i]? = some r → Stays r := by
  induction L with
  | nil => intro i r hi; simp at hi
  | cons s L ih =>
    intro i r hi
    cases i with
    | zero => simp at hi; subst hi; exact h.1
    | succ i => exact ih h.2 i r (by simpa using hi)
theorem listR_mono {L : List (Value → World → Prop)} (h : StaysAll L) : ∀ i v w w', listR L i v w → Below w.heap.size w w' → listR L i v w' := by
  intro i v w w' hr hb
  unfold listR at hr ⊢
  cases e : L[i]? with
  | none => trivial
  | some r => rw [e] at hr; exact staysAll_get h i r e v w w' hr hb
/-- A value that is known. -/
def fixV (x : Value) : Value → World → Prop := fun v _ => v = x
theorem stays_fix (x : Value) : Stays (fixV x) := fun _ _ _ h _ => h
/-- A slice of bytes of one's own. -/
def ownV (B : Nat) (l : List Nat) : Value → World → Prop := fun v w => OwnB w B v l
theorem stays_own (B : Nat) (l : List Nat) : Stays (ownV B l) := fun _ _ _ h hb => OwnB.below h hb
/-- The same, with an error of nought. -/
def ownT (B : Nat) (l : List Nat) : Value → World → Prop := fun v w => ∃ u, v = .tuple #[u, .int .i64 0] ∧ OwnB w B u l
theorem stays_ownT (B : Nat) (l : List Nat) : Stays (ownT B l) := fun _ _ _ ⟨u, h, ho⟩ hb => ⟨u, h, ho.below hb⟩
/-- What lies in a row that is new. -/
def rowV (B : Nat) (f : Nat → Value) (c : Array Value) : Value → World → Prop := fun v w => ∃ g, v = f g ∧ RowAt w g c ∧ B ≤ g
theorem stays_row (B : Nat) (f : Nat → Value) (c : Array Value) : Stays (rowV B f c) := fun _ _ _ ⟨g, h, hr, hg⟩ hb => ⟨g, h, hr.grow hb, hg⟩
/-- A slice of bytes. -/
def slV (l : List Nat) : Value → World → Prop := fun v w => SlV w v l
theorem stays_sl (l : List Nat) : Stays (slV l) := fun _ _ _ h hb => SlV.grow h hb
/-- Bytes are laid behind those of a slice that is full. -/
theorem app_full {w : World} {g q n k cap : Nat} {l m : List Nat} (hl : BytesAt w g 0 l) (hn : n = l.length) (hm : BytesAt w q 0 m) (hk : k = m.length) (h0 : 0 < k) (hlen : n + k ≤ 16777216) :
    ∃ c w', (Builtin.append_ #[24, 24] 24 #[.slice (some ⟨g, 0, none⟩) n n, .slice (some ⟨q, 0, none⟩) k cap]).run Tryd.prog w = .ok (.slice (some ⟨w.heap.size, 0, none⟩) (n + k) c) w' ∧
      OwnB w' w.heap.size (.slice (some ⟨w.heap.size, 0, none⟩) (n + k) c) (l ++ m) ∧ Below w.heap.size w w' := by
  subst hn hk
  obtain ⟨i0, hi, hz0, hz1, hz2⟩ := info_parts info_u8
  have hr := run_append_grow (P := Tryd.prog) w 24 24 5 i0 (.int .u8 0) Tryd.underlying24 hi hz0 ⟨g, 0, none⟩ l.length l.length (bys l) (by rw [hz1, bys_length, Nat.mul_one]) (bys_at hl) ⟨q, 0, none⟩ m.length cap (bys m) (by rw [hz1, bys_length, Nat.mul_one]) (bys_at hm) (by omega) (by omega) (by rw [hz2]; exact growslice_fits (by omega) (by omega))
  have hge := grownCap_ge w (l.length + m.length) l.length 5
  have hle := grownCap_le_maxLen w (l.length + m.length) l.length 5 (maxLen_small hlen)
  generalize grownCap w (l.length + m.length) l.length 5 = c at *
  refine ⟨c, _, hr, ⟨by simp [bys], .inr ⟨w.heap.size, c, _, by rw [List.length_append], Nat.le_refl _, block_new w.drew _, by rw [List.length_append]; exact hge, hle, ?_, ?_⟩⟩, (Below.refl w.heap.size w).drew.alloc (Nat.le_refl _) _⟩
  · simp [size_zeroCells, bys_length, Value.cells]; omega
  · rw [show (l ++ m).length * 1 = (bys l ++ bys m).length by simp [bys], show bys (l ++ m) = bys l ++ bys m by simp [bys]]
    simp only [Array.toList_append]
    exact List.take_left
end Go.Proofs.YtnkfiljmgbnbkaaDoor

/-
  Package aead: bytes, hidden, and turned back.
-/
namespace Go.Proofs.YtnkfiljmgbnbkaaDoor
open Go.RowKit Go.Hold Go.Sh Go.Ch Go.Ae

/-- The key to hide. -/
theorem hide_c (k : List Nat) (w : World) (hT : Tabs w) (hk : k.length = 32) (hkb : ∀ i, k.getD i 0 < 256) :
    Calls Tryd.prog 32 #[.agg (bysA k), .string ⟨#[104, 105, 100, 101]⟩] w fun e w' => e = .returned (.agg (bysA (kHide k))) ∧ Below w.heap.size w w' := by
  have h := derive_c k ⟨#[104, 105, 100, 101]⟩ w hT hk hkb (by decide)
  rw [show strB ⟨#[104, 105, 100, 101]⟩ = [104, 105, 100, 101] by decide, keA_bys] at h
  exact h
/-- The key to prove. -/
theorem prove_c (k : List Nat) (w : World) (hT : Tabs w) (hk : k.length = 32) (hkb : ∀ i, k.getD i 0 < 256) :
    Calls Tryd.prog 32 #[.agg (bysA k), .string ⟨#[112, 114, 111, 118, 101]⟩] w fun e w' => e = .returned (.agg (bysA (kProve k))) ∧ Below w.heap.size w w' := by
  have h := derive_c k ⟨#[112, 114, 111, 118, 101]⟩ w hT hk hkb (by decide)
  rw [show strB ⟨#[112, 114, 111, 118, 101]⟩ = [112, 114, 111, 118, 101] by decide, keA_bys] at h
  exact h
set_option maxHeartbeats 600000 in
set_option maxRecDepth 100000 in
theorem aturn_c (k n l : List Nat) (m cap : Nat) (p : Option Addr) (hk : k.length = 32) (hkb : ∀ i, k.getD i 0 < 256) (hn : n.length = 12) (hnb : ∀ i, n.getD i 0 < 256) (hl : m = l.length) (hlb : ∀ i, l.getD i 0 < 256)
    (hm : m ≤ 65536) (w : World) (hT : Tabs w) (hB : Bs0 w p l) :
    Calls Tryd.prog 20 #[.agg (bysA k), .agg (bysA n), .slice p m cap] w fun e w' => ∃ g, e = .returned (.tuple #[.slice (some ⟨g, 0, none⟩) m m, .int .i64 0]) ∧ RowAt w' g (bysA (hideL k n l)) ∧ w.heap.size ≤ g ∧ Below w.heap.size w w' := by
  have hks := bysA_size' hk
  have hns := bysA_size' hn
  have HD := Lib.hid (fun (W : World) (hW : Below w.heap.size w W) => hide_c k W (hT.grow hW) hk hkb)
  have HX := Lib.hid (fun (W : World) (hW : Below w.heap.size w W) => xor_c (kHide k) n l 0 m cap p (kHide_length k) (kHide_bts k) hn hnb hl hlb hm (by omega) (by decide) W (hB.grow hW))
  rw [show mixd (strm (kHide k) n 0 m) l = hideL k n l by rw [hl]; rfl] at HX
  generalize kHide k = hk' at *
  generalize hideL k n l = hid' at *
  clear hk hkb hn hnb hl hlb hm hT hB
  go_enter Tryd.func20, Tryd.ntmps20
  go_wp2_with fail
  generalize hW : World.alloc _ _ = W0
  have K0 := Lib.hid (show RowAt W0 w.heap.size (bysA k) by rw [← hW]; clear hW; exact ⟨by go_simp, by go_simp, by go_simp⟩)
  have N0 := Lib.hid (show RowAt W0 (w.heap.size + 1) (bysA n) by rw [← hW]; clear hW; exact ⟨by go_simp, by go_simp, by go_simp⟩)
  have B0 := Lib.hid (show Below w.heap.size w W0 by rw [← hW]; repeat (first | apply below_more | apply below_alloc | exact Below.refl _ _))
  clear hW
  obtain ⟨z, ez⟩ : ∃ z, z = w.heap.size := ⟨_, rfl⟩
  have hz : z ≤ W0.heap.size := by rw [ez]; exact B0.out.size
  have Ez := Lib.hid ez
  rw [← ez] at K0 N0 ⊢
  clear ez
  refine wp_region_grows W0 7 (fun w w' => Below w.heap.size w w') (listR [fixV (.agg (bysA k)), fixV (.agg (bysA hk')), fixV (.agg (bysA n)), fixV (.slice p m cap), rowV W0.heap.size (fun g => .tuple #[.slice (some ⟨g, 0, none⟩) m m, .int .i64 0]) (bysA hid'), rowV W0.heap.size (fun g => .slice (some ⟨g, 0, none⟩) m m) (bysA hid'), fixV (.int .i64 0)]) [7, 8] [0, 1, 2, 3, 4, 5, 6] [some 8, some 9, some 10, some 11, some 12, some 13, some 14] (by kernel_rfl) (by kernel_rfl) (by kernel_rfl) (by kernel_rfl) ((Below.refl _ _).drew) (fun w w' h h' => h.trans (h'.mono h.size)) (listR_mono ⟨stays_fix _, stays_fix _, stays_fix _, stays_fix _, stays_row _ _ _, stays_row _ _ _, stays_fix _, trivial⟩) ?_
  intro vals
  simp only [List.take_succ_cons, List.take_zero]
  refine ⟨grow_val [] [] (by kernel_rfl) rfl (fun K w hb hd hK => ⟨wanted_none rfl, ?_⟩), ?_⟩
  · obtain ⟨k1, k2, k3⟩ := K0.out.grow hb
    simp only [putZ]
    go_simp
    exact hK _ _ _ (Below.refl _ _) rfl
  refine ⟨grow_call [0] [some 8] (by kernel_rfl) (by kernel_rfl) (fun K w hb hd hK => ⟨wanted_none rfl, ?_⟩), ?_⟩
  · have d0 : vals 0 = .agg (bysA k) := hd 0 (by simp)
    simp only [List.map_cons, List.map_nil, putZ, d0]
    go_simp
    refine (HD.out w (B0.out.trans (hb.mono B0.out.size))).mono ?_
    rintro e w' ⟨rfl, hb'⟩
    exact ⟨_, rfl, hK _ _ hb' rfl⟩
  refine ⟨grow_val [] [] (by kernel_rfl) rfl (fun K w hb hd hK => ⟨wanted_none rfl, ?_⟩), ?_⟩
  · obtain ⟨k1, k2, k3⟩ := N0.out.grow hb
    simp only [putZ]
    go_simp
    exact hK _ _ _ (Below.refl _ _) rfl
  refine ⟨grow_val [] [] (by kernel_rfl) rfl (fun K w hb hd hK => ⟨wanted_none rfl, ?_⟩), ?_⟩
  · simp only [putZ]
    go_simp
    exact hK _ _ _ (Below.refl _ _) rfl
  refine ⟨grow_call [1, 2, 3] [some 9, some 10, some 11] (by kernel_rfl) (by kernel_rfl) (fun K w hb hd hK => ⟨wanted_none rfl, ?_⟩), ?_⟩
  · have d1 : vals 1 = .agg (bysA hk') := hd 1 (by simp)
    have d2 : vals 2 = .agg (bysA n) := hd 2 (by simp)
    have d3 : vals 3 = .slice p m cap := hd 3 (by simp)
    simp only [List.map_cons, List.map_nil, putZ, d1, d2, d3]
    go_simp
    refine (HX.out w (B0.out.trans (hb.mono B0.out.size))).mono ?_
    rintro e w' ⟨g, rfl, hr, hg, hb'⟩
    exact ⟨_, rfl, hK _ _ hb' ⟨g, rfl, hr, Nat.le_trans hb.size hg⟩⟩
  refine ⟨grow_val [4] [some 12] (by kernel_rfl) (by kernel_rfl) (fun K w hb hd hK => ⟨wanted_none rfl, ?_⟩), ?_⟩
  · obtain ⟨g4, d4, hr4, hg4⟩ : ∃ g, vals 4 = .tuple #[.slice (some ⟨g, 0, none⟩) m m, .int .i64 0] ∧ RowAt w g (bysA hid') ∧ W0.heap.size ≤ g := hd 4 (by simp)
    simp only [List.map_cons, List.map_nil, putZ, d4]
    go_simp
    exact hK _ _ _ (Below.refl _ _) ⟨g4, rfl, hr4, hg4⟩
  refine ⟨grow_val [4] [some 12] (by kernel_rfl) (by kernel_rfl) (fun K w hb hd hK => ⟨wanted_none rfl, ?_⟩), ?_⟩
  · obtain ⟨g4, d4, hr4, hg4⟩ : ∃ g, vals 4 = .tuple #[.slice (some ⟨g, 0, none⟩) m m, .int .i64 0] ∧ RowAt w g (bysA hid') ∧ W0.heap.size ≤ g := hd 4 (by simp)
    simp only [List.map_cons, List.map_nil, putZ, d4]
    go_simp
    exact hK _ _ _ (Below.refl _ _) rfl
  intro W1 hbg hR
  obtain ⟨g, d5, hr5, hg5⟩ : ∃ g, vals 5 = .slice (some ⟨g, 0, none⟩) m m ∧ RowAt W1 g (bysA hid') ∧ W0.heap.size ≤ g := hR 5 (by simp)
  obtain d6 : vals 6 = .int .i64 0 := hR 6 (by simp)
  clear hR
  simp only [List.map_cons, List.map_nil, putZ, d5, d6, pick, List.getElem?_cons_succ, List.getElem?_cons_zero]
  generalize vals 0 = e0
  generalize vals 1 = e1
  generalize vals 2 = e2
  generalize vals 3 = e3
  generalize vals 4 = e4
  clear d5 d6
  have B1 := Lib.hid (B0.out.trans (hbg.mono B0.out.size))
  have R1 := Lib.hid hr5
  have hgz : z ≤ g := Nat.le_trans hz hg5
  clear hbg hr5 hg5
  go_wp2_with fail
  exact bodyPost_ret (v := .tuple #[.slice (some ⟨g, 0, none⟩) m m, .int .i64 0]) (results_tmp2 Tryd.results20 _ _ _) rfl ⟨g, rfl, R1.out, by rw [← Ez.out]; exact hgz, B1.out⟩
end Go.Proofs.YtnkfiljmgbnbkaaDoor

/-
  Package hmac: are bytes alike; a tag's first half; the tag, its lengths named.
-/
namespace Go.Proofs.YtnkfiljmgbnbkaaDoor
open Go.RowKit Go.Hold Go.Sh

/-! ### Are bytes alike? -/
/-- What bytes have unlike, all together. -/
def unl (a b : List Nat) : Nat → Nat
  | 0 => 0
  | i + 1 => unl a b i ||| (a.getD i 0 ^^^ b.getD i 0)
theorem unl_lt {a b : List Nat} (ha : ∀ i, a.getD i 0 < 256) (hb : ∀ i, b.getD i 0 < 256) (n : Nat) : unl a b n < 256 := by
  induction n with
  | zero => exact Nat.zero_lt_succ _
  | succ n ih => exact Nat.or_lt_two_pow (n := 8) ih (xor_lt (ha n) (hb n))
theorem xor_zero_iff (a b : Nat) : a ^^^ b = 0 ↔ a = b := by
  constructor
  · intro h
    have : (a ^^^ b) ^^^ b = b := by rw [h, Nat.zero_xor]
    rwa [Nat.xor_assoc, Nat.xor_self, Nat.xor_zero] at this
  · rintro rfl; exact Nat.xor_self _
theorem unl_zero (a b : List Nat) (n : Nat) : unl a b n = 0 ↔ ∀ i, i < n → a.getD i 0 = b.getD i 0 := by
  induction n with
  | zero => simp [unl]
  | succ n ih =>
    rw [unl, Nat.or_eq_zero_iff, ih]
    constructor
    · intro ⟨h1, h2⟩ i hi
      by_cases e : i < n
      · exact h1 i e
      · obtain rfl : i = n := by omega
        exact (xor_zero_iff _ _).1 h2
    · intro h
      exact ⟨fun i hi => h i (by omega), (xor_zero_iff _ _).2 (h n (by omega))⟩
theorem unl_eq (a b : List Nat) (h : a.length = b.length) : unl a b a.length = 0 ↔ a = b := by
  rw [unl_zero]
  constructor
  · intro h1
    apply List.ext_getElem h
    intro i h2 h3
    have := h1 i h2
    simpa [List.getD, h2, h3] using this
  · rintro rfl i _; rfl
set_option maxHeartbeats 400000 in
set_option maxRecDepth 100000 in
theorem equal_c (ac bc : Nat) (ap bp : Option Addr) (a b : List Nat) (w : World) (ha : a.length ≤ 1000000) (hab : ∀ i, a.getD i 0 < 256) (haB : Bs0 w ap a) (hbb : ∀ i, b.getD i 0 < 256) (hbB : Bs0 w bp b) :
    Calls Tryd.prog 22 #[.slice ap a.length ac, .slice bp b.length bc] w fun e w' => e = .returned (.bool (decide (a = b))) ∧ Below w.heap.size w w' := by
  by_cases hl : a.length = b.length
  · obtain ⟨R, eR⟩ : ∃ r, r = decide (a = b) := ⟨_, rfl⟩
    have HU := Lib.hid (unl_eq a b hl)
    have HUl := Lib.hid (fun n => unl_lt hab hbb n)
    rw [← hl, ← eR]
    obtain ⟨n, en⟩ : ∃ n, n = a.length := ⟨_, rfl⟩
    have Hlb := Lib.hid (show b.length = n by rw [en, hl])
    rw [← en] at ha HU ⊢
    have En := Lib.hid en
    have ER := Lib.hid eR
    have HA := Lib.hid haB
    have HB := Lib.hid hbB
    have Hab := Lib.hid hab
    have Hbb := Lib.hid hbb
    clear en eR hl haB hbB hab hbb
    go_enter Tryd.func22, Tryd.ntmps22
    go_wp2_with fail
    go_loopw [5, 14] (fun u i wr => ∃ k : Nat, k ≤ n ∧ i = .int .i64 k ∧ u = .int .u8 ((unl a b k : Nat) : Int) ∧ Below w.heap.size w wr) (fun _ i _ => n - (intOf i).toNat)
    case atStart => exact ⟨0, by omega, rfl, rfl, Below.refl _ _⟩
    case round =>
      obtain ⟨k, hk, rfl, rfl, hbel⟩ := hrel
      have Hbel := Lib.hid hbel
      by_cases hkn : k < n
      · have hk0 : (0 : Int) ≤ (k : Int) := by omega
        have hk1 : (k : Int) < (n : Int) := by omega
        obtain ⟨ga, oa, ea, hA⟩ : ∃ b o, ap = some ⟨b, o, none⟩ ∧ BytesAt wr b o a := by
          rcases HA.out.grow hbel with h | h
          · exfalso; have := En.out; rw [h] at this; simp at this; omega
          · exact h
        obtain ⟨gb, ob, eb, hB⟩ : ∃ c o, bp = some ⟨c, o, none⟩ ∧ BytesAt wr c o b := by
          rcases HB.out.grow hbel with h | h
          · exfalso; have := Hlb.out; rw [h] at this; simp at this; omega
          · exact h
        subst ea eb
        have hca := hA.2 k (by rw [← En.out]; exact hkn)
        have hcb := hB.2 k (by rw [Hlb.out]; exact hkn)
        have hx := u8_xor_nat (a.getD k 0) (b.getD k 0) (Hab.out k) (Hbb.out k)
        have hxl := xor_lt (Hab.out k) (Hbb.out k)
        have ho := u8_or_nat (unl a b k) (a.getD k 0 ^^^ b.getD k 0) (HUl.out k) hxl
        have Hs := Lib.hid (show unl a b (k + 1) = unl a b k ||| (a.getD k 0 ^^^ b.getD k 0) from rfl)
        generalize a.getD k 0 = x at *
        generalize b.getD k 0 = y at *
        generalize x ^^^ y = z at *
        generalize unl a b k = u at *
        generalize u ||| z = u2 at *
        have hga := hA.1
        have hgb := hB.1
        clear hA hB hbel hxl
        go_wp2_with fail
        refine wp_region_pickT wr [0, 1, 2, 3, 4, 5, 6, 7, 8, 9, 10] [false, false, false, false, false, false, false, false, false, false, false] [11] (by kernel_rfl) (by kernel_rfl) (by intro c a d v w h; cases d <;> exact h) ((Below.refl _ _).drew) ?_
        simp only [pick, List.getElem?_cons_succ, List.getElem?_cons_zero]
        iterate 11 (refine wpHoldF_val (wanted_none rfl) (by intro K o d hK; go_simp; exact hK _ (Below.refl _ _)) ?_)
        refine wpHoldF_nil ?_
        intro w1 hb1
        have Hb1 := Lib.hid (Hbel.out.trans (hb1.mono Hbel.out.size))
        clear hb1
        go_wp2_with fail
        go_roundw
        case rel => exact ⟨k + 1, by omega, by go_num, by rw [Hs.out], Hb1.out⟩
        case measure => simp [intOf]; omega
      · obtain rfl : k = n := by omega
        have hU := HU.out
        have hlt := HUl.out k
        clear hbel
        by_cases e : a = b
        · have h0 : unl a b k = 0 := hU.2 e
          have hR : R = true := by rw [ER.out]; exact decide_eq_true e
          subst hR
          rw [h0]
          clear h0 e hU hlt
          go_wp2_with fail
          go_ret
          exact ⟨rfl, Hbel.out⟩
        · have h0 : unl a b k ≠ 0 := fun h => e (hU.1 h)
          have hR : R = false := by rw [ER.out]; exact decide_eq_false e
          subst hR
          generalize unl a b k = u at *
          have h1 : ¬ (u : Int) = 0 := by omega
          have h2 : ((u : Int) == 0) = false := by simpa using h1
          clear h0 e hU hlt
          go_wp2_with fail
          go_ret
          exact ⟨rfl, Hbel.out⟩
  · have hR : decide (a = b) = false := decide_eq_false fun e => hl (by rw [e])
    rw [hR]
    obtain ⟨n, en⟩ : ∃ n, n = a.length := ⟨_, rfl⟩
    obtain ⟨m, em⟩ : ∃ n, n = b.length := ⟨_, rfl⟩
    rw [← en, ← em] at hl ⊢
    have h1 : ¬ (n : Int) = (m : Int) := by omega
    have h2 : ((n : Int) != (m : Int)) = true := by simpa using h1
    clear en em ha hab haB hbb hbB hR
    go_enter Tryd.func22, Tryd.ntmps22
    go_wp2_with fail
    go_ret
    exact ⟨rfl, Below.refl _ _⟩

/-! ### A tag's first half -/
@[go_sem ↓] theorem loadAt_tag (v : Value) : Instr.loadAt 47 v = loadRow 47 v := rfl
@[go_sem] theorem run_loadTag (w : World) (n : Nat) (h1 : w.isRow n = true) (h2 : (w.rowOf n).size = 16) : (loadRow 47 (.pointer (some ⟨n, 0, none⟩))).run Tryd.prog w = .ok (.agg (w.rowOf n)) w := run_loadRow w Tryd.underlying47 rfl (by kernel_rfl) n h1 h2
theorem results_tag {fn : Func} {p : Tmp} {cs : Array Value} (h : fn.results = #[.cell p 47]) (hc : cs.size = 16) (w : World) (tmps : Array Value) (n : Nat) (hp : tmps.getD p undef = .pointer (some ⟨n, 0, none⟩)) (h1 : w.isRow n = true) (h2 : w.rowOf n = cs) : (results fn tmps).run Tryd.prog w = .ok (.agg cs) w :=
  results_row w h Tryd.underlying47 rfl (by rw [hc]; kernel_rfl) tmps n hp h1 h2
set_option maxHeartbeats 400000 in
set_option maxRecDepth 100000 in
theorem short_c (s : List Nat) (hs : s.length = 32) (w : World) : Calls Tryd.prog 33 #[.agg (bysA s)] w fun e w' => e = .returned (.agg (bysA (s.take 16))) ∧ Below w.heap.size w w' := by
  have hst : (s.take 16 ++ (zs 16).drop 16) = s.take 16 := by rw [zs_drop]; simp [zs]
  have hz2 : (bysA (s.take 16)).size = 16 := by rw [bysA_size, List.length_take, hs]; rfl
  have Hs := Lib.hid hs
  have Hst := Lib.hid hst
  clear hs hst
  go_enter Tryd.func33, Tryd.ntmps33
  go_wp2_with fail
  generalize hW : World.alloc _ _ = W0
  have K0 := Lib.hid (show RowAt W0 w.heap.size (bysA s) by rw [← hW]; clear hW; exact ⟨by go_simp, by go_simp, by go_simp⟩)
  obtain ⟨z0, hz0, hR0⟩ : ∃ c : Array Value, c.size = 16 ∧ RowAt W0 (w.heap.size + 1) c := by rw [← hW]; clear hW; exact ⟨bysA (zs 16), by rw [bysA_size, zs_length], by go_simp, by go_simp; rfl, by go_simp⟩
  have T0 := Lib.hid (show RowAt W0 (w.heap.size + 1 + 1) (bysA (zs 16)) by rw [← hW]; clear hW; exact ⟨by go_simp, by go_simp; rfl, by go_simp⟩)
  have R0 := Lib.hid hR0
  have B0 := Lib.hid (show Below w.heap.size w W0 by rw [← hW]; repeat (first | apply below_more | apply below_alloc | exact Below.refl _ _))
  clear hW hR0
  have hg1 : w.heap.size ≤ w.heap.size + 1 + 1 := by omega
  have hg2 : ¬ w.heap.size + 1 = w.heap.size + 1 + 1 := by omega
  have hg3 : w.heap.size ≤ w.heap.size + 1 := by omega
  generalize w.heap.size + 1 + 1 = t at *
  generalize w.heap.size + 1 = r at *
  refine wp_region_pickT W0 [0, 1] [true, true] [2] (by kernel_rfl) (by kernel_rfl) (by intro c a d v w h; cases d <;> exact h) ((Below.refl _ _).drew) ?_
  simp only [pick, List.getElem?_cons_succ, List.getElem?_cons_zero]
  refine wpHoldF_late (wanted_none rfl) (fun w => by go_simp; rfl) ?_
  refine wpHoldF_late (wanted_none rfl) (fun w => by go_simp; rfl) ?_
  refine wpHoldF_nil ?_
  intro W1 hb1
  have hcp := copy_bytes (c2 := 16) (cap := 32) (d := 16) (s := 32) (k := 16) (T0.out.grow hb1) (by rw [zs_length]) Hs.out.symm (by rw [zs_length, Hs.out]; decide) (Bs0.some (bytes_row (K0.out.grow hb1)))
  rw [Hst.out] at hcp
  have T1 := (T0.out.grow hb1).set (bysA (s.take 16))
  have R1 := (R0.out.grow hb1).other hg2 (bysA (s.take 16))
  have B1 := Lib.hid (below_setRow (B0.out.trans (hb1.mono B0.out.size)) hg1 (bysA (s.take 16)))
  generalize W1.setRow t (bysA (s.take 16)) = W2 at *
  obtain ⟨t1, t2, t3⟩ := T1
  obtain ⟨r1, r2, r3⟩ := R1
  clear hb1
  go_wp2_with fail
  refine bodyPost_ret (v := .agg (bysA (s.take 16))) (results_tag Tryd.results33 hz2 _ _ _ rfl (by go_simp) (by go_simp)) rfl ⟨rfl, ?_⟩
  exact below_setRow B1.out hg3 _
theorem mac_at {kc bc m nb : Nat} {kp bp : Option Addr} {k b : List Nat} {M : St} {w : World} (hm : m = k.length) (hnb : nb = b.length) (hM : mac k b = M) (hT : Tabs w) (hk : k.length ≤ 1000000) (hkb : ∀ i, k.getD i 0 < 256) (hkB : Bs0 w kp k) (hkc : k.length ≤ kc)
    (hb : b.length ≤ 1000000) (hbb : ∀ i, b.getD i 0 < 256) (hbB : Bs0 w bp b) (hbc : bp = none → bc = 0) :
    Calls Tryd.prog 34 #[.slice kp m kc, .slice bp nb bc] w fun e w' => e = .returned (.agg (keA M)) ∧ Below w.heap.size w w' := by
  subst hm hnb hM
  exact mac_c kc bc kp bp k b w hT hk hkb hkB hkc hb hbb hbB hbc
theorem equal_at {ac bc na nb : Nat} {ap bp : Option Addr} {a b : List Nat} {r : Bool} {w : World} (hna : na = a.length) (hnb : nb = b.length) (hr : decide (a = b) = r) (ha : a.length ≤ 1000000) (hab : ∀ i, a.getD i 0 < 256) (haB : Bs0 w ap a) (hbb : ∀ i, b.getD i 0 < 256) (hbB : Bs0 w bp b) :
    Calls Tryd.prog 22 #[.slice ap na ac, .slice bp nb bc] w fun e w' => e = .returned (.bool r) ∧ Below w.heap.size w w' := by
  subst hna hnb hr
  exact equal_c ac bc ap bp a b w ha hab haB hbb hbB
end Go.Proofs.YtnkfiljmgbnbkaaDoor

/-
  What a function answers: two whole rows, or a row and a plain value.
-/
namespace Go.Proofs.YtnkfiljmgbnbkaaDoor
open Go.RowKit

/-- Two results that are whole rows. -/
theorem results_row2 {P : Program} {fn : Func} {p p' : Tmp} {t t' : TypeId} {d d' : TypeDesc} {cs cs' : Array Value} (w : World) (h : fn.results = #[.cell p t, .cell p' t'])
    (hu : P.underlying t = some d) (hd : (match d with | .struct _ | .array _ _ => true | _ => false) = true) (hi : (P.info? t).map (·.size) = some cs.size)
    (hu' : P.underlying t' = some d') (hd' : (match d' with | .struct _ | .array _ _ => true | _ => false) = true) (hi' : (P.info? t').map (·.size) = some cs'.size)
    (tmps : Array Value) (n n' : Nat) (hp : tmps.getD p undef = .pointer (some ⟨n, 0, none⟩)) (h1 : w.isRow n = true) (h2 : w.rowOf n = cs)
    (hp' : tmps.getD p' undef = .pointer (some ⟨n', 0, none⟩)) (h1' : w.isRow n' = true) (h2' : w.rowOf n' = cs') : (results fn tmps).run P w = .ok (.tuple #[.agg cs, .agg cs']) w := by
  obtain ⟨s, hs⟩ := World.isRow_spec h1
  obtain ⟨s', hs'⟩ := World.isRow_spec h1'
  rw [h2] at hs; rw [h2'] at hs'
  have e : tmps[p]?.getD undef = .pointer (some ⟨n, 0, none⟩) := by simpa using hp
  have e' : tmps[p']?.getD undef = .pointer (some ⟨n', 0, none⟩) := by simpa using hp'
  simp [results, h, e, e', asAddr, run_loadVar_row w n s t cs (0, 0) d hs hu hd hi, run_loadVar_row w n' s' t' cs' (0, 0) d' hs' hu' hd' hi']
/-- A whole row, and a plain value. -/
theorem results_row_slot {P : Program} {fn : Func} {p p' : Tmp} {t : TypeId} {d : TypeDesc} {cs : Array Value} {v : Value} (w : World) (h : fn.results = #[.cell p t, .tmp p'])
    (hu : P.underlying t = some d) (hd : (match d with | .struct _ | .array _ _ => true | _ => false) = true) (hi : (P.info? t).map (·.size) = some cs.size)
    (tmps : Array Value) (n : Nat) (hp : tmps.getD p undef = .pointer (some ⟨n, 0, none⟩)) (h1 : w.isRow n = true) (h2 : w.rowOf n = cs)
    (hp' : tmps.getD p' undef = v) : (results fn tmps).run P w = .ok (.tuple #[.agg cs, v]) w := by
  obtain ⟨s, hs⟩ := World.isRow_spec h1
  rw [h2] at hs
  have e : tmps[p]?.getD undef = .pointer (some ⟨n, 0, none⟩) := by simpa using hp
  have e' : tmps[p']?.getD undef = v := by simpa using hp'
  simp [results, h, e, e', asAddr, run_loadVar_row w n s t cs (0, 0) d hs hu hd hi]
end Go.Proofs.YtnkfiljmgbnbkaaDoor

/-
  Package aead: the tag.
-/
namespace Go.Proofs.YtnkfiljmgbnbkaaDoor
open Go.RowKit Go.Hold Go.Sh Go.Ch Go.Ae

set_option maxRecDepth 100000 in
@[go_sem] theorem run_bldV4 (w : World) (p q r s : Option Addr) (l c m d n e k f : Nat) : (bldV 4 #[(0, .slice p l c), (1, .slice q m d), (2, .slice r n e), (3, .slice s k f)]).run Tryd.prog w = .ok (.slice (some ⟨w.heap.size, 0, none⟩) 4 4) (w.alloc (.cells #[.slice p l c, .slice q m d, .slice r n e, .slice s k f] 24)) := by
  obtain ⟨ie, h1, h2, h3, _⟩ := info_parts info_sl
  refine run_buildSlice w _ _ 4 _ #[.slice p l c, .slice q m d, .slice r n e, .slice s k f] ie _ Tryd.underlying76 h1 h2 (by rw [h3]; decide) (by rw [h3]; decide) ?_
  rw [h3]; kernel_rfl
theorem concat4_c {W : World} {g : Nat} {p q r s : Option Addr} {l m k j : List Nat} {n1 n2 n3 n4 c d e f : Nat} (hg : RowAt W g #[.slice p n1 c, .slice q n2 d, .slice r n3 e, .slice s n4 f]) (h1 : n1 = l.length) (h2 : n2 = m.length) (h3 : n3 = k.length) (h4 : n4 = j.length)
    (hp : Bs0 W p l) (hq : Bs0 W q m) (hr : Bs0 W r k) (hs : Bs0 W s j) (hpc : p = none → c = 0) (hqd : q = none → d = 0) (hre : r = none → e = 0) (hsf : s = none → f = 0) (hn : l.length + m.length + k.length + j.length ≤ 16000000) :
    Calls Tryd.prog 36 #[.slice (some ⟨g, 0, none⟩) 4 4] W fun x w' => ∃ v, x = .returned v ∧ OwnB w' W.heap.size v (l ++ m ++ k ++ j) ∧ Below W.heap.size W w' := by
  subst h1 h2 h3 h4
  have := concat_c g 4 4 [(p, l, c), (q, m, d), (r, k, e), (s, j, f)] W rfl hg (fun s' hs' => by
    rcases List.mem_cons.1 hs' with rfl | hs'
    · exact ⟨hp, hpc⟩
    · rcases List.mem_cons.1 hs' with rfl | hs'
      · exact ⟨hq, hqd⟩
      · rcases List.mem_cons.1 hs' with rfl | hs'
        · exact ⟨hr, hre⟩
        · rcases List.mem_cons.1 hs' with rfl | hs'
          · exact ⟨hs, hsf⟩
          · cases hs') (by simp [flat]; omega) (by decide)
  simpa [flat, List.append_assoc] using this

set_option maxHeartbeats 600000 in
set_option maxRecDepth 100000 in
theorem proved_c (n o h : List Nat) (no nh oc hc : Nat) (op hp : Option Addr) (w : World) (hn : n.length = 12) (hno : no = o.length) (hnh : nh = h.length) (hol : no ≤ 100000) (hhl : nh ≤ 100000) (hoB : Bs0 w op o) (hhB : Bs0 w hp h) (hoc : op = none → oc = 0) (hhc : hp = none → hc = 0) :
    Calls Tryd.prog 35 #[.agg (bysA n), .slice op no oc, .slice hp nh hc] w fun e w' => ∃ v, e = .returned v ∧ OwnB w' w.heap.size v (pf n o h) ∧ Below w.heap.size w w' := by
  have hns := bysA_size' hn
  have HO := Lib.hid hoB
  have HH := Lib.hid hhB
  have HOc := Lib.hid hoc
  have HHc := Lib.hid hhc
  have Hn := Lib.hid hn
  have Hno := Lib.hid hno
  have Hnh := Lib.hid hnh
  have Epf := Lib.hid (show num8 no ++ o ++ n ++ h = pf n o h by rw [hno]; rfl)
  have HN := Lib.hid (fun W => number_c no (by omega) W)
  clear hoB hhB hoc hhc hn hno hnh
  go_enter Tryd.func35, Tryd.ntmps35
  go_wp2_with fail
  have N0 := Lib.hid (RowAt.of (block_new w (.cells (bysA n) 35)))
  have B0 := Lib.hid (below_alloc (Below.refl w.heap.size w) (.cells (bysA n) 35))
  generalize w.alloc (.cells (bysA n) 35) = W0 at *
  refine wp_region_pickT W0 [0, 1, 3, 4, 5] [true, true, true, true, true] [2, 6, 7, 8] (by kernel_rfl) (by kernel_rfl) (by intro c a d v w h; cases d <;> exact h) ((Below.refl _ _).drew) ?_
  simp only [pick, List.getElem?_cons_succ, List.getElem?_cons_zero]
  iterate 5 (refine wpHoldF_late (wanted_none rfl) (fun w => by go_simp; rfl) ?_)
  refine wpHoldF_nil ?_
  intro W1 hb1
  have N1 := Lib.hid (N0.out.grow hb1)
  have B1 := Lib.hid (B0.out.trans (hb1.mono B0.out.size))
  clear hb1 N0 B0
  go_wp2_with fail
  refine (HN.out _).mono ?_
  rintro e W2 ⟨g2, rfl, hr2, hg2, hb2⟩
  have G2 := Lib.hid hr2
  have N2 := Lib.hid (N1.out.grow hb2)
  have B2 := Lib.hid (B1.out.trans (hb2.mono B1.out.size))
  clear hr2 hg2 hb2 N1 B1
  go_wp2_with fail
  have BA := below_alloc (Below.refl W2.heap.size W2) (.cells #[.slice (some ⟨g2, 0, none⟩) 8 8, .slice op no oc, .slice (some ⟨w.heap.size, 0, none⟩) 12 12, .slice hp nh hc] 24)
  refine (concat4_c (RowAt.of (block_new W2 _)) (num8_length no).symm Hno.out Hn.out.symm Hnh.out (Bs0.some (bytes_row (G2.out.grow BA))) ((HO.out.grow B2.out).grow BA) (Bs0.some (bytes_row (N2.out.grow BA))) ((HH.out.grow B2.out).grow BA) (fun h => by cases h) HOc.out (fun h => by cases h) HHc.out (by rw [num8_length, ← Hno.out, ← Hnh.out, Hn.out]; omega)).mono ?_
  rintro e W3 ⟨v, rfl, hown, hb3⟩
  have hb3' := BA.trans (hb3.mono BA.size)
  have B3 := Lib.hid (B2.out.trans (hb3'.mono B2.out.size))
  rw [Epf.out] at hown
  have O3 := Lib.hid (hown.base (Nat.le_trans B2.out.size BA.size))
  clear hown hb3 hb3' BA
  go_wp2_with fail
  go_ret
  exact ⟨v, rfl, O3.out, B3.out⟩

theorem results_tag_slot {fn : Func} {p p' : Tmp} {cs : Array Value} {v : Value} (h : fn.results = #[.cell p 47, .tmp p']) (hc : cs.size = 16) (w : World) (tmps : Array Value) (n : Nat) (hp : tmps.getD p undef = .pointer (some ⟨n, 0, none⟩)) (h1 : w.isRow n = true) (h2 : w.rowOf n = cs) (hp' : tmps.getD p' undef = v) :
    (results fn tmps).run Tryd.prog w = .ok (.tuple #[.agg cs, v]) w :=
  results_row_slot w h Tryd.underlying47 rfl (by rw [hc]; kernel_rfl) tmps n hp h1 h2 hp'

set_option maxHeartbeats 600000 in
set_option maxRecDepth 100000 in
theorem tag_c (k n o h : List Nat) (no nh oc hc : Nat) (op hp : Option Addr) (hk : k.length = 32) (hkb : ∀ i, k.getD i 0 < 256) (hn : n.length = 12) (hnb : ∀ i, n.getD i 0 < 256) (hno : no = o.length) (hob : ∀ i, o.getD i 0 < 256) (hnh : nh = h.length) (hhb : ∀ i, h.getD i 0 < 256)
    (hol : no ≤ 65520) (hhl : nh ≤ 65520) (w : World) (hT : Tabs w) (hoB : Bs0 w op o) (hhB : Bs0 w hp h) (hoc : op = none → oc = 0) (hhc : hp = none → hc = 0) :
    Calls Tryd.prog 21 #[.agg (bysA k), .agg (bysA n), .slice op no oc, .slice hp nh hc] w fun e w' => e = .returned (.tuple #[.agg (bysA (tagL k n o h)), .int .i64 0]) ∧ Below w.heap.size w w' := by
  have hks := bysA_size' hk
  have hns := bysA_size' hn
  have hts := bysA_size' (tagL_length k n o h)
  have HD := Lib.hid (fun (W : World) (hW : Below w.heap.size w W) => prove_c k W (hT.grow hW) hk hkb)
  have HP := Lib.hid (fun (W : World) (hW : Below w.heap.size w W) => proved_c n o h no nh oc hc op hp W hn hno hnh (by omega) (by omega) (hoB.grow hW) (hhB.grow hW) hoc hhc)
  have hpl : (pf n o h).length ≤ 200000 := by rw [pf_length, hn, ← hno, ← hnh]; omega
  have hPs := bysA_size' (kProve_length k)
  have HM := Lib.hid (fun (W : World) (hW : Below w.heap.size w W) (g c : Nat) (q : Option Addr) (hg : RowAt W g (bysA (kProve k))) (hq : Bs0 W q (pf n o h)) (hqc : q = none → c = 0) =>
    mac_at (kc := 32) (bc := c) (m := 32) (nb := (pf n o h).length) (kp := some ⟨g, 0, none⟩) (bp := q) (kProve_length k).symm rfl rfl (hT.grow hW) (by rw [kProve_length]; decide) (kProve_bts k) (Bs0.some (bytes_row hg)) (by rw [kProve_length]; exact Nat.le_refl _) (by omega) (pf_bts hnb hob hhb) hq hqc)
  have HS := Lib.hid (fun W => short_c (keyN (mac (kProve k) (pf n o h))) (keyN_length _) W)
  rw [show (keyN (mac (kProve k) (pf n o h))).take 16 = tagL k n o h from rfl] at HS
  rw [← keA_bys] at HS
  have h1 : ¬ (65520 : Int) < (no : Int) := by omega
  have h2 : ¬ (65520 : Int) < (nh : Int) := by omega
  generalize tagL k n o h = TT at *
  generalize mac (kProve k) (pf n o h) = M at *
  generalize pf n o h = L at *
  generalize kProve k = kp' at *
  clear hk hkb hn hnb hno hob hnh hhb hT hoB hhB hoc hhc hol hhl
  go_enter Tryd.func21, Tryd.ntmps21
  go_wp2_with fail
  generalize hW : World.alloc _ _ = W0
  have N0 := Lib.hid (show RowAt W0 (w.heap.size + 1) (bysA n) by rw [← hW]; clear hW; exact ⟨by go_simp, by go_simp, by go_simp⟩)
  have T0 := Lib.hid (show RowAt W0 (w.heap.size + 1 + 1) (bysA (zs 16)) by rw [← hW]; clear hW; exact ⟨by go_simp, by go_simp; rfl, by go_simp⟩)
  have B0 := Lib.hid (show Below w.heap.size w W0 by rw [← hW]; repeat (first | apply below_more | apply below_alloc | exact Below.refl _ _))
  clear hW
  have hzs : (bysA (zs 16)).size = 16 := by rw [bysA_size, zs_length]
  have hgt : w.heap.size ≤ w.heap.size + 1 + 1 := by omega
  generalize w.heap.size + 1 + 1 = t at *
  generalize w.heap.size + 1 = ng at *
  refine (HD.out W0 B0.out).mono ?_
  rintro e W1 ⟨rfl, hb1⟩
  have N1 := Lib.hid (N0.out.grow hb1)
  have T1 := Lib.hid (T0.out.grow hb1)
  have B1 := Lib.hid (B0.out.trans (hb1.mono B0.out.size))
  clear hb1 N0 T0 B0
  go_wp2_with fail
  have BA := below_alloc (Below.refl W1.heap.size W1) (.cells (bysA kp') 23)
  have P2 := Lib.hid (RowAt.of (block_new W1 (.cells (bysA kp') 23)))
  have N2 := Lib.hid (N1.out.grow BA)
  have T2 := Lib.hid (T1.out.grow BA)
  have B2 := Lib.hid (B1.out.trans (BA.mono B1.out.size))
  clear BA N1 T1 B1
  generalize W1.alloc (.cells (bysA kp') 23) = W2 at *
  generalize W1.heap.size = gp at *
  refine wp_region_pickT W2 [0, 1, 2, 3] [true, false, true, true] [4, 5, 6, 7, 8] (by kernel_rfl) (by kernel_rfl) (by intro c a d v w h; cases d <;> exact h) ((Below.refl _ _).drew) ?_
  simp only [pick, List.getElem?_cons_succ, List.getElem?_cons_zero]
  refine wpHoldF_late (wanted_none rfl) (fun w => by go_simp; rfl) ?_
  obtain ⟨n1, n2, n3⟩ := N2.out
  refine wpHoldF_val (wanted_none rfl) (by intro K o d hK; go_simp; exact hK _ (Below.refl _ _)) ?_
  refine wpHoldF_late (wanted_none rfl) (fun w => by go_simp; rfl) ?_
  refine wpHoldF_late (wanted_none rfl) (fun w => by go_simp; rfl) ?_
  refine wpHoldF_nil ?_
  intro W3 hb3
  have P3 := Lib.hid (P2.out.grow hb3)
  have T3 := Lib.hid (T2.out.grow hb3)
  have B3 := Lib.hid (B2.out.trans (hb3.mono B2.out.size))
  clear hb3 n1 n2 n3 N2 P2 T2 B2
  go_wp2_with fail
  refine (HP.out W3 B3.out).mono ?_
  rintro e W4 ⟨v, rfl, hown, hb4⟩
  obtain ⟨pv, cv, rfl, hbs, _, hpc⟩ := hown.bs
  have P4 := Lib.hid (P3.out.grow hb4)
  have T4 := Lib.hid (T3.out.grow hb4)
  have B4 := Lib.hid (B3.out.trans (hb4.mono B3.out.size))
  have HM4 := Lib.hid (HM.out W4 B4.out gp cv pv P4.out hbs hpc)
  clear hb4 hown hbs hpc P3 T3 B3 HM HP
  generalize L.length = nl at *
  go_wp2_with fail
  refine HM4.out.mono ?_
  rintro e W5 ⟨rfl, hb5⟩
  have T5 := Lib.hid (T4.out.grow hb5)
  have B5 := Lib.hid (B4.out.trans (hb5.mono B4.out.size))
  clear hb5 P4 T4 B4 HM4
  go_wp2_with fail
  refine (HS.out W5).mono ?_
  rintro e W6 ⟨rfl, hb6⟩
  obtain ⟨t1, t2, t3⟩ := T5.out.grow hb6
  have B6 := Lib.hid (B5.out.trans (hb6.mono B5.out.size))
  clear hb6 T5 B5
  go_wp2_with fail
  refine bodyPost_ret (v := .tuple #[.agg (bysA TT), .int .i64 0]) (results_tag_slot Tryd.results21 hts _ _ _ rfl (by go_simp) (by go_simp) rfl) rfl ⟨rfl, ?_⟩
  exact below_setRow B6.out hgt _
end Go.Proofs.YtnkfiljmgbnbkaaDoor

/-
  Package aead: bytes, hidden, and a tag behind them.
-/
namespace Go.Proofs.YtnkfiljmgbnbkaaDoor
open Go.RowKit Go.Hold Go.Sh Go.Ch Go.Ae

set_option maxHeartbeats 600000 in
set_option maxRecDepth 100000 in
theorem seal_c (k n o b : List Nat) (no nb oc bc : Nat) (op bp : Option Addr) (hk : k.length = 32) (hkb : ∀ i, k.getD i 0 < 256) (hn : n.length = 12) (hnb : ∀ i, n.getD i 0 < 256) (hno : no = o.length) (hob : ∀ i, o.getD i 0 < 256) (hnb' : nb = b.length) (hbb : ∀ i, b.getD i 0 < 256)
    (hol : no ≤ 65520) (hbl : nb ≤ 65520) (w : World) (hT : Tabs w) (hoB : Bs0 w op o) (hbB : Bs0 w bp b) (hoc : op = none → oc = 0) :
    Calls Tryd.prog 13 #[.agg (bysA k), .agg (bysA n), .slice op no oc, .slice bp nb bc] w fun e w' => ∃ g c, e = .returned (.tuple #[.slice (some ⟨g, 0, none⟩) (nb + 16) c, .int .i64 0]) ∧ OwnB w' w.heap.size (.slice (some ⟨g, 0, none⟩) (nb + 16) c) (sealL k n o b) ∧ Below w.heap.size w w' := by
  have hks := bysA_size' hk
  have hns := bysA_size' hn
  have HX := Lib.hid (fun (W : World) (hW : Below w.heap.size w W) => aturn_c k n b nb bc bp hk hkb hn hnb hnb' hbb (by omega) W (hT.grow hW) (hbB.grow hW))
  have hHl := hideL_length k n b
  have HHb := Lib.hid (hideL_bts (k := k) (n := n) hbb)
  have Hse := Lib.hid (show sealL k n o b = hideL k n b ++ tagL k n o (hideL k n b) from rfl)
  generalize sealL k n o b = SS at *
  generalize hideL k n b = H at *
  have HHl := Lib.hid (show nb = H.length by rw [hHl]; exact hnb')
  have HTg := Lib.hid (fun (W : World) (hW : Below w.heap.size w W) (g : Nat) (hg : RowAt W g (bysA H)) => tag_c k n o H no nb oc nb op (some ⟨g, 0, none⟩) hk hkb hn hnb hno hob HHl.out HHb.out hol hbl W (hT.grow hW) (hoB.grow hW) (Bs0.some (bytes_row hg)) hoc (fun h => by cases h))
  have HTl := Lib.hid (tagL_length k n o H)
  generalize tagL k n o H = TT at *
  have hts := bysA_size' HTl.out
  clear hk hkb hn hnb hno hob hnb' hbb hT hoB hbB hoc hol hHl
  go_enter Tryd.func13, Tryd.ntmps13
  go_wp2_with fail
  generalize hW : World.alloc _ _ = W0
  have K0 := Lib.hid (show RowAt W0 w.heap.size (bysA k) by rw [← hW]; clear hW; exact ⟨by go_simp, by go_simp, by go_simp⟩)
  have N0 := Lib.hid (show RowAt W0 (w.heap.size + 1) (bysA n) by rw [← hW]; clear hW; exact ⟨by go_simp, by go_simp, by go_simp⟩)
  have B0 := Lib.hid (show Below w.heap.size w W0 by rw [← hW]; repeat (first | apply below_more | apply below_alloc | exact Below.refl _ _))
  clear hW
  generalize w.heap.size + 1 = gn at *
  generalize ez : w.heap.size = gk at K0 ⊢
  have Ez := Lib.hid ez
  clear ez
  refine (HX.out W0 B0.out).mono ?_
  rintro e W1 ⟨g, rfl, hr, _, hb1⟩
  have G1 := Lib.hid hr
  have K1 := Lib.hid (K0.out.grow hb1)
  have N1 := Lib.hid (N0.out.grow hb1)
  have B1 := Lib.hid (B0.out.trans (hb1.mono B0.out.size))
  clear hb1 hr K0 N0 B0 HX
  obtain ⟨k1, k2, k3⟩ := K1.out
  obtain ⟨n1, n2, n3⟩ := N1.out
  go_wp2_with fail
  refine (HTg.out W1 B1.out g G1.out).mono ?_
  rintro e W2 ⟨rfl, hb2⟩
  have G2 := Lib.hid (G1.out.grow hb2)
  have B2 := Lib.hid (B1.out.trans (hb2.mono B1.out.size))
  clear hb2 G1 B1 HTg k1 k2 k3 n1 n2 n3 K1 N1
  have BA := below_alloc (Below.refl W2.heap.size W2) (.cells (bysA TT) 47)
  have G3 := G2.out.grow BA
  have T3 := RowAt.of (block_new W2 (.cells (bysA TT) 47))
  have B3 := Lib.hid (B2.out.trans (BA.mono B2.out.size))
  obtain ⟨c, W4, hr, hown, hb4⟩ := app_full (cap := 16) (bytes_row G3) HHl.out (bytes_row T3) HTl.out.symm (by decide) (by omega)
  have B4 := Lib.hid (B3.out.trans (hb4.mono B3.out.size))
  rw [← Hse.out] at hown
  have O4 := Lib.hid (hown.base (show w.heap.size ≤ _ from B3.out.size))
  rw [World.size_alloc] at O4
  clear hown hb4 BA G3 T3
  go_wp2_with (at_builtin; refine Lib.wpList_append_run _ rfl _ _ _ _ rfl _ _ rfl rfl _ _ hr ?_)
  go_wp2_with fail
  refine bodyPost_ret (v := .tuple #[.slice (some ⟨_, 0, none⟩) (nb + 16) c, .int .i64 0]) (results_tmp2 Tryd.results13 _ _ _) rfl ⟨_, c, rfl, O4.out, B4.out⟩
end Go.Proofs.YtnkfiljmgbnbkaaDoor

/-
  Package aead: what was sealed, opened.
-/
namespace Go.Proofs.YtnkfiljmgbnbkaaDoor
open Go.RowKit Go.Hold Go.Sh Go.Ch Go.Ae

theorem lays_tag (o : Oper) (h : o.op = .alloc 47) (hg : o.guard = none) : Lays Tryd.prog o 47 #[.int .u8 0, .int .u8 0, .int .u8 0, .int .u8 0, .int .u8 0, .int .u8 0, .int .u8 0, .int .u8 0, .int .u8 0, .int .u8 0, .int .u8 0, .int .u8 0, .int .u8 0, .int .u8 0, .int .u8 0, .int .u8 0] := by
  refine ⟨hg, fun a w => ?_⟩
  obtain ⟨dst, op, ty, pos, after, guard⟩ := o
  simp only at h hg
  subst h; subst hg
  go_simp
/-- What both answer. -/
def openL (k n o b : List Nat) : List Nat × Int := if b.length < 16 then ([], 4) else if tagL k n o (b.take (b.length - 16)) = b.drop (b.length - 16) then (hideL k n (b.take (b.length - 16)), 0) else ([], 6)
theorem openL_bts {k n o b : List Nat} (hb : ∀ i, b.getD i 0 < 256) : ∀ i, (openL k n o b).1.getD i 0 < 256 := by
  unfold openL
  split
  · intro i; simp
  · split
    · exact hideL_bts (bts_take hb _)
    · intro i; simp
set_option maxHeartbeats 1000000 in
set_option maxRecDepth 100000 in
theorem open_c (k n o b X : List Nat) (er : Int) (no nb oc bc : Nat) (op bp : Option Addr) (hk : k.length = 32) (hkb : ∀ i, k.getD i 0 < 256) (hn : n.length = 12) (hnb : ∀ i, n.getD i 0 < 256) (hno : no = o.length) (hob : ∀ i, o.getD i 0 < 256) (hnb' : nb = b.length) (hbb : ∀ i, b.getD i 0 < 256)
    (hol : no ≤ 65520) (hbl : nb ≤ 65536) (hbc : nb ≤ bc) (w : World) (hT : Tabs w) (hoB : Bs0 w op o) (hbB : Bs0 w bp b) (hoc : op = none → oc = 0) (hX : openL k n o b = (X, er)) :
    Calls Tryd.prog 14 #[.agg (bysA k), .agg (bysA n), .slice op no oc, .slice bp nb bc] w fun e w' => ∃ p c, e = .returned (.tuple #[.slice p X.length c, .int .i64 er]) ∧ Bs0 w' p X ∧ X.length ≤ c ∧ Below w.heap.size w w' := by
  by_cases hsh : nb < 16
  · have h1 : (nb : Int) < 16 := by omega
    obtain ⟨rfl, rfl⟩ : [] = X ∧ (4 : Int) = er := by
      unfold openL at hX; rw [if_pos (by omega)] at hX; simpa using hX
    clear hk hkb hn hnb hno hob hnb' hbb hT hoB hbB hoc hol hX hsh
    go_enter Tryd.func14, Tryd.ntmps14
    go_wp2_with fail
    refine bodyPost_ret (v := .tuple #[.slice none 0 0, .int .i64 4]) (results_tmp2 Tryd.results14 _ _ _) rfl ⟨none, 0, rfl, .inl rfl, Nat.le_refl _, by repeat (first | apply below_alloc | exact Below.refl _ _)⟩
  have h1 : ¬ (nb : Int) < 16 := by omega
  obtain ⟨m, em⟩ : ∃ m, m = nb - 16 := ⟨_, rfl⟩
  have h2 : IntKind.i64.wrap ((nb : Int) - 16) = (m : Int) := by rw [IntWalk.i64_in _ (by omega)]; omega
  obtain ⟨gb, ob, rfl, hbA⟩ : ∃ g o, bp = some ⟨g, o, none⟩ ∧ BytesAt w g o b := by
    rcases hbB with h | h
    · rw [h] at hnb'; simp at hnb'; omega
    · exact h
  have hks := bysA_size' hk
  have hns := bysA_size' hn
  have hs1 : ∀ W, (slB (.slice (some ⟨gb, ob, none⟩) nb bc) none (some (.int .i64 (m : Int))) none).run Tryd.prog W = .ok (.slice (some ⟨gb, ob, none⟩) m bc) W := fun W => slB_h _ nb bc m (by omega) W
  have hs2 : ∀ W, (slB (.slice (some ⟨gb, ob, none⟩) nb bc) (some (.int .i64 (m : Int))) none none).run Tryd.prog W = .ok (.slice (some ⟨gb, adv ob m bc, none⟩) 16 (bc - m)) W := fun W => by
    have := slB_lo gb ob nb bc m (by omega) W
    rwa [show nb - m = 16 by omega] at this
  have htl : m = (b.take m).length := by rw [List.length_take]; omega
  have hdl : 16 = (b.drop m).length := by rw [List.length_drop]; omega
  have HTg := Lib.hid (fun (W : World) (hW : Below w.heap.size w W) => tag_c k n o (b.take m) no m oc bc op (some ⟨gb, ob, none⟩) hk hkb hn hnb hno hob htl (bts_take hbb m) hol (by omega) W (hT.grow hW) (hoB.grow hW) ((Bs0.some (hbA.grow hW)).take m) hoc (fun h => by cases h))
  have HTr := Lib.hid (fun (W : World) (hW : Below w.heap.size w W) => aturn_c k n (b.take m) m bc (some ⟨gb, ob, none⟩) hk hkb hn hnb htl (bts_take hbb m) (by omega) W (hT.grow hW) ((Bs0.some (hbA.grow hW)).take m))
  have HDr := Lib.hid (fun (W : World) (hW : Below w.heap.size w W) => Bs0.some (BytesAt.adv (n := m) (cap := bc) (hbA.grow hW) (by rw [← hnb']; exact hbc)))
  have HDb := Lib.hid (bts_drop hbb m)
  have HTb := Lib.hid (tagL_bts k n o (b.take m))
  have HTl := Lib.hid (tagL_length k n o (b.take m))
  have HDl := Lib.hid hdl
  have hX' : (if tagL k n o (b.take m) = b.drop m then (hideL k n (b.take m), (0 : Int)) else ([], 6)) = (X, er) := by
    have h := hX
    rw [openL, if_neg (by omega), ← hnb', ← em] at h
    exact h
  have hHl : (hideL k n (b.take m)).length = m := by rw [hideL_length]; exact htl.symm
  generalize hideL k n (b.take m) = H at *
  generalize tagL k n o (b.take m) = TT at *
  generalize b.drop m = D at *
  generalize adv ob m bc = oa at *
  obtain ⟨R, eR⟩ : ∃ R, decide (TT = D) = R := ⟨_, rfl⟩
  have HE := Lib.hid (fun (W : World) (hW : Below w.heap.size w W) (g : Nat) (hg : RowAt W g (bysA TT)) => equal_at (ac := 16) (bc := bc - m) HTl.out.symm HDl.out eR (by rw [HTl.out]; decide) HTb.out (Bs0.some (bytes_row hg)) HDb.out (HDr.out W hW))
  have ER := Lib.hid eR
  have HX' := Lib.hid hX'
  have HHl := Lib.hid hHl
  have hts := bysA_size' HTl.out
  clear hk hkb hn hnb hno hob hnb' hbb hT hoB hbB hoc hol hX hsh em htl hdl eR hX' hHl hbA HDr hbl
  go_enter Tryd.func14, Tryd.ntmps14
  go_wp2_with fail
  generalize hW : World.alloc _ _ = W0
  have K0 := Lib.hid (show RowAt W0 w.heap.size (bysA k) by rw [← hW]; clear hW; exact ⟨by go_simp, by go_simp, by go_simp⟩)
  have N0 := Lib.hid (show RowAt W0 (w.heap.size + 1) (bysA n) by rw [← hW]; clear hW; exact ⟨by go_simp, by go_simp, by go_simp⟩)
  have B0 := Lib.hid (show Below w.heap.size w W0 by rw [← hW]; repeat (first | apply below_more | apply below_alloc | exact Below.refl _ _))
  clear hW
  generalize w.heap.size + 1 = gn at *
  generalize ez : w.heap.size = gk at K0 ⊢
  have Ez := Lib.hid ez
  clear ez
  obtain ⟨k1, k2, k3⟩ := K0.out
  obtain ⟨n1, n2, n3⟩ := N0.out
  refine wp_region_pick W0 [0, 1, 2, 3, 4, 5, 6, 7, 8, 9] [false, false, false, false, false, false, false, false, false, true] [10] [(47, #[.int .u8 0, .int .u8 0, .int .u8 0, .int .u8 0, .int .u8 0, .int .u8 0, .int .u8 0, .int .u8 0, .int .u8 0, .int .u8 0, .int .u8 0, .int .u8 0, .int .u8 0, .int .u8 0, .int .u8 0, .int .u8 0])] 11 (by kernel_rfl) rfl (by kernel_rfl) (by intro c a d v w h; cases d <;> exact h) ((Below.refl _ _).drew) ?_
  simp only [pick, List.getElem?_cons_succ, List.getElem?_cons_zero, List.drop_succ_cons, List.drop_zero]
  iterate 6 (refine wpHoldF_val (wanted_none rfl) (by intro K o d hK; go_simp; exact hK _ (Below.refl _ _)) ?_)
  refine wpHoldF_call (v := .tuple #[.agg (bysA TT), .int .i64 0]) (wanted_none rfl) (by intro K o d hK; go_simp; refine (HTg.out _ (below_plus_of _ _ _ B0.out B0.out.size)).mono ?_; rintro e w' ⟨rfl, hbw⟩; exact ⟨_, rfl, hK _ hbw⟩) ?_
  iterate 2 (refine wpHoldF_val (wanted_none rfl) (by intro K o d hK; go_simp; exact hK _ (Below.refl _ _)) ?_)
  refine wpHoldF_late (wanted_none rfl) (fun w => by go_simp; rfl) ?_
  refine wpHoldF_nil ?_
  refine ⟨lays_tag _ rfl rfl, fun gt hgt hnt => ?_⟩
  intro W1 hb1 hblk
  have T1 := RowAt.of (hblk 0 gt _ _ rfl rfl)
  have K1 := (K0.out.grow hb1).other (show gk ≠ gt by omega) (bysA TT)
  have N1 := (N0.out.grow hb1).other (show gn ≠ gt by omega) (bysA TT)
  have T2 := Lib.hid (T1.set (bysA TT))
  have B1 := Lib.hid (below_setRow (B0.out.trans (hb1.mono B0.out.size)) (Nat.le_trans B0.out.size hgt) (bysA TT))
  have K2 := Lib.hid K1
  have N2 := Lib.hid N1
  clear hb1 hblk hgt hnt k1 k2 k3 n1 n2 n3 K0 N0 B0 K1 N1
  obtain ⟨t1, t2, t3⟩ := T1
  go_wp2_with fail
  clear t1 t2 t3
  generalize World.setRow _ _ _ = W2 at *
  obtain ⟨t1, t2, t3⟩ := T2.out
  refine wp_region_pickT W2 [0, 1, 2, 3, 4, 5] [false, false, false, false, false, false] [] (by kernel_rfl) (by kernel_rfl) (by intro c a d v w h; cases d <;> exact h) ((Below.refl _ _).drew) ?_
  simp only [pick, List.getElem?_cons_succ, List.getElem?_cons_zero]
  iterate 4 (refine wpHoldF_val (wanted_none rfl) (by intro K o d hK; go_simp; exact hK _ (Below.refl _ _)) ?_)
  refine wpHoldF_call (v := .bool R) (wanted_none rfl) (by intro K o d hK; go_simp; refine (HE.out _ (below_plus_of _ _ _ B1.out B1.out.size) gt (T2.out.grow (below_plus_of _ _ _ (Below.refl _ _) (Nat.le_refl _)))).mono ?_; rintro e w' ⟨rfl, hbw⟩; exact ⟨_, rfl, hK _ hbw⟩) ?_
  refine wpHoldF_val (wanted_none rfl) (by intro K o d hK; go_simp; exact hK _ (Below.refl _ _)) ?_
  refine wpHoldF_nil ?_
  intro W3 hb3
  have K3 := Lib.hid (K2.out.grow hb3)
  have N3 := Lib.hid (N2.out.grow hb3)
  have B3 := Lib.hid (B1.out.trans (hb3.mono B1.out.size))
  clear hb3 t1 t2 t3 K2 N2 T2 B1 HE HTg
  cases R with
  | false =>
    obtain ⟨rfl, rfl⟩ : [] = X ∧ (6 : Int) = er := by
      have := HX'.out
      rw [if_neg (of_decide_eq_false ER.out)] at this; simpa using this
    go_wp2_with fail
    refine bodyPost_ret (v := .tuple #[.slice none 0 0, .int .i64 6]) (results_tmp2 Tryd.results14 _ _ _) rfl ⟨none, 0, rfl, .inl rfl, Nat.le_refl _, B3.out⟩
  | true =>
    obtain ⟨rfl, rfl⟩ : H = X ∧ (0 : Int) = er := by
      have := HX'.out
      rw [if_pos (of_decide_eq_true ER.out)] at this; simpa using this
    go_wp2_with fail
    refine wp_region_grows W3 8 (fun w w' => Below w.heap.size w w') (listR [fixV (.agg (bysA k)), fixV (.agg (bysA n)), fixV (.slice (some ⟨gb, ob, none⟩) nb bc), fixV (.int .i64 (m : Int)), fixV (.slice (some ⟨gb, ob, none⟩) m bc), rowV W3.heap.size (fun g => .tuple #[.slice (some ⟨g, 0, none⟩) m m, .int .i64 0]) (bysA H), rowV W3.heap.size (fun g => .slice (some ⟨g, 0, none⟩) m m) (bysA H), fixV (.int .i64 0)]) [8, 9] [0, 1, 2, 3, 4, 5, 6, 7] [some 38, some 39, some 40, some 41, some 42, some 43, some 44, some 45] (by kernel_rfl) (by kernel_rfl) (by kernel_rfl) (by kernel_rfl) ((Below.refl _ _).drew) (fun w w' h h' => h.trans (h'.mono h.size)) (listR_mono ⟨stays_fix _, stays_fix _, stays_fix _, stays_fix _, stays_fix _, stays_row _ _ _, stays_row _ _ _, stays_fix _, trivial⟩) ?_
    intro vals
    simp only [List.take_succ_cons, List.take_zero]
    refine ⟨grow_val [] [] (by kernel_rfl) rfl (fun K w hb hd hK => ⟨wanted_none rfl, ?_⟩), ?_⟩
    · obtain ⟨k1, k2, k3⟩ := K3.out.grow hb
      simp only [putZ]
      go_simp
      exact hK _ _ _ (Below.refl _ _) rfl
    refine ⟨grow_val [] [] (by kernel_rfl) rfl (fun K w hb hd hK => ⟨wanted_none rfl, ?_⟩), ?_⟩
    · obtain ⟨k1, k2, k3⟩ := N3.out.grow hb
      simp only [putZ]
      go_simp
      exact hK _ _ _ (Below.refl _ _) rfl
    refine ⟨grow_val [] [] (by kernel_rfl) rfl (fun K w hb hd hK => ⟨wanted_none rfl, ?_⟩), ?_⟩
    · simp only [putZ]
      go_simp
      exact hK _ _ _ (Below.refl _ _) rfl
    refine ⟨grow_val [] [] (by kernel_rfl) rfl (fun K w hb hd hK => ⟨wanted_none rfl, ?_⟩), ?_⟩
    · simp only [putZ]
      go_simp
      exact hK _ _ _ (Below.refl _ _) rfl
    refine ⟨grow_val [2, 3] [some 40, some 41] (by kernel_rfl) (by kernel_rfl) (fun K w hb hd hK => ⟨wanted_none rfl, ?_⟩), ?_⟩
    · have d2 : vals 2 = .slice (some ⟨gb, ob, none⟩) nb bc := hd 2 (by simp)
      have d3 : vals 3 = .int .i64 (m : Int) := hd 3 (by simp)
      simp only [List.map_cons, List.map_nil, putZ, d2, d3]
      go_simp
      exact hK _ _ _ (Below.refl _ _) rfl
    refine ⟨grow_call [0, 1, 4] [some 38, some 39, some 42] (by kernel_rfl) (by kernel_rfl) (fun K w hb hd hK => ⟨wanted_none rfl, ?_⟩), ?_⟩
    · have d0 : vals 0 = .agg (bysA k) := hd 0 (by simp)
      have d1 : vals 1 = .agg (bysA n) := hd 1 (by simp)
      have d4 : vals 4 = .slice (some ⟨gb, ob, none⟩) m bc := hd 4 (by simp)
      simp only [List.map_cons, List.map_nil, putZ, d0, d1, d4]
      go_simp
      refine (HTr.out w (B3.out.trans (hb.mono B3.out.size))).mono ?_
      rintro e w' ⟨g, rfl, hr, hg, hb'⟩
      exact ⟨_, rfl, hK _ _ hb' ⟨g, rfl, hr, Nat.le_trans hb.size hg⟩⟩
    refine ⟨grow_val [5] [some 43] (by kernel_rfl) (by kernel_rfl) (fun K w hb hd hK => ⟨wanted_none rfl, ?_⟩), ?_⟩
    · obtain ⟨g5, d5, hr5, hg5⟩ : ∃ g, vals 5 = .tuple #[.slice (some ⟨g, 0, none⟩) m m, .int .i64 0] ∧ RowAt w g (bysA H) ∧ W3.heap.size ≤ g := hd 5 (by simp)
      simp only [List.map_cons, List.map_nil, putZ, d5]
      go_simp
      exact hK _ _ _ (Below.refl _ _) ⟨g5, rfl, hr5, hg5⟩
    refine ⟨grow_val [5] [some 43] (by kernel_rfl) (by kernel_rfl) (fun K w hb hd hK => ⟨wanted_none rfl, ?_⟩), ?_⟩
    · obtain ⟨g5, d5, hr5, hg5⟩ : ∃ g, vals 5 = .tuple #[.slice (some ⟨g, 0, none⟩) m m, .int .i64 0] ∧ RowAt w g (bysA H) ∧ W3.heap.size ≤ g := hd 5 (by simp)
      simp only [List.map_cons, List.map_nil, putZ, d5]
      go_simp
      exact hK _ _ _ (Below.refl _ _) rfl
    intro W4 hbg hR
    obtain ⟨g, d6, hr6, hg6⟩ : ∃ g, vals 6 = .slice (some ⟨g, 0, none⟩) m m ∧ RowAt W4 g (bysA H) ∧ W3.heap.size ≤ g := hR 6 (by simp)
    obtain d7 : vals 7 = .int .i64 0 := hR 7 (by simp)
    clear hR
    simp only [List.map_cons, List.map_nil, putZ, d6, d7, pick, List.getElem?_cons_succ, List.getElem?_cons_zero]
    generalize vals 0 = e0
    generalize vals 1 = e1
    generalize vals 2 = e2
    generalize vals 3 = e3
    generalize vals 4 = e4
    generalize vals 5 = e5
    clear d6 d7
    have B4 := Lib.hid (B3.out.trans (hbg.mono B3.out.size))
    have R4 := Lib.hid hr6
    clear hbg hr6 hg6
    go_wp2_with fail
    exact bodyPost_ret (v := .tuple #[.slice (some ⟨g, 0, none⟩) m m, .int .i64 0]) (results_tmp2 Tryd.results14 _ _ _) rfl ⟨_, m, by rw [HHl.out], Bs0.some (bytes_row R4.out), by rw [HHl.out]; exact Nat.le_refl _, B4.out⟩
end Go.Proofs.YtnkfiljmgbnbkaaDoor

/-
  A constant's bytes: a row that is marked behind its end.
-/
namespace Go.Proofs.YtnkfiljmgbnbkaaDoor
open Go.RowKit Go.Hold Go.Sh

/-- A row of bytes, marked or not. -/
def CellsAt (w : World) (g : Nat) (l : List Nat) : Prop := ∃ f, w.heap[g]? = some (.cells (bysA l) 5 f)
theorem CellsAt.bytes {w : World} {g : Nat} {l : List Nat} (h : CellsAt w g l) : BytesAt w g 0 l := by
  obtain ⟨f, h⟩ := h
  exact ⟨(Array.getElem?_eq_some_iff.1 h).1, fun i hi => by rw [Nat.zero_add, cell_of_row _ _ i _ _ _ h]; exact bysA_get l i hi⟩
/-- The memory grows; what cells there are stay. -/
def Keeps (W w w' : World) : Prop := Below W.heap.size w w' ∧ ∀ (g : Nat) (c : Array Value) (t : TypeId) (f : Nat × Nat), w.heap[g]? = some (Obj.cells c t f) → ∃ f', w'.heap[g]? = some (Obj.cells c t f')
theorem keeps_below {W w w' : World} (hb : Below W.heap.size W w) (h : Below w.heap.size w w') : Keeps W w w' :=
  ⟨h.mono hb.size, fun g c t f hg => ⟨f, by rw [h.block g (Array.getElem?_eq_some_iff.1 hg).1]; exact hg⟩⟩
theorem CellsAt.keep {W w w' : World} {g : Nat} {l : List Nat} (h : CellsAt w g l) (hk : Keeps W w w') : CellsAt w' g l := by
  obtain ⟨f, h⟩ := h
  exact hk.2 _ _ _ _ h
def cvBB (v : Value) : Sem Value := convert 24 24 v
/-- The mark of a constant's row. -/
theorem run_cvBB {W w : World} {g n c : Nat} {l : List Nat} (hg : W.heap.size ≤ g) (h : CellsAt w g l) : ∃ w', (convert 24 24 (.slice (some ⟨g, 0, none⟩) n c)).run Tryd.prog w = .ok (.slice (some ⟨g, 0, none⟩) n c) w' ∧ Keeps W w w' := by
  obtain ⟨f, h⟩ := h
  have hsh : w.shape? g = some (5, (bysA l).size) := by unfold World.shape?; rw [h]
  refine ⟨w.freeze ⟨g, (bysA l).size, none⟩ 1, ?_, ?_, ?_⟩
  · simp [convert, run_underlying Tryd.underlying24, run_underlying Tryd.underlying5, markStringish, hsh]
  · unfold World.freeze
    rw [if_neg (by decide)]
    exact ⟨rfl, rfl, rfl, by simp, fun k hk => by simp only [Array.getElem?_modify]; rw [if_neg (by omega)]⟩
  · intro g' c t f' hg'
    unfold World.freeze
    rw [if_neg (by decide)]
    simp only [Array.getElem?_modify]
    by_cases e : g = g'
    · rw [if_pos e, hg']; exact ⟨_, rfl⟩
    · rw [if_neg e]; exact ⟨f', hg'⟩
/-- The mark of a row that is new. -/
theorem mark_new (w : World) (l : List Nat) (n c : Nat) : ∃ w', (convert 24 24 (.slice (some ⟨w.heap.size, 0, none⟩) n c)).run Tryd.prog (w.alloc (.cells (bysA l) 5)) = .ok (.slice (some ⟨w.heap.size, 0, none⟩) n c) w' ∧ Below w.heap.size w w' ∧ BytesAt w' w.heap.size 0 l := by
  have h0 : CellsAt (w.alloc (.cells (bysA l) 5)) w.heap.size l := ⟨_, block_new w _⟩
  obtain ⟨w', hr, hk⟩ := run_cvBB (W := w) (n := n) (c := c) (Nat.le_refl _) h0
  exact ⟨w', hr, (below_alloc (Below.refl _ _) _).trans hk.1, (h0.keep hk).bytes⟩
end Go.Proofs.YtnkfiljmgbnbkaaDoor

/-
  A nonce of a key.
-/
namespace Go.Proofs.YtnkfiljmgbnbkaaDoor
open Go.RowKit Go.Hold Go.Sh

/-! ### A nonce of a key -/
theorem arr_non (b o cap : Nat) (w : World) : (Instr.arrayAt 35 (.slice (some ⟨b, o, none⟩) 12 cap)).run Tryd.prog w = .ok (.pointer (some ⟨b, o, none⟩)) w := by
  simp [Instr.arrayAt, run_underlying Tryd.underlying35]
theorem load_non {w : World} {b o : Nat} {l : List Nat} (h : BytesAt w b o l) (hl : 12 ≤ l.length) : (loadRow 35 (.pointer (some ⟨b, o, none⟩))).run Tryd.prog w = .ok (.agg (bysA (l.take 12))) w := by
  have e : (Tryd.prog.info? 35).map (·.size) = some 12 := by kernel_rfl
  have hbl : (bys (l.take 12)).length = 12 := by rw [bys_length, List.length_take]; omega
  refine run_loadAt_mid w b o _ (bys (l.take 12)) _ (fun j v hv => ?_) Tryd.underlying35 rfl (by rw [hbl]; exact e)
  have hj : j < 12 := by have := (List.getElem?_eq_some_iff.1 hv).1; omega
  rw [h.2 j (by omega), ← hv]
  simp only [bys, List.getElem?_map, List.getElem?_take, if_pos hj, List.getD]
  rw [List.getElem?_eq_getElem (by omega)]; rfl
/-! ### A nonce that is built -/
@[go_sem ↓] theorem build_non (ps : Array (Nat × Value)) : Instr.build 35 ps = bldA 35 ps := rfl
set_option maxRecDepth 100000 in
@[go_sem] theorem run_bldNon0 (w : World) : (bldA 35 #[]).run Tryd.prog w = .ok (.agg (bysA (zs 12))) w := run_build w _ _ _ (by kernel_rfl)
end Go.Proofs.YtnkfiljmgbnbkaaDoor

/-
  What was sealed, as it is opened; bytes of a constant; what lies in a slice of one's own.
-/
namespace Go.Proofs.YtnkfiljmgbnbkaaDoor
open Go.RowKit Go.Hold Go.Sh Go.Ch Go.Ae

theorem bts_dec {l : List Nat} (h : (l.all fun y => decide (y < 256)) = true) : ∀ i, l.getD i 0 < 256 := getD_lt fun x hx => by simpa using List.all_eq_true.1 h x hx
@[go_sem ↓ high] theorem fold_cvBB (v : Value) : convert 24 24 v = cvBB v := rfl
theorem openL_seal (k n o b : List Nat) : openL k n o (sealL k n o b) = (b, 0) := by
  unfold openL
  rw [if_neg (by rw [sealL_length]; omega), sealL_length, Nat.add_sub_cancel, sealL_take, sealL_drop, if_pos rfl, hideL_twice]
theorem openL_short (k n o b : List Nat) (h : b.length < 16) : openL k n o b = ([], 4) := by
  unfold openL; rw [if_pos h]
/-- What lies in a slice of one's own. -/
theorem own_bytes {w : World} {B g m c : Nat} {l : List Nat} (h : OwnB w B (.slice (some ⟨g, 0, none⟩) m c) l) : BytesAt w g 0 l ∧ m = l.length ∧ m ≤ c := by
  have hg : g < w.heap.size := (h.ltb g rfl).2
  refine ⟨h.bytes hg, ?_⟩
  obtain ⟨p, c', e, _, hc, _⟩ := h.bs
  injection e with _ a2 a3
  exact ⟨a2, by rw [a2, a3]; exact hc⟩
end Go.Proofs.YtnkfiljmgbnbkaaDoor

/-
  What is sealed of two texts of one size differs just where the texts differ, but for the tag.
-/
namespace Go.Proofs.YtnkfiljmgbnbkaaDoor
open Go.RowKit Go.Hold Go.Sh Go.Ch Go.Ae

def ab : List Nat := [97, 98]
theorem toS_ab : toS ab = ⟨#[97, 98]⟩ := rfl
def non1 : List Nat := [1, 0, 0, 0, 0, 0, 0, 0, 0, 0, 0, 0]
theorem run_bldNon1 (w : World) : (bldA 35 #[(0, .int .u8 1)]).run Tryd.prog w = .ok (.agg (bysA non1)) w := run_build w _ _ _ (by kernel_rfl)
set_option maxRecDepth 100000 in
@[go_sem] theorem run_bldBab (w : World) : (bldB 2 #[(0, .int .u8 97), (1, .int .u8 98)]).run Tryd.prog w = .ok (.slice (some ⟨w.heap.size, 0, none⟩) 2 2) (w.alloc (.cells (bysA ab) 5)) := by
  obtain ⟨ie, h1, h2, h3, _⟩ := info_parts info_u8
  refine run_buildSlice w _ _ 2 _ (bysA ab) ie _ Tryd.underlying24 h1 h2 (by rw [h3]; decide) (by rw [h3]; decide) ?_
  rw [h3]; kernel_rfl
/-- Byte for byte: what is hidden differs just as the texts do. -/
theorem hide_xor (k n a b : List Nat) (h : a.length = b.length) (i : Nat) (hi : i < a.length) : (hideL k n a).getD i 0 ^^^ (hideL k n b).getD i 0 = a.getD i 0 ^^^ b.getD i 0 := by
  unfold hideL
  rw [mixd_get _ a i hi, mixd_get _ b i (by omega), h]
  generalize (strm (kHide k) n 0 b.length).getD i 0 = s
  generalize a.getD i 0 = x
  generalize b.getD i 0 = y
  rw [Nat.xor_comm s x, Nat.xor_assoc, ← Nat.xor_assoc s s y, Nat.xor_self, Nat.zero_xor]
set_option maxHeartbeats 2000000 in
set_option maxRecDepth 100000 in
theorem sealed_any (ac bc : Nat) (ap bp : Option Addr) (k a b : List Nat) (w : World) (hT : Tabs w) (hk : k.length = 32) (hkb : ∀ i, k.getD i 0 < 256) (hab : ∀ i, a.getD i 0 < 256) (haB : Bs0 w ap a) (hbb : ∀ i, b.getD i 0 < 256) (hbB : Bs0 w bp b) :
    Calls Tryd.prog 7 #[.agg (bysA k), .slice ap a.length ac, .slice bp b.length bc] w fun e w' => e = .returned (.bool true) ∧ Below w.heap.size w w' := by
  have hks := bysA_size' hk
  have HA := Lib.hid haB
  have HB := Lib.hid hbB
  have habb : ∀ i, ab.getD i 0 < 256 := bts_dec (by decide)
  have h1b : ∀ i, non1.getD i 0 < 256 := bts_dec (by decide)
  have HS := Lib.hid (fun (W : World) (hW : Below w.heap.size w W) (q : Nat) (hq : BytesAt W q 0 ab) => seal_c k (zs 12) [] ab 0 2 0 2 none (some ⟨q, 0, none⟩) hk hkb (zs_length 12) (bts_zs 12) rfl bts_0 rfl habb (by decide) (by decide) W (hT.grow hW) (.inl rfl) (Bs0.some hq) (fun _ => rfl))
  have HO := Lib.hid (fun (W : World) (hW : Below w.heap.size w W) (q : Nat) (c : Nat) (hc : 18 ≤ c) (hq : BytesAt W q 0 (sealL k (zs 12) [] ab)) => open_c k (zs 12) [] (sealL k (zs 12) [] ab) ab 0 0 18 0 c none (some ⟨q, 0, none⟩) hk hkb (zs_length 12) (bts_zs 12) rfl bts_0 (by rw [sealL_length]; rfl) (sealL_bts habb) (by decide) (by decide) hc W (hT.grow hW) (.inl rfl) (Bs0.some hq) (fun _ => rfl) (openL_seal _ _ _ _))
  obtain ⟨n, en⟩ : ∃ m, m = a.length := ⟨_, rfl⟩
  rw [← en]
  obtain ⟨m, em⟩ : ∃ m, m = b.length := ⟨_, rfl⟩
  rw [← em]
  have En := Lib.hid en
  have Em := Lib.hid em
  have HP := Lib.hid (fun (h : n ≤ 1000) (W : World) (hW : Below w.heap.size w W) => seal_c k non1 [] a 0 n 0 ac none ap hk hkb rfl h1b rfl bts_0 en hab (by decide) (by omega) W (hT.grow hW) (.inl rfl) (haB.grow hW) (fun _ => rfl))
  have HQ := Lib.hid (fun (h : m ≤ 1000) (W : World) (hW : Below w.heap.size w W) => seal_c k non1 [] b 0 m 0 bc none bp hk hkb rfl h1b rfl bts_0 em hbb (by decide) (by omega) W (hT.grow hW) (.inl rfl) (hbB.grow hW) (fun _ => rfl))
  have HSl := Lib.hid (show (sealL k (zs 12) [] ab).length = 18 by rw [sealL_length]; rfl)
  have HPt := Lib.hid (show (sealL k non1 [] a).take n = hideL k non1 a by rw [en]; exact sealL_take k non1 [] a)
  have HQt := Lib.hid (show (sealL k non1 [] b).take m = hideL k non1 b by rw [em]; exact sealL_take k non1 [] b)
  have HXr := Lib.hid (fun (h : a.length = b.length) => hide_xor k non1 a b h)
  have HHl := Lib.hid (show (hideL k non1 a).length = n by rw [hideL_length]; exact en.symm)
  have HHm := Lib.hid (show (hideL k non1 b).length = m by rw [hideL_length]; exact em.symm)
  have hHb := hideL_bts (k := k) (n := non1) hab
  have hGb := hideL_bts (k := k) (n := non1) hbb
  generalize sealL k (zs 12) [] ab = SS at *
  generalize sealL k non1 [] a = SP at *
  generalize sealL k non1 [] b = SQ at *
  generalize hideL k non1 a = HHA at *
  generalize hideL k non1 b = HHB at *
  obtain ⟨n1, e1⟩ : ∃ k, k = non1 := ⟨_, rfl⟩
  have r1 : ∀ W, (bldA 35 #[(0, .int .u8 1)]).run Tryd.prog W = .ok (.agg (bysA n1)) W := fun W => by rw [e1]; exact run_bldNon1 W
  rw [← e1] at HP HQ
  clear e1 habb h1b en em hk hkb haB hbB hT
  go_enter Tryd.func7, Tryd.ntmps7
  go_wp2_with fail
  have BA := below_alloc (Below.refl w.heap.size w) (.cells (bysA k) 23)
  have K1 := Lib.hid (RowAt.of (block_new w (.cells (bysA k) 23)))
  have B1 := Lib.hid BA
  have hz := World.size_alloc w (.cells (bysA k) 23)
  obtain ⟨W2, hr2, hb2, hy2⟩ := mark_new (w.alloc (.cells (bysA k) 23)) ab 2 2
  rw [hz] at hr2 hy2
  have K2 := Lib.hid (K1.out.grow hb2)
  have B2 := Lib.hid (B1.out.trans (hb2.mono B1.out.size))
  have Y2 := Lib.hid hy2
  clear BA hb2 hz K1 B1 hy2
  generalize w.heap.size + 1 = g1 at *
  generalize w.alloc (.cells (bysA k) 23) = W1 at *
  obtain ⟨z, ez⟩ : ∃ z, z = w.heap.size := ⟨_, rfl⟩
  rw [← ez] at K2 ⊢
  clear ez
  have hr2' : (cvBB (.slice (some ⟨g1, 0, none⟩) 2 2)).run Tryd.prog (W1.alloc (.cells (bysA ab) 5)) = .ok (.slice (some ⟨g1, 0, none⟩) 2 2) W2 := hr2
  rw [hr2']
  clear hr2 hr2'
  go_simp
  go_wp2_with fail
  refine (HS.out W2 B2.out g1 Y2.out).mono ?_
  rintro e W4 ⟨gs, cs, rfl, hown, hb4⟩
  rw [show 2 + 16 = 18 from rfl] at hown ⊢
  obtain ⟨hby, hsl, hcs⟩ := own_bytes hown
  clear hsl
  have S4 := Lib.hid hby
  have K4 := Lib.hid (K2.out.grow hb4)
  have B4 := Lib.hid (B2.out.trans (hb4.mono B2.out.size))
  clear hown hby hb4 K2 B2 Y2 HS
  obtain ⟨k1, k2, k3⟩ := K4.out
  go_wp2_with fail
  refine (HO.out W4 B4.out gs cs hcs S4.out).mono ?_
  rintro e W6 ⟨p6, c6, rfl, hs6, _, hb6⟩
  rw [show ab.length = 2 from rfl]
  have K6 := Lib.hid (K4.out.grow hb6)
  have B6 := Lib.hid (B4.out.trans (hb6.mono B4.out.size))
  have hcv := run_cvBS (n := 2) (c := c6) hs6 rfl
  rw [toS_ab] at hcv
  clear hb6 hs6 K4 S4 B4 HO k1 k2 k3 hcs
  by_cases lno : 1000 < n
  · have lno' : (1000 : Int) < (n : Int) := by omega
    go_wp2_with fail
    go_ret
    exact ⟨rfl, B6.out⟩
  have lno' : ¬ (1000 : Int) < (n : Int) := by omega
  by_cases hnm : n = m
  · subst hnm
    obtain ⟨k1, k2, k3⟩ := K6.out
    go_wp2_with fail
    refine (HP.out (by omega) W6 B6.out).mono ?_
    rintro e W7 ⟨gp, cp, rfl, hown, hb7⟩
    obtain ⟨hby, hsl, hcp⟩ := own_bytes hown
    clear hsl
    have P7 := Lib.hid hby
    have K7 := Lib.hid (K6.out.grow hb7)
    have B7 := Lib.hid (B6.out.trans (hb7.mono B6.out.size))
    clear hown hby hb7 K6 B6 HP k1 k2 k3
    obtain ⟨k1, k2, k3⟩ := K7.out
    go_wp2_with fail
    refine (HQ.out (by omega) W7 B7.out).mono ?_
    rintro e W8 ⟨gq, cq, rfl, hown, hb8⟩
    obtain ⟨hby, hsl, hcq⟩ := own_bytes hown
    clear hsl
    have Q8 := Lib.hid hby
    have P8 := Lib.hid (P7.out.grow hb8)
    have B8 := Lib.hid (B7.out.trans (hb8.mono B7.out.size))
    have h16 : IntKind.i64.wrap ((n : Int) + 16) = ((n + 16 : Nat) : Int) := by rw [IntWalk.i64_in _ (by omega)]; omega
    clear hown hby hb8 K7 B7 HQ k1 k2 k3 P7
    go_wp2_with fail
    go_loopw [88] (fun i wr => ∃ j : Nat, j ≤ n ∧ i = .int .i64 j ∧ Below W8.heap.size W8 wr) (fun i _ => n - (intOf i).toNat)
    case atStart => exact ⟨0, Nat.zero_le _, rfl, Below.refl _ _⟩
    case round =>
      obtain ⟨j, hj, rfl, hbel⟩ := hrel
      by_cases hjn : j < n
      · have hj0 : (0 : Int) ≤ (j : Int) := by omega
        have hj1 : (j : Int) < (n : Int) := by omega
        have hj3 : (j : Int) < (n : Int) + 16 := by omega
        have haj : j < a.length := by rw [← En.out]; exact hjn
        have hbj : j < b.length := by rw [← Em.out]; exact hjn
        have hax : HHA.getD j 0 ^^^ HHB.getD j 0 = a.getD j 0 ^^^ b.getD j 0 := HXr.out (by rw [← En.out, ← Em.out]) j haj
        have gP : SP.getD j 0 = HHA.getD j 0 := by rw [← HPt.out]; simp [List.getD, hjn]
        have gQ : SQ.getD j 0 = HHB.getD j 0 := by rw [← HQt.out]; simp [List.getD, hjn]
        have lP : j < SP.length := by
          have h1 := congrArg List.length HPt.out
          rw [List.length_take, HHl.out] at h1; omega
        have lQ : j < SQ.length := by
          have h1 := congrArg List.length HQt.out
          rw [List.length_take, HHm.out] at h1; omega
        obtain ⟨ba, oa, rfl, hba⟩ : ∃ b o, ap = some ⟨b, o, none⟩ ∧ BytesAt w b o a := by
          rcases HA.out with h | h
          · rw [h] at haj; simp at haj
          · exact h
        obtain ⟨bb, ob, rfl, hbb'⟩ : ∃ c o, bp = some ⟨c, o, none⟩ ∧ BytesAt w c o b := by
          rcases HB.out with h | h
          · rw [h] at hbj; simp at hbj
          · exact h
        have hwr := B8.out.trans (hbel.mono B8.out.size)
        have hw8 := fun os d => hbel.trans ((below_more (Below.refl wr.heap.size wr) os d).mono hbel.size)
        have hww := fun os d => hwr.trans ((below_more (Below.refl wr.heap.size wr) os d).mono hwr.size)
        have c1 := fun os d => (P8.out.grow (hw8 os d)).2 j lP
        have c2 := fun os d => (Q8.out.grow (hw8 os d)).2 j lQ
        have c3 := fun os d => (hba.grow (hww os d)).2 j haj
        have c4 := fun os d => (hbb'.grow (hww os d)).2 j hbj
        simp only [Nat.zero_add, gP] at c1
        simp only [Nat.zero_add, gQ] at c2
        have x1 := u8_xor_nat (HHA.getD j 0) (HHB.getD j 0) (hHb j) (hGb j)
        have x2 := u8_xor_nat (a.getD j 0) (b.getD j 0) (hab j) (hbb j)
        rw [hax] at x1
        generalize a.getD j 0 ^^^ b.getD j 0 = t at *
        generalize HHA.getD j 0 = y1 at *
        generalize HHB.getD j 0 = y2 at *
        generalize a.getD j 0 = y3 at *
        generalize b.getD j 0 = y4 at *
        have Hbel := Lib.hid hbel
        clear gP gQ lP lQ haj hbj hax hw8 hww hwr hba hbb' hbel
        go_wp2_with fail
        refine wp_region_pickT wr [0, 1, 2, 3, 4, 5, 6, 7, 8, 9, 10, 11, 12, 13, 14, 15, 16, 17] [false, false, false, false, false, false, false, false, false, false, false, false, false, false, false, false, false, false] [18] (by kernel_rfl) (by kernel_rfl) (by intro c a d v w h; cases d <;> exact h) ((Below.refl _ _).drew) ?_
        simp only [pick, List.getElem?_cons_succ, List.getElem?_cons_zero]
        iterate 18 (refine wpHoldF_val (wanted_none rfl) (by intro K o d hK; go_simp; exact hK _ (Below.refl _ _)) ?_)
        refine wpHoldF_nil ?_
        intro w1 hb1
        have B9 := Lib.hid (Hbel.out.trans (hb1.mono Hbel.out.size))
        clear hb1 c1 c2 c3 c4
        go_wp2_with fail
        go_roundw
        case rel => exact ⟨j + 1, by omega, by go_num, B9.out⟩
        case measure => simp [intOf]; omega
      · obtain rfl : j = n := by omega
        have BF := Lib.hid (B8.out.trans (hbel.mono B8.out.size))
        clear hbel
        go_wp2_with fail
        go_ret
        exact ⟨rfl, BF.out⟩
  · have hnm' : ¬ (n : Int) = (m : Int) := by omega
    have hnm2 : ((n : Int) != (m : Int)) = true := by simpa using hnm'
    go_wp2_with fail
    go_ret
    exact ⟨rfl, B6.out⟩
end Go.Proofs.YtnkfiljmgbnbkaaDoor
