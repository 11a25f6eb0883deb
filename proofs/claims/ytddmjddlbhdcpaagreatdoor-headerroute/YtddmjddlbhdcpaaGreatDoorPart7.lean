/-
  Part 7 of the texts behind the theorem.
-/
import Derived.Test.YtddmjddlbhdcpaaGreatDoorPart6
import Derived.Lib.ConvBytes
import Derived.Laws.BytesString
import Derived.Test.YtddmjddlbhdcpaaGreatDoorPart5
import Derived.Laws.BitsAllLaws
import Derived.Laws.Cover3
/-
  Package hmac: as many bytes as one likes of a secret.
-/
namespace Go.Proofs.YtddmjddlbhdcpaaGreatDoor
open Go.RowKit Go.Hold Go.Sh

/-- What is known of each operation of 'next := Mac(secret[:], slices.Concat(last, info, []byte{byte(i)}))'. -/
def expR (W : World) (x : Nat) (last info : Value) (j : Nat) (L : List Nat) (D : St) : Nat → Value → World → Prop
  | 0, v, _ => v = .slice (some ⟨x, 0, none⟩) 32 32
  | 1, v, _ => v = last
  | 2, v, _ => v = info
  | 3, v, _ => v = .int .i64 (j : Int)
  | 4, v, _ => v = .int .u8 ((j % 256 : Nat) : Int)
  | 5, v, w => ∃ g, v = .slice (some ⟨g, 0, none⟩) 1 1 ∧ BytesAt w g 0 [j % 256]
  | 6, v, w => ∃ g gb, v = .slice (some ⟨g, 0, none⟩) 3 3 ∧ RowAt w g #[last, info, .slice (some ⟨gb, 0, none⟩) 1 1] ∧ BytesAt w gb 0 [j % 256]
  | 7, v, w => SlV w v L
  | 8, v, _ => v = .agg (keA D)
  | 9, v, w => ∃ g, v = .pointer (some ⟨g, 0, none⟩) ∧ W.heap.size ≤ g ∧ ∃ c, c.size = 32 ∧ RowAt w g c
  | _, _, _ => True
theorem expR_mono (W : World) (x : Nat) (last info : Value) (j : Nat) (L : List Nat) (D : St) : ∀ i v w w', expR W x last info j L D i v w → Below w.heap.size w w' → expR W x last info j L D i v w'
  | 0, _, _, _, h, _ => h
  | 1, _, _, _, h, _ => h
  | 2, _, _, _, h, _ => h
  | 3, _, _, _, h, _ => h
  | 4, _, _, _, h, _ => h
  | 5, _, _, _, h, hb => by obtain ⟨g, h1, h2⟩ := h; exact ⟨g, h1, h2.grow hb⟩
  | 6, _, _, _, h, hb => by obtain ⟨g, gb, h1, h2, h3⟩ := h; exact ⟨g, gb, h1, h2.grow hb, h3.grow hb⟩
  | 7, _, _, _, h, hb => SlV.grow h hb
  | 8, _, _, _, h, _ => h
  | 9, _, _, _, h, hb => by obtain ⟨g, h1, h2, c, h3, h4⟩ := h; exact ⟨g, h1, h2, c, h3, h4.grow hb⟩
  | _ + 10, _, _, _, _, _ => trivial

set_option maxHeartbeats 600000 in
set_option maxRecDepth 100000 in
theorem expand_c (ic n : Nat) (ip : Option Addr) (s info : List Nat) (w : World) (hT : Tabs w) (hs : s.length = 32) (hsb : ∀ i, s.getD i 0 < 256) (hi : info.length ≤ 100000) (hib : ∀ i, info.getD i 0 < 256) (hiB : Bs0 w ip info) (hic : ip = none → ic = 0) (hn : n ≤ 8160) :
    Calls Tryz.prog 89 #[.agg (bysA s), .slice ip info.length ic, .int .i64 (n : Int)] w fun e w' => ∃ p, e = .returned (.tuple #[.slice p n n, .int .i64 0]) ∧ Bs0 w' p (expN s info n) ∧ (p = none → n = 0) ∧ Below w.heap.size w w' := by
  have HT := Lib.hid hT
  have HI := Lib.hid hiB
  have HIc := Lib.hid hic
  have Hsb := Lib.hid hsb
  have Hib := Lib.hid hib
  have Hs := Lib.hid hs
  have h0 : ¬ (n : Int) < 0 := by omega
  have h1 : ¬ (8160 : Int) < (n : Int) := by omega
  obtain ⟨m, em⟩ : ∃ m, m = info.length := ⟨_, rfl⟩
  rw [← em] at hi ⊢
  have Em := Lib.hid em
  clear hT hiB hic hsb hib hs em
  go_enter Tryz.func89, Tryz.ntmps89
  go_wp2_with fail
  generalize hW : World.alloc _ _ = W0
  have R0 := Lib.hid (show RowAt W0 w.heap.size (bysA s) by rw [← hW]; exact RowAt.of (block_new w _))
  have B0 := Lib.hid (show Below w.heap.size w W0 by rw [← hW]; exact below_alloc (Below.refl _ _) _)
  clear hW
  obtain ⟨x, ex⟩ : ∃ x, x = w.heap.size := ⟨_, rfl⟩
  rw [← ex] at R0 ⊢
  have Ex := Lib.hid ex
  clear ex
  go_loopw [8, 9, 10] (fun all last i wr => ∃ j : Nat, i = .int .i64 ((j + 1 : Nat) : Int) ∧ 32 * j < n + 32 ∧ OwnB wr W0.heap.size all (exps s info j) ∧ SlV wr last (tagT s info j) ∧ Below W0.heap.size W0 wr) (fun _ _ i _ => 300 - (intOf i).toNat)
  case atStart => exact ⟨0, rfl, by omega, own_nil W0 _, ⟨none, 0, rfl, .inl rfl, Nat.le_refl _, fun _ => rfl⟩, Below.refl _ _⟩
  case round =>
    obtain ⟨j, rfl, hj, hown, hlast, hbel⟩ := hrel
    have hel := exps_length s info j
    obtain ⟨pa, ca, rfl, hBa, hca, hpa⟩ := hown.bs
    rw [hel] at hown hca ⊢
    obtain ⟨na, ena⟩ : ∃ y, y = 32 * j := ⟨_, rfl⟩
    rw [← ena] at hown hca hj ⊢
    have Hown := Lib.hid hown
    have Hlast := Lib.hid hlast
    have Hbel := Lib.hid hbel
    have Ena := Lib.hid ena
    have HBa := Lib.hid hBa
    have Hpa := Lib.hid hpa
    clear hown hlast hbel ena hel hBa hpa
    obtain ⟨j1, ej1⟩ : ∃ y, y = j + 1 := ⟨_, rfl⟩
    rw [← ej1]
    by_cases hjn : na < n
    · have hlt : (na : Int) < (n : Int) := by omega
      have hw8 := u8_wrap j1
      obtain ⟨pl, cl, rfl, hBl, hcl, hpl⟩ := Hlast.out
      obtain ⟨nl, enl⟩ : ∃ y, y = (tagT s info j).length := ⟨_, rfl⟩
      have hnl := tagT_le s info j
      rw [← enl] at hcl hnl ⊢
      have Enl := Lib.hid enl
      have HBl := Lib.hid hBl
      have Hpl := Lib.hid hpl
      have Ej1 := Lib.hid ej1
      have hj1 : j1 ≤ 256 := by have := Ena.out; omega
      clear hBl hpl enl ej1 hcl
      obtain ⟨L, eL⟩ : ∃ y, y = tagT s info j ++ info ++ [j1 % 256] := ⟨_, rfl⟩
      obtain ⟨D, eD⟩ : ∃ y, y = mac s L := ⟨_, rfl⟩
      have Htag := Lib.hid (show tagT s info (j + 1) = keyN D by rw [tagT, eD, eL, Ej1.out])
      have HLb := Lib.hid (show ∀ i, L.getD i 0 < 256 by rw [eL]; exact bts_app (bts_app (tagT_bts _ _ _) Hib.out) (bts_1 _ (Nat.mod_lt _ (by decide))))
      have hLl : L.length ≤ 200000 := by rw [eL, List.length_append, List.length_append, ← Enl.out, ← Em.out]; simp only [List.length_cons, List.length_nil]; omega
      have EL := Lib.hid eL
      have ED := Lib.hid eD
      clear eL eD
      have hWr := Hbel.out.size
      have R1 := Lib.hid (R0.out.grow Hbel.out)
      have I1 := Lib.hid ((HI.out.grow B0.out).grow Hbel.out)
      have T1 := Lib.hid ((HT.out.grow B0.out).grow Hbel.out)
      have BB1 := Lib.hid (B0.out.trans (Hbel.out.mono B0.out.size))
      go_wp2_with fail
      refine wp_region_grows wr 10 (fun w w' => Below w.heap.size w w') (expR wr x (.slice pl nl cl) (.slice ip m ic) j1 L D) [10] [0, 1, 2, 3, 4, 5, 6, 7, 8, 9] [some 24, some 25, some 26, some 27, some 28, some 29, some 30, some 31, some 32, some 11] (by kernel_rfl) (by kernel_rfl) (by kernel_rfl) (by kernel_rfl) ((Below.refl _ _).drew) (fun w w' h h' => h.trans (h'.mono h.size)) (expR_mono _ _ _ _ _ _ _) ?_
      intro vals
      simp only [List.take_succ_cons, List.take_zero]
      refine ⟨grow_val [] [] (by kernel_rfl) rfl (fun K w hb hd hK => ⟨wanted_none rfl, ?_⟩), ?_⟩
      · simp only [putZ]; go_simp; exact hK _ _ _ (Below.refl _ _) rfl
      refine ⟨grow_val [] [] (by kernel_rfl) rfl (fun K w hb hd hK => ⟨wanted_none rfl, ?_⟩), ?_⟩
      · simp only [putZ]; go_simp; exact hK _ _ _ (Below.refl _ _) rfl
      refine ⟨grow_val [] [] (by kernel_rfl) rfl (fun K w hb hd hK => ⟨wanted_none rfl, ?_⟩), ?_⟩
      · simp only [putZ]; go_simp; exact hK _ _ _ (Below.refl _ _) rfl
      refine ⟨grow_val [] [] (by kernel_rfl) rfl (fun K w hb hd hK => ⟨wanted_none rfl, ?_⟩), ?_⟩
      · simp only [putZ]; go_simp; exact hK _ _ _ (Below.refl _ _) rfl
      refine ⟨grow_val [3] [some 27] (by kernel_rfl) (by kernel_rfl) (fun K w hb hd hK => ⟨wanted_none rfl, ?_⟩), ?_⟩
      · have d3 : vals 3 = .int .i64 (j1 : Int) := hd 3 (by simp)
        simp only [List.map_cons, List.map_nil, putZ, d3]; go_simp; exact hK _ _ _ (Below.refl _ _) rfl
      refine ⟨grow_val [4] [some 28] (by kernel_rfl) (by kernel_rfl) (fun K w hb hd hK => ⟨wanted_none rfl, ?_⟩), ?_⟩
      · have d4 : vals 4 = .int .u8 ((j1 % 256 : Nat) : Int) := hd 4 (by simp)
        obtain ⟨b, eb⟩ : ∃ b, b = j1 % 256 := ⟨_, rfl⟩
        rw [← eb] at d4
        have Eb := Lib.hid eb
        clear eb
        simp only [List.map_cons, List.map_nil, putZ, d4]; go_simp; exact hK _ _ _ (below_alloc (Below.refl _ _) _) ⟨_, rfl, by rw [← Eb.out]; exact bytes_new w [b] _ _⟩
      refine ⟨grow_val [1, 2, 5] [some 25, some 26, some 29] (by kernel_rfl) (by kernel_rfl) (fun K w hb hd hK => ⟨wanted_none rfl, ?_⟩), ?_⟩
      · have d1 : vals 1 = .slice pl nl cl := hd 1 (by simp)
        have d2 : vals 2 = .slice ip m ic := hd 2 (by simp)
        obtain ⟨gb, d5, hgb⟩ : ∃ g, vals 5 = .slice (some ⟨g, 0, none⟩) 1 1 ∧ BytesAt w g 0 [j1 % 256] := hd 5 (by simp)
        simp only [List.map_cons, List.map_nil, putZ, d1, d2, d5]; go_simp; exact hK _ _ _ (below_alloc (Below.refl _ _) _) ⟨_, gb, rfl, RowAt.of (block_new w _), hgb.grow (below_alloc (Below.refl _ _) _)⟩
      refine ⟨grow_call [6] [some 30] (by kernel_rfl) (by kernel_rfl) (fun K w hb hd hK => ⟨wanted_none rfl, ?_⟩), ?_⟩
      · obtain ⟨g6, gb, d6, hr6, hgb⟩ : ∃ g gb, vals 6 = .slice (some ⟨g, 0, none⟩) 3 3 ∧ RowAt w g #[.slice pl nl cl, .slice ip m ic, .slice (some ⟨gb, 0, none⟩) 1 1] ∧ BytesAt w gb 0 [j1 % 256] := hd 6 (by simp)
        simp only [List.map_cons, List.map_nil, putZ, d6]; go_simp
        refine (concat3_c hr6 Enl.out Em.out (k := [j1 % 256]) rfl (HBl.out.grow hb) (I1.out.grow hb) (Bs0.some hgb) Hpl.out HIc.out (fun h => by cases h) (by rw [← Enl.out, ← Em.out]; simp only [List.length_cons, List.length_nil]; omega)).mono ?_
        rintro e w' ⟨v, rfl, hown, hb'⟩
        refine ⟨v, rfl, hK _ _ hb' ?_⟩
        show SlV w' v L
        rw [EL.out]; exact hown.bs
      refine ⟨grow_call [0, 7] [some 24, some 31] (by kernel_rfl) (by kernel_rfl) (fun K w hb hd hK => ⟨wanted_none rfl, ?_⟩), ?_⟩
      · have d0 : vals 0 = .slice (some ⟨x, 0, none⟩) 32 32 := hd 0 (by simp)
        obtain ⟨p7, c7, d7, hB7, _, hp7⟩ : SlV w (vals 7) L := hd 7 (by simp)
        simp only [List.map_cons, List.map_nil, putZ, d0, d7]; go_simp
        have HM := mac_c 32 c7 (some ⟨x, 0, none⟩) p7 s L w (T1.out.grow hb) (by rw [Hs.out]; decide) Hsb.out (Bs0.some (bytes_row (R1.out.grow hb))) (by rw [Hs.out]; decide) (by omega) HLb.out hB7 hp7
        rw [Hs.out, ← ED.out] at HM
        refine HM.mono ?_
        rintro e w' ⟨rfl, hb'⟩
        exact ⟨_, rfl, hK _ _ hb' rfl⟩
      refine ⟨grow_val [] [] (by kernel_rfl) rfl (fun K w hb hd hK => ⟨wanted_none rfl, ?_⟩), ?_⟩
      · simp only [putZ]; go_simp; exact hK _ _ _ (below_alloc (Below.refl _ _) _) ⟨_, rfl, hb.size, _, by simp, RowAt.of (block_new w _)⟩
      intro W1 hb1 hd
      have d8 : vals 8 = .agg (keA D) := hd 8 (by simp)
      obtain ⟨g, d9, hg, c9, hc9, hR9⟩ : ∃ g, vals 9 = .pointer (some ⟨g, 0, none⟩) ∧ wr.heap.size ≤ g ∧ ∃ c : Array Value, c.size = 32 ∧ RowAt W1 g c := hd 9 (by simp)
      clear hd
      simp only [List.map_cons, List.map_nil, putZ, d8, d9, pick, List.getElem?_cons_succ, List.getElem?_cons_zero]
      generalize vals 0 = v0
      generalize vals 1 = v1
      generalize vals 2 = v2
      generalize vals 3 = v3
      generalize vals 4 = v4
      generalize vals 5 = v5
      generalize vals 6 = v6
      generalize vals 7 = v7
      clear d8 d9
      have hown1 : OwnB W1 W0.heap.size (.slice pa na ca) (exps s info j) := Hown.out.below hb1
      have hown2 : OwnB (W1.setRow g (keA D)) W0.heap.size (.slice pa na ca) (exps s info j) :=
        World.ownsRow.kept (row := some g) hown1 ⟨rfl, rfl, rfl, by rw [size_setRow]; exact Nat.le_refl _, fun k _ hk => setRow_other W1 g k _ (fun e => hk (by rw [e]))⟩ (by
          right
          intro he
          have := (World.ownsRow.lt Hown.out g he).2
          omega)
      have RG := hR9.set (keA D)
      have hsz2 : W0.heap.size ≤ (W1.setRow g (keA D)).heap.size := by rw [size_setRow]; have := hb1.size; omega
      have hB2 : Below W0.heap.size W0 (W1.setRow g (keA D)) := by
        have := Hbel.out.trans (hb1.mono Hbel.out.size)
        exact below_setRow this (by omega) _
      obtain ⟨va, wa, hra, howna, hgra⟩ := app_own (cap := 32) (k := 32) hown2 (Bs0.some (keyN_row RG)) (keyN_length D).symm (fun h => by cases h) hsz2 (by rw [exps_length, keyN_length]; have := Ena.out; omega)
      have Hba := Lib.hid (own_below hB2 hown2 hsz2 hgra)
      have Hoa := Lib.hid (show OwnB wa W0.heap.size va (exps s info (j + 1)) by rw [exps, Htag.out]; exact howna)
      have Hla := Lib.hid (show SlV wa (.slice (some ⟨g, 0, none⟩) 32 32) (tagT s info (j + 1)) by
        rw [Htag.out]
        refine ⟨some ⟨g, 0, none⟩, 32, by rw [keyN_length], Bs0.some (keyN_row ?_), by rw [keyN_length]; exact Nat.le_refl _, fun h => by cases h⟩
        obtain ⟨t, ht⟩ := RG.block
        refine RowAt.of (t := t) ?_
        rw [hgra.block g RG.2.2 (fun he => by have := (World.ownsRow.lt Hown.out g he.symm).2; omega)]
        exact ht)
      obtain ⟨r1, r2, r3⟩ := hR9
      clear hown1 hown2 RG hsz2 hB2 howna hgra
      go_wp2_with (at_builtin; refine Lib.wpList_append_run _ rfl _ _ _ _ rfl _ _ rfl rfl _ _ hra ?_)
      go_wp2_with fail
      go_roundw
      case rel => exact ⟨j + 1, by rw [← Ej1.out]; go_num, by have := Ena.out; omega, Hoa.out, Hla.out, Hba.out⟩
      case measure => simp [intOf]; omega
    · have hlt : ¬ (na : Int) < (n : Int) := by omega
      have hsl := slB_hm pa na ca n (by omega)
      clear ej1
      go_wp2_with fail
      refine bodyPost_ret (v := .tuple #[.slice pa n n, .int .i64 0]) (results_tmp2 Tryz.results89 _ _ _) rfl ⟨pa, rfl, ?_, fun h => ?_, B0.out.trans (Hbel.out.mono B0.out.size)⟩
      · rw [expN_take s info n j (by have := Ena.out; omega)]
        exact Bs0.take HBa.out n
      · have hz : exps s info j = [] := by
          rcases HBa.out with h1 | ⟨b, o, h1, _⟩
          · exact h1
          · rw [h] at h1; cases h1
        have := exps_length s info j
        rw [hz] at this
        have := Ena.out
        simp at *; omega

end Go.Proofs.YtddmjddlbhdcpaaGreatDoor

/-
  Bytes and strings.
-/
namespace Go.Proofs.YtddmjddlbhdcpaaGreatDoor
open Go.RowKit Go.Hold Go.Sh

/-- A string's bytes. -/
def strB (s : ByteArray) : List Nat := s.data.toList.map fun b => b.toNat
theorem strB_length (s : ByteArray) : (strB s).length = s.size := by simp [strB]
theorem strB_bts (s : ByteArray) : ∀ i, (strB s).getD i 0 < 256 := getD_lt fun x hx => by
  obtain ⟨b, _, rfl⟩ := List.mem_map.1 hx
  exact b.toNat_lt
theorem strB_app (s t : ByteArray) : strB (s ++ t) = strB s ++ strB t := by simp [strB]
def cvSB (v : Value) : Sem Value := convert 9 38 v
@[go_sem ↓ high] theorem fold_cvSB (v : Value) : convert 9 38 v = cvSB v := rfl
/-- A string is turned into bytes. -/
theorem run_cvSB (s : ByteArray) (w : World) : ∃ c W, (cvSB (.string s)).run Tryz.prog w = .ok (.slice (some ⟨w.heap.size, 0, none⟩) s.size c) W ∧ BytesAt W w.heap.size 0 (strB s) ∧ Below w.heap.size w W ∧ s.size ≤ c := by
  refine ⟨grownCap w s.size 0 5, Lib.bytesWorld w 5 s, Lib.run_convert_string_bytes w _ _ 5 s Tryz.underlying9 Tryz.underlying38 Tryz.underlying5, ⟨by rw [Lib.bytesWorld_size]; omega, fun i hi => ?_⟩, ⟨?_, ?_, ?_, by rw [Lib.bytesWorld_size]; omega, fun k hk => Lib.bytesWorld_at_old w _ s k hk⟩, grownCap_ge _ _ _ _⟩
  · rw [strB_length] at hi
    rw [Nat.zero_add, Lib.bytesWorld_cell w _ s i hi]
    simp [strB, List.getD, hi]
  · rfl
  · rfl
  · rfl
/-- Bytes as a string. -/
def toS (l : List Nat) : ByteArray := ⟨(l.map UInt8.ofNat).toArray⟩
def cvBS (v : Value) : Sem Value := convert 38 9 v
@[go_sem ↓ high] theorem fold_cvBS (v : Value) : convert 38 9 v = cvBS v := rfl
end Go.Proofs.YtddmjddlbhdcpaaGreatDoor

/-
  Package hmac: a key of its own for a purpose.
-/
namespace Go.Proofs.YtddmjddlbhdcpaaGreatDoor
open Go.RowKit Go.Hold Go.Sh

theorem purp_str : strB ⟨#[112, 105, 103, 101, 111, 110, 114, 121, 32]⟩ = purp := by decide
set_option maxHeartbeats 400000 in
set_option maxRecDepth 100000 in
theorem derive_c (s : List Nat) (lab : ByteArray) (w : World) (hT : Tabs w) (hs : s.length = 32) (hsb : ∀ i, s.getD i 0 < 256) (hl : lab.size ≤ 50000) :
    Calls Tryz.prog 58 #[.agg (bysA s), .string lab] w fun e w' => e = .returned (.agg (keA (drv s (purp ++ strB lab)))) ∧ Below w.heap.size w w' := by
  have hz : (bysA s).size = 32 := by rw [bysA_size, hs]
  have HT := Lib.hid hT
  have Hs := Lib.hid hs
  have Hsb := Lib.hid hsb
  obtain ⟨D, eD⟩ : ∃ y, y = drv s (purp ++ strB lab) := ⟨_, rfl⟩
  rw [← eD]
  have ED := Lib.hid eD
  clear hT hs hsb eD
  go_enter Tryz.func58, Tryz.ntmps58
  go_wp2_with fail
  generalize hS : ({ data := #[112, 105, 103, 101, 111, 110, 114, 121, 32] } : ByteArray) ++ lab = S0
  have HS0 := Lib.hid (show strB S0 = purp ++ strB lab by rw [← hS, strB_app, purp_str])
  have hS0 : S0.size ≤ 60000 := by
    have := congrArg List.length HS0.out
    rw [strB_length, List.length_append, strB_length] at this
    simp [purp] at this; omega
  clear hS
  generalize hW : World.alloc _ _ = W0
  obtain ⟨z0, hz0, hR0⟩ : ∃ c : Array Value, c.size = 32 ∧ RowAt W0 (w.heap.size + 1) c := by rw [← hW]; clear hW; exact ⟨byI (List.replicate 32 0), by simp [byI], by go_simp, by go_simp; rfl, by go_simp⟩
  have K0 := Lib.hid (show RowAt W0 (w.heap.size + 1 + 1) (bysA (zs 32)) by rw [← hW]; clear hW; exact ⟨by go_simp, by go_simp; rfl, by go_simp⟩)
  have R0 := Lib.hid hR0
  have B0 := Lib.hid (show Below w.heap.size w W0 by rw [← hW]; repeat (first | apply below_more | apply below_alloc | exact Below.refl _ _))
  clear hW hR0
  have hg1 : w.heap.size ≤ w.heap.size + 1 + 1 := by omega
  have hg2 : ¬ w.heap.size + 1 = w.heap.size + 1 + 1 := by omega
  have hg3 : w.heap.size ≤ w.heap.size + 1 := by omega
  generalize w.heap.size + 1 + 1 = t at *
  generalize w.heap.size + 1 = r at *
  obtain ⟨c, W1, hr, hby, hb1, hc⟩ := run_cvSB S0 W0
  have HE := expand_c c 32 (some ⟨W0.heap.size, 0, none⟩) s (strB S0) W1 ((HT.out.grow B0.out).grow hb1) Hs.out Hsb.out (by rw [strB_length]; omega) (strB_bts _) (Bs0.some hby) (fun h => by cases h) (by decide)
  rw [strB_length, expN_32, HS0.out, ← ED.out] at HE
  have HE := Lib.hid HE
  have R1 := Lib.hid (R0.out.grow hb1)
  have K1 := Lib.hid (K0.out.grow hb1)
  have B1 := Lib.hid (B0.out.trans (hb1.mono B0.out.size))
  clear hby hb1 hc R0 K0 hS0
  rw [hr]
  go_simp
  go_wp2_with fail
  refine HE.out.mono ?_
  rintro e W2 ⟨p, rfl, hB2, hp2, hb2⟩
  have hcp := copy_bytes (c2 := 32) (cap := 32) (d := 32) (s := 32) (k := 32) (K1.out.grow hb2) (by rw [zs_length]) (keyN_length D).symm (by rw [zs_length, keyN_length]; decide) hB2
  rw [show (keyN D).take 32 ++ (zs 32).drop 32 = keyN D by rw [List.take_of_length_le (by rw [keyN_length]; exact Nat.le_refl _), zs_drop]; simp [zs], ← keA_bys] at hcp
  have K2 := (K1.out.grow hb2).set (keA D)
  have R2 := (R1.out.grow hb2).other hg2 (keA D)
  have B2 := Lib.hid (below_setRow (B1.out.trans (hb2.mono B1.out.size)) hg1 (keA D))
  generalize W2.setRow t (keA D) = W3 at *
  obtain ⟨k1, k2, k3⟩ := K2
  obtain ⟨r1, r2, r3⟩ := R2
  clear hb2 hB2 hp2 HE K1 R1
  go_wp2_with fail
  refine bodyPost_ret (v := .agg (keA D)) (results_key Tryz.results58 (keA_size _) _ _ _ rfl (by go_simp) (by go_simp)) rfl ⟨rfl, ?_⟩
  exact below_setRow B2.out hg3 _
end Go.Proofs.YtddmjddlbhdcpaaGreatDoor

/-
  A world in which one row was set, and memory was laid behind it.
-/
namespace Go.Proofs.YtddmjddlbhdcpaaGreatDoor
open Go.RowKit Go.Hold Go.Sh

/-- World w', of w: row g holds c, and some blocks are new. -/
def Sets (w : World) (g : Nat) (c : Array Value) (w' : World) : Prop := ∃ os d, w' = (w.setRow g c).plus os d
theorem Sets.refl {w : World} {g : Nat} {c : Array Value} (h : RowAt w g c) : Sets w g c w := ⟨#[], w.drawn, by rw [setRow_self h]; exact plus_none' w⟩
theorem Sets.size {w w' : World} {g : Nat} {c : Array Value} (s : Sets w g c w') : w.heap.size ≤ w'.heap.size := by
  obtain ⟨os, d, rfl⟩ := s
  rw [World.size_plus, size_setRow]; omega
theorem Sets.row {w w' : World} {g : Nat} {c0 c : Array Value} (h : RowAt w g c0) (s : Sets w g c w') : RowAt w' g c := by
  obtain ⟨os, d, rfl⟩ := s
  exact (h.set c).grow (below_more (Below.refl _ _) os d)
theorem Sets.old {w w' : World} {g n : Nat} {c c1 : Array Value} (s : Sets w g c w') (h : RowAt w n c1) (hn : n ≠ g) : RowAt w' n c1 := by
  obtain ⟨os, d, rfl⟩ := s
  exact (h.other hn c).grow (below_more (Below.refl _ _) os d)
theorem Sets.bytes {w w' : World} {g b o : Nat} {c : Array Value} {l : List Nat} (s : Sets w g c w') (h : BytesAt w b o l) (hn : b ≠ g) : BytesAt w' b o l := by
  obtain ⟨os, d, rfl⟩ := s
  exact (h.other hn c).grow (below_more (Below.refl _ _) os d)
theorem Sets.grow {w w' w2 : World} {g : Nat} {c : Array Value} (s : Sets w g c w') (hb : Below w'.heap.size w' w2) : Sets w g c w2 := by
  obtain ⟨os, d, rfl⟩ := s
  obtain ⟨o2, d2, rfl⟩ := below_plus hb
  exact ⟨os ++ o2, d2, by rw [World.plus_plus]⟩
theorem Sets.cell {w w' : World} {g i : Nat} {c0 c : Array Value} {v : Value} (h : RowAt w g c0) (s : Sets w g c w') : Sets w g (c.setIfInBounds i v) (w'.setCell ⟨g, i, none⟩ v) := by
  obtain ⟨os, d, rfl⟩ := s
  exact ⟨os, d, by rw [World.setCell_plus _ _ _ _ _ _ (by rw [size_setRow]; exact h.2.2), setCell_setRow h]⟩
theorem Sets.set {w w' : World} {g : Nat} {c0 c c' : Array Value} (h : RowAt w g c0) (s : Sets w g c w') : Sets w g c' (w'.setRow g c') := by
  obtain ⟨os, d, rfl⟩ := s
  exact ⟨os, d, setRow_plus_all h⟩
theorem Sets.trans {w w' w2 : World} {g : Nat} {c0 c c' : Array Value} (h : RowAt w g c0) (s : Sets w g c w') (s2 : Sets w' g c' w2) : Sets w g c' w2 := by
  obtain ⟨o2, d2, rfl⟩ := s2
  obtain ⟨os, d, rfl⟩ := s
  exact ⟨os ++ o2, d2, by rw [setRow_plus_all h, World.plus_plus]⟩
theorem Sets.below {a w w' : World} {B g : Nat} {c : Array Value} (s : Sets w g c w') (hb : Below B a w) (hB : B ≤ g) (hBw : B ≤ w.heap.size) : Below B a w' := by
  obtain ⟨os, d, rfl⟩ := s
  refine below_plus_of _ _ _ ⟨hb.os, hb.tape, hb.output, by rw [size_setRow]; exact hb.size, fun k hk => ?_⟩ (by rw [size_setRow]; exact hBw)
  rw [setRow_other w g k c (by omega)]; exact hb.block k hk
end Go.Proofs.YtddmjddlbhdcpaaGreatDoor

/-
  Package chacha, and the reference: words that are turned; rows of words, of a block, of a nonce, by value.
-/
namespace Go.Proofs.YtddmjddlbhdcpaaGreatDoor
open Go.RowKit Go.Hold Go.Sh Go.Ch

theorem rl_eq (x : Int) (n k : Nat) (hk : n + k = 32) : o32 (x * 2 ^ n % 4294967296) (x / 2 ^ k) = rl x n := by
  unfold o32 rl rotr
  rw [or_comm32, show 32 - n = k by omega, show 32 - k = n by omega]
set_option maxHeartbeats 400000 in
theorem rotP (x : Int) (n k : Nat) (hk : n + k = 32) (hn : 0 < n) (hk' : 0 < k) (hb : bits .and .u64 (n : Int) 31 = (n : Int)) (w : World) : Calls Tryz.prog 183 #[.int .u32 x, .int .i64 (n : Int)] w fun e w' => e = .returned (.int .u32 (rl x n)) ∧ w' = w := by
  have hs : IntKind.u64.wrap (32 - (n : Int)) = (k : Int) := by rw [IntWalk.u64_in _ (by omega)]; omega
  have hw : IntKind.u64.wrap (n : Int) = (n : Int) := IntWalk.u64_in _ (by omega)
  have h1 : (0 : Int) ≤ (k : Int) := by omega
  have h2 : (k : Int) ≤ 32 := by omega
  have h3 : (0 : Int) ≤ (n : Int) := by omega
  have h4 : (n : Int) ≤ 32 := by omega
  have hr := rl_eq x n k hk
  go_enter Tryz.func183, Tryz.ntmps183
  go_wp2_with fail
  go_ret
  exact ⟨rfl, rfl⟩
theorem rotP_16 (x : Int) (w : World) : Calls Tryz.prog 183 #[.int .u32 x, .int .i64 16] w fun e w' => e = .returned (.int .u32 (rl x 16)) ∧ w' = w := rotP x 16 16 rfl (by decide) (by decide) (by decide +kernel) w
theorem rotP_12 (x : Int) (w : World) : Calls Tryz.prog 183 #[.int .u32 x, .int .i64 12] w fun e w' => e = .returned (.int .u32 (rl x 12)) ∧ w' = w := rotP x 12 20 rfl (by decide) (by decide) (by decide +kernel) w
theorem rotP_8 (x : Int) (w : World) : Calls Tryz.prog 183 #[.int .u32 x, .int .i64 8] w fun e w' => e = .returned (.int .u32 (rl x 8)) ∧ w' = w := rotP x 8 24 rfl (by decide) (by decide) (by decide +kernel) w
theorem rotP_7 (x : Int) (w : World) : Calls Tryz.prog 183 #[.int .u32 x, .int .i64 7] w fun e w' => e = .returned (.int .u32 (rl x 7)) ∧ w' = w := rotP x 7 25 rfl (by decide) (by decide) (by decide +kernel) w

/-! ### Whole rows -/
@[go_sem ↓] theorem loadAt_cw (v : Value) : Instr.loadAt 218 v = loadRow 218 v := rfl
@[go_sem ↓] theorem loadAt_b64 (v : Value) : Instr.loadAt 155 v = loadRow 155 v := rfl
@[go_sem ↓] theorem loadAt_non (v : Value) : Instr.loadAt 163 v = loadRow 163 v := rfl
@[go_sem] theorem run_loadCw (w : World) (n : Nat) (h1 : w.isRow n = true) (h2 : (w.rowOf n).size = 16) : (loadRow 218 (.pointer (some ⟨n, 0, none⟩))).run Tryz.prog w = .ok (.agg (w.rowOf n)) w := run_loadRow w Tryz.underlying218 rfl (by kernel_rfl) n h1 h2
@[go_sem] theorem run_loadB64 (w : World) (n : Nat) (h1 : w.isRow n = true) (h2 : (w.rowOf n).size = 64) : (loadRow 155 (.pointer (some ⟨n, 0, none⟩))).run Tryz.prog w = .ok (.agg (w.rowOf n)) w := run_loadRow w Tryz.underlying155 rfl (by kernel_rfl) n h1 h2
@[go_sem] theorem run_loadNon (w : World) (n : Nat) (h1 : w.isRow n = true) (h2 : (w.rowOf n).size = 12) : (loadRow 163 (.pointer (some ⟨n, 0, none⟩))).run Tryz.prog w = .ok (.agg (w.rowOf n)) w := run_loadRow w Tryz.underlying163 rfl (by kernel_rfl) n h1 h2
@[go_sem ↓] theorem loadAt_b12 (v : Value) : Instr.loadAt 126 v = loadRow 126 v := rfl
@[go_sem] theorem run_loadB12 (w : World) (n : Nat) (h1 : w.isRow n = true) (h2 : (w.rowOf n).size = 12) : (loadRow 126 (.pointer (some ⟨n, 0, none⟩))).run Tryz.prog w = .ok (.agg (w.rowOf n)) w := run_loadRow w Tryz.underlying126 rfl (by kernel_rfl) n h1 h2
theorem results_cw {fn : Func} {p : Tmp} {cs : Array Value} (h : fn.results = #[.cell p 218]) (hc : cs.size = 16) (w : World) (tmps : Array Value) (n : Nat) (hp : tmps.getD p undef = .pointer (some ⟨n, 0, none⟩)) (h1 : w.isRow n = true) (h2 : w.rowOf n = cs) : (results fn tmps).run Tryz.prog w = .ok (.agg cs) w :=
  results_row w h Tryz.underlying218 rfl (by rw [hc]; kernel_rfl) tmps n hp h1 h2
theorem results_b64 {fn : Func} {p : Tmp} {cs : Array Value} (h : fn.results = #[.cell p 155]) (hc : cs.size = 64) (w : World) (tmps : Array Value) (n : Nat) (hp : tmps.getD p undef = .pointer (some ⟨n, 0, none⟩)) (h1 : w.isRow n = true) (h2 : w.rowOf n = cs) : (results fn tmps).run Tryz.prog w = .ok (.agg cs) w :=
  results_row w h Tryz.underlying155 rfl (by rw [hc]; kernel_rfl) tmps n hp h1 h2
@[go_sem ↓] theorem build_cw (ps : Array (Nat × Value)) : Instr.build 218 ps = bldA 218 ps := rfl
set_option maxRecDepth 100000 in
@[go_sem] theorem run_bldCw (w : World) : (bldA 218 #[(0, .int .u32 1634760805), (1, .int .u32 857760878), (2, .int .u32 2036477234), (3, .int .u32 1797285236)]).run Tryz.prog w = .ok (.agg (wosA cst0)) w := run_build w _ _ _ (by kernel_rfl)
theorem bysA_size' {l : List Nat} {n : Nat} (h : l.length = n) : (bysA l).size = n := by rw [bysA_size, h]
theorem wosA_size' {l : List Int} {n : Nat} (h : l.length = n) : (wosA l).size = n := by rw [wosA_size, h]
end Go.Proofs.YtddmjddlbhdcpaaGreatDoor

/-
  Package chacha: bytes are put into words.
-/
namespace Go.Proofs.YtddmjddlbhdcpaaGreatDoor
open Go.RowKit Go.Hold Go.Sh Go.Ch

set_option maxHeartbeats 1000000 in
set_option maxRecDepth 100000 in
theorem put_c (g b a n cap : Nat) (s : List Int) (l : List Nat) (w : World) (hn : n = l.length) (hs : s.length = 16) (hz : ∀ j, a ≤ j → s.getD j 0 = 0) (ha : a + (n + 3) / 4 ≤ 16) (hlb : ∀ i, l.getD i 0 < 256) (h : RowAt w g (wosA s)) (hB : BytesAt w b 0 l) (hbg : b ≠ g) :
    Calls Tryz.prog 175 #[.pointer (some ⟨g, 0, none⟩), .int .i64 (a : Int), .slice (some ⟨b, 0, none⟩) n cap] w fun e w' => e = .returned (.tuple #[]) ∧ Sets w g (wosA (wput s a l n)) w' := by
  have H := Lib.hid h
  have HB := Lib.hid hB
  have Hn := Lib.hid hn
  have S0 := Lib.hid (show Sets w g (wosA (wput s a l 0)) w by rw [wput_zero s a l hs hz]; exact Sets.refl h)
  clear h hB hn hs hz
  go_enter Tryz.func175, Tryz.ntmps175
  go_wp2_with fail
  go_loopw [10] (fun i wr => ∃ k : Nat, k ≤ n ∧ i = .int .i64 k ∧ Sets w g (wosA (wput s a l k)) wr) (fun i _ => n - (intOf i).toNat)
  case atStart => exact ⟨0, by omega, rfl, S0.out⟩
  case round =>
    obtain ⟨k, hk, rfl, hset⟩ := hrel
    by_cases hkn : k < n
    · have hk0 : (0 : Int) ≤ (k : Int) := by omega
      have hk1 : (k : Int) < (n : Int) := by omega
      have hkl : k < l.length := by rw [← Hn.out]; exact hkn
      have hrow := hset.row H.out
      have hcb : wr.cell? ⟨b, k, none⟩ = some (.int .u8 ((l.getD k 0 : Nat) : Int)) := by
        have := (hset.bytes HB.out hbg).2 k hkl
        rwa [Nat.zero_add] at this
      have hq : (k : Int).tdiv 4 = ((k / 4 : Nat) : Int) := rfl
      have hm : (k : Int).tmod 4 = ((k % 4 : Nat) : Int) := rfl
      have hc := hrow.cellAt (a + k / 4) (wosA_get' _ _ (wput_get s a l k (a + k / 4) (by omega)))
      rw [if_neg (by omega), show a + k / 4 - a = k / 4 by omega, show k - 4 * (k / 4) = k % 4 by omega] at hc
      have hf := hrow.frozenAt (a + k / 4)
      have hst := wput_step l hlb k
      have Hset := Lib.hid (wput_set s a l k (by omega))
      have hlt := hlb k
      generalize l.getD k 0 = y at hcb hst hlt
      have hyw : IntKind.u32.wrap (y : Int) = (y : Int) := IntWalk.u32_in _ (by omega)
      have hm3 : k % 4 < 4 := by omega
      generalize pkl l (k / 4) (k % 4) = p at hc hst
      generalize ((pkl l (k / 4) (k % 4 + 1) : Nat) : Int) = p' at hst Hset
      have hq4 : a + k / 4 < 16 := by omega
      generalize k / 4 = q at *
      generalize k % 4 = r at *
      obtain ⟨x, ex⟩ : ∃ x, x = a + q := ⟨_, rfl⟩
      rw [← ex] at hc hf hq4 Hset
      have hqw : IntKind.i64.wrap (q : Int) = (q : Int) := IntWalk.i64_in _ (by omega)
      have hx : IntKind.i64.wrap ((a : Int) + (q : Int)) = (x : Int) := by rw [IntWalk.i64_in _ (by omega)]; omega
      have hx0 : (0 : Int) ≤ (x : Int) := by omega
      have hx1 : (x : Int) < 16 := by omega
      obtain ⟨m, em⟩ : ∃ m, m = r * 8 := ⟨_, rfl⟩
      rw [← em] at hst
      have hmw : IntKind.i64.wrap ((r : Int) * 8) = (m : Int) := by rw [IntWalk.i64_in _ (by omega)]; omega
      have hm0 : (0 : Int) ≤ (m : Int) := by omega
      have hm1 : (m : Int) ≤ 32 := by omega
      have Hset2 := Lib.hid hset
      have hgl := hrow.2.2
      clear ex em hset hrow hkl
      go_wp2_with fail
      refine wp_region_pick wr [0, 1, 2, 3, 4, 5, 6, 7, 8, 9, 10, 11, 12, 13, 14, 15, 16] [false, false, false, false, false, false, false, false, false, false, false, false, false, false, false, false, false] [] [] 17 (by kernel_rfl) rfl (by kernel_rfl) (by intro c a d v w h; cases d <;> exact h) ((Below.refl _ _).drew) ?_
      simp only [pick, List.getElem?_cons_succ, List.getElem?_cons_zero, List.drop_succ_cons, List.drop_zero]
      iterate 17 (refine wpHoldF_val (wanted_none rfl) (by intro K o d hK; go_simp; exact hK _ (Below.refl _ _)) ?_)
      refine wpHoldF_nil ?_
      intro w2 hb2 _
      have S2 := Lib.hid (Hset2.out.grow hb2)
      have hc2 : w2.cell? ⟨g, x, none⟩ = some (.int .u32 (p : Int)) := by rw [hb2.cell hgl]; exact hc
      have hf2 := (S2.out.row H.out).frozenAt x
      clear hb2 hc hf Hset2
      go_wp2_with fail
      go_roundw
      case rel =>
        refine ⟨k + 1, by omega, by go_num, ?_⟩
        rw [← Hset.out, ← wosA_set]; exact S2.out.cell H.out
      case measure => simp [intOf]; omega
    · obtain rfl : k = n := by omega
      have HS := Lib.hid hset
      clear hset
      go_wp2_with fail
      go_end0
      exact ⟨rfl, HS.out⟩
end Go.Proofs.YtddmjddlbhdcpaaGreatDoor

/-
  Package chacha: a quarter.
-/
namespace Go.Proofs.YtddmjddlbhdcpaaGreatDoor
open Go.RowKit Go.Hold Go.Sh Go.Ch

theorem quart_eq (s : List Int) (i j k l : Nat) : quart s i j k l = (((s.set i (qr (s.getD i 0) (s.getD j 0) (s.getD k 0) (s.getD l 0)).a).set j (qr (s.getD i 0) (s.getD j 0) (s.getD k 0) (s.getD l 0)).b).set k (qr (s.getD i 0) (s.getD j 0) (s.getD k 0) (s.getD l 0)).c).set l (qr (s.getD i 0) (s.getD j 0) (s.getD k 0) (s.getD l 0)).d := rfl
theorem wos_cell {w : World} {g : Nat} {s : List Int} (h : RowAt w g (wosA s)) (i : Nat) (hi : i < s.length) : w.cell? ⟨g, i, none⟩ = some (.int .u32 (s.getD i 0)) := h.cellAt i (wosA_get s i hi)
set_option maxHeartbeats 1000000 in
set_option maxRecDepth 100000 in
theorem quarter_c (g i j k l : Nat) (s : List Int) (w : World) (hs : s.length = 16) (hi : i < j) (hj : j < k) (hk : k < l) (hl : l < 16) (h : RowAt w g (wosA s)) :
    Calls Tryz.prog 176 #[.pointer (some ⟨g, 0, none⟩), .int .i64 (i : Int), .int .i64 (j : Int), .int .i64 (k : Int), .int .i64 (l : Int)] w fun e w' => e = .returned (.tuple #[]) ∧ Sets w g (wosA (quart s i j k l)) w' := by
  have H := Lib.hid h
  have Hq := Lib.hid (quart_eq s i j k l)
  have Hs := Lib.hid hs
  have hi0 : (0 : Int) ≤ (i : Int) := by omega
  have hi1 : (i : Int) < 16 := by omega
  have hj0 : (0 : Int) ≤ (j : Int) := by omega
  have hj1 : (j : Int) < 16 := by omega
  have hk0 : (0 : Int) ≤ (k : Int) := by omega
  have hk1 : (k : Int) < 16 := by omega
  have hl0 : (0 : Int) ≤ (l : Int) := by omega
  have hl1 : (l : Int) < 16 := by omega
  have hci := wos_cell h i (by omega)
  have hcj := wos_cell h j (by omega)
  have hck := wos_cell h k (by omega)
  have hcl := wos_cell h l (by omega)
  have hgl := h.2.2
  generalize s.getD i 0 = a0 at *
  generalize s.getD j 0 = b0 at *
  generalize s.getD k 0 = c0 at *
  generalize s.getD l 0 = d0 at *
  have n1 : ¬ i = j := by omega
  have n2 : ¬ i = k := by omega
  have n3 : ¬ i = l := by omega
  have n4 : ¬ j = k := by omega
  have n5 : ¬ j = l := by omega
  have n6 : ¬ k = l := by omega
  clear h hs
  go_enter Tryz.func176, Tryz.ntmps176
  go_wp2_with fail
  refine wp_region_fast (fun w' => ∃ o d, w' = w.plus o d) (by kernel_rfl) (by kernel_rfl) ⟨#[], _, rfl⟩ ?_
  iterate 24 (refine wpHold_val ⟨_, #[], 0, rfl⟩ (wanted_none rfl) (by rintro K _ ⟨o, d, rfl⟩ hK; go_simp; exact hK _ ⟨o, d, rfl⟩) ?_)
  refine wpHold_nil ?_
  rintro _ ⟨o1, n1, rfl⟩
  have S1 := Lib.hid ((Sets.refl H.out).grow (below_more (Below.refl _ _) o1 n1))
  clear hci hcj hck hcl
  generalize w.plus o1 n1 = W1 at *
  go_wp2_with fail
  refine (rotP_16 _ _).mono ?_
  rintro e w' ⟨rfl, hwE⟩
  rw [hwE]
  clear hwE w'
  go_wp2_with fail
  refine (rotP_12 _ _).mono ?_
  rintro e w' ⟨rfl, hwE⟩
  rw [hwE]
  clear hwE w'
  go_wp2_with fail
  refine (rotP_8 _ _).mono ?_
  rintro e w' ⟨rfl, hwE⟩
  rw [hwE]
  clear hwE w'
  go_wp2_with fail
  refine (rotP_7 _ _).mono ?_
  rintro e w' ⟨rfl, hwE⟩
  rw [hwE]
  clear hwE w'
  go_wp2_with fail
  refine wp_region_pickT W1 [0, 1, 2, 3, 4, 5, 6, 7, 8, 9, 10, 11, 12, 15, 18, 21] [true, true, true, true, true, true, true, true, true, true, true, true, true, true, true, true] [13, 14, 16, 17, 19, 20, 22, 23] (by kernel_rfl) (by kernel_rfl) (by intro c a d v w h; cases d <;> exact h) ((Below.refl _ _).drew) ?_
  simp only [pick, List.getElem?_cons_succ, List.getElem?_cons_zero]
  iterate 16 (refine wpHoldF_late (wanted_none rfl) (fun w => by go_simp; rfl) ?_)
  refine wpHoldF_nil ?_
  intro W2 hb2
  have S2 := Lib.hid (S1.out.grow hb2)
  have R2 := S2.out.row H.out
  have hci := wos_cell R2 i (by rw [Hs.out]; omega)
  have hcj := wos_cell R2 j (by rw [Hs.out]; omega)
  have hck := wos_cell R2 k (by rw [Hs.out]; omega)
  have hcl := wos_cell R2 l (by rw [Hs.out]; omega)
  have hfi := R2.frozenAt i
  have hfj := R2.frozenAt j
  have hfk := R2.frozenAt k
  have hfl := R2.frozenAt l
  clear hb2 R2 S1
  go_wp2_with fail
  go_end0
  refine ⟨rfl, ?_⟩
  have h4 := (((S2.out.cell (i := i) (v := .int .u32 (qr a0 b0 c0 d0).a) H.out).cell (i := j) (v := .int .u32 (qr a0 b0 c0 d0).b) H.out).cell (i := k) (v := .int .u32 (qr a0 b0 c0 d0).c) H.out).cell (i := l) (v := .int .u32 (qr a0 b0 c0 d0).d) H.out
  rw [wosA_set, wosA_set, wosA_set, wosA_set, ← Hq.out] at h4
  exact h4
end Go.Proofs.YtddmjddlbhdcpaaGreatDoor

/-
  Package chacha: a double round; words as bytes.
-/
namespace Go.Proofs.YtddmjddlbhdcpaaGreatDoor
open Go.RowKit Go.Hold Go.Sh Go.Ch

set_option maxHeartbeats 1000000 in
set_option maxRecDepth 100000 in
theorem doubleRound_c (g : Nat) (s : List Int) (w : World) (hs : s.length = 16) (h : RowAt w g (wosA s)) :
    Calls Tryz.prog 165 #[.pointer (some ⟨g, 0, none⟩)] w fun e w' => e = .returned (.tuple #[]) ∧ Sets w g (wosA (drnd s)) w' := by
  have H := Lib.hid h
  have Hs := Lib.hid hs
  clear h hs
  go_enter Tryz.func165, Tryz.ntmps165
  go_wp2_with fail
  go_loopw [4] (fun i wr => ∃ n : Nat, n ≤ 4 ∧ i = .int .i64 n ∧ Sets w g (wosA (cols s n)) wr) (fun i _ => 4 - (intOf i).toNat)
  case atStart => exact ⟨0, by decide, rfl, Sets.refl H.out⟩
  case round =>
    obtain ⟨n, hn, rfl, hset⟩ := hrel
    by_cases hn4 : n < 4
    · have hn0 : (n : Int) < 4 := by omega
      have h1 : IntKind.i64.wrap (4 + (n : Int)) = ((4 + n : Nat) : Int) := by rw [IntWalk.i64_in _ (by omega)]; omega
      have h2 : IntKind.i64.wrap (8 + (n : Int)) = ((8 + n : Nat) : Int) := by rw [IntWalk.i64_in _ (by omega)]; omega
      have h3 : IntKind.i64.wrap (12 + (n : Int)) = ((12 + n : Nat) : Int) := by rw [IntWalk.i64_in _ (by omega)]; omega
      have HQ := Lib.hid (quarter_c g n (4 + n) (8 + n) (12 + n) (cols s n) wr (by rw [cols_length, Hs.out]) (by omega) (by omega) (by omega) (by omega) (hset.row H.out))
      have HE := Lib.hid (show cols s (n + 1) = quart (cols s n) n (4 + n) (8 + n) (12 + n) from rfl)
      generalize ((4 + n : Nat) : Int) = x1 at *
      generalize ((8 + n : Nat) : Int) = x2 at *
      generalize ((12 + n : Nat) : Int) = x3 at *
      have HS := Lib.hid hset
      clear hset
      go_wp2_with fail
      refine HQ.out.mono ?_
      rintro e W ⟨rfl, hW⟩
      have HW := Lib.hid (HS.out.trans H.out hW)
      clear hW
      go_wp2_with fail
      go_roundw
      case rel => exact ⟨n + 1, by omega, by go_num, by rw [HE.out]; exact HW.out⟩
      case measure => simp [intOf]; omega
    · obtain rfl : n = 4 := by omega
      have HS := Lib.hid hset
      clear hset
      rw [show ((4 : Nat) : Int) = 4 from rfl]
      go_wp2_with fail
      obtain ⟨W2, eW2⟩ : ∃ x, x = wr := ⟨_, rfl⟩
      rw [← eW2] at HS ⊢
      clear eW2
      go_loopw [17] (fun i wr => ∃ n : Nat, n ≤ 4 ∧ i = .int .i64 n ∧ Sets w g (wosA (dias (cols s 4) n)) wr) (fun i _ => 4 - (intOf i).toNat)
      case atStart => exact ⟨0, by decide, rfl, HS.out⟩
      case round =>
        obtain ⟨n, hn, rfl, hset⟩ := hrel
        by_cases hn4 : n < 4
        · have hn0 : (n : Int) < 4 := by omega
          have h1 : IntKind.i64.wrap ((n : Int) + 1) = ((n + 1 : Nat) : Int) := by rw [IntWalk.i64_in _ (by omega)]; omega
          have h2 : IntKind.i64.wrap ((n : Int) + 2) = ((n + 2 : Nat) : Int) := by rw [IntWalk.i64_in _ (by omega)]; omega
          have h3 : IntKind.i64.wrap ((n : Int) + 3) = ((n + 3 : Nat) : Int) := by rw [IntWalk.i64_in _ (by omega)]; omega
          have t1 : ((n + 1 : Nat) : Int).tmod 4 = (((n + 1) % 4 : Nat) : Int) := rfl
          have t2 : ((n + 2 : Nat) : Int).tmod 4 = (((n + 2) % 4 : Nat) : Int) := rfl
          have t3 : ((n + 3 : Nat) : Int).tmod 4 = (((n + 3) % 4 : Nat) : Int) := rfl
          have m1 : IntKind.i64.wrap (4 + (((n + 1) % 4 : Nat) : Int)) = ((4 + (n + 1) % 4 : Nat) : Int) := by rw [IntWalk.i64_in _ (by omega)]; omega
          have m2 : IntKind.i64.wrap (8 + (((n + 2) % 4 : Nat) : Int)) = ((8 + (n + 2) % 4 : Nat) : Int) := by rw [IntWalk.i64_in _ (by omega)]; omega
          have m3 : IntKind.i64.wrap (12 + (((n + 3) % 4 : Nat) : Int)) = ((12 + (n + 3) % 4 : Nat) : Int) := by rw [IntWalk.i64_in _ (by omega)]; omega
          have HQ := Lib.hid (quarter_c g n (4 + (n + 1) % 4) (8 + (n + 2) % 4) (12 + (n + 3) % 4) (dias (cols s 4) n) wr (by rw [dias_length, cols_length, Hs.out]) (by omega) (by omega) (by omega) (by omega) (hset.row H.out))
          have HE := Lib.hid (show dias (cols s 4) (n + 1) = quart (dias (cols s 4) n) n (4 + (n + 1) % 4) (8 + (n + 2) % 4) (12 + (n + 3) % 4) from rfl)
          generalize ((4 + (n + 1) % 4 : Nat) : Int) = x1 at *
          generalize ((8 + (n + 2) % 4 : Nat) : Int) = x2 at *
          generalize ((12 + (n + 3) % 4 : Nat) : Int) = x3 at *
          generalize (((n + 1) % 4 : Nat) : Int) = y1 at *
          generalize (((n + 2) % 4 : Nat) : Int) = y2 at *
          generalize (((n + 3) % 4 : Nat) : Int) = y3 at *
          generalize ez1 : ((n + 1 : Nat) : Int) = z1 at *
          have Ez1 := Lib.hid ez1
          clear ez1
          generalize ((n + 2 : Nat) : Int) = z2 at *
          generalize ((n + 3 : Nat) : Int) = z3 at *
          have HS := Lib.hid hset
          clear hset
          go_wp2_with fail
          refine HQ.out.mono ?_
          rintro e W ⟨rfl, hW⟩
          have HW := Lib.hid (HS.out.trans H.out hW)
          clear hW
          go_wp2_with fail
          go_roundw
          case rel => exact ⟨n + 1, by omega, by rw [Ez1.out], by rw [HE.out]; exact HW.out⟩
          case measure => have := Ez1.out; simp [intOf]; omega
        · obtain rfl : n = 4 := by omega
          have HS := Lib.hid hset
          clear hset
          go_wp2_with fail
          go_end0
          exact ⟨rfl, HS.out⟩

set_option maxHeartbeats 1000000 in
set_option maxRecDepth 100000 in
theorem wblock_c (s : List Int) (hs : s.length = 16) (w : World) :
    Calls Tryz.prog 166 #[.agg (wosA s)] w fun e w' => e = .returned (.agg (bysA (outB s))) ∧ Below w.heap.size w w' := by
  have hsz := wosA_size' hs
  go_enter Tryz.func166, Tryz.ntmps166
  go_wp2_with fail
  generalize hW : World.alloc _ _ = W1
  have R0 := Lib.hid (show RowAt W1 w.heap.size (wosA s) by rw [← hW]; clear hW; exact ⟨by go_simp, by go_simp, by go_simp⟩)
  have Q0 := Lib.hid (show RowAt W1 (w.heap.size + 1) (bysA (outP s 0)) by rw [← hW, outP_zero]; clear hW; exact ⟨by go_simp, by go_simp; rfl, by go_simp⟩)
  have K0 := Lib.hid (show RowAt W1 (w.heap.size + 1 + 1) (bysA (outP s 0)) by rw [← hW, outP_zero]; clear hW; exact ⟨by go_simp, by go_simp; rfl, by go_simp⟩)
  have B0 := Lib.hid (show Below w.heap.size w W1 by rw [← hW]; repeat (first | apply below_more | apply below_alloc | apply Below.drew | exact Below.refl _ _))
  clear hW
  go_loopw [5] (fun i wr => ∃ k : Nat, k ≤ 64 ∧ i = .int .i64 k ∧ RowAt wr (w.heap.size + 1 + 1) (bysA (outP s k)) ∧ Below (w.heap.size + 1 + 1) W1 wr) (fun i _ => 64 - (intOf i).toNat)
  case atStart => exact ⟨0, by decide, rfl, K0.out, Below.refl _ _⟩
  case round =>
    obtain ⟨k, hk, rfl, hrow, hbel⟩ := hrel
    by_cases hk64 : k < 64
    · have hk0 : (0 : Int) ≤ (k : Int) := by omega
      have hk1 : (k : Int) < 64 := by omega
      have hq : (k : Int).tdiv 4 = ((k / 4 : Nat) : Int) := rfl
      have hm : (k : Int).tmod 4 = ((k % 4 : Nat) : Int) := rfl
      have hc := wos_cell (R0.out.keep hbel (by omega)) (k / 4) (by omega)
      have hck := hrow.cellAt k (bysA_get _ k (by rw [outP_length]; exact hk64))
      have hfk := hrow.frozenAt k
      have Hset := Lib.hid (outP_set s k hk64)
      have h0 : (0 : Int) ≤ ((k / 4 : Nat) : Int) := by omega
      have h8 : ((k / 4 : Nat) : Int) < 16 := by omega
      obtain ⟨m, em⟩ : ∃ y, y = k % 4 * 8 := ⟨_, rfl⟩
      have h1 : IntKind.i64.wrap (((k % 4 : Nat) : Int) * 8) = (m : Int) := by rw [IntWalk.i64_in _ (by omega)]; omega
      have hm0 : (0 : Int) ≤ (m : Int) := by omega
      have hm1 : (m : Int) ≤ 32 := by omega
      obtain ⟨v, ev⟩ : ∃ v, v = oB s k := ⟨_, rfl⟩
      rw [← ev] at Hset
      have hv : s.getD (k / 4) 0 / 2 ^ m % 256 = (v : Int) := by rw [ev, oI_nat, em]; rfl
      clear em ev
      generalize s.getD (k / 4) 0 = x at hc hv
      have hqw : IntKind.i64.wrap ((k / 4 : Nat) : Int) = ((k / 4 : Nat) : Int) := IntWalk.i64_in _ (by omega)
      generalize k / 4 = q at *
      generalize k % 4 = r4 at *
      have Hrow := Lib.hid hrow
      have Hbel := Lib.hid hbel
      clear hrow hbel
      go_wp2_with fail
      go_roundw
      case rel =>
        refine ⟨k + 1, by omega, by go_num, ?_, ?_⟩
        · rw [← Hset.out, ← bysA_set]; exact Hrow.out.setCell _ _
        · exact Hbel.out.setCell (p := ⟨_, _, none⟩) (Nat.le_refl _) _
      case measure => simp [intOf]; omega
    · obtain rfl : k = 64 := by omega
      rw [outP_all] at hrow
      obtain ⟨q1, q2, q3⟩ := Q0.out.keep hbel (by omega)
      obtain ⟨r1, r2, r3⟩ := hrow
      have hz := bysA_size' (outP_length s 0)
      have hy := bysA_size' (outB_length s)
      have Hbel := Lib.hid hbel
      clear hbel
      go_wp2_with fail
      refine bodyPost_ret (v := .agg (bysA (outB s))) (results_b64 Tryz.results166 hy _ _ _ rfl (by go_simp) (by go_simp)) rfl ⟨rfl, ?_⟩
      exact below_setRow (B0.out.trans (Hbel.out.mono (by omega))) (by omega) _
end Go.Proofs.YtddmjddlbhdcpaaGreatDoor

/-
  Package chacha: a block's first words; a block.
-/
namespace Go.Proofs.YtddmjddlbhdcpaaGreatDoor
open Go.RowKit Go.Hold Go.Sh Go.Ch

set_option maxHeartbeats 1000000 in
set_option maxRecDepth 100000 in
theorem firstWords_c (k n : List Nat) (c : Int) (hk : k.length = 32) (hkb : ∀ i, k.getD i 0 < 256) (hn : n.length = 12) (hnb : ∀ i, n.getD i 0 < 256) (w : World) :
    Calls Tryz.prog 164 #[.agg (bysA k), .agg (bysA n), .int .u32 c] w fun e w' => e = .returned (.agg (wosA (fst k n c))) ∧ Below w.heap.size w w' := by
  have hks := bysA_size' hk
  have hns := bysA_size' hn
  have hcs := wosA_size' cst0_length
  go_enter Tryz.func164, Tryz.ntmps164
  go_wp2_with fail
  generalize hW : World.alloc _ _ = W1
  have K1 := Lib.hid (show RowAt W1 w.heap.size (bysA k) by rw [← hW]; clear hW; exact ⟨by go_simp, by go_simp, by go_simp⟩)
  have N1 := Lib.hid (show RowAt W1 (w.heap.size + 1) (bysA n) by rw [← hW]; clear hW; exact ⟨by go_simp, by go_simp, by go_simp⟩)
  obtain ⟨z0, hz0, hR0⟩ : ∃ c : Array Value, c.size = 16 ∧ RowAt W1 (w.heap.size + 1 + 1) c := by rw [← hW]; clear hW; exact ⟨wosA (List.replicate 16 0), by rw [wosA_size]; rfl, by go_simp, by go_simp; rfl, by go_simp⟩
  have C1 := Lib.hid (show RowAt W1 (w.heap.size + 1 + 1 + 1) (wosA cst0) by rw [← hW]; clear hW; exact ⟨by go_simp, by go_simp, by go_simp⟩)
  have B1 := Lib.hid (show Below w.heap.size w W1 by rw [← hW]; repeat (first | apply below_more | apply below_alloc | apply Below.drew | exact Below.refl _ _))
  have R1 := Lib.hid hR0
  clear hW hR0
  have l0 : w.heap.size ≤ w.heap.size + 1 + 1 + 1 := by omega
  have l1 : w.heap.size ≤ w.heap.size + 1 + 1 := by omega
  have e0 : w.heap.size ≠ w.heap.size + 1 + 1 + 1 := by omega
  have e1 : w.heap.size + 1 ≠ w.heap.size + 1 + 1 + 1 := by omega
  have e2 : w.heap.size + 1 + 1 ≠ w.heap.size + 1 + 1 + 1 := by omega
  generalize w.heap.size + 1 + 1 + 1 = gc at *
  generalize w.heap.size + 1 + 1 = gr at *
  generalize w.heap.size + 1 = gn at *
  have HP := Lib.hid (put_c gc w.heap.size 4 32 32 cst0 k W1 hk.symm cst0_length cst0_zero (by decide) hkb C1.out (bytes_row K1.out) e0)
  refine HP.out.mono ?_
  rintro e W2 ⟨rfl, hS2⟩
  have N2 := Lib.hid (hS2.old N1.out e1)
  have R2 := Lib.hid (hS2.old R1.out e2)
  have C2 := Lib.hid (hS2.row C1.out)
  have B2 := Lib.hid (hS2.below B1.out l0 B1.out.size)
  clear hS2 HP K1 N1 R1 C1 B1
  have hc12 := wos_cell C2.out 12 (by rw [wput_length]; decide)
  have hf12 := C2.out.frozenAt 12
  have S3 := Lib.hid ((Sets.refl C2.out).cell (i := 12) (v := .int .u32 c) C2.out)
  go_wp2_with fail
  generalize hW : World.setCell _ _ _ = W3
  rw [hW] at S3
  clear hW hc12 hf12
  have hS3 := S3.out
  rw [wosA_set] at hS3
  have N3 := Lib.hid (hS3.old N2.out e1)
  have R3 := Lib.hid (hS3.old R2.out e2)
  have C3 := Lib.hid (show RowAt W3 gc (wosA (mid k c)) from hS3.row C2.out)
  have B3 := Lib.hid (hS3.below B2.out l0 B2.out.size)
  clear hS3 S3 N2 R2 C2 B2
  have HP := Lib.hid (put_c gc gn 13 12 12 (mid k c) n W3 hn.symm (mid_length k c) (mid_zero k c) (by decide) hnb C3.out (bytes_row N3.out) e1)
  rw [nonce_in] at HP
  refine HP.out.mono ?_
  rintro e W4 ⟨rfl, hS4⟩
  obtain ⟨r1, r2, r3⟩ := hS4.old R3.out e2
  obtain ⟨c1, c2, c3⟩ := hS4.row C3.out
  have B4 := Lib.hid (hS4.below B3.out l0 B3.out.size)
  have hfz := wosA_size' (fst_length k n c)
  clear hS4 HP N3 R3 C3 B3
  go_wp2_with fail
  refine bodyPost_ret (v := .agg (wosA (fst k n c))) (results_cw Tryz.results164 hfz _ _ _ rfl (by go_simp) (by go_simp)) rfl ⟨rfl, ?_⟩
  exact below_setRow B4.out l1 _

set_option maxHeartbeats 1000000 in
set_option maxRecDepth 100000 in
theorem chablock_c (k n : List Nat) (c : Nat) (hk : k.length = 32) (hkb : ∀ i, k.getD i 0 < 256) (hn : n.length = 12) (hnb : ∀ i, n.getD i 0 < 256) (w : World) :
    Calls Tryz.prog 139 #[.agg (bysA k), .agg (bysA n), .int .u32 (c : Int)] w fun e w' => e = .returned (.agg (bysA (blk k n c))) ∧ Below w.heap.size w w' := by
  have hks := bysA_size' hk
  have hns := bysA_size' hn
  have HF := Lib.hid (firstWords_c k n (c : Int) hk hkb hn hnb)
  have Hb := Lib.hid (blk_eq k n c)
  have hlf := fst_length k n (c : Int)
  generalize fst k n (c : Int) = F at *
  have hFs := wosA_size' hlf
  have Hlf := Lib.hid hlf
  clear hlf hk hkb hn hnb
  go_enter Tryz.func139, Tryz.ntmps139
  go_wp2_with fail
  generalize hW : World.alloc _ _ = W1
  obtain ⟨z0, hz0, hR0⟩ : ∃ c : Array Value, c.size = 64 ∧ RowAt W1 (w.heap.size + 1 + 1) c := by rw [← hW]; clear hW; exact ⟨bysA (zs 64), by rw [bysA_size]; rfl, by go_simp, by go_simp; rfl, by go_simp⟩
  have R1 := Lib.hid hR0
  have B1 := Lib.hid (show Below w.heap.size w W1 by rw [← hW]; repeat (first | apply below_more | apply below_alloc | apply Below.drew | exact Below.refl _ _))
  clear hW hR0
  have l1 : w.heap.size ≤ w.heap.size + 1 + 1 := by omega
  generalize w.heap.size + 1 + 1 = gr at *
  refine (HF.out _).mono ?_
  rintro e W2 ⟨rfl, hb2⟩
  have R2 := Lib.hid (R1.out.grow hb2)
  have B2 := Lib.hid (B1.out.trans (hb2.mono B1.out.size))
  clear hb2 R1 B1 HF
  have l2 : w.heap.size ≤ W2.heap.size := B2.out.size
  have l3 : gr < W2.heap.size := R2.out.2.2
  go_wp2_with fail
  generalize hW : World.alloc _ _ = W3
  have F3 := Lib.hid (show RowAt W3 W2.heap.size (wosA F) by rw [← hW]; clear hW; exact ⟨by go_simp, by go_simp, by go_simp⟩)
  have C3 := Lib.hid (show RowAt W3 (W2.heap.size + 1) (wosA F) by rw [← hW]; clear hW; exact ⟨by go_simp, by go_simp, by go_simp⟩)
  have R3 := Lib.hid (show RowAt W3 gr z0 by rw [← hW]; exact R2.out.grow (below_alloc (below_alloc (Below.refl _ _) _) _))
  have B3 := Lib.hid (show Below w.heap.size w W3 by rw [← hW]; exact below_alloc (below_alloc B2.out _) _)
  clear hW R2 B2
  have e1 : gr ≠ W2.heap.size + 1 := by omega
  have e2 : W2.heap.size ≠ W2.heap.size + 1 := by omega
  have l4 : w.heap.size ≤ W2.heap.size + 1 := by omega
  generalize W2.heap.size + 1 = gc at *
  generalize W2.heap.size = gf at *
  go_loopw [15] (fun i wr => ∃ m : Nat, m ≤ 10 ∧ i = .int .i64 m ∧ Sets W3 gc (wosA (drnds F m)) wr) (fun i _ => 10 - (intOf i).toNat)
  case atStart => exact ⟨0, by decide, rfl, Sets.refl C3.out⟩
  case round =>
    obtain ⟨m, hm, rfl, hset⟩ := hrel
    by_cases hm10 : m < 10
    · have hm0 : (m : Int) < 10 := by omega
      have HQ := Lib.hid (doubleRound_c gc (drnds F m) wr (by rw [drnds_length, Hlf.out]) (hset.row C3.out))
      have HS := Lib.hid hset
      clear hset
      go_wp2_with fail
      refine HQ.out.mono ?_
      rintro e W ⟨rfl, hW⟩
      have HW := Lib.hid (HS.out.trans C3.out hW)
      clear hW
      go_wp2_with fail
      go_roundw
      case rel => exact ⟨m + 1, by omega, by go_num, HW.out⟩
      case measure => simp [intOf]; omega
    · obtain rfl : m = 10 := by omega
      have hlD : (drnds F 10).length = 16 := by rw [drnds_length, Hlf.out]
      have HlD := Lib.hid hlD
      generalize drnds F 10 = D at *
      have HS := Lib.hid hset
      clear hset hlD
      rw [show ((10 : Nat) : Int) = 10 from rfl]
      go_wp2_with fail
      have S4 := Lib.hid (show Sets W3 gc (wosA (sumW D F 0)) wr by rw [sumW_zero D F HlD.out]; exact HS.out)
      obtain ⟨W4, eW4⟩ : ∃ x, x = wr := ⟨_, rfl⟩
      rw [← eW4] at S4 ⊢
      clear eW4 HS
      go_loopw [19] (fun i wr => ∃ m : Nat, m ≤ 16 ∧ i = .int .i64 m ∧ Sets W3 gc (wosA (sumW D F m)) wr) (fun i _ => 16 - (intOf i).toNat)
      case atStart => exact ⟨0, by decide, rfl, S4.out⟩
      case round =>
        obtain ⟨m, hm, rfl, hset⟩ := hrel
        by_cases hm16 : m < 16
        · have hm0 : (m : Int) < 16 := by omega
          have hm1 : (0 : Int) ≤ (m : Int) := by omega
          have hrow := hset.row C3.out
          have hca := hrow.cellAt m (wosA_get' _ _ (sumW_get D F m m hm16))
          rw [if_neg (by omega)] at hca
          have hcb := wos_cell (hset.old F3.out e2) m (by rw [Hlf.out]; exact hm16)
          have Hset := Lib.hid (sumW_set D F m hm16)
          generalize D.getD m 0 = xd at hca Hset
          generalize F.getD m 0 = xf at hcb Hset
          have hgl := hrow.2.2
          have hgf := (hset.old F3.out e2).2.2
          have HS := Lib.hid hset
          clear hset hrow
          go_wp2_with fail
          refine wp_region_pick wr [0, 1, 2, 3, 4, 5, 6, 7] [false, false, false, false, false, false, false, false] [] [] 8 (by kernel_rfl) rfl (by kernel_rfl) (by intro c a d v w h; cases d <;> exact h) ((Below.refl _ _).drew) ?_
          simp only [pick, List.getElem?_cons_succ, List.getElem?_cons_zero, List.drop_succ_cons, List.drop_zero]
          iterate 8 (refine wpHoldF_val (wanted_none rfl) (by intro K o d hK; go_simp; exact hK _ (Below.refl _ _)) ?_)
          refine wpHoldF_nil ?_
          intro w2 hb2 _
          have S2 := Lib.hid (HS.out.grow hb2)
          have hc2 : w2.cell? ⟨gc, m, none⟩ = some (.int .u32 xd) := by rw [hb2.cell hgl]; exact hca
          have hf2 := (S2.out.row C3.out).frozenAt m
          clear hb2 hca hcb HS
          go_wp2_with fail
          go_roundw
          case rel =>
            refine ⟨m + 1, by omega, by go_num, ?_⟩
            rw [← Hset.out, ← wosA_set]; exact S2.out.cell C3.out
          case measure => simp [intOf]; omega
        · obtain rfl : m = 16 := by omega
          rw [sumW_all] at hset
          obtain ⟨c1, c2, c3⟩ := hset.row C3.out
          have hz := wosA_size' (sum16_length D F)
          have HQ := Lib.hid (wblock_c (sum16 D F) (sum16_length D F) wr)
          have R5 := Lib.hid (hset.old R3.out e1)
          have B5 := Lib.hid (hset.below B3.out l4 B3.out.size)
          clear hset
          go_wp2_with fail
          refine HQ.out.mono ?_
          rintro e W6 ⟨rfl, hb6⟩
          obtain ⟨r1, r2, r3⟩ := R5.out.grow hb6
          have B6 := Lib.hid (B5.out.trans (hb6.mono B5.out.size))
          have hy := bysA_size' (outB_length (sum16 D F))
          clear hb6
          go_wp2_with fail
          refine bodyPost_ret (v := .agg (bysA (outB (sum16 D F)))) (results_b64 Tryz.results139 hy _ _ _ rfl (by go_simp) (by go_simp)) rfl ⟨by rw [Hb.out], ?_⟩
          exact below_setRow B6.out l1 _
end Go.Proofs.YtddmjddlbhdcpaaGreatDoor

/-
  Bytes go over those of a row, from a place on.
-/
namespace Go.Proofs.YtddmjddlbhdcpaaGreatDoor
open Go.RowKit Go.Hold Go.Sh

theorem setL_at (r l : List Nat) (u : Nat) (h : u + l.length ≤ r.length) : setL (bysA r) u (bys l) = bysA (r.take u ++ l ++ r.drop (u + l.length)) := by
  apply Array.ext_getElem?
  intro i
  rw [setL_get, bys_length, bysA_size]
  have hn : (r.take u ++ l ++ r.drop (u + l.length)).length = r.length := by simp; omega
  by_cases hi : i < r.length
  · rw [bysA_get (r.take u ++ l ++ r.drop (u + l.length)) i (by rw [hn]; exact hi)]
    by_cases h1 : u ≤ i ∧ i < u + l.length
    · rw [if_pos (by omega)]
      simp only [bys, List.getElem?_map, List.getD]
      rw [List.append_assoc, List.getElem?_append_right (by simp; omega), List.getElem?_append_left (by simp; omega)]
      simp only [List.length_take]
      rw [show min u r.length = u by omega, List.getElem?_eq_getElem (by omega)]
      rfl
    · rw [if_neg (by omega), bysA_get _ i hi]
      congr 3
      simp only [List.getD]
      by_cases h2 : i < u
      · rw [List.append_assoc, List.getElem?_append_left (by simp; omega), List.getElem?_take, if_pos h2]
      · rw [List.getElem?_append_right (by simp; omega), List.getElem?_drop]
        congr 2
        simp only [List.length_append, List.length_take]; omega
  · rw [if_neg (by omega), Array.getElem?_eq_none (by rw [bysA_size]; omega), Array.getElem?_eq_none (by rw [bysA_size, hn]; omega)]
theorem copy_at {W : World} {g u c2 cap d s k : Nat} {p : Option Addr} {r l : List Nat} (h : RowAt W g (bysA r)) (hu : u ≤ r.length) (hd : d = r.length - u) (hs : s = l.length) (hk : k = min l.length (r.length - u)) (hB : Bs0 W p l) :
    (Builtin.copy_ #[38, 38] 3 #[.slice (some ⟨g, u, none⟩) d c2, .slice p s cap]).run Tryz.prog W = .ok (.int .i64 (k : Int)) (W.setRow g (bysA (r.take u ++ l.take k ++ r.drop (u + k)))) := by
  subst hd hs
  rcases hB with rfl | ⟨b, o, rfl, hB⟩
  · have hk0 : k = 0 := by simpa using hk
    subst hk0
    rw [List.take_zero, List.append_nil, Nat.add_zero, List.take_append_drop, setRow_self h]
    exact copy_none W _ _ _ _ _
  · have hl : (bys (l.take k)).length = k := by rw [bys_length, List.length_take]; omega
    have hi : (Tryz.prog.info? 5).map (·.size) = some 1 := by kernel_rfl
    have := run_copy_cells (P := Tryz.prog) W 38 38 3 5 g u (r.length - u) c2 ⟨b, o, none⟩ l.length cap (bys (l.take k)) Tryz.underlying38 hi (by rw [hl, hk])
      (fun j v hv => by
        have hj : j < k := by have := (List.getElem?_eq_some_iff.1 hv).1; omega
        rw [Addr.add_mid, hB.2 j (by omega), ← hv]
        simp only [bys, List.getElem?_map, List.getElem?_take, if_pos hj, List.getD]
        rw [List.getElem?_eq_getElem (by omega)]; rfl)
      (fun j hj => by rw [h.cellAt (u + j) (Array.getElem?_eq_getElem (by rw [bysA_size]; omega))]; rfl)
      (fun j _ => h.frozenAt _) (bys_one _)
    rw [this, hl, setCells_row _ _ h, setL_at _ _ _ (by rw [List.length_take]; omega)]
    rw [show (l.take k).length = k by rw [List.length_take]; omega]
    rfl
end Go.Proofs.YtddmjddlbhdcpaaGreatDoor

/-
  Package chacha: so many bytes of a stream.
-/
namespace Go.Proofs.YtddmjddlbhdcpaaGreatDoor
open Go.RowKit Go.Hold Go.Sh Go.Ch

set_option maxHeartbeats 400000 in
theorem blocksOf_c (n : Nat) (hn : n ≤ 1000000) (w : World) : Calls Tryz.prog 138 #[.int .i64 (n : Int)] w fun e w' => e = .returned (.int .i64 (((n + 63) / 64 : Nat) : Int)) ∧ w' = w := by
  have h1 : IntKind.i64.wrap ((n : Int) + 64) = ((n + 64 : Nat) : Int) := by rw [IntWalk.i64_in _ (by omega)]; omega
  have h2 : IntKind.i64.wrap (((n + 64 : Nat) : Int) - 1) = ((n + 63 : Nat) : Int) := by rw [IntWalk.i64_in _ (by omega)]; omega
  have h3 : ((n + 63 : Nat) : Int).tdiv 64 = (((n + 63) / 64 : Nat) : Int) := rfl
  have h4 : IntKind.i64.wrap (((n + 63) / 64 : Nat) : Int) = (((n + 63) / 64 : Nat) : Int) := by rw [IntWalk.i64_in _ (by omega)]
  generalize (((n + 63) / 64 : Nat) : Int) = x at *
  generalize ((n + 63 : Nat) : Int) = y at *
  generalize ((n + 64 : Nat) : Int) = z at *
  go_enter Tryz.func138, Tryz.ntmps138
  go_wp2_with fail
  go_ret
  exact ⟨rfl, rfl⟩

set_option maxHeartbeats 1000000 in
set_option maxRecDepth 100000 in
theorem stream_c (k n : List Nat) (c m : Nat) (hk : k.length = 32) (hkb : ∀ i, k.getD i 0 < 256) (hn : n.length = 12) (hnb : ∀ i, n.getD i 0 < 256) (hm : m ≤ 65536) (hc : c + (m + 63) / 64 ≤ 4294967296) (hc' : c < 4294967296) (w : World) :
    Calls Tryz.prog 108 #[.agg (bysA k), .agg (bysA n), .int .u32 (c : Int), .int .i64 (m : Int)] w fun e w' => ∃ g, e = .returned (.tuple #[.slice (some ⟨g, 0, none⟩) m m, .int .i64 0]) ∧ RowAt w' g (bysA (strm k n c m)) ∧ w.heap.size ≤ g ∧ Below w.heap.size w w' := by
  have hks := bysA_size' hk
  have hns := bysA_size' hn
  have h3 : ¬ (m : Int) < 0 := by omega
  have h4 : ¬ (65536 : Int) < (m : Int) := by omega
  have HB := Lib.hid (blocksOf_c m (by omega))
  obtain ⟨x, ex⟩ : ∃ x, x = (m + 63) / 64 := ⟨_, rfl⟩
  rw [← ex] at HB hc
  have h5 : IntKind.u64.wrap (c : Int) = (c : Int) := IntWalk.u64_in _ (by omega)
  have h6 : IntKind.u64.wrap (x : Int) = (x : Int) := IntWalk.u64_in _ (by omega)
  have h7 : IntKind.u64.wrap ((c : Int) + (x : Int)) = ((c + x : Nat) : Int) := by rw [IntWalk.u64_in _ (by omega)]; omega
  have h8 : ¬ (4294967296 : Int) < ((c + x : Nat) : Int) := by omega
  generalize ((c + x : Nat) : Int) = y at *
  have Ex := Lib.hid ex
  have Hc := Lib.hid hc
  have Hm := Lib.hid hm
  have hxb : (x : Int) ≤ 2000 := by omega
  clear ex hc hm
  have hmk := fun W => run_mkS W m (by have := Hm.out; omega)
  have HBl := Lib.hid (fun c' => chablock_c k n c' hk hkb hn hnb)
  clear hk hkb hn hnb
  go_enter Tryz.func108, Tryz.ntmps108
  go_wp2_with fail
  refine (HB.out _).mono ?_
  rintro e w' ⟨rfl, hwE⟩
  rw [hwE]
  clear hwE w'
  go_wp2_with fail
  generalize hW : World.alloc _ _ = W1
  have K1 := Lib.hid (show RowAt W1 w.heap.size (bysA k) by rw [← hW]; clear hW; exact ⟨by go_simp, by go_simp, by go_simp⟩)
  have N1 := Lib.hid (show RowAt W1 (w.heap.size + 1) (bysA n) by rw [← hW]; clear hW; exact ⟨by go_simp, by go_simp, by go_simp⟩)
  have S1 := Lib.hid (show RowAt W1 (w.heap.size + 1 + 1) (bysA (strP k n c m (64 * 0))) by rw [← hW, Nat.mul_zero, strP_zero]; clear hW; exact ⟨by go_simp, by go_simp, by go_simp⟩)
  have B1 := Lib.hid (show Below w.heap.size w W1 by rw [← hW]; repeat (first | apply below_more | apply below_alloc | apply Below.drew | exact Below.refl _ _))
  clear hW
  have l0 : w.heap.size ≤ w.heap.size + 1 + 1 := by omega
  have e0 : w.heap.size ≠ w.heap.size + 1 + 1 := by omega
  have e1 : w.heap.size + 1 ≠ w.heap.size + 1 + 1 := by omega
  generalize w.heap.size + 1 + 1 = g at *
  generalize w.heap.size + 1 = gn at *
  go_loopw [29] (fun i wr => ∃ j : Nat, j ≤ x ∧ i = .int .i64 j ∧ Sets W1 g (bysA (strP k n c m (64 * j))) wr) (fun i _ => x - (intOf i).toNat)
  case atStart => exact ⟨0, Nat.zero_le _, rfl, Sets.refl S1.out⟩
  case round =>
    obtain ⟨j, hj, rfl, hset⟩ := hrel
    by_cases hjx : j < x
    · have hj0 : (j : Int) < (x : Int) := by omega
      have hju : 64 * j < m := by have := Ex.out; omega
      have hjw : IntKind.u32.wrap (j : Int) = (j : Int) := IntWalk.u32_in _ (by have := Hm.out; omega)
      obtain ⟨cj, ecj⟩ : ∃ y, y = c + j := ⟨_, rfl⟩
      have hcj : add32 (c : Int) (j : Int) = (cj : Int) := by unfold add32; rw [IntWalk.u32_in _ (by have := Hc.out; omega), ecj]; omega
      obtain ⟨k1, k2, k3⟩ := hset.old K1.out e0
      obtain ⟨n1, n2, n3⟩ := hset.old N1.out e1
      have hgl := (hset.row S1.out).2.2
      obtain ⟨u, eu⟩ : ∃ u, u = 64 * j := ⟨_, rfl⟩
      have hjm : IntKind.i64.wrap ((j : Int) * 64) = (u : Int) := by rw [IntWalk.i64_in _ (by have := Hm.out; omega), eu]; omega
      have hsl := slB_lo g 0 m m u (by omega)
      rw [show adv 0 u m = u by unfold adv; rw [if_neg (by omega), Nat.zero_add]] at hsl
      obtain ⟨t, et⟩ : ∃ t, t = min 64 (m - u) := ⟨_, rfl⟩
      have Hst := Lib.hid (strP_step k n c m j t hju (by rw [et, eu]))
      rw [← ecj, ← eu] at Hst
      rw [← eu] at hset
      have hPl := strP_length k n c m u
      have hbl := blk_length k n cj
      have hbz := bysA_size' hbl
      have HBj := Lib.hid (HBl.out cj wr)
      generalize blk k n cj = b at *
      generalize strP k n c m u = P at *
      have Et := Lib.hid et
      have Eu := Lib.hid eu
      have HPl := Lib.hid hPl
      have Hbl := Lib.hid hbl
      have Hju := Lib.hid hju
      have HS := Lib.hid hset
      clear hset ecj eu et hPl hbl hju
      go_wp2_with fail
      refine HBj.out.mono ?_
      rintro e W2 ⟨rfl, hb2⟩
      have S2 := Lib.hid (HS.out.grow hb2)
      clear hb2 k1 k2 k3 n1 n2 n3
      go_wp2_with fail
      generalize hW : World.alloc _ _ = W3
      have b3 := Lib.hid (show RowAt W3 W2.heap.size (bysA b) by rw [← hW]; clear hW; exact ⟨by go_simp, by go_simp, by go_simp⟩)
      have S3 := Lib.hid (show Sets W1 g (bysA P) W3 by rw [← hW]; exact S2.out.grow (below_alloc (Below.refl _ _) _))
      clear hW S2
      generalize W2.heap.size = gb at *
      refine wp_region_pickT W3 [0, 1, 2, 3, 4] [true, true, true, true, true] [5] (by kernel_rfl) (by kernel_rfl) (by intro c a d v w h; cases d <;> exact h) ((Below.refl _ _).drew) ?_
      simp only [pick, List.getElem?_cons_succ, List.getElem?_cons_zero]
      iterate 5 (refine wpHoldF_late (wanted_none rfl) (fun w => by go_simp; rfl) ?_)
      refine wpHoldF_nil ?_
      intro W4 hb4
      have S4 := Lib.hid (S3.out.grow hb4)
      have hcp := copy_at (c2 := m - u) (cap := 64) (d := m - u) (s := 64) (u := u) (k := t) (S4.out.row S1.out) (by rw [HPl.out, Eu.out]; have := Hju.out; omega) (by rw [HPl.out]) Hbl.out.symm (by rw [HPl.out, Hbl.out, Et.out]) (Bs0.some (bytes_row (b3.out.grow hb4)))
      rw [Hst.out] at hcp
      have S5 := Lib.hid (S4.out.set (c' := bysA (strP k n c m (64 * (j + 1)))) S1.out)
      generalize W4.setRow g (bysA (strP k n c m (64 * (j + 1)))) = W5 at *
      clear hb4
      go_wp2_with fail
      go_roundw
      case rel => exact ⟨j + 1, by omega, by go_num, S5.out⟩
      case measure => simp [intOf]; omega
    · obtain rfl : j = x := by omega
      have R2 := Lib.hid (hset.row S1.out)
      have B2 := Lib.hid (hset.below B1.out l0 B1.out.size)
      clear hset
      go_wp2_with fail
      refine bodyPost_ret (v := .tuple #[.slice (some ⟨g, 0, none⟩) m m, .int .i64 0]) (results_tmp2 Tryz.results108 _ _ _) rfl ⟨g, rfl, ?_, l0, B2.out⟩
      have h1 := R2.out
      rw [strP_all k n c m _ (by have := Ex.out; omega)] at h1
      exact h1
end Go.Proofs.YtddmjddlbhdcpaaGreatDoor

/-
  A nonce of a key.
-/
namespace Go.Proofs.YtddmjddlbhdcpaaGreatDoor
open Go.RowKit Go.Hold Go.Sh

/-! ### A nonce of a key -/
/-! ### A nonce that is built -/
@[go_sem ↓] theorem build_non (ps : Array (Nat × Value)) : Instr.build 163 ps = bldA 163 ps := rfl
set_option maxRecDepth 100000 in
@[go_sem] theorem run_bldNon0 (w : World) : (bldA 163 #[]).run Tryz.prog w = .ok (.agg (bysA (zs 12))) w := run_build w _ _ _ (by kernel_rfl)
end Go.Proofs.YtddmjddlbhdcpaaGreatDoor

/-
  Package header: of a shared secret: the stream, the tag, the blinding, the proof of a beta.
-/
namespace Go.Proofs.YtddmjddlbhdcpaaGreatDoor
open Go.RowKit Go.Hold Go.Sh Go.Ch Go.Cm Go.Hd

theorem drv_rho (s : List Nat) (hs : s.length = 32) (hsb : ∀ i, s.getD i 0 < 256) (w : World) (hT : Tabs w) :
    Calls Tryz.prog 58 #[.agg (bysA s), .string { data := #[114, 104, 111] }] w fun e w' => e = .returned (.agg (bysA (keyN (drv s rhoL)))) ∧ Below w.heap.size w w' := by
  have := derive_c s ⟨#[114, 104, 111]⟩ w hT hs hsb (by decide)
  rwa [keA_bys, show purp ++ strB ⟨#[114, 104, 111]⟩ = rhoL by decide] at this
theorem drv_mu (s : List Nat) (hs : s.length = 32) (hsb : ∀ i, s.getD i 0 < 256) (w : World) (hT : Tabs w) :
    Calls Tryz.prog 58 #[.agg (bysA s), .string { data := #[109, 117] }] w fun e w' => e = .returned (.agg (bysA (keyN (drv s muL)))) ∧ Below w.heap.size w w' := by
  have := derive_c s ⟨#[109, 117]⟩ w hT hs hsb (by decide)
  rwa [keA_bys, show purp ++ strB ⟨#[109, 117]⟩ = muL by decide] at this
theorem drv_tau (s : List Nat) (hs : s.length = 32) (hsb : ∀ i, s.getD i 0 < 256) (w : World) (hT : Tabs w) :
    Calls Tryz.prog 58 #[.agg (bysA s), .string { data := #[116, 97, 117] }] w fun e w' => e = .returned (.agg (bysA (keyN (drv s tauL)))) ∧ Below w.heap.size w w' := by
  have := derive_c s ⟨#[116, 97, 117]⟩ w hT hs hsb (by decide)
  rwa [keA_bys, show purp ++ strB ⟨#[116, 97, 117]⟩ = tauL by decide] at this

set_option maxHeartbeats 1000000 in
set_option maxRecDepth 100000 in
theorem hstream_c (s : List Nat) (hs : s.length = 32) (hsb : ∀ i, s.getD i 0 < 256) (w : World) (hT : Tabs w) :
    Calls Tryz.prog 79 #[.agg (bysA s)] w fun e w' => e = .returned (.agg (bysA (hst s))) ∧ Below w.heap.size w w' := by
  have hss := bysA_size' hs
  have hh := bysA_size' (hst_length s)
  have hzw := bysA_size' (zs_length 192)
  have HD := Lib.hid (fun (W : World) (h : Tabs W) => drv_rho s hs hsb W h)
  have HT := Lib.hid hT
  have HS := Lib.hid (fun (W : World) => show Calls Tryz.prog 108 #[.agg (bysA (keyN (drv s rhoL))), .agg (bysA (zs 12)), .int .u32 0, .int .i64 192] W fun e w' => ∃ g, e = .returned (.tuple #[.slice (some ⟨g, 0, none⟩) 192 192, .int .i64 0]) ∧ RowAt w' g (bysA (hst s)) ∧ W.heap.size ≤ g ∧ Below W.heap.size W w' by
    unfold hst
    exact stream_c (keyN (drv s rhoL)) (zs 12) 0 192 (keyN_length _) (keyN_bts _) (zs_length 12) (bts_zs 12) (by decide) (by decide) (by decide) W)
  have hcp : ∀ (W : World) (g b : Nat), RowAt W g (bysA (zs 192)) → RowAt W b (bysA (hst s)) → (Builtin.copy_ #[38, 38] 3 #[.slice (some ⟨g, 0, none⟩) 192 192, .slice (some ⟨b, 0, none⟩) 192 192]).run Tryz.prog W = .ok (.int .i64 ((192 : Nat) : Int)) (W.setRow g (bysA (hst s))) := by
    intro W g b hg hb
    have := copy_bytes (c2 := 192) (cap := 192) (d := 192) (s := 192) (k := 192) hg (by rw [zs_length]) (hst_length s).symm (by rw [zs_length, hst_length]; decide) (Bs0.some (bytes_row hb))
    rwa [show (hst s).take 192 ++ (zs 192).drop 192 = hst s by rw [List.take_of_length_le (by rw [hst_length]; exact Nat.le_refl _), zs_drop]; simp [zs]] at this
  have Hcp := Lib.hid hcp
  clear hs hsb hT hcp
  generalize hst s = H at *
  generalize keyN (drv s rhoL) = D at *
  go_enter Tryz.func79, Tryz.ntmps79
  go_wp2_with fail
  generalize hW : World.alloc _ _ = W0
  have R0x0 := Lib.hid (show RowAt W0 (w.heap.size) (bysA s) by rw [← hW]; clear hW; exact ⟨by go_simp, by first | (go_simp; done) | (go_simp; rfl), by go_simp⟩)
  have R0x1 := Lib.hid (show RowAt W0 (w.heap.size + 1) (bysA (zs 192)) by rw [← hW]; clear hW; exact ⟨by go_simp, by first | (go_simp; done) | (go_simp; rfl), by go_simp⟩)
  have R0x2 := Lib.hid (show RowAt W0 (w.heap.size + 1 + 1) (bysA (zs 192)) by rw [← hW]; clear hW; exact ⟨by go_simp, by first | (go_simp; done) | (go_simp; rfl), by go_simp⟩)
  have B0 := Lib.hid (show Below w.heap.size w W0 by rw [← hW]; repeat (first | apply below_alloc | exact Below.refl _ _))
  clear hW
  have hzs192 := bysA_size' (zs_length 192)
  have l_z : w.heap.size ≤ w.heap.size := by omega
  have l_r : w.heap.size ≤ w.heap.size + 1 := by omega
  have n_z_r : w.heap.size ≠ w.heap.size + 1 := by omega
  have l_v : w.heap.size ≤ w.heap.size + 1 + 1 := by omega
  have n_z_v : w.heap.size ≠ w.heap.size + 1 + 1 := by omega
  have n_r_v : w.heap.size + 1 ≠ w.heap.size + 1 + 1 := by omega
  generalize w.heap.size + 1 + 1 = v at *
  generalize w.heap.size + 1 = r at *
  obtain ⟨z, ez⟩ : ∃ z, z = w.heap.size := ⟨_, rfl⟩
  rw [← ez] at R0x0 n_z_r n_z_v ⊢
  have l_z : w.heap.size ≤ z := by rw [ez]; exact Nat.le_refl _
  clear ez
  refine (HD.out _ (HT.out.grow B0.out)).mono ?_
  rintro e W1 ⟨rfl, hb1⟩
  have R1x0 := Lib.hid (R0x0.out.grow hb1)
  have R1x1 := Lib.hid (R0x1.out.grow hb1)
  have R1x2 := Lib.hid (R0x2.out.grow hb1)
  have B1 := Lib.hid (B0.out.trans (hb1.mono B0.out.size))
  clear hb1 B0 R0x0 R0x1 R0x2
  obtain ⟨R1x0a, R1x0b, R1x0c⟩ := R1x0.out
  obtain ⟨R1x1a, R1x1b, R1x1c⟩ := R1x1.out
  obtain ⟨R1x2a, R1x2b, R1x2c⟩ := R1x2.out
  go_wp2_with fail
  refine (HS.out _).mono ?_
  rintro e W2 ⟨g, rfl, hg, _, hb2⟩
  have HG := Lib.hid hg
  clear hg
  clear R1x0a R1x0b R1x0c R1x1a R1x1b R1x1c R1x2a R1x2b R1x2c
  have R2x0 := Lib.hid (R1x0.out.grow hb2)
  have R2x1 := Lib.hid (R1x1.out.grow hb2)
  have R2x2 := Lib.hid (R1x2.out.grow hb2)
  have B2 := Lib.hid (B1.out.trans (hb2.mono B1.out.size))
  clear hb2 B1 R1x0 R1x1 R1x2
  have hcp := Hcp.out _ _ _ R2x2.out HG.out
  obtain ⟨R2x0a, R2x0b, R2x0c⟩ := R2x0.out
  obtain ⟨R2x1a, R2x1b, R2x1c⟩ := R2x1.out
  obtain ⟨R2x2a, R2x2b, R2x2c⟩ := R2x2.out
  go_wp2_with fail
  refine bodyPost_ret (v := .agg (bysA H)) (results_wide Tryz.results79 hh _ _ _ rfl (by go_simp) (by go_simp)) rfl ⟨rfl, ?_⟩
  exact below_setRow (below_setRow (B2.out) l_v _) l_r _
set_option maxHeartbeats 1000000 in
set_option maxRecDepth 100000 in
theorem htag_c (s : List Nat) (hs : s.length = 32) (hsb : ∀ i, s.getD i 0 < 256) (w : World) (hT : Tabs w) :
    Calls Tryz.prog 52 #[.agg (bysA s)] w fun e w' => e = .returned (.agg (bysA (tagS s))) ∧ Below w.heap.size w w' := by
  have hss := bysA_size' hs
  have ht := bysA_size' (tagS_length s)
  have HD := Lib.hid (fun (W : World) (h : Tabs W) => drv_tau s hs hsb W h)
  have HDl := Lib.hid (keyN_length (drv s tauL))
  have HT := Lib.hid hT
  unfold tagS at *
  clear hs hsb hT
  generalize keyN (drv s tauL) = D at *
  go_enter Tryz.func52, Tryz.ntmps52
  go_wp2_with fail
  generalize hW : World.alloc _ _ = W0
  have R0x0 := Lib.hid (show RowAt W0 (w.heap.size) (bysA s) by rw [← hW]; clear hW; exact ⟨by go_simp, by first | (go_simp; done) | (go_simp; rfl), by go_simp⟩)
  have R0x1 := Lib.hid (show RowAt W0 (w.heap.size + 1) (bysA (zs 16)) by rw [← hW]; clear hW; exact ⟨by go_simp, by first | (go_simp; done) | (go_simp; rfl), by go_simp⟩)
  have B0 := Lib.hid (show Below w.heap.size w W0 by rw [← hW]; repeat (first | apply below_alloc | exact Below.refl _ _))
  clear hW
  have hzs16 := bysA_size' (zs_length 16)
  have l_z : w.heap.size ≤ w.heap.size := by omega
  have l_r : w.heap.size ≤ w.heap.size + 1 := by omega
  have n_z_r : w.heap.size ≠ w.heap.size + 1 := by omega
  generalize w.heap.size + 1 = r at *
  obtain ⟨z, ez⟩ : ∃ z, z = w.heap.size := ⟨_, rfl⟩
  rw [← ez] at R0x0 n_z_r ⊢
  have l_z : w.heap.size ≤ z := by rw [ez]; exact Nat.le_refl _
  clear ez
  obtain ⟨R0x0a, R0x0b, R0x0c⟩ := R0x0.out
  obtain ⟨R0x1a, R0x1b, R0x1c⟩ := R0x1.out
  clear R0x0a R0x0b R0x0c R0x1a R0x1b R0x1c
  refine (HD.out _ (HT.out.grow B0.out)).mono ?_
  rintro e W1 ⟨rfl, hb1⟩
  have R1x0 := Lib.hid (R0x0.out.grow hb1)
  have R1x1 := Lib.hid (R0x1.out.grow hb1)
  have B1 := Lib.hid (B0.out.trans (hb1.mono B0.out.size))
  clear hb1 B0 R0x0 R0x1
  obtain ⟨R1x0a, R1x0b, R1x0c⟩ := R1x0.out
  obtain ⟨R1x1a, R1x1b, R1x1c⟩ := R1x1.out
  go_wp2_with fail
  refine (short_c D HDl.out _).mono ?_
  rintro e W2 ⟨rfl, hb2⟩
  clear R1x0a R1x0b R1x0c R1x1a R1x1b R1x1c
  have R2x0 := Lib.hid (R1x0.out.grow hb2)
  have R2x1 := Lib.hid (R1x1.out.grow hb2)
  have B2 := Lib.hid (B1.out.trans (hb2.mono B1.out.size))
  clear hb2 B1 R1x0 R1x1
  obtain ⟨R2x0a, R2x0b, R2x0c⟩ := R2x0.out
  obtain ⟨R2x1a, R2x1b, R2x1c⟩ := R2x1.out
  go_wp2_with fail
  refine bodyPost_ret (v := .agg (bysA (D.take 16))) (results_tag Tryz.results52 ht _ _ _ rfl (by go_simp) (by go_simp)) rfl ⟨rfl, ?_⟩
  exact below_setRow (B2.out) l_r _
set_option maxHeartbeats 1000000 in
set_option maxRecDepth 100000 in
theorem blinding_c (s a : List Nat) (hs : s.length = 32) (hsb : ∀ i, s.getD i 0 < 256) (ha : a.length = 32) (hab : ∀ i, a.getD i 0 < 256) (w : World) (hT : Tabs w) :
    Calls Tryz.prog 49 #[.agg (bysA s), .agg (bysA a)] w fun e w' => e = .returned (.agg (bysA (bli s a))) ∧ Below w.heap.size w w' := by
  have hss := bysA_size' hs
  have has := bysA_size' ha
  have hm := bysA_size' (bli_length s a)
  have HM := Lib.hid (fun (W : World) (h : Tabs W) {p q : Option Addr} (hp : Bs0 W p s) (hq : Bs0 W q a) (hqc : q = none → 32 = 0) => mac_at (kc := 32) (bc := 32) (m := 32) (nb := 32) hs.symm ha.symm (rfl : mac s a = mac s a) h (by omega) hsb hp (by omega) (by omega) hab hq hqc)
  rw [show (keA (mac s a)) = bysA (bli s a) by unfold bli; exact keA_bys _] at HM
  have HT := Lib.hid hT
  clear hs hsb hT ha hab
  generalize bli s a = M at *
  go_enter Tryz.func49, Tryz.ntmps49
  go_wp2_with fail
  generalize hW : World.alloc _ _ = W0
  have R0x0 := Lib.hid (show RowAt W0 (w.heap.size) (bysA s) by rw [← hW]; clear hW; exact ⟨by go_simp, by first | (go_simp; done) | (go_simp; rfl), by go_simp⟩)
  have R0x1 := Lib.hid (show RowAt W0 (w.heap.size + 1) (bysA a) by rw [← hW]; clear hW; exact ⟨by go_simp, by first | (go_simp; done) | (go_simp; rfl), by go_simp⟩)
  have R0x2 := Lib.hid (show RowAt W0 (w.heap.size + 1 + 1) (bysA (zs 32)) by rw [← hW]; clear hW; exact ⟨by go_simp, by first | (go_simp; done) | (go_simp; rfl), by go_simp⟩)
  have B0 := Lib.hid (show Below w.heap.size w W0 by rw [← hW]; repeat (first | apply below_alloc | exact Below.refl _ _))
  clear hW
  have hzs32 := bysA_size' (zs_length 32)
  have l_z : w.heap.size ≤ w.heap.size := by omega
  have l_y : w.heap.size ≤ w.heap.size + 1 := by omega
  have n_z_y : w.heap.size ≠ w.heap.size + 1 := by omega
  have l_r : w.heap.size ≤ w.heap.size + 1 + 1 := by omega
  have n_z_r : w.heap.size ≠ w.heap.size + 1 + 1 := by omega
  have n_y_r : w.heap.size + 1 ≠ w.heap.size + 1 + 1 := by omega
  generalize w.heap.size + 1 + 1 = r at *
  generalize w.heap.size + 1 = y at *
  obtain ⟨z, ez⟩ : ∃ z, z = w.heap.size := ⟨_, rfl⟩
  rw [← ez] at R0x0 n_z_y n_z_r ⊢
  have l_z : w.heap.size ≤ z := by rw [ez]; exact Nat.le_refl _
  clear ez
  refine wp_region_pickT W0 [0, 1] [true, true] [2, 3] (by kernel_rfl) (by kernel_rfl) (by intro c a d v w h; cases d <;> exact h) (by first | exact (Below.refl _ _).drew | exact Below.refl _ _) ?_
  simp only [pick, List.getElem?_cons_succ, List.getElem?_cons_zero]
  iterate 2 (refine wpHoldF_late (wanted_none rfl) (fun w => by go_simp; rfl) ?_)
  refine wpHoldF_nil ?_
  intro W1 hb1
  have R1x0 := Lib.hid (R0x0.out.grow hb1)
  have R1x1 := Lib.hid (R0x1.out.grow hb1)
  have R1x2 := Lib.hid (R0x2.out.grow hb1)
  have B1 := Lib.hid (B0.out.trans (hb1.mono B0.out.size))
  clear hb1 B0 R0x0 R0x1 R0x2
  go_wp2_with fail
  refine (HM.out _ (HT.out.grow B1.out) (Bs0.some (bytes_row R1x0.out)) (Bs0.some (bytes_row R1x1.out)) (fun h => by cases h)).mono ?_
  rintro e W2 ⟨rfl, hb2⟩
  have R2x0 := Lib.hid (R1x0.out.grow hb2)
  have R2x1 := Lib.hid (R1x1.out.grow hb2)
  have R2x2 := Lib.hid (R1x2.out.grow hb2)
  have B2 := Lib.hid (B1.out.trans (hb2.mono B1.out.size))
  clear hb2 B1 R1x0 R1x1 R1x2
  obtain ⟨R2x0a, R2x0b, R2x0c⟩ := R2x0.out
  obtain ⟨R2x1a, R2x1b, R2x1c⟩ := R2x1.out
  obtain ⟨R2x2a, R2x2b, R2x2c⟩ := R2x2.out
  go_wp2_with fail
  refine bodyPost_ret (v := .agg (bysA M)) (results_key Tryz.results49 hm _ _ _ rfl (by go_simp) (by go_simp)) rfl ⟨rfl, ?_⟩
  exact below_setRow (B2.out) l_r _
end Go.Proofs.YtddmjddlbhdcpaaGreatDoor

/-
  Worlds in which one row, and one block of bytes of one's own, may have changed, and memory was laid behind.
-/
namespace Go.Proofs.YtddmjddlbhdcpaaGreatDoor
open Go.RowKit Go.Hold Go.Sh

/-- World w', of w: but row g and block ob all is as it was; some blocks are new. -/
structure Moves (w : World) (g : Nat) (ob : Option Nat) (w' : World) : Prop where
  os : w'.os = w.os
  tape : w'.tape = w.tape
  output : w'.output = w.output
  size : w.heap.size ≤ w'.heap.size
  block : ∀ k, k < w.heap.size → k ≠ g → some k ≠ ob → w'.heap[k]? = w.heap[k]?
/-- A block that is the old one, or new. -/
def NewB (w : World) (ob ob' : Option Nat) : Prop := ∀ k, ob' = some k → ob = some k ∨ w.heap.size ≤ k
theorem NewB.refl (w : World) (ob : Option Nat) : NewB w ob ob := fun _ h => .inl h
theorem NewB.trans {w w1 : World} {a b c : Option Nat} (h : NewB w a b) (h1 : NewB w1 b c) (hs : w.heap.size ≤ w1.heap.size) : NewB w a c := fun k hk => by
  rcases h1 k hk with h2 | h2
  · exact h k h2
  · exact .inr (Nat.le_trans hs h2)
theorem NewB.ne {w : World} {a b : Option Nat} {k : Nat} (h : NewB w a b) (ha : a ≠ some k) (hk : k < w.heap.size) : b ≠ some k := fun e => by
  rcases h k e with h1 | h1
  · exact ha h1
  · omega
theorem Moves.of {w w' : World} (g : Nat) (ob : Option Nat) (h : Below w.heap.size w w') : Moves w g ob w' := ⟨h.os, h.tape, h.output, h.size, fun k hk _ _ => h.block k hk⟩
theorem Moves.refl (w : World) (g : Nat) (ob : Option Nat) : Moves w g ob w := ⟨rfl, rfl, rfl, Nat.le_refl _, fun _ _ _ _ => rfl⟩
theorem Moves.trans {w w1 w2 : World} {g : Nat} {a b : Option Nat} (h : Moves w g a w1) (h1 : Moves w1 g b w2) (hn : NewB w a b) : Moves w g a w2 :=
  ⟨h1.os.trans h.os, h1.tape.trans h.tape, h1.output.trans h.output, Nat.le_trans h.size h1.size, fun k hk hg ha => by
    rw [h1.block k (Nat.lt_of_lt_of_le hk h.size) hg fun e => hn.ne (fun e' => ha e'.symm) hk e.symm, h.block k hk hg ha]⟩
theorem Moves.grow {w w1 w2 : World} {g : Nat} {a : Option Nat} (h : Moves w g a w1) (h1 : Below w1.heap.size w1 w2) : Moves w g a w2 := h.trans (.of g a h1) (.refl w a)
theorem Moves.setCell {w w1 : World} {g : Nat} {a : Option Nat} (h : Moves w g a w1) (i : Nat) (v : Value) : Moves w g a (w1.setCell ⟨g, i, none⟩ v) :=
  ⟨h.os, h.tape, h.output, by simpa [World.setCell] using h.size, fun k hk hg ha => by
    simp only [World.setCell, Array.getElem?_modify]
    rw [if_neg (fun e => hg e.symm), h.block k hk hg ha]⟩
theorem Moves.setRow {w w1 : World} {g : Nat} {a : Option Nat} (h : Moves w g a w1) (c : Array Value) : Moves w g a (w1.setRow g c) :=
  ⟨h.os, h.tape, h.output, by simpa [World.setRow] using h.size, fun k hk hg ha => by
    rw [setRow_other w1 g k c hg, h.block k hk hg ha]⟩
theorem Moves.grownBy {w w1 w2 : World} {g : Nat} {a : Option Nat} (h : Moves w g a w1) (h1 : w1.grownBy w2 a) : Moves w g a w2 :=
  ⟨h1.os.trans h.os, h1.tape.trans h.tape, h1.output.trans h.output, Nat.le_trans h.size h1.size, fun k hk hg ha => by
    rw [h1.block k (Nat.lt_of_lt_of_le hk h.size) (fun e => ha (by rw [← e])), h.block k hk hg ha]⟩
theorem Moves.below {B : Nat} {w0 w w' : World} {g : Nat} {a : Option Nat} (h : Moves w g a w') (hb : Below B w0 w) (hB : B ≤ w.heap.size) (hg : B ≤ g) (ha : ∀ k, a = some k → B ≤ k) : Below B w0 w' :=
  ⟨h.os.trans hb.os, h.tape.trans hb.tape, h.output.trans hb.output, Nat.le_trans hb.size h.size, fun k hk => by
    rw [h.block k (by omega) (by omega) (fun e => by have := ha k e.symm; omega), hb.block k hk]⟩
theorem RowAt.moves {w w' : World} {g n : Nat} {a : Option Nat} {c : Array Value} (h : RowAt w n c) (m : Moves w g a w') (hg : n ≠ g) (ha : a ≠ some n) : RowAt w' n c := by
  obtain ⟨t, ht⟩ := h.block
  exact RowAt.of (t := t) (by rw [m.block n h.2.2 hg (fun e => ha e.symm)]; exact ht)
theorem BytesAt.moves {w w' : World} {g b o : Nat} {a : Option Nat} {l : List Nat} (h : BytesAt w b o l) (m : Moves w g a w') (hg : b ≠ g) (ha : a ≠ some b) : BytesAt w' b o l :=
  ⟨Nat.lt_of_lt_of_le h.1 m.size, fun i hi => by rw [World.cell?_of_block (w := w) (m.block b h.1 hg (fun e => ha e.symm))]; exact h.2 i hi⟩
/-- Bytes that lie in block b, if any. -/
def BsIn (w : World) (b : Nat) (p : Option Addr) (l : List Nat) : Prop := l = [] ∨ ∃ o, p = some ⟨b, o, none⟩ ∧ BytesAt w b o l
theorem BsIn.any {w : World} {b : Nat} {p : Option Addr} {l : List Nat} (h : BsIn w b p l) : Bs0 w p l := by
  rcases h with h | ⟨o, e, h⟩
  · exact .inl h
  · exact .inr ⟨b, o, e, h⟩
theorem BsIn.moves {w w' : World} {g b : Nat} {a : Option Nat} {p : Option Addr} {l : List Nat} (h : BsIn w b p l) (m : Moves w g a w') (hg : b ≠ g) (ha : a ≠ some b) : BsIn w' b p l := by
  rcases h with h | ⟨o, e, h⟩
  · exact .inl h
  · exact .inr ⟨o, e, h.moves m hg ha⟩
theorem Bs0.moves {w w' : World} {g : Nat} {a : Option Nat} {p : Option Addr} {l : List Nat} (h : Bs0 w p l) (m : Moves w g a w') (hne : ∀ b o, p = Option.some ⟨b, o, none⟩ → b ≠ g ∧ a ≠ Option.some b) : Bs0 w' p l := by
  rcases h with h | ⟨b, o, e, h⟩
  · exact .inl h
  · exact .inr ⟨b, o, e, h.moves m (hne b o e).1 (hne b o e).2⟩
theorem OwnB.moves {w w' : World} {B g : Nat} {a : Option Nat} {v : Value} {l : List Nat} (h : OwnB w B v l) (m : Moves w g a w') (hg : v.ownBlock ≠ some g) (ha : ∀ k, v.ownBlock = some k → a ≠ some k) : OwnB w' B v l := by
  refine ⟨h.1, ?_⟩
  rcases h.2 with hn | ⟨g0, cap, cur, rfl, hb, hx, rest⟩
  · exact .inl hn
  · exact .inr ⟨g0, cap, cur, rfl, hb, by
      rw [m.block g0 (Array.getElem?_eq_some_iff.1 hx).1 (fun e => hg (by rw [e]; rfl)) (fun e => ha g0 rfl e.symm)]; exact hx, rest⟩
end Go.Proofs.YtddmjddlbhdcpaaGreatDoor

/-
  Package header: bytes are turned where they lie.
-/
namespace Go.Proofs.YtddmjddlbhdcpaaGreatDoor
open Go.RowKit Go.Hold Go.Sh Go.Ch

theorem setL_snoc : ∀ (vs : List Value) (v : Value) (c : Array Value) (o : Nat), setL c o (vs ++ [v]) = (setL c o vs).setIfInBounds (o + vs.length) v
  | [], _, _, _ => rfl
  | u :: vs, v, c, o => by
    rw [List.cons_append, setL, setL_snoc vs, setL, List.length_cons, show o + 1 + vs.length = o + (vs.length + 1) by omega]
/-- Cells of which the first ones are bytes. -/
def FrontB (c : Array Value) (l : List Nat) : Prop := l.length ≤ c.size ∧ ∀ i, i < l.length → c[i]? = some (.int .u8 ((l.getD i 0 : Nat) : Int))
theorem FrontB.all (l : List Nat) : FrontB (bysA l) l := ⟨by rw [bysA_size]; exact Nat.le_refl _, fun i hi => bysA_get l i hi⟩
/-- The first k of them are turned. -/
def xorC (c : Array Value) (l x : List Nat) (k : Nat) : Array Value := setL c 0 (bys ((mixd l x).take k))
theorem xorC_zero (c : Array Value) (l x : List Nat) : xorC c l x 0 = c := rfl
theorem xorC_at {c : Array Value} {l x : List Nat} (h : FrontB c l) (k : Nat) (hk : k < l.length) : (xorC c l x k)[k]? = some (.int .u8 ((l.getD k 0 : Nat) : Int)) := by
  unfold xorC
  rw [setL_get, if_neg (by rw [bys_length, List.length_take]; omega)]
  exact h.2 k hk
theorem xorC_set {c : Array Value} {l x : List Nat} (hx : x.length = l.length) (k : Nat) (hk : k < l.length) : (xorC c l x k).setIfInBounds k (.int .u8 ((l.getD k 0 ^^^ x.getD k 0 : Nat) : Int)) = xorC c l x (k + 1) := by
  have hml : (mixd l x).length = l.length := by rw [mixd_length, hx]
  have h1 : (mixd l x).take (k + 1) = (mixd l x).take k ++ [l.getD k 0 ^^^ x.getD k 0] := by
    rw [List.take_add_one, List.getElem?_eq_getElem (by omega)]
    congr 1
    simp [mixd]
  unfold xorC
  rw [h1, show bys ((mixd l x).take k ++ [l.getD k 0 ^^^ x.getD k 0]) = bys ((mixd l x).take k) ++ [.int .u8 ((l.getD k 0 ^^^ x.getD k 0 : Nat) : Int)] by simp [bys], setL_snoc, bys_length, List.length_take, Nat.zero_add, show min k (mixd l x).length = k by omega]
theorem xorC_all (l x : List Nat) (hx : x.length = l.length) : xorC (bysA l) l x l.length = bysA (mixd l x) := by
  unfold xorC
  have hml : (mixd l x).length = l.length := by rw [mixd_length, hx]
  rw [List.take_of_length_le (by omega), setL_bys _ _ (by omega), List.drop_of_length_le (by omega), List.append_nil]
set_option maxHeartbeats 1000000 in
set_option maxRecDepth 100000 in
theorem hxor_c (g n m cb cx : Nat) (q : Option Addr) (c : Array Value) (l x : List Nat) (w : World) (hc : RowAt w g c) (hf : FrontB c l) (hn : n = l.length) (hm : m = l.length) (hx : x.length = l.length) (hl : l.length ≤ 100000) (hlb : ∀ i, l.getD i 0 < 256) (hxb : ∀ i, x.getD i 0 < 256) (hB : Bs w q x g) :
    Calls Tryz.prog 80 #[.slice (some ⟨g, 0, none⟩) n cb, .slice q m cx] w fun e w' => e = .returned (.tuple #[]) ∧ Sets w g (xorC c l x l.length) w' := by
  subst hn hm
  obtain ⟨n, en⟩ : ∃ n, n = l.length := ⟨_, rfl⟩
  have hnl : n ≤ 100000 := by omega
  have En := Lib.hid en
  have Hx := Lib.hid hx
  have Hc := Lib.hid hc
  have Hf := Lib.hid hf
  have HB := Lib.hid hB
  have Hlb := Lib.hid hlb
  have Hxb := Lib.hid hxb
  rw [← en]
  clear hc hf hl hlb hxb hB hx en
  go_enter Tryz.func80, Tryz.ntmps80
  go_wp2_with fail
  go_loopw [8] (fun i wr => ∃ k : Nat, k ≤ n ∧ i = .int .i64 k ∧ Sets w g (xorC c l x k) wr) (fun i _ => n - (intOf i).toNat)
  case atStart => exact ⟨0, Nat.zero_le _, rfl, by rw [xorC_zero]; exact Sets.refl Hc.out⟩
  case round =>
    obtain ⟨k, hk, rfl, hset⟩ := hrel
    by_cases hkn : k < n
    · have hk0 : (0 : Int) ≤ (k : Int) := by omega
      have hk1 : (k : Int) < (n : Int) := by omega
      have hkl : k < l.length := by rw [← En.out]; exact hkn
      obtain ⟨b, o, eq, hb, hbg⟩ : ∃ b o, q = some ⟨b, o, none⟩ ∧ BytesAt w b o x ∧ b ≠ g := by
        rcases HB.out with h | h
        · exfalso; have := Hx.out; rw [h] at this; simp at this; omega
        · exact h
      subst eq
      have hcx := (hset.bytes hb hbg).2 k (by rw [Hx.out]; exact hkl)
      have hrow := hset.row Hc.out
      have hck := hrow.cellAt k (xorC_at Hf.out k hkl)
      have hfk := hrow.frozenAt k
      have hxx := u8_xor_nat (l.getD k 0) (x.getD k 0) (Hlb.out k) (Hxb.out k)
      have hst := hset.cell Hc.out (i := k) (v := .int .u8 ((l.getD k 0 ^^^ x.getD k 0 : Nat) : Int))
      rw [xorC_set Hx.out k hkl] at hst
      have Hst := Lib.hid hst
      generalize l.getD k 0 = y at *
      generalize x.getD k 0 = z at *
      generalize y ^^^ z = v at *
      have hgl := hrow.2.2
      clear hst hset hrow hb hkl
      go_wp2_with fail
      go_roundw
      case rel => exact ⟨k + 1, by omega, by go_num, Hst.out⟩
      case measure => simp [intOf]; omega
    · obtain rfl : k = n := by omega
      have HS := Lib.hid hset
      clear hset
      go_wp2_with fail
      go_end0
      exact ⟨rfl, HS.out⟩
end Go.Proofs.YtddmjddlbhdcpaaGreatDoor

/-
  Package command: which commands may be.
-/
namespace Go.Proofs.YtddmjddlbhdcpaaGreatDoor
open Go.RowKit Go.Hold Go.Sh Go.Cm

theorem below_c (n lim : Int) (w : World) :
    Calls Tryz.prog 68 #[.int .i64 n, .int .i64 lim] w fun e w' => e = .returned (.bool (decide (0 ≤ n ∧ n < lim))) ∧ w' = w := by
  by_cases h0 : 0 ≤ n
  · by_cases h1 : n < lim
    · rw [decide_eq_true ⟨h0, h1⟩]
      go_enter Tryz.func68, Tryz.ntmps68
      go_wp2_with fail
      go_ret
      exact ⟨rfl, rfl⟩
    · rw [decide_eq_false (fun e => h1 e.2)]
      go_enter Tryz.func68, Tryz.ntmps68
      go_wp2_with fail
      go_ret
      exact ⟨rfl, rfl⟩
  · rw [decide_eq_false (fun e => h0 e.1)]
    go_enter Tryz.func68, Tryz.ntmps68
    go_wp2_with fail
    go_ret
    exact ⟨rfl, rfl⟩

set_option maxHeartbeats 1000000 in
set_option maxRecDepth 100000 in
theorem may_c (c : Cmd) (hid : c.id.length = 8) (w : World) :
    Calls Tryz.prog 30 #[.agg (cmdA c)] w fun e w' => e = .returned (.bool c.may) ∧ Below w.heap.size w w' := by
  have hcs := cmdA_size hid
  have hz8 : (zs 8).length = 8 := rfl
  have BA := Lib.hid (below_alloc (Below.refl w.heap.size w) (.cells (cmdA c) 51))
  have K := Lib.hid (fun (lim : Int) (n : Int) (W : World) => below_c n lim W)
  by_cases k1 : c.k = 1
  · have hm : c.may = (decide (0 ≤ c.n ∧ c.n < 16) && decide (0 ≤ c.d ∧ c.d < 65) && decide (c.id = zs 8)) := by unfold Cmd.may; rw [if_pos k1]
    have K1 := Lib.hid (K.out 16 c.n)
    have K2 := Lib.hid (K.out 65 c.d)
    rw [hm]
    generalize decide (0 ≤ c.n ∧ c.n < 16) = b1 at *
    generalize decide (0 ≤ c.d ∧ c.d < 65) = b2 at *
    clear hm K
    go_enter Tryz.func30, Tryz.ntmps30
    go_wp2_with fail
    refine (K1.out _).mono ?_
    rintro e w' ⟨rfl, rfl⟩
    cases b1
    · go_wp2_with fail
      go_ret
      exact ⟨rfl, BA.out⟩
    go_wp2_with fail
    refine (K2.out _).mono ?_
    rintro e w' ⟨rfl, rfl⟩
    cases b2
    · go_wp2_with fail
      go_ret
      exact ⟨rfl, BA.out⟩
    go_wp2_with fail
    go_ret
    exact ⟨rfl, BA.out⟩
  by_cases k2 : c.k = 2
  · have hm : c.may = (decide (0 ≤ c.n ∧ c.n < 8) && decide (c.d = 0) && decide (c.id = zs 8)) := by unfold Cmd.may; rw [if_neg k1, if_pos k2]
    have K1 := Lib.hid (K.out 8 c.n)
    rw [hm]
    generalize decide (0 ≤ c.n ∧ c.n < 8) = b1 at *
    clear hm K
    by_cases hd : c.d = 0
    · rw [decide_eq_true hd]
      go_enter Tryz.func30, Tryz.ntmps30
      go_wp2_with fail
      refine (K1.out _).mono ?_
      rintro e w' ⟨rfl, rfl⟩
      cases b1
      · go_wp2_with fail
        go_ret
        exact ⟨rfl, BA.out⟩
      go_wp2_with fail
      go_ret
      exact ⟨rfl, BA.out⟩
    rw [decide_eq_false hd]
    go_enter Tryz.func30, Tryz.ntmps30
    go_wp2_with fail
    refine (K1.out _).mono ?_
    rintro e w' ⟨rfl, rfl⟩
    cases b1
    · go_wp2_with fail
      go_ret
      exact ⟨rfl, BA.out⟩
    go_wp2_with fail
    go_ret
    exact ⟨rfl, BA.out⟩
  by_cases k3 : c.k = 3
  · have hm : c.may = (decide (0 ≤ c.n ∧ c.n < 8) && decide (c.d = 0)) := by unfold Cmd.may; rw [if_neg k1, if_neg k2, if_pos k3]
    have K1 := Lib.hid (K.out 8 c.n)
    rw [hm]
    generalize decide (0 ≤ c.n ∧ c.n < 8) = b1 at *
    clear hm K
    by_cases hd : c.d = 0
    · rw [decide_eq_true hd]
      go_enter Tryz.func30, Tryz.ntmps30
      go_wp2_with fail
      refine (K1.out _).mono ?_
      rintro e w' ⟨rfl, rfl⟩
      cases b1
      · go_wp2_with fail
        go_ret
        exact ⟨rfl, BA.out⟩
      go_wp2_with fail
      go_ret
      exact ⟨rfl, BA.out⟩
    rw [decide_eq_false hd]
    have hd2 : (c.d == 0) = false := by simpa using hd
    go_enter Tryz.func30, Tryz.ntmps30
    go_wp2_with fail
    refine (K1.out _).mono ?_
    rintro e w' ⟨rfl, rfl⟩
    cases b1
    · go_wp2_with fail
      go_ret
      exact ⟨rfl, BA.out⟩
    go_wp2_with fail
    go_ret
    exact ⟨rfl, BA.out⟩
  by_cases k4 : c.k = 4
  · have hm : c.may = (decide (c.n = 0) && decide (c.d = 0) && decide (c.id = zs 8)) := by unfold Cmd.may; rw [if_neg k1, if_neg k2, if_neg k3, if_pos k4]
    rw [hm]
    clear hm K
    by_cases hn : c.n = 0
    · rw [decide_eq_true hn]
      by_cases hd : c.d = 0
      · rw [decide_eq_true hd]
        go_enter Tryz.func30, Tryz.ntmps30
        go_wp2_with fail
        go_ret
        exact ⟨rfl, BA.out⟩
      rw [decide_eq_false hd]
      go_enter Tryz.func30, Tryz.ntmps30
      go_wp2_with fail
      go_ret
      exact ⟨rfl, BA.out⟩
    rw [decide_eq_false hn]
    go_enter Tryz.func30, Tryz.ntmps30
    go_wp2_with fail
    go_ret
    exact ⟨rfl, BA.out⟩
  have hm : c.may = false := by unfold Cmd.may; rw [if_neg k1, if_neg k2, if_neg k3, if_neg k4]
  rw [hm]
  clear hm K
  go_enter Tryz.func30, Tryz.ntmps30
  go_wp2_with fail
  go_ret
  exact ⟨rfl, BA.out⟩
end Go.Proofs.YtddmjddlbhdcpaaGreatDoor

/-
  Package octet: the first error, of writers and of readers.
-/
namespace Go.Proofs.YtddmjddlbhdcpaaGreatDoor
open Go.RowKit Go.Hold Go.Sh Go.Oc

/-- A writer's cells. -/
def wrow (mk : Bool) (er room : Int) (v : Value) : Array Value := #[.bool mk, .int .i64 er, .int .i64 room, v]
/-- A reader's cells. -/
def rrow (mk : Bool) (er : Int) (v : Value) : Array Value := #[.bool mk, .int .i64 er, v]

theorem stays_c (g : Nat) (mk : Bool) (er : Int) (w : World) (h0 : w.cell? ⟨g, 0, none⟩ = some (.bool mk)) (h1 : w.cell? ⟨g, 1, none⟩ = some (.int .i64 er)) :
    Calls Tryz.prog 140 #[.pointer (some ⟨g, 0, none⟩)] w fun e w' => e = .returned (.int .i64 (if mk then er else 1)) ∧ w' = w := by
  cases mk
  · go_enter Tryz.func140, Tryz.ntmps140
    go_wp2_with fail
    go_ret
    exact ⟨rfl, rfl⟩
  · go_enter Tryz.func140, Tryz.ntmps140
    go_wp2_with fail
    go_ret
    exact ⟨rfl, rfl⟩
theorem fail_c (g : Nat) (er e0 : Int) (w : World) (h1 : w.cell? ⟨g, 1, none⟩ = some (.int .i64 e0)) (hf : w.frozen? ⟨g, 1, none⟩ = false) :
    Calls Tryz.prog 111 #[.pointer (some ⟨g, 0, none⟩), .int .i64 er] w fun e w' => e = .returned (.int .i64 er) ∧ w' = w.setCell ⟨g, 1, none⟩ (.int .i64 er) := by
  go_enter Tryz.func111, Tryz.ntmps111
  go_wp2_with fail
  go_ret
  exact ⟨rfl, rfl⟩
theorem wstopped_c (g : Nat) (mk : Bool) (er : Int) (w : World) (h0 : w.cell? ⟨g, 0, none⟩ = some (.bool mk)) (h1 : w.cell? ⟨g, 1, none⟩ = some (.int .i64 er)) :
    Calls Tryz.prog 156 #[.pointer (some ⟨g, 0, none⟩)] w fun e w' => e = .returned (.int .i64 (if mk then er else 1)) ∧ w' = w := by
  have K := Lib.hid (stays_c g mk er w h0 h1)
  generalize (if mk = true then er else 1) = x at *
  go_enter Tryz.func156, Tryz.ntmps156
  go_wp2_with fail
  refine K.out.mono ?_
  rintro e w' ⟨rfl, rfl⟩
  go_wp2_with fail
  go_ret
  exact ⟨rfl, rfl⟩
theorem rstopped_c (g : Nat) (mk : Bool) (er : Int) (w : World) (h0 : w.cell? ⟨g, 0, none⟩ = some (.bool mk)) (h1 : w.cell? ⟨g, 1, none⟩ = some (.int .i64 er)) :
    Calls Tryz.prog 110 #[.pointer (some ⟨g, 0, none⟩)] w fun e w' => e = .returned (.int .i64 (if mk then er else 1)) ∧ w' = w := by
  have K := Lib.hid (stays_c g mk er w h0 h1)
  generalize (if mk = true then er else 1) = x at *
  go_enter Tryz.func110, Tryz.ntmps110
  go_wp2_with fail
  refine K.out.mono ?_
  rintro e w' ⟨rfl, rfl⟩
  go_wp2_with fail
  go_ret
  exact ⟨rfl, rfl⟩
end Go.Proofs.YtddmjddlbhdcpaaGreatDoor

/-
  Package octet: a number's bytes, and the number of some bytes; a copy of bytes.
-/
namespace Go.Proofs.YtddmjddlbhdcpaaGreatDoor
open Go.RowKit Go.Hold Go.Sh Go.Oc

/-- The bytes of a number that are laid so far. -/
def digP (n size i : Nat) : List Nat := (digN n size).take i ++ zs (size - i)
theorem digP_zero (n size : Nat) : digP n size 0 = zs size := by simp [digP]
theorem digP_all (n size : Nat) : digP n size size = digN n size := by
  unfold digP
  rw [List.take_of_length_le (by rw [dig_length]; exact Nat.le_refl _), Nat.sub_self]; simp [zs]
theorem digP_length (n size i : Nat) (h : i ≤ size) : (digP n size i).length = size := by
  unfold digP; rw [List.length_append, List.length_take, dig_length, zs_length]; omega
theorem digP_set (n size i : Nat) (h : i < size) : (digP n size i).set i (dgt n size i) = digP n size (i + 1) := by
  unfold digP
  have hx : i < (digN n size).length := by rw [dig_length]; exact h
  have e : zs (size - i) = 0 :: zs (size - (i + 1)) := by
    obtain ⟨k, hk⟩ : ∃ k, size - i = k + 1 := ⟨size - i - 1, by omega⟩
    rw [hk, show size - (i + 1) = k by omega]; rfl
  have hlen : ((digN n size).take i).length = i := by rw [List.length_take]; omega
  rw [List.set_append, if_neg (by omega), hlen, Nat.sub_self, e, List.set_cons_zero, List.take_add_one, List.getElem?_eq_getElem hx, List.append_assoc]
  congr 2
  simp [digN]
set_option maxHeartbeats 600000 in
set_option maxRecDepth 100000 in
theorem split_c (n s : Nat) (h0 : 1 ≤ s) (h8 : s ≤ 8) (w : World) :
    Calls Tryz.prog 158 #[.int .u64 (n : Int), .int .i64 (s : Int)] w fun e w' => ∃ g, e = .returned (.slice (some ⟨g, 0, none⟩) s s) ∧ RowAt w' g (bysA (digN n s)) ∧ w.heap.size ≤ g ∧ Below w.heap.size w w' := by
  have hmk := run_mkS w s (by omega)
  have H8 := Lib.hid h8
  have H0 := Lib.hid h0
  obtain ⟨s1, es1⟩ : ∃ y, y = s - 1 := ⟨_, rfl⟩
  have k1 : IntKind.i64.wrap ((s : Int) - 1) = (s1 : Int) := by rw [IntWalk.i64_in _ (by omega)]; omega
  have Es1 := Lib.hid es1
  clear h8 h0 es1
  go_enter Tryz.func158, Tryz.ntmps158
  go_wp2_with fail
  generalize hW : World.alloc _ _ = W0
  have R0 := Lib.hid (show RowAt W0 w.heap.size (bysA (digP n s 0)) by rw [← hW, digP_zero]; exact RowAt.of (block_new w _))
  have B0 := Lib.hid (show Below w.heap.size w W0 by rw [← hW]; exact below_alloc (Below.refl _ _) _)
  clear hW hmk
  have hgl : w.heap.size ≤ w.heap.size := Nat.le_refl _
  generalize eg : w.heap.size = g at R0 hgl ⊢
  have Eg := Lib.hid eg
  clear eg
  go_loopw [11] (fun i wr => ∃ j : Nat, j ≤ s ∧ i = .int .i64 j ∧ Sets W0 g (bysA (digP n s j)) wr) (fun i _ => s - (intOf i).toNat)
  case atStart => exact ⟨0, Nat.zero_le _, rfl, Sets.refl R0.out⟩
  case round =>
    obtain ⟨j, hj, rfl, hset⟩ := hrel
    by_cases hj8 : j < s
    · have hj0 : (0 : Int) ≤ (j : Int) := by omega
      have hj1 : (j : Int) < (s : Int) := by omega
      have hjb : (j : Int) < 8 := by have := H8.out; omega
      have hrow := hset.row R0.out
      have hc := hrow.cellAt j (bysA_get _ j (by rw [digP_length _ _ _ hj]; exact hj8))
      have hf := hrow.frozenAt j
      obtain ⟨t, et⟩ : ∃ y, y = s - 1 - j := ⟨_, rfl⟩
      have hw0 : IntKind.i64.wrap ((s1 : Int) - (j : Int)) = (t : Int) := by rw [IntWalk.i64_in _ (by have := H8.out; have := Es1.out; omega)]; have := Es1.out; omega
      obtain ⟨y, ey⟩ : ∃ y, y = 8 * t := ⟨_, rfl⟩
      have hw1 : IntKind.i64.wrap (8 * (t : Int)) = (y : Int) := by rw [IntWalk.i64_in _ (by have := H8.out; omega)]; omega
      have hy0 : (0 : Int) ≤ (y : Int) := by omega
      have hy1 : (y : Int) ≤ 64 := by have := H8.out; omega
      obtain ⟨x, ex⟩ : ∃ x, x = dgt n s j := ⟨_, rfl⟩
      have hx : (n : Int) / 2 ^ y % 256 = (x : Int) := by rw [ex, ey, et]; unfold dgt; simp
      have Hset := Lib.hid (digP_set n s j hj8)
      rw [← ex] at Hset
      have HS := Lib.hid hset
      have hg3 := hrow.2.2
      clear hset hrow ex ey et
      go_wp2_with fail
      go_roundw
      case rel =>
        refine ⟨j + 1, by omega, by go_num, ?_⟩
        rw [← Hset.out, ← bysA_set]; exact HS.out.cell R0.out
      case measure => simp [intOf]; omega
    · obtain rfl : j = s := by omega
      have R1 := Lib.hid (hset.row R0.out)
      have B1 := Lib.hid (hset.below B0.out (by rw [Eg.out]; exact hgl) B0.out.size)
      rw [digP_all] at R1
      clear hset
      go_wp2_with fail
      go_ret
      exact ⟨g, rfl, R1.out, Nat.le_of_eq Eg.out, B1.out⟩

/-! ### A copy -/
@[go_sem] theorem run_eqlNil8 (a : Option Addr) (l c : Nat) (w : World) : (binOp .eql 38 (.slice a l c) (.slice none 0 0)).run Tryz.prog w = .ok (.bool a.isNone) w := by
  simp only [binOp]
  simp [run_equal_slice_nil w 38 5 a l c Tryz.underlying38]
set_option maxHeartbeats 400000 in
set_option maxRecDepth 100000 in
theorem clone_c (p : Option Addr) (l : List Nat) (n cap : Nat) (w : World) (hn : n = l.length) (hB : Bs0 w p l) (hp : p = none → cap = 0) (hl : l.length ≤ 16000000) :
    Calls Tryz.prog 109 #[.slice p n cap] w fun e w' => ∃ v, e = .returned v ∧ OwnB w' w.heap.size v l ∧ Below w.heap.size w w' := by
  cases p with
  | none =>
    have hl0 : l = [] := by
      rcases hB with h | ⟨b, o, h, _⟩
      · exact h
      · cases h
    subst hl0
    subst hn
    rw [hp rfl]
    go_enter Tryz.func109, Tryz.ntmps109
    go_wp2_with fail
    go_ret
    exact ⟨_, rfl, own_nil w _, Below.refl _ _⟩
  | some a =>
    have BA := below_alloc (Below.refl w.heap.size w) (.cells #[] 5)
    have hE := ownB_empty w w.heap.size (Nat.le_refl _)
    obtain ⟨v1, w1, hr1, ho1, hg1⟩ := app_own (cap := cap) hE (hB.grow BA) hn (fun h => by cases h) BA.size (by simp only [List.length_nil]; omega)
    have hb1 := own_below BA hE BA.size hg1
    rw [List.nil_append] at ho1
    have HO := Lib.hid ho1
    have HB := Lib.hid hb1
    clear BA hE ho1 hg1 hb1 hB hp hl hn
    go_enter Tryz.func109, Tryz.ntmps109
    go_wp2_with (at_builtin; refine Lib.wpList_append_run _ rfl _ _ _ _ rfl _ _ rfl rfl _ _ hr1 ?_)
    go_wp2_with fail
    go_ret
    exact ⟨_, rfl, HO.out, HB.out⟩
end Go.Proofs.YtddmjddlbhdcpaaGreatDoor

/-
  Package octet: a writer.
-/
namespace Go.Proofs.YtddmjddlbhdcpaaGreatDoor
open Go.RowKit Go.Hold Go.Sh Go.Oc

/-- A writer lies in row g, its bytes in block ob, all of them from block B on. -/
def Wr (w : World) (B g : Nat) (ob : Option Nat) (room : Nat) (s : Ws) : Prop :=
  ∃ v, RowAt w g (wrow true s.1 room v) ∧ OwnB w B v s.2 ∧ v.ownBlock = ob ∧ ob ≠ some g ∧ B ≤ g ∧ s.2.length ≤ room ∧ room ≤ 65536
/-- What a call leaves of a writer. -/
def WStep (w : World) (B g : Nat) (ob : Option Nat) (room : Nat) (s' : Ws) (w' : World) : Prop := ∃ ob', Wr w' B g ob' room s' ∧ NewB w ob ob' ∧ Moves w g ob w'
theorem Wr.row {w : World} {B g room : Nat} {ob : Option Nat} {s : Ws} (h : Wr w B g ob room s) : ∃ v, RowAt w g (wrow true s.1 room v) := by
  obtain ⟨v, h, _⟩ := h; exact ⟨v, h⟩
theorem Wr.lt {w : World} {B g room : Nat} {ob : Option Nat} {s : Ws} (h : Wr w B g ob room s) : g < w.heap.size ∧ ∀ k, ob = some k → B ≤ k ∧ k < w.heap.size := by
  obtain ⟨v, h, ho, rfl, _⟩ := h
  exact ⟨h.2.2, World.ownsRow.lt ho⟩
theorem Wr.base {w : World} {B g room : Nat} {ob : Option Nat} {s : Ws} (h : Wr w B g ob room s) : B ≤ g := by
  obtain ⟨v, _, _, _, _, h, _⟩ := h; exact h
theorem Wr.le {w : World} {B g room : Nat} {ob : Option Nat} {s : Ws} (h : Wr w B g ob room s) : s.2.length ≤ room ∧ room ≤ 65536 := by
  obtain ⟨v, _, _, _, _, _, h⟩ := h; exact h
theorem Wr.apart {w : World} {B g room : Nat} {ob : Option Nat} {s : Ws} (h : Wr w B g ob room s) : ob ≠ some g := by
  obtain ⟨v, _, _, _, h, _⟩ := h; exact h
theorem Wr.moves {w w' : World} {B g room g2 : Nat} {ob ob2 : Option Nat} {s : Ws} (h : Wr w B g ob room s) (m : Moves w g2 ob2 w') (h1 : g ≠ g2) (h2 : ob2 ≠ some g) (h3 : ob ≠ some g2) (h4 : ∀ k, ob = some k → ob2 ≠ some k) : Wr w' B g ob room s := by
  obtain ⟨v, hr, ho, rfl, ha⟩ := h
  exact ⟨v, RowAt.moves hr m h1 h2, ho.moves m h3 h4, rfl, ha⟩
theorem Wr.grow {w w' : World} {B g room : Nat} {ob : Option Nat} {s : Ws} (h : Wr w B g ob room s) (hb : Below w.heap.size w w') : Wr w' B g ob room s := by
  obtain ⟨v, hr, ho, rfl, ha⟩ := h
  exact ⟨v, hr.grow hb, ho.below hb, rfl, ha⟩
theorem WStep.below {w0 w w' : World} {B g room : Nat} {ob : Option Nat} {s s' : Ws} (h : WStep w B g ob room s' w') (h0 : Wr w B g ob room s) (hb : Below B w0 w) (hB : B ≤ w.heap.size) : Below B w0 w' := by
  obtain ⟨ob', _, _, m⟩ := h
  exact m.below hb hB h0.base fun k hk => (h0.lt.2 k hk).1

set_option maxHeartbeats 400000 in
set_option maxRecDepth 100000 in
theorem newWriter_c (room : Nat) (h : room ≤ 65536) (w : World) :
    Calls Tryz.prog 128 #[.int .i64 (room : Int)] w fun e w' => ∃ g, e = .returned (.pointer (some ⟨g, 0, none⟩)) ∧ Wr w' w.heap.size g none room (0, []) ∧ Below w.heap.size w w' := by
  have h0 : ¬ (room : Int) < 0 := by omega
  have h1 : ¬ (65536 : Int) < (room : Int) := by omega
  have H := Lib.hid h
  clear h
  go_enter Tryz.func128, Tryz.ntmps128
  go_wp2_with fail
  go_ret
  exact ⟨_, rfl, ⟨_, RowAt.of (block_new w _), own_nil _ _, rfl, (fun e => by cases e), Nat.le_refl _, Nat.zero_le _, H.out⟩, below_alloc (Below.refl _ _) _⟩
/-- The first error is set. -/
theorem WStep.err {w w1 : World} {B g room : Nat} {ob : Option Nat} {s : Ws} (h : Wr w B g ob room s) (hb : Below w.heap.size w w1) (er : Int) : WStep w B g ob room (er, s.2) (w1.setCell ⟨g, 1, none⟩ (.int .i64 er)) := by
  have hlt := h.lt
  obtain ⟨v, hr, ho, rfl, ha⟩ := h
  have hr1 := hr.grow hb
  rw [setCell_row hr1]
  refine ⟨_, ⟨v, hr1.set _, ?_, rfl, ha⟩, NewB.refl _ _, (Moves.of g _ hb).setRow _⟩
  exact (ho.below hb).moves (Moves.setRow (Moves.refl w1 g none) _) ha.1 (fun _ _ e => by cases e)
/-- What is laid behind is put in place. -/
theorem WStep.put {w w1 : World} {B g room : Nat} {ob : Option Nat} {s : Ws} {l' : List Nat} {v' v0 : Value} (h : Wr w B g ob room s) (m : Moves w g ob w1) (hr : RowAt w1 g (wrow true s.1 room v0)) (ho : OwnB w1 B v' l') (hn : NewB w ob v'.ownBlock) (hl : l'.length ≤ room) :
    WStep w B g ob room (s.1, l') (w1.setCell ⟨g, 3, none⟩ v') := by
  have hlt := h.lt
  have hap := h.apart
  have hne : v'.ownBlock ≠ some g := hn.ne hap hlt.1
  rw [setCell_row hr]
  refine ⟨_, ⟨v', hr.set _, ?_, rfl, hne, h.base, hl, h.le.2⟩, hn, m.setRow _⟩
  exact ho.moves (Moves.setRow (Moves.refl w1 g none) _) hne (fun _ _ e => by cases e)
/-- Where bytes lie that were laid behind others. -/
theorem app_new {w : World} {B : Nat} {v : Value} {l m : List Nat} {p : Option Addr} {cap k : Nat} (h : OwnB w B v l) (hB : Bs0 w p m) (hk : k = m.length) (hp : p = none → cap = 0) (hBw : B ≤ w.heap.size) (hlen : l.length + m.length ≤ 16777216) :
    ∃ v' w', (Builtin.append_ #[38, 38] 38 #[v, .slice p k cap]).run Tryz.prog w = .ok v' w' ∧ OwnB w' B v' (l ++ m) ∧ w.grownBy w' v.ownBlock ∧ NewB w v.ownBlock v'.ownBlock := by
  subst hk
  obtain ⟨i0, hi, hz0, hz1, hz2⟩ := info_parts info_u8
  cases p with
  | none =>
    have hm : m = [] := by
      rcases hB with h | ⟨b, o, h, _⟩
      · exact h
      · cases h
    subst hm
    rw [hp rfl]
    exact ⟨v, w, run_append_owned_none (P := Tryz.prog) (w := w) B _ _ _ i0 1 Tryz.underlying38 hi v _ _ h, by rw [List.append_nil]; exact h, ⟨rfl, rfl, rfl, Nat.le_refl _, fun _ _ _ => rfl⟩, NewB.refl _ _⟩
  | some a =>
    have hnews : ∀ j u, (bys m)[j]? = some u → w.cell? (a.add j) = some u := by
      rcases hB with rfl | ⟨b, o, he, hB⟩
      · intro j u hu; simp [bys] at hu
      · cases he; exact bys_at hB
    obtain ⟨v', w', h1, h2, h3, h4⟩ := run_append_own (P := Tryz.prog) w B 38 38 5 i0 (.int .u8 0) 1 1 Tryz.underlying38 hi hz0 hz1 hz2 rfl (by decide) v l.length (bys l) h a m.length cap (bys m) (by rw [bys_length, Nat.mul_one]) hnews (bys_one m) (maxLen_small hlen) (by omega) hBw
    refine ⟨v', w', h1, OwnB.snoc h2, h3, ?_⟩
    rcases h.2 with ⟨rfl, h0⟩ | ⟨g0, cap0, cur, rfl, hb, hgg, hc, hm, hs, ht⟩
    · by_cases hm0 : 0 < m.length
      · have hr := run_append_nil (P := Tryz.prog) w 38 38 5 i0 (.int .u8 0) Tryz.underlying38 hi hz0 a m.length cap (bys m) (by rw [hz1, bys_length, Nat.mul_one]) hnews hm0 (by omega) (by rw [hz2]; omega)
        rw [h1] at hr
        cases hr
        intro k hk
        simp only [Value.ownBlock, Option.some.injEq] at hk
        exact .inr (by omega)
      · intro k hk
        rw [h4.2 ⟨rfl, by omega⟩] at hk
        cases hk
    · by_cases hroom : l.length + m.length ≤ cap0
      · have hr := run_append_room (P := Tryz.prog) w 38 38 5 i0 Tryz.underlying38 hi g0 l.length cap0 cur hgg a m.length cap (bys m) (by rw [hz1, bys_length, Nat.mul_one]) hnews (bys_one _) hroom (by rw [hz1, bys_length]; omega)
        rw [h1] at hr
        cases hr
        exact NewB.refl _ _
      · have hr := run_append_grow (P := Tryz.prog) w 38 38 5 i0 (.int .u8 0) Tryz.underlying38 hi hz0 ⟨g0, 0, none⟩ l.length cap0 (bys l) (by rw [hz1, bys_length, Nat.mul_one]) (World.ownsRow.cells h (g := g0) rfl) a m.length cap (bys m) (by rw [hz1, bys_length, Nat.mul_one]) hnews (by omega) (by omega) (by rw [hz2]; exact growslice_fits (by omega) (by omega))
        rw [h1] at hr
        cases hr
        intro k hk
        simp only [Value.ownBlock, Option.some.injEq] at hk
        exact .inr (by omega)

set_option maxHeartbeats 600000 in
set_option maxRecDepth 100000 in
theorem lay_c (B g : Nat) (ob : Option Nat) (room : Nat) (l m : List Nat) (p : Option Addr) (k cap : Nat) (w : World) (h : Wr w B g ob room (0, l)) (hk : k = m.length) (hB : Bs0 w p m) (hp : p = none → cap = 0) :
    Calls Tryz.prog 157 #[.pointer (some ⟨g, 0, none⟩), .slice p k cap] w fun e w' => e = .returned (.int .i64 (layS room l m).1) ∧ WStep w B g ob room (layS room l m) w' := by
  have H := Lib.hid h
  obtain ⟨v, hr, ho, rfl, hg, hBg, hle, hroom⟩ := h
  simp only at hr ho hle
  have hown := ho
  have HR := Lib.hid hr
  obtain ⟨p0, c0, rfl, _⟩ := ho.bs
  have hc1 := hr.cellAt 1 (show (wrow true 0 room (.slice p0 l.length c0))[1]? = some (.int .i64 0) from rfl)
  have hc2 := hr.cellAt 2 (show (wrow true 0 room (.slice p0 l.length c0))[2]? = some (.int .i64 (room : Int)) from rfl)
  have hc3 := hr.cellAt 3 (show (wrow true 0 room (.slice p0 l.length c0))[3]? = some (.slice p0 l.length c0) from rfl)
  have hf1 := hr.frozenAt 1
  have hgl := hr.2.2
  obtain ⟨n, en⟩ : ∃ n, n = l.length := ⟨_, rfl⟩
  obtain ⟨q, eq⟩ : ∃ q, q = room - n := ⟨_, rfl⟩
  have k1 : IntKind.i64.wrap ((room : Int) - (n : Int)) = (q : Int) := by rw [IntWalk.i64_in _ (by omega)]; omega
  by_cases hfull : room < l.length + m.length
  · have hlay : layS room l m = (8, l) := by unfold layS; rw [if_pos hfull]
    have h1 : (q : Int) < (k : Int) := by omega
    have Hg := Lib.hid hown
    rw [hlay]
    rw [← en] at hc3
    have En := Lib.hid en
    clear hr ho hg hBg hle hroom hB hp hk hlay hfull eq hc1 hf1 hown en
    go_enter Tryz.func157, Tryz.ntmps157
    go_wp2_with fail
    refine wp_region_fast (fun w' => ∃ o d, w' = w.plus o d) (by kernel_rfl) (by kernel_rfl) ⟨#[], _, rfl⟩ ?_
    iterate 13 (refine wpHold_val ⟨_, #[], 0, rfl⟩ (wanted_none rfl) (by rintro K _ ⟨o, d, rfl⟩ hK; go_simp; exact hK _ ⟨o, d, rfl⟩) ?_)
    refine wpHold_nil ?_
    rintro _ ⟨of1, nf1, rfl⟩
    have hb1 := below_more (Below.refl w.heap.size w) of1 nf1
    generalize w.plus of1 nf1 = W1 at *
    have hr1 := HR.out.grow hb1
    have KF := Lib.hid (fail_c g 8 0 W1 (hr1.cellAt 1 rfl) (hr1.frozenAt 1))
    have HS := Lib.hid (WStep.err H.out hb1 8)
    clear hb1 hr1
    go_wp2_with fail
    refine KF.out.mono ?_
    rintro e w' ⟨rfl, rfl⟩
    go_wp2_with fail
    go_ret
    exact ⟨rfl, HS.out⟩
  · have hlay : layS room l m = (0, l ++ m) := by unfold layS; rw [if_neg hfull]
    have h1 : ¬ (q : Int) < (k : Int) := by omega
    rw [hlay]
    rw [← en] at hc3
    have En := Lib.hid en
    have HB := Lib.hid hB
    have HP := Lib.hid hp
    have HK := Lib.hid hk
    have HL := Lib.hid hfull
    have HRm := Lib.hid hroom
    have HO := Lib.hid hown
    clear hr ho hg hBg hle hroom hB hp hk hlay hfull eq hc1 hf1 hown en
    go_enter Tryz.func157, Tryz.ntmps157
    go_wp2_with fail
    refine wp_region_fast (fun w' => ∃ o d, w' = w.plus o d) (by kernel_rfl) (by kernel_rfl) ⟨#[], _, rfl⟩ ?_
    iterate 13 (refine wpHold_val ⟨_, #[], 0, rfl⟩ (wanted_none rfl) (by rintro K _ ⟨o, d, rfl⟩ hK; go_simp; exact hK _ ⟨o, d, rfl⟩) ?_)
    refine wpHold_nil ?_
    rintro _ ⟨of1, nf1, rfl⟩
    have hb1 := below_more (Below.refl w.heap.size w) of1 nf1
    generalize w.plus of1 nf1 = W1 at *
    have hBs : B ≤ w.heap.size := Nat.le_trans H.out.base (Nat.le_of_lt H.out.lt.1)
    obtain ⟨v2, w2, hr2, ho2, hg2, hn2⟩ := app_new (cap := cap) (HO.out.below hb1) (HB.out.grow hb1) HK.out HP.out (Nat.le_trans hBs hb1.size) (by have := HL.out; have := HRm.out; omega)
    have m2 : Moves w g (Value.slice p0 l.length c0).ownBlock w2 := (Moves.of g _ hb1).grownBy hg2
    have hR1 := HR.out.grow hb1
    have hR2 : RowAt w2 g (wrow true 0 room (.slice p0 l.length c0)) := RowAt.moves hR1 (Moves.grownBy (Moves.refl W1 (g + 1) _) hg2) (by omega) H.out.apart
    have HS := Lib.hid (WStep.put H.out m2 hR2 ho2 (fun k hk => (hn2 k hk).imp id fun h => Nat.le_trans hb1.size h) (by rw [List.length_append]; have := HL.out; omega))
    have hc3 := hR1.cellAt 3 (show (wrow true 0 room (.slice p0 l.length c0))[3]? = some (.slice p0 l.length c0) from rfl)
    have hd3 := hR2.cellAt 3 (show (wrow true 0 room (.slice p0 l.length c0))[3]? = some (.slice p0 l.length c0) from rfl)
    have hf3 := hR2.frozenAt 3
    obtain ⟨p2, c2, rfl, _⟩ := ho2.bs
    clear m2 hR1 hR2 hn2 hg2 ho2 hb1
    generalize (l ++ m).length = n2 at *
    go_wp2_with (at_builtin; refine Lib.wpList_append_run _ rfl _ _ _ _ rfl _ _ rfl rfl _ _ hr2 ?_)
    go_wp2_with fail
    go_ret
    exact ⟨rfl, HS.out⟩
end Go.Proofs.YtddmjddlbhdcpaaGreatDoor

/-
  Package octet: a writer's calls.
-/
namespace Go.Proofs.YtddmjddlbhdcpaaGreatDoor
open Go.RowKit Go.Hold Go.Sh Go.Oc

theorem WStep.refl {w : World} {B g room : Nat} {ob : Option Nat} {s : Ws} (h : Wr w B g ob room s) : WStep w B g ob room s w := ⟨ob, h, NewB.refl _ _, Moves.refl _ _ _⟩
theorem WStep.grown {w w1 w' : World} {B g room : Nat} {ob : Option Nat} {s : Ws} (hb : Below w.heap.size w w1) (h : WStep w1 B g ob room s w') : WStep w B g ob room s w' := by
  obtain ⟨ob', h1, h2, h3⟩ := h
  exact ⟨ob', h1, fun k hk => (h2 k hk).imp id fun h => Nat.le_trans hb.size h, (Moves.of g ob hb).trans h3 (NewB.refl _ _)⟩
theorem Wr.stop {w : World} {B g room : Nat} {ob : Option Nat} {s : Ws} (h : Wr w B g ob room s) :
    Calls Tryz.prog 156 #[.pointer (some ⟨g, 0, none⟩)] w fun e w' => e = .returned (.int .i64 s.1) ∧ w' = w := by
  obtain ⟨v, hr⟩ := h.row
  exact wstopped_c g true s.1 w (hr.cellAt 0 rfl) (hr.cellAt 1 rfl)

set_option maxHeartbeats 600000 in
set_option maxRecDepth 100000 in
theorem wbytes_c (B g : Nat) (ob : Option Nat) (room : Nat) (s : Ws) (m : List Nat) (p : Option Addr) (k cap : Nat) (w : World) (h : Wr w B g ob room s) (hk : k = m.length) (hB : Bs0 w p m) (hp : p = none → cap = 0) :
    Calls Tryz.prog 130 #[.pointer (some ⟨g, 0, none⟩), .slice p k cap] w fun e w' => e = .returned (.int .i64 (bytS room s m).1) ∧ WStep w B g ob room (bytS room s m) w' := by
  have HS := Lib.hid h.stop
  obtain ⟨er, l⟩ := s
  by_cases her : er = 0
  · subst her
    have hs : bytS room (0, l) m = layS room l m := by unfold bytS; rw [if_neg (by simp)]
    have KL := Lib.hid (lay_c B g ob room l m p k cap w h hk hB hp)
    rw [hs]
    clear hs h hk hB hp
    go_enter Tryz.func130, Tryz.ntmps130
    go_wp2_with fail
    refine HS.out.mono ?_
    rintro e w' ⟨rfl, rfl⟩
    go_wp2_with fail
    refine KL.out.mono ?_
    rintro e w2 ⟨rfl, hst⟩
    have HT := Lib.hid hst
    clear hst
    go_wp2_with fail
    go_ret
    exact ⟨rfl, HT.out⟩
  · have hs : bytS room (er, l) m = (er, l) := by unfold bytS; rw [if_pos her]
    have HT := Lib.hid (WStep.refl h)
    rw [hs]
    clear hs h hk hB hp
    go_enter Tryz.func130, Tryz.ntmps130
    go_wp2_with fail
    refine HS.out.mono ?_
    rintro e w' ⟨rfl, rfl⟩
    go_wp2_with fail
    go_ret
    exact ⟨rfl, HT.out⟩

theorem fits_shift (n : Nat) (y : Nat) : (n : Int) / 2 ^ y = 0 ↔ n < 2 ^ y := by
  have h : ((n / 2 ^ y : Nat) : Int) = (n : Int) / 2 ^ y := by simp
  rw [← h]
  have h2 := Nat.div_eq_zero_iff (a := n) (b := 2 ^ y)
  have h3 := Nat.two_pow_pos y
  constructor
  · intro h0; have := h2.1 (by omega); omega
  · intro h0; have := h2.2 (.inr h0); omega
set_option maxHeartbeats 1000000 in
set_option maxRecDepth 100000 in
theorem wnum_c (B g : Nat) (ob : Option Nat) (room : Nat) (s : Ws) (n : Nat) (sz : Int) (w : World) (h : Wr w B g ob room s) :
    Calls Tryz.prog 129 #[.pointer (some ⟨g, 0, none⟩), .int .u64 (n : Int), .int .i64 sz] w fun e w' => e = .returned (.int .i64 (numS room s n sz).1) ∧ WStep w B g ob room (numS room s n sz) w' := by
  have HS := Lib.hid h.stop
  obtain ⟨er, l⟩ := s
  by_cases her : er = 0
  · subst her
    have hs : numS room (0, l) n sz = if ¬ Fits n sz then (2, l) else layS room l (digN n sz.toNat) := by unfold numS; rw [if_neg (by simp)]
    rw [hs]
    have hrow := h.row
    have H := Lib.hid h
    obtain ⟨v, hr⟩ := hrow
    have KF := Lib.hid (fail_c g 2 0 w (hr.cellAt 1 rfl) (hr.frozenAt 1))
    have HE := Lib.hid (WStep.err h (Below.refl _ _) 2)
    by_cases h1 : sz < 1
    · rw [if_pos (by unfold Fits; omega)]
      clear hs h hr
      go_enter Tryz.func129, Tryz.ntmps129
      go_wp2_with fail
      refine HS.out.mono ?_
      rintro e w' ⟨rfl, rfl⟩
      go_wp2_with fail
      refine KF.out.mono ?_
      rintro e w' ⟨rfl, rfl⟩
      go_wp2_with fail
      go_ret
      exact ⟨rfl, HE.out⟩
    · by_cases h8 : 8 < sz
      · rw [if_pos (by unfold Fits; omega)]
        clear hs h hr
        go_enter Tryz.func129, Tryz.ntmps129
        go_wp2_with fail
        refine HS.out.mono ?_
        rintro e w' ⟨rfl, rfl⟩
        go_wp2_with fail
        refine KF.out.mono ?_
        rintro e w' ⟨rfl, rfl⟩
        go_wp2_with fail
        go_ret
        exact ⟨rfl, HE.out⟩
      · obtain ⟨z, rfl⟩ : ∃ z : Nat, sz = (z : Int) := ⟨sz.toNat, by omega⟩
        rw [Int.toNat_natCast]
        obtain ⟨y, ey⟩ : ∃ y, y = 8 * z := ⟨_, rfl⟩
        have k1 : IntKind.i64.wrap (8 * (z : Int)) = (y : Int) := by rw [IntWalk.i64_in _ (by omega)]; omega
        have hy0 : (0 : Int) ≤ (y : Int) := by omega
        have hy1 : (y : Int) ≤ 64 := by omega
        have hsh := fits_shift n y
        by_cases hfit : n < 2 ^ y
        · rw [if_neg (by unfold Fits; rw [Int.toNat_natCast, ← ey]; omega)]
          have h0 : (n : Int) / 2 ^ y = 0 := hsh.2 hfit
          have KS := Lib.hid (split_c n z (by omega) (by omega) w)
          have HD := Lib.hid (dig_length n z)
          clear hs h hr hsh ey hfit KF HE
          go_enter Tryz.func129, Tryz.ntmps129
          go_wp2_with fail
          refine HS.out.mono ?_
          rintro e w' ⟨rfl, rfl⟩
          go_wp2_with fail
          refine KS.out.mono ?_
          rintro e w1 ⟨g1, rfl, hr1, _, hb1⟩
          have KL := Lib.hid (lay_c B g ob room l (digN n z) (some ⟨g1, 0, none⟩) z z w1 (H.out.grow hb1) HD.out.symm (Bs0.some (bytes_row hr1)) (fun h => by cases h))
          have HB := Lib.hid hb1
          clear hr1 hb1
          go_wp2_with fail
          refine KL.out.mono ?_
          rintro e w2 ⟨rfl, hst⟩
          have HT := Lib.hid (hst.grown HB.out)
          clear hst
          go_wp2_with fail
          go_ret
          exact ⟨rfl, HT.out⟩
        · rw [if_pos (by unfold Fits; rw [Int.toNat_natCast, ← ey]; omega)]
          have h0 : ((n : Int) / 2 ^ y != 0) = true := by simpa using fun e => hfit (hsh.1 e)
          clear hs h hr hsh ey hfit
          go_enter Tryz.func129, Tryz.ntmps129
          go_wp2_with fail
          refine HS.out.mono ?_
          rintro e w' ⟨rfl, rfl⟩
          go_wp2_with fail
          refine KF.out.mono ?_
          rintro e w' ⟨rfl, rfl⟩
          go_wp2_with fail
          go_ret
          exact ⟨rfl, HE.out⟩
  · have hs : numS room (er, l) n sz = (er, l) := by unfold numS; rw [if_pos her]
    have HT := Lib.hid (WStep.refl h)
    rw [hs]
    clear hs h
    go_enter Tryz.func129, Tryz.ntmps129
    go_wp2_with fail
    refine HS.out.mono ?_
    rintro e w' ⟨rfl, rfl⟩
    go_wp2_with fail
    go_ret
    exact ⟨rfl, HT.out⟩
end Go.Proofs.YtddmjddlbhdcpaaGreatDoor

/-
  Package octet: a writer that is filled; all of its bytes; one that stopped, or that no call made.
-/
namespace Go.Proofs.YtddmjddlbhdcpaaGreatDoor
open Go.RowKit Go.Hold Go.Sh Go.Oc

/-- What 'stopped' answers of a writer, or of none. -/
def WStop (w : World) (v : Value) (er : Int) : Prop := Calls Tryz.prog 156 #[v] w fun e w' => e = .returned (.int .i64 er) ∧ w' = w
theorem wfill_stop (po : Option Addr) (er : Int) (her : ¬ er = 0) (a : Value) (w : World) (h : WStop w (.pointer po) er) : Calls Tryz.prog 131 #[.pointer po, a] w fun e w' => e = .returned (.int .i64 er) ∧ w' = w := by
  have HS := Lib.hid h
  unfold WStop at HS
  clear h
  go_enter Tryz.func131, Tryz.ntmps131
  go_wp2_with fail
  refine HS.out.mono ?_
  rintro e w' ⟨rfl, rfl⟩
  go_wp2_with fail
  go_ret
  exact ⟨rfl, rfl⟩
theorem wall_stop (po : Option Addr) (er : Int) (her : ¬ er = 0) (w : World) (h : WStop w (.pointer po) er) : Calls Tryz.prog 132 #[.pointer po] w fun e w' => e = .returned (.tuple #[.slice none 0 0, .int .i64 er]) ∧ w' = w := by
  have HS := Lib.hid h
  unfold WStop at HS
  clear h
  go_enter Tryz.func132, Tryz.ntmps132
  go_wp2_with fail
  refine HS.out.mono ?_
  rintro e w' ⟨rfl, rfl⟩
  go_wp2_with fail
  refine bodyPost_ret (v := .tuple #[.slice none 0 0, .int .i64 er]) (results_tmp2 Tryz.results132 _ _ _) rfl ⟨rfl, rfl⟩

set_option maxHeartbeats 1000000 in
set_option maxRecDepth 100000 in
theorem wfill_c (B g : Nat) (ob : Option Nat) (room : Nat) (s : Ws) (to : Int) (w : World) (h : Wr w B g ob room s) :
    Calls Tryz.prog 131 #[.pointer (some ⟨g, 0, none⟩), .int .i64 to] w fun e w' => e = .returned (.int .i64 (filS room s to).1) ∧ WStep w B g ob room (filS room s to) w' := by
  have HS := Lib.hid h.stop
  obtain ⟨er, l⟩ := s
  by_cases her : er = 0
  · subst her
    have hs : filS room (0, l) to = if to < (l.length : Int) then (2, l) else if (room : Int) < to then (8, l) else layS room l (zs (to.toNat - l.length)) := by unfold filS; rw [if_neg (by simp)]
    rw [hs]
    have H := Lib.hid h
    have HE := Lib.hid (fun er => WStep.err h (Below.refl _ _) er)
    have hle := h.le
    obtain ⟨v, hr, ho, _⟩ := h
    have KF := Lib.hid (fun er => fail_c g er 0 w (hr.cellAt 1 rfl) (hr.frozenAt 1))
    obtain ⟨p0, c0, rfl, _⟩ := ho.bs
    simp only at hr ho hle
    have hc2 := hr.cellAt 2 (show (wrow true 0 room (.slice p0 l.length c0))[2]? = some (.int .i64 (room : Int)) from rfl)
    have hc3 := hr.cellAt 3 (show (wrow true 0 room (.slice p0 l.length c0))[3]? = some (.slice p0 l.length c0) from rfl)
    have hgl := hr.2.2
    have HLe := Lib.hid hle
    obtain ⟨n, en⟩ : ∃ n, n = l.length := ⟨_, rfl⟩
    rw [← en] at hc3 ⊢
    have En := Lib.hid en
    by_cases h1 : to < (n : Int)
    · rw [if_pos h1]
      have KF2 := Lib.hid (KF.out 2)
      have HE2 := Lib.hid (HE.out 2)
      clear hs hr ho en hle KF HE
      go_enter Tryz.func131, Tryz.ntmps131
      go_wp2_with fail
      refine HS.out.mono ?_
      rintro e w' ⟨rfl, rfl⟩
      go_wp2_with fail
      refine KF2.out.mono ?_
      rintro e w' ⟨rfl, rfl⟩
      go_wp2_with fail
      go_ret
      exact ⟨rfl, HE2.out⟩
    · rw [if_neg h1]
      by_cases h8 : (room : Int) < to
      · rw [if_pos h8]
        have KF2 := Lib.hid (KF.out 8)
        have HE2 := Lib.hid (HE.out 8)
        clear hs hr ho en hle KF HE
        go_enter Tryz.func131, Tryz.ntmps131
        go_wp2_with fail
        refine HS.out.mono ?_
        rintro e w' ⟨rfl, rfl⟩
        go_wp2_with fail
        refine KF2.out.mono ?_
        rintro e w' ⟨rfl, rfl⟩
        go_wp2_with fail
        go_ret
        exact ⟨rfl, HE2.out⟩
      · rw [if_neg h8]
        obtain ⟨t, rfl⟩ : ∃ t : Nat, to = (t : Int) := ⟨to.toNat, by omega⟩
        rw [Int.toNat_natCast]
        obtain ⟨d, ed⟩ : ∃ d, d = t - n := ⟨_, rfl⟩
        have k1 : IntKind.i64.wrap ((t : Int) - (n : Int)) = (d : Int) := by rw [IntWalk.i64_in _ (by omega)]; omega
        have hmk := run_mkS w d (by omega)
        have hbA := below_alloc (Below.refl w.heap.size w) (.cells (bysA (zs d)) 5)
        have KL := Lib.hid (lay_c B g ob room l (zs d) (some ⟨w.heap.size, 0, none⟩) d d _ (H.out.grow hbA) (zs_length d).symm (Bs0.some (bytes_new w _ _ _)) (fun h => by cases h))
        have HBA := Lib.hid hbA
        have hgl2 : g < w.heap.size + 1 := by omega
        rw [← ed]
        clear hs hr ho en hle KF HE hbA ed
        go_enter Tryz.func131, Tryz.ntmps131
        go_wp2_with fail
        refine HS.out.mono ?_
        rintro e w' ⟨rfl, rfl⟩
        go_wp2_with fail
        refine KL.out.mono ?_
        rintro e w2 ⟨rfl, hst⟩
        have HT := Lib.hid (hst.grown HBA.out)
        clear hst
        go_wp2_with fail
        go_ret
        exact ⟨rfl, HT.out⟩
  · have hs : filS room (er, l) to = (er, l) := by unfold filS; rw [if_pos her]
    have HT := Lib.hid (WStep.refl h)
    rw [hs]
    refine (wfill_stop _ er her _ w HS.out).mono ?_
    rintro e w' ⟨rfl, rfl⟩
    exact ⟨rfl, HT.out⟩

set_option maxHeartbeats 1000000 in
set_option maxRecDepth 100000 in
theorem wall_c (B g : Nat) (ob : Option Nat) (room : Nat) (s : Ws) (w : World) (h : Wr w B g ob room s) :
    Calls Tryz.prog 132 #[.pointer (some ⟨g, 0, none⟩)] w fun e w' => ∃ v, e = .returned (.tuple #[v, .int .i64 s.1]) ∧ OwnB w' w.heap.size v (allL s) ∧ Below w.heap.size w w' := by
  have HS := Lib.hid h.stop
  obtain ⟨er, l⟩ := s
  by_cases her : er = 0
  · subst her
    have hs : allL (0, l) = l := by unfold allL; rw [if_neg (by simp)]
    rw [hs]
    have hle := h.le
    obtain ⟨v, hr, ho, rfl, _⟩ := h
    obtain ⟨p0, c0, rfl, hb0, _, hp0⟩ := ho.bs
    simp only at hr ho hle
    have hc3 := hr.cellAt 3 (show (wrow true 0 room (.slice p0 l.length c0))[3]? = some (.slice p0 l.length c0) from rfl)
    have hgl := hr.2.2
    have KC := Lib.hid (clone_c p0 l l.length c0 w rfl hb0 hp0 (by omega))
    generalize l.length = n at *
    clear hs hr ho hle hb0 hp0
    go_enter Tryz.func132, Tryz.ntmps132
    go_wp2_with fail
    refine HS.out.mono ?_
    rintro e w' ⟨rfl, rfl⟩
    go_wp2_with fail
    refine KC.out.mono ?_
    rintro e w2 ⟨v2, rfl, ho2, hb2⟩
    have HO := Lib.hid ho2
    have HB := Lib.hid hb2
    clear ho2 hb2
    go_wp2_with fail
    refine bodyPost_ret (v := .tuple #[v2, .int .i64 0]) (results_tmp2 Tryz.results132 _ _ _) rfl ⟨_, rfl, HO.out, HB.out⟩
  · have hs : allL (er, l) = [] := by unfold allL; rw [if_pos her]
    rw [hs]
    refine (wall_stop _ er her w HS.out).mono ?_
    rintro e w' ⟨rfl, rfl⟩
    exact ⟨_, rfl, own_nil _ _, Below.refl _ _⟩
theorem WStep.out {w w' : World} {B g room : Nat} {ob : Option Nat} {s s' s2 : Ws} (h : WStep w B g ob room s' w') (h0 : Wr w B g ob room s) (e : s' = s2) {w0 : World} (hb : Below B w0 w) (hB : B ≤ w.heap.size) : ∃ ob', Wr w' B g ob' room s2 ∧ Below B w0 w' := by
  subst e
  have h2 := h.below h0 hb hB
  obtain ⟨ob', h1, _⟩ := h
  exact ⟨ob', h1, h2⟩
end Go.Proofs.YtddmjddlbhdcpaaGreatDoor

/-
  What one call lays down, or takes, where there is room. Of no program.
-/
namespace Go.Oc
open Go Go.Sh

theorem numS_ok {room : Nat} {l : List Nat} {n sz : Nat} (h1 : 1 ≤ sz) (h8 : sz ≤ 8) (hn : n < 2 ^ (8 * sz)) (hr : l.length + sz ≤ room) : numS room (0, l) n (sz : Int) = (0, l ++ digN n sz) := by
  unfold numS
  rw [if_neg (by simp), if_neg (by unfold Fits; rw [Int.toNat_natCast]; omega), Int.toNat_natCast]
  unfold layS
  rw [if_neg (by simp only [dig_length]; omega)]
theorem bytS_ok {room : Nat} {l m : List Nat} (hr : l.length + m.length ≤ room) : bytS room (0, l) m = (0, l ++ m) := by
  unfold bytS
  rw [if_neg (by simp)]
  unfold layS
  rw [if_neg (by simp only; omega)]
theorem filS_ok {room : Nat} {l : List Nat} {to : Nat} (h1 : l.length ≤ to) (h2 : to ≤ room) : filS room (0, l) (to : Int) = (0, l ++ zs (to - l.length)) := by
  unfold filS
  rw [if_neg (by simp), if_neg (by simp only; omega), if_neg (by omega), Int.toNat_natCast]
  unfold layS
  rw [if_neg (by simp only [zs_length]; omega)]
theorem dig_1 {n : Nat} (h : n < 256) : digN n 1 = [n] := by
  show [dgt n 1 0] = [n]
  unfold dgt
  rw [show 8 * (1 - 1 - 0) = 0 from rfl, Nat.pow_zero, Nat.div_one, Nat.mod_eq_of_lt h]
theorem dig_2 (n : Nat) : digN n 2 = [n / 256 % 256, n % 256] := by
  show [dgt n 2 0, dgt n 2 1] = _
  unfold dgt
  rw [show 8 * (2 - 1 - 0) = 8 from rfl, show 8 * (2 - 1 - 1) = 0 from rfl, Nat.pow_zero, Nat.div_one]
theorem rnumS_ok {l : List Nat} {sz : Nat} (h1 : 1 ≤ sz) (h8 : sz ≤ 8) (hr : sz ≤ l.length) : rnumS (0, l) (sz : Int) = (0, l.drop sz) := by
  unfold rnumS
  rw [if_neg (by simp), if_neg (by omega), Int.toNat_natCast]
  unfold takS
  rw [if_neg (by simp only; omega)]
theorem rnumV_ok {l : List Nat} {sz : Nat} (h1 : 1 ≤ sz) (h8 : sz ≤ 8) (hr : sz ≤ l.length) : rnumV (0, l) (sz : Int) = joinN (l.take sz) := by
  unfold rnumV
  rw [if_pos ⟨rfl, by omega, by rw [Int.toNat_natCast]; exact hr⟩, Int.toNat_natCast]
theorem rbytS_ok {l : List Nat} {n : Nat} (hr : n ≤ l.length) : rbytS (0, l) (n : Int) = (0, l.drop n) := by
  unfold rbytS
  rw [if_neg (by simp), if_neg (by omega), Int.toNat_natCast]
  unfold takS
  rw [if_neg (by simp only; omega)]
theorem rbytV_ok {l : List Nat} {n : Nat} (hr : n ≤ l.length) : rbytV (0, l) (n : Int) = l.take n := by
  unfold rbytV
  rw [if_pos ⟨rfl, by omega, by rw [Int.toNat_natCast]; exact hr⟩, Int.toNat_natCast]
end Go.Oc

/-
  Package octet: the calls of a writer that has room, and of a reader that has bytes; what is made behind a world W0 alone changes.
-/
namespace Go.Proofs.YtddmjddlbhdcpaaGreatDoor
open Go.RowKit Go.Hold Go.Sh Go.Oc

theorem wnum_ok {W0 w : World} {g room : Nat} {ob : Option Nat} {l : List Nat} (h : Wr w W0.heap.size g ob room (0, l)) (hb : Below W0.heap.size W0 w) (n sz : Nat) (h1 : 1 ≤ sz) (h8 : sz ≤ 8) (hn : n < 2 ^ (8 * sz)) (hr : l.length + sz ≤ room) :
    Calls Tryz.prog 129 #[.pointer (some ⟨g, 0, none⟩), .int .u64 (n : Int), .int .i64 (sz : Int)] w fun e w' => e = .returned (.int .i64 0) ∧ ∃ ob', Wr w' W0.heap.size g ob' room (0, l ++ digN n sz) ∧ Below W0.heap.size W0 w' := by
  refine (wnum_c W0.heap.size g ob room (0, l) n (sz : Int) w h).mono ?_
  rintro e w' ⟨rfl, hst⟩
  have hs := numS_ok (l := l) h1 h8 hn hr
  exact ⟨by rw [hs], hst.out h hs hb hb.size⟩
theorem wbytes_ok {W0 w : World} {g room : Nat} {ob : Option Nat} {l : List Nat} (h : Wr w W0.heap.size g ob room (0, l)) (hb : Below W0.heap.size W0 w) (m : List Nat) (p : Option Addr) (k cap : Nat) (hk : k = m.length) (hB : Bs0 w p m) (hp : p = none → cap = 0) (hr : l.length + m.length ≤ room) :
    Calls Tryz.prog 130 #[.pointer (some ⟨g, 0, none⟩), .slice p k cap] w fun e w' => e = .returned (.int .i64 0) ∧ ∃ ob', Wr w' W0.heap.size g ob' room (0, l ++ m) ∧ Below W0.heap.size W0 w' := by
  refine (wbytes_c W0.heap.size g ob room (0, l) m p k cap w h hk hB hp).mono ?_
  rintro e w' ⟨rfl, hst⟩
  have hs := bytS_ok (l := l) hr
  exact ⟨by rw [hs], hst.out h hs hb hb.size⟩
theorem wfill_ok {W0 w : World} {g room : Nat} {ob : Option Nat} {l : List Nat} (h : Wr w W0.heap.size g ob room (0, l)) (hb : Below W0.heap.size W0 w) (to : Nat) (h1 : l.length ≤ to) (h2 : to ≤ room) :
    Calls Tryz.prog 131 #[.pointer (some ⟨g, 0, none⟩), .int .i64 (to : Int)] w fun e w' => e = .returned (.int .i64 0) ∧ ∃ ob', Wr w' W0.heap.size g ob' room (0, l ++ zs (to - l.length)) ∧ Below W0.heap.size W0 w' := by
  refine (wfill_c W0.heap.size g ob room (0, l) (to : Int) w h).mono ?_
  rintro e w' ⟨rfl, hst⟩
  have hs := filS_ok (l := l) h1 h2
  exact ⟨by rw [hs], hst.out h hs hb hb.size⟩
theorem wall_ok {W0 w : World} {g room : Nat} {ob : Option Nat} {l : List Nat} (h : Wr w W0.heap.size g ob room (0, l)) (hb : Below W0.heap.size W0 w) :
    Calls Tryz.prog 132 #[.pointer (some ⟨g, 0, none⟩)] w fun e w' => ∃ v, e = .returned (.tuple #[v, .int .i64 0]) ∧ OwnB w' w.heap.size v l ∧ Below W0.heap.size W0 w' := by
  refine (wall_c W0.heap.size g ob room (0, l) w h).mono ?_
  rintro e w' ⟨v, rfl, ho, hb'⟩
  exact ⟨v, rfl, ho, hb.trans (hb'.mono hb.size)⟩
end Go.Proofs.YtddmjddlbhdcpaaGreatDoor

/-
  Package command: a command's bytes.
-/
namespace Go.Cm
open Go Go.Sh Go.Oc
theorem enc_steps {k n d : Nat} {id : List Nat} (hk : k < 5) (hn : n < 16) (hi : id.length = 8) :
    (((([] ++ digN k 1) ++ digN n 1) ++ digN d 2) ++ id) ++ zs (16 - (((([] ++ digN k 1) ++ digN n 1) ++ digN d 2) ++ id).length) = (Cmd.mk k n d id).enc := by
  rw [dig_1 (by omega), dig_1 (by omega), dig_2]
  simp [Cmd.enc, hi]
  omega
end Go.Cm
namespace Go.Proofs.YtddmjddlbhdcpaaGreatDoor
open Go.RowKit Go.Hold Go.Sh Go.Oc Go.Cm

set_option maxHeartbeats 1000000 in
set_option maxRecDepth 100000 in
theorem encode_c (c : Cmd) (hid : c.id.length = 8) (w : World) :
    Calls Tryz.prog 102 #[.agg (cmdA c)] w fun e w' => e = .returned (.tuple #[.agg (bysA (encV c)), .int .i64 (encE c)]) ∧ Below w.heap.size w w' := by
  have hcs := cmdA_size hid
  have hzs : (bysA (zs 16)).size = 16 := rfl
  by_cases hm : c.may = false
  · have hV : encV c = zs 16 := by unfold encV; rw [hm]; rfl
    have hE : encE c = 2 := by unfold encE; rw [hm]; rfl
    rw [hV, hE]
    have KM := Lib.hid (fun (W : World) => may_c c hid W)
    rw [hm] at KM
    clear hm hV hE
    go_enter Tryz.func102, Tryz.ntmps102
    go_wp2_with fail
    generalize hW : World.alloc _ _ = W0
    have R0 := Lib.hid (show RowAt W0 w.heap.size (cmdA c) by rw [← hW]; clear hW; exact ⟨by go_simp, by go_simp, by go_simp⟩)
    have T0 := Lib.hid (show RowAt W0 (w.heap.size + 1) (bysA (zs 16)) by rw [← hW]; clear hW; exact ⟨by go_simp, by go_simp; rfl, by go_simp⟩)
    have B0 := Lib.hid (show Below w.heap.size w W0 by rw [← hW]; repeat (first | apply below_alloc | exact Below.refl _ _))
    have hz1 : w.heap.size ≤ w.heap.size + 1 := by omega
    have hz3 : w.heap.size ≠ w.heap.size + 1 := by omega
    generalize w.heap.size + 1 = t at *
    obtain ⟨z, ez⟩ : ∃ z, z = w.heap.size := ⟨_, rfl⟩
    rw [← ez] at R0 hz1 hz3 ⊢
    have Ez := Lib.hid ez
    clear ez
    refine (KM.out W0).mono ?_
    rintro e W1 ⟨rfl, hb1⟩
    have R1 := Lib.hid (R0.out.grow hb1)
    have T1 := Lib.hid (T0.out.grow hb1)
    have B1 := Lib.hid (B0.out.trans (hb1.mono B0.out.size))
    clear hb1 hW R0 T0 B0
    clear R1 hz3
    obtain ⟨t1, t2, t3⟩ := T1.out
    go_wp2_with fail
    refine bodyPost_ret (v := .tuple #[.agg (bysA (zs 16)), .int .i64 2]) (results_b16 Tryz.results102 (zs 16) rfl _ _ _ t rfl (by go_simp) (by go_simp) rfl) rfl ⟨rfl, ?_⟩
    exact below_setRow B1.out (by rw [← Ez.out]; exact hz1) _
  have hm : c.may = true := by simpa using hm
  have hV : encV c = c.enc := by unfold encV; rw [hm]; rfl
  have hE : encE c = 0 := by unfold encE; rw [hm]; rfl
  rw [hV, hE]
  have KM := Lib.hid (fun (W : World) => may_c c hid W)
  rw [hm] at KM
  obtain ⟨⟨ha1, ha2⟩, ⟨hb1, hb2⟩, hc1, hc2⟩ := may_range hm
  obtain ⟨k, ek⟩ := Int.eq_ofNat_of_zero_le (show 0 ≤ c.k by omega)
  obtain ⟨n, en⟩ := Int.eq_ofNat_of_zero_le hb1
  obtain ⟨d, ed⟩ := Int.eq_ofNat_of_zero_le hc1
  have HX := Lib.hid (show (((([] ++ digN k 1) ++ digN n 1) ++ digN d 2) ++ c.id) ++ zs (16 - (((([] ++ digN k 1) ++ digN n 1) ++ digN d 2) ++ c.id).length) = c.enc by
    rw [enc_steps (by omega) (by omega) hid, ← ek, ← en, ← ed])
  have HL := Lib.hid (enc_length hid)
  have HI := Lib.hid hid
  have u1 : IntKind.u64.wrap (k : Int) = (k : Int) := IntWalk.u64_in _ (by omega)
  have u2 : IntKind.u64.wrap (n : Int) = (n : Int) := IntWalk.u64_in _ (by omega)
  have u3 : IntKind.u64.wrap (d : Int) = (d : Int) := IntWalk.u64_in _ (by omega)
  have V1 := Lib.hid (show k < 2 ^ (8 * 1) by omega)
  have V2 := Lib.hid (show n < 2 ^ (8 * 1) by omega)
  have V3 := Lib.hid (show d < 2 ^ (8 * 2) by omega)
  clear hm hV hE ha1 ha2 hb1 hb2 hc1 hc2
  go_enter Tryz.func102, Tryz.ntmps102
  go_wp2_with fail
  generalize hW : World.alloc _ _ = W0
  have R0 := Lib.hid (show RowAt W0 w.heap.size (cmdA c) by rw [← hW]; clear hW; exact ⟨by go_simp, by go_simp, by go_simp⟩)
  have T0 := Lib.hid (show RowAt W0 (w.heap.size + 1) (bysA (zs 16)) by rw [← hW]; clear hW; exact ⟨by go_simp, by go_simp; rfl, by go_simp⟩)
  have B0 := Lib.hid (show Below w.heap.size w W0 by rw [← hW]; repeat (first | apply below_alloc | exact Below.refl _ _))
  have hz1 : w.heap.size ≤ w.heap.size + 1 := by omega
  have hz3 : w.heap.size ≠ w.heap.size + 1 := by omega
  generalize w.heap.size + 1 = t at *
  obtain ⟨z, ez⟩ : ∃ z, z = w.heap.size := ⟨_, rfl⟩
  rw [← ez] at R0 hz1 hz3 ⊢
  have Ez := Lib.hid ez
  clear ez
  refine (KM.out W0).mono ?_
  rintro e W1 ⟨rfl, hb1⟩
  have R1 := Lib.hid (R0.out.grow hb1)
  have T1 := Lib.hid (T0.out.grow hb1)
  have B1 := Lib.hid (B0.out.trans (hb1.mono B0.out.size))
  clear hb1 hW R0 T0 B0
  go_wp2_with fail
  refine (newWriter_c 16 (by decide) W1).mono ?_
  rintro e w2 ⟨g, rfl, hw2, hb2⟩
  have X2 := Lib.hid hw2
  have Y2 := Lib.hid hb2
  have hc0 : w2.cell? ⟨z, 0, none⟩ = some (.int .i64 (k : Int)) := by rw [← ek]; exact (R1.out.keep hb2 R1.out.2.2).cellAt 0 (cmdA_0 c)
  clear hw2 hb2
  go_wp2_with fail
  refine (wnum_ok X2.out Y2.out k 1 (by decide) (by decide) V1.out (by simp)).mono ?_
  rintro e w3 ⟨rfl, ob3, hw3, hb3⟩
  have X3 := Lib.hid hw3
  have Y3 := Lib.hid hb3
  have hc0 : w3.cell? ⟨z, 1, none⟩ = some (.int .i64 (n : Int)) := by rw [← en]; exact (R1.out.keep hb3 R1.out.2.2).cellAt 1 (cmdA_1 c)
  clear hw3 hb3 X2 Y2
  go_wp2_with fail
  refine (wnum_ok X3.out Y3.out n 1 (by decide) (by decide) V2.out (by simp [dig_length])).mono ?_
  rintro e w4 ⟨rfl, ob4, hw4, hb4⟩
  have X4 := Lib.hid hw4
  have Y4 := Lib.hid hb4
  have hc0 : w4.cell? ⟨z, 2, none⟩ = some (.int .i64 (d : Int)) := by rw [← ed]; exact (R1.out.keep hb4 R1.out.2.2).cellAt 2 (cmdA_2 c)
  clear hw4 hb4 X3 Y3
  go_wp2_with fail
  refine (wnum_ok X4.out Y4.out d 2 (by decide) (by decide) V3.out (by simp [dig_length])).mono ?_
  rintro e w5 ⟨rfl, ob5, hw5, hb5⟩
  have X5 := Lib.hid hw5
  have Y5 := Lib.hid hb5
  have HB5 := Lib.hid (Bs0.some (bytes_cmd (R1.out.keep hb5 R1.out.2.2)))
  clear hw5 hb5 X4 Y4
  go_wp2_with fail
  refine (wbytes_ok X5.out Y5.out c.id (some ⟨z, 3, none⟩) 8 8 HI.out.symm HB5.out (fun h => by cases h) (by simp [dig_length, HI.out])).mono ?_
  rintro e w6 ⟨rfl, ob6, hw6, hb6⟩
  have X6 := Lib.hid hw6
  have Y6 := Lib.hid hb6
  clear hw6 hb6 X5 Y5 HB5
  go_wp2_with fail
  refine (wfill_ok X6.out Y6.out 16 (by simp [dig_length, HI.out]) (by decide)).mono ?_
  rintro e w7 ⟨rfl, ob7, hw7, hb7⟩
  rw [HX.out] at hw7
  have X7 := Lib.hid hw7
  have Y7 := Lib.hid hb7
  clear hw7 hb7 X6 Y6
  go_wp2_with fail
  refine (wall_ok X7.out Y7.out).mono ?_
  rintro e w8 ⟨v, rfl, ho, hb8⟩
  obtain ⟨p, q, rfl, hs8, _, _⟩ := ho.bs
  rw [HL.out]
  have S8 := Lib.hid hs8
  have T8 := Lib.hid (T1.out.keep hb8 T1.out.2.2)
  have B8 := Lib.hid (B1.out.trans (hb8.mono B1.out.size))
  clear ho hs8 hb8 X7 Y7 R1 T1 B1
  go_wp2_with fail
  generalize hW : World.alloc _ _ = W9
  have hbA : Below w8.heap.size w8 W9 := by rw [← hW]; exact below_alloc (Below.refl _ _) _
  have N9 := Lib.hid (show RowAt W9 w8.heap.size (bysA (zs 16)) by rw [← hW]; clear hW; exact ⟨by go_simp, by go_simp; rfl, by go_simp⟩)
  have S9 := Lib.hid (S8.out.grow hbA)
  have T9 := Lib.hid (T8.out.grow hbA)
  have B9 := Lib.hid (B8.out.trans (hbA.mono B8.out.size))
  have hne : t ≠ w8.heap.size := by have := T8.out.2.2; omega
  have hle : w.heap.size ≤ w8.heap.size := B8.out.size
  clear hW hbA S8 T8 B8
  generalize w8.heap.size = g9 at *
  have hcp := copy_bytes (c2 := 16) (cap := q) (d := 16) (s := 16) (k := 16) N9.out (by rw [zs_length]) HL.out.symm (by rw [zs_length, HL.out]; decide) S9.out
  rw [show c.enc.take 16 ++ (zs 16).drop 16 = c.enc by rw [List.take_of_length_le (by rw [HL.out]; exact Nat.le_refl _)]; simp [zs]] at hcp
  have N10 := N9.out.set (bysA c.enc)
  have T10 := T9.out.other hne (bysA c.enc)
  have B10 := Lib.hid (below_setRow B9.out hle (bysA c.enc))
  have hes : (bysA c.enc).size = 16 := by rw [bysA_size]; exact HL.out
  generalize W9.setRow g9 (bysA c.enc) = W10 at *
  obtain ⟨n1, n2, n3⟩ := N10
  obtain ⟨t1, t2, t3⟩ := T10
  clear N9 S9 T9 B9
  rw [hcp]
  clear hcp
  go_simp
  go_wp2_with fail
  refine bodyPost_ret (v := .tuple #[.agg (bysA (c.enc)), .int .i64 0]) (results_b16 Tryz.results102 (c.enc) HL.out _ _ _ t rfl (by go_simp) (by go_simp) rfl) rfl ⟨rfl, ?_⟩
  exact below_setRow B10.out (by rw [← Ez.out]; exact hz1) _
end Go.Proofs.YtddmjddlbhdcpaaGreatDoor

/-
  Wide blocks as lists of numbers. Of no program.
-/
namespace Go.Li
open Go Go.Sh Go.Ch

theorem mixd_comm (a b : List Nat) (h : a.length = b.length) : mixd a b = mixd b a := by
  unfold mixd
  rw [h]
  apply List.map_congr_left
  intro i _
  exact Nat.xor_comm _ _
/-- A block: its left part, its right part. -/
abbrev Blk := List Nat × List Nat
/-- A stream round, a tag round. -/
def sRd (k : List Nat) (x : Blk) : Blk := (x.1, mixd (strm (mixd k x.1) (zs 12) 0 x.2.length) x.2)
def tRd (k : List Nat) (x : Blk) : Blk := (mixd (keyN (mac k x.2)) x.1, x.2)
def rd (t : Bool) (k : List Nat) (x : Blk) : Blk := if t then tRd k x else sRd k x
/-- What holds of a block. -/
structure OkB (x : Blk) : Prop where
  left : x.1.length = 32
  lb : ∀ i, x.1.getD i 0 < 256
  rb : ∀ i, x.2.getD i 0 < 256
theorem rd_left (t : Bool) (k : List Nat) (x : Blk) : (rd t k x).1.length = x.1.length := by
  cases t
  · rfl
  · exact mixd_length _ _
theorem OkB.rd {x : Blk} (h : OkB x) (t : Bool) (k : List Nat) : OkB (rd t k x) := by
  refine ⟨by rw [rd_left]; exact h.left, ?_, ?_⟩
  · cases t
    · exact h.lb
    · exact mixd_bts (keyN_bts _) h.lb
  · cases t
    · exact mixd_bts (strm_bts _ _ _ _) h.rb
    · exact h.rb
/-- A round's label, and its key. -/
def lab (i : Nat) : List Nat := [108, 105, 111, 110, 32, 48 + i]
def rkey (k : List Nat) (i : Nat) : List Nat := keyN (drv k (purp ++ lab i))
/-- The i-th round. -/
def rnd (k : List Nat) (i : Nat) (x : Blk) : Blk := rd (i % 2 == 0) (rkey k i) x
def rnds (k : List Nat) : List Nat → Blk → Blk
  | [], x => x
  | i :: l, x => rnds k l (rnd k i x)
theorem OkB.rnds {k : List Nat} : ∀ (l : List Nat) {x : Blk}, OkB x → OkB (rnds k l x)
  | [], _, h => h
  | _ :: l, _, h => OkB.rnds l (h.rd _ _)
/-- The parts of bytes, and the bytes of parts. -/
def prt (b : List Nat) : Blk := (b.take 32, b.drop 32)
def jn (x : Blk) : List Nat := x.1 ++ x.2
/-- A block, mixed by rounds. -/
def mixL (k : List Nat) (l : List Nat) (b : List Nat) : List Nat := jn (rnds k l (prt b))
/-- The four rounds, and the opposite order. -/
def fwd : List Nat := [1, 2, 3, 4]
def bwd : List Nat := [4, 3, 2, 1]
def lockL (k b : List Nat) : List Nat := mixL k fwd b
def unlockL (k b : List Nat) : List Nat := mixL k bwd b
end Go.Li

/-
  The reference of layer 9: a command as cells; two commands are compared.
-/
namespace Go.Cm
open Go
/-- Are two commands one? -/
def beqC (a b : Cmd) : Bool := (a.k == b.k) && ((a.n == b.n) && ((a.d == b.d) && decide (a.id = b.id)))
theorem beqC_iff {a b : Cmd} : beqC a b = true ↔ a = b := by
  obtain ⟨a1, a2, a3, a4⟩ := a
  obtain ⟨b1, b2, b3, b4⟩ := b
  simp [beqC]
theorem beqC_self (a : Cmd) : beqC a a = true := beqC_iff.2 rfl
end Go.Cm
namespace Go.Proofs.YtddmjddlbhdcpaaGreatDoor
open Go.RowKit Go.Hold Go.Sh Go.Cm

@[go_sem ↓] theorem loadAt_rcmd (v : Value) : Instr.loadAt 57 v = loadRow 57 v := rfl
@[go_sem] theorem run_loadRCmd (w : World) (n : Nat) (h1 : w.isRow n = true) (h2 : (w.rowOf n).size = 11) : (loadRow 57 (.pointer (some ⟨n, 0, none⟩))).run Tryz.prog w = .ok (.agg (w.rowOf n)) w := run_loadRow w Tryz.underlying57 rfl (by kernel_rfl) n h1 h2
@[go_sem ↓] theorem loadAt_b8 (v : Value) : Instr.loadAt 48 v = loadRow 48 v := rfl
@[go_sem] theorem run_loadB8 (w : World) (n : Nat) (h1 : w.isRow n = true) (h2 : (w.rowOf n).size = 11) : (loadRow 48 (.pointer (some ⟨n, 3, none⟩))).run Tryz.prog w = .ok (.agg ((w.rowOf n).extract 3 11)) w := run_loadMid (k := 8) Tryz.underlying48 rfl (by kernel_rfl) w n h1 (by omega)
@[go_sem ↓] theorem build_rcmd (ps : Array (Nat × Value)) : Instr.build 57 ps = bldA 57 ps := rfl
@[go_sem ↓] theorem build_b8 (ps : Array (Nat × Value)) : Instr.build 48 ps = bldA 48 ps := rfl
@[go_sem] theorem run_bldRCmd0 (w : World) : (bldA 57 #[]).run Tryz.prog w = .ok (.agg (cmdA .zero)) w := run_build w _ _ _ (by kernel_rfl)
@[go_sem] theorem run_bldRCmd3 (k n d : Int) (w : World) : (bldA 57 #[(0, .int .i64 k), (1, .int .i64 n), (2, .int .i64 d)]).run Tryz.prog w = .ok (.agg (cmdA ⟨k, n, d, zs 8⟩)) w := run_build w _ _ _ (by kernel_rfl)
@[go_sem] theorem run_bldB8 (w : World) : (bldA 48 #[]).run Tryz.prog w = .ok (.agg (bysA (zs 8))) w := run_build w _ _ _ (by kernel_rfl)
@[go_sem ↓ high] theorem fold_eq8 (a : Operand → Value) (d : Option Tmp) (op : BinOp) (x y : Operand) (u t : TypeId) (p : String) (af : Array Edge) (g : Option (Nat × Bool)) :
    execOp a ⟨d, .binOp op 48 x y u, t, p, af, g⟩ = (do pure (.value (← eqV op 48 x y (a x) (a y)))) := rfl
@[go_sem] theorem run_eq8 (x y : Operand) (l m : List Nat) (hl : l.length = 8) (hm : m.length = 8) (w : World) :
    (eqV .eql 48 x y (.agg (bysA l)) (.agg (bysA m))).run Tryz.prog w = .ok (.bool (decide (l = m))) w := run_eqV Tryz.underlying48 (by kernel_rfl) x y hl hm w
/-! ### Two commands -/
@[go_sem ↓ high] theorem fold_eqCmd (a : Operand → Value) (d : Option Tmp) (op : BinOp) (x y : Operand) (u t : TypeId) (p : String) (af : Array Edge) (g : Option (Nat × Bool)) :
    execOp a ⟨d, .binOp op 57 x y u, t, p, af, g⟩ = (do pure (.value (← eqV op 57 x y (a x) (a y)))) := rfl
set_option maxRecDepth 100000 in
theorem part_int {c : Cmd} {i : Nat} {v : Int} (h : (cmdA c)[i]? = some (.int .i64 v)) (w : World) : (part 3 (cmdA c) i).run Tryz.prog w = .ok (.int .i64 v) w := by
  have hag : (isAgg 3).run Tryz.prog w = .ok false w := by unfold isAgg; rw [Sem.run_bind, run_underlying Tryz.underlying3 w]; simp
  unfold part
  rw [Sem.run_bind, hag]
  simp [h]
set_option maxRecDepth 100000 in
theorem part_id {c : Cmd} (hc : c.id.length = 8) (w : World) : (part 48 (cmdA c) 3).run Tryz.prog w = .ok (.agg (bysA c.id)) w := by
  have hag : (isAgg 48).run Tryz.prog w = .ok true w := by unfold isAgg; rw [Sem.run_bind, run_underlying Tryz.underlying48 w]; simp
  unfold part
  rw [Sem.run_bind, hag]
  simp [cmdA_ext c hc]
set_option maxRecDepth 100000 in
theorem equalIn_cmd (d : Nat) {a b : Cmd} (ha : a.id.length = 8) (hb : b.id.length = 8) (w : World) :
    (Op.equalIn (d + 4) 57 (.agg (cmdA a)) (.agg (cmdA b))).run Tryz.prog w = .ok (beqC a b) w := by
  rw [run_equalIn_struct w (d + 3) 57 (cmdA a) (cmdA b) (by kernel_rfl) (by kernel_rfl)]
  obtain ⟨f0, f1, f2, f3, hf, n0, n1, n2, n3, t0, t1, t2, t3, o0, o1, o2, o3⟩ : ∃ f0 f1 f2 f3 : Field, (Tryz.prog.fieldsOf 57).toList = [f0, f1, f2, f3] ∧ f0.name ≠ "_" ∧ f1.name ≠ "_" ∧ f2.name ≠ "_" ∧ f3.name ≠ "_" ∧ f0.type = 3 ∧ f1.type = 3 ∧ f2.type = 3 ∧ f3.type = 48 ∧ f0.offset = 0 ∧ f1.offset = 1 ∧ f2.offset = 2 ∧ f3.offset = 3 :=
    ⟨_, _, _, _, rfl, by decide +kernel, by decide +kernel, by decide +kernel, by decide +kernel, by kernel_rfl, by kernel_rfl, by kernel_rfl, by kernel_rfl, by kernel_rfl, by kernel_rfl, by kernel_rfl, by kernel_rfl⟩
  rw [hf]
  simp only [Op.eqFields, n0, n1, n2, n3, t0, t1, t2, t3, o0, o1, o2, o3, ne_eq, not_false_eq_true, if_true, Sem.run_bind, part_int (cmdA_0 a), part_int (cmdA_0 b), Result.andThen_ok]
  rw [run_equalIn_int w (d + 2) 3 .i64 .i64 a.k b.k Tryz.underlying3]
  unfold beqC
  cases h0 : (a.k == b.k)
  · simp
  · simp only [Result.andThen_ok, Bool.not_true, Bool.false_eq_true, if_false, Bool.true_and, Sem.run_bind, part_int (cmdA_1 a), part_int (cmdA_1 b)]
    rw [run_equalIn_int w (d + 2) 3 .i64 .i64 a.n b.n Tryz.underlying3]
    cases h1 : (a.n == b.n)
    · simp
    · simp only [Result.andThen_ok, Bool.not_true, Bool.false_eq_true, if_false, Bool.true_and, Sem.run_bind, part_int (cmdA_2 a), part_int (cmdA_2 b)]
      rw [run_equalIn_int w (d + 2) 3 .i64 .i64 a.d b.d Tryz.underlying3]
      cases h2 : (a.d == b.d)
      · simp
      · simp only [Result.andThen_ok, Bool.not_true, Bool.false_eq_true, if_false, Bool.true_and, Sem.run_bind, part_id ha, part_id hb]
        rw [equalIn_bytes Tryz.underlying48 d ha hb]
        cases decide (a.id = b.id) <;> simp
set_option maxRecDepth 100000 in
@[go_sem] theorem run_eqCmd (x y : Operand) (a b : Cmd) (ha : a.id.length = 8) (hb : b.id.length = 8) (w : World) :
    (eqV .eql 57 x y (.agg (cmdA a)) (.agg (cmdA b))).run Tryz.prog w = .ok (.bool (beqC a b)) w := by
  unfold eqV
  rw [Sem.run_bind, run_eqGuard_agg w .eql 57 x y _ _ (by kernel_rfl), Result.andThen_ok, run_eql_struct, show (10000 : Nat) = 9996 + 4 from rfl, equalIn_cmd 9996 ha hb]
  rfl
set_option maxRecDepth 100000 in
@[go_sem] theorem run_neCmd (x y : Operand) (a b : Cmd) (ha : a.id.length = 8) (hb : b.id.length = 8) (w : World) :
    (eqV .neq 57 x y (.agg (cmdA a)) (.agg (cmdA b))).run Tryz.prog w = .ok (.bool (!beqC a b)) w := by
  unfold eqV
  rw [Sem.run_bind, run_eqGuard_agg w .neq 57 x y _ _ (by kernel_rfl), Result.andThen_ok, run_neq_struct, show (10000 : Nat) = 9996 + 4 from rfl, equalIn_cmd 9996 ha hb]
  rfl
theorem results_cmd1 {fn : Func} {p : Tmp} (h : fn.results = #[.cell p 51]) (c : Cmd) (hc : c.id.length = 8) (w : World) (tmps : Array Value) (n : Nat) (hp : tmps.getD p undef = .pointer (some ⟨n, 0, none⟩)) (h1 : w.isRow n = true) (h2 : w.rowOf n = cmdA c) : (results fn tmps).run Tryz.prog w = .ok (.agg (cmdA c)) w :=
  results_row w h Tryz.underlying51 rfl (by rw [cmdA_size hc]; kernel_rfl) tmps n hp h1 h2
theorem results_b16a {fn : Func} {p : Tmp} (h : fn.results = #[.cell p 28]) (l : List Nat) (hl : l.length = 16) (w : World) (tmps : Array Value) (n : Nat) (hp : tmps.getD p undef = .pointer (some ⟨n, 0, none⟩)) (h1 : w.isRow n = true) (h2 : w.rowOf n = bysA l) : (results fn tmps).run Tryz.prog w = .ok (.agg (bysA l)) w :=
  results_row w h Tryz.underlying28 rfl (by rw [bysA_size, hl]; kernel_rfl) tmps n hp h1 h2
end Go.Proofs.YtddmjddlbhdcpaaGreatDoor
