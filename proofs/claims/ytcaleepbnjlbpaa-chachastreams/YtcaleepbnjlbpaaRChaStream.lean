/-
  The reference of layer 5: so many bytes of a stream, bytes that are turned.
-/
import Derived.Test.YtcaleepbnjlbpaaRChaBlock
import Derived.Laws.BitsAllLaws
namespace Go.Ch
open Go Go.Sh
theorem strm_pre (k n : List Nat) (c a b : Nat) (h : b ≤ a) : (strm k n c a).take b = strm k n c b := by
  unfold strm
  rw [← List.map_take, List.take_range, Nat.min_eq_left h]
theorem strm_next (k n : List Nat) (c j : Nat) : strm k n c (64 * j) ++ blk k n (c + j) = strm k n c (64 * (j + 1)) := by
  have hb := blk_length k n (c + j)
  apply List.ext_getElem?
  intro i
  by_cases h : i < 64 * j
  · rw [List.getElem?_append_left (by rw [strm_length]; exact h)]
    simp only [strm, List.getElem?_map, List.getElem?_range h, List.getElem?_range (show i < 64 * (j + 1) by omega)]
  · rw [List.getElem?_append_right (by rw [strm_length]; omega), strm_length]
    by_cases h2 : i < 64 * (j + 1)
    · rw [List.getElem?_eq_getElem (show i - 64 * j < (blk k n (c + j)).length by omega)]
      simp only [strm, List.getElem?_map, List.getElem?_range h2, Option.map_some]
      unfold stB
      rw [show c + i / 64 = c + j by omega, show i % 64 = i - 64 * j by omega]
      simp [List.getD, hb, show i - 64 * j < 64 by omega]
    · rw [List.getElem?_eq_none (by omega), List.getElem?_eq_none (by rw [strm_length]; omega)]
theorem mixd_snoc (a b : List Nat) (j : Nat) (h : j < b.length) : (mixd a b).take j ++ [a.getD j 0 ^^^ b.getD j 0] = (mixd a b).take (j + 1) := by
  rw [List.take_add_one, List.getElem?_eq_getElem (by rw [mixd_length]; exact h)]
  simp [mixd]
end Go.Ch
namespace Go.Proofs.Ytcaleepbnjlbpaa
open Go.RowKit Go.Hold Go.Sh Go.Ch

theorem rowAt_grown {w w' : World} {g : Nat} {c : Array Value} {r : Option Nat} (h : RowAt w g c) (hg : w.grownBy w' r) (hn : r ≠ some g) : RowAt w' g c := by
  obtain ⟨t, ht⟩ := h.block
  exact RowAt.of (t := t) (by rw [hg.block g h.2.2 (by intro e; exact hn (by rw [e]))]; exact ht)
set_option maxHeartbeats 400000 in
set_option maxRecDepth 100000 in
/-- What is refused. -/
theorem rstream_bad (k n : List Nat) (c : Nat) (z er : Int) (hc : c < 4294967296) (w : World)
    (h : z < 0 ∧ er = 2 ∨ 65536 < z ∧ er = 3 ∨ 0 ≤ z ∧ z ≤ 65536 ∧ 4294967296 < c + (z.toNat + 63) / 64 ∧ er = 3) :
    Calls Try.prog 12 #[.agg (bysA k), .agg (bysA n), .int .u32 (c : Int), .int .i64 z] w fun e w' => e = .returned (.tuple #[.slice none 0 0, .int .i64 er]) ∧ Below w.heap.size w w' := by
  rcases h with ⟨h1, rfl⟩ | ⟨h1, rfl⟩ | ⟨h0, h1, h2, rfl⟩
  · go_enter Try.func12, Try.ntmps12
    go_wp2_with fail
    refine bodyPost_ret (v := .tuple #[.slice none 0 0, .int .i64 2]) (results_tmp2 Try.results12 _ _ _) rfl ⟨rfl, by repeat (first | apply below_alloc | exact Below.refl _ _)⟩
  · have h0 : ¬ z < 0 := by omega
    go_enter Try.func12, Try.ntmps12
    go_wp2_with fail
    refine bodyPost_ret (v := .tuple #[.slice none 0 0, .int .i64 3]) (results_tmp2 Try.results12 _ _ _) rfl ⟨rfl, by repeat (first | apply below_alloc | exact Below.refl _ _)⟩
  · obtain ⟨m, rfl⟩ : ∃ m : Nat, z = (m : Int) := ⟨z.toNat, by omega⟩
    rw [Int.toNat_natCast] at h2
    have h3 : ¬ (m : Int) < 0 := by omega
    have h4 : ¬ (65536 : Int) < (m : Int) := by omega
    have k1 : IntKind.i64.wrap ((m : Int) + 63) = ((m + 63 : Nat) : Int) := by rw [IntWalk.i64_in _ (by omega)]; omega
    have k2 : ((m + 63 : Nat) : Int).tdiv 64 = (((m + 63) / 64 : Nat) : Int) := rfl
    obtain ⟨x, ex⟩ : ∃ x, x = (m + 63) / 64 := ⟨_, rfl⟩
    rw [← ex] at h2 k2
    generalize ((m + 63 : Nat) : Int) = y1 at *
    have h5 : IntKind.u64.wrap (c : Int) = (c : Int) := IntWalk.u64_in _ (by omega)
    have h6 : IntKind.u64.wrap (x : Int) = (x : Int) := IntWalk.u64_in _ (by omega)
    have h6i : IntKind.i64.wrap (x : Int) = (x : Int) := IntWalk.i64_in _ (by omega)
    have h7 : IntKind.u64.wrap ((c : Int) + (x : Int)) = ((c + x : Nat) : Int) := by rw [IntWalk.u64_in _ (by omega)]; omega
    have h8 : (4294967296 : Int) < ((c + x : Nat) : Int) := by omega
    generalize ((c + x : Nat) : Int) = y at *
    clear ex
    go_enter Try.func12, Try.ntmps12
    go_wp2_with fail
    refine bodyPost_ret (v := .tuple #[.slice none 0 0, .int .i64 3]) (results_tmp2 Try.results12 _ _ _) rfl ⟨rfl, by repeat (first | apply below_alloc | exact Below.refl _ _)⟩

set_option maxHeartbeats 2000000 in
set_option maxRecDepth 100000 in
theorem rstream_c (k n : List Nat) (c m : Nat) (hk : k.length = 32) (hkb : ∀ i, k.getD i 0 < 256) (hn : n.length = 12) (hnb : ∀ i, n.getD i 0 < 256) (hm : m ≤ 65536) (hc : c + (m + 63) / 64 ≤ 4294967296) (hc' : c < 4294967296) (w : World) :
    Calls Try.prog 12 #[.agg (bysA k), .agg (bysA n), .int .u32 (c : Int), .int .i64 (m : Int)] w fun e w' => ∃ p cp, e = .returned (.tuple #[.slice p m cp, .int .i64 0]) ∧ Bs0 w' p (strm k n c m) ∧ Below w.heap.size w w' := by
  have hks := bysA_size' hk
  have hns := bysA_size' hn
  have h3 : ¬ (m : Int) < 0 := by omega
  have h4 : ¬ (65536 : Int) < (m : Int) := by omega
  have k1 : IntKind.i64.wrap ((m : Int) + 63) = ((m + 63 : Nat) : Int) := by rw [IntWalk.i64_in _ (by omega)]; omega
  have k2 : ((m + 63 : Nat) : Int).tdiv 64 = (((m + 63) / 64 : Nat) : Int) := rfl
  obtain ⟨x, ex⟩ : ∃ x, x = (m + 63) / 64 := ⟨_, rfl⟩
  rw [← ex] at hc k2
  generalize ((m + 63 : Nat) : Int) = y1 at *
  have h5 : IntKind.u64.wrap (c : Int) = (c : Int) := IntWalk.u64_in _ (by omega)
  have h6 : IntKind.u64.wrap (x : Int) = (x : Int) := IntWalk.u64_in _ (by omega)
  have h6i : IntKind.i64.wrap (x : Int) = (x : Int) := IntWalk.i64_in _ (by omega)
  have h7 : IntKind.u64.wrap ((c : Int) + (x : Int)) = ((c + x : Nat) : Int) := by rw [IntWalk.u64_in _ (by omega)]; omega
  have h8 : ¬ (4294967296 : Int) < ((c + x : Nat) : Int) := by omega
  generalize ((c + x : Nat) : Int) = y at *
  have Ex := Lib.hid ex
  have Hc := Lib.hid hc
  have Hm := Lib.hid hm
  have hxb : (x : Int) ≤ 2000 := by omega
  clear ex hc hm
  have HBl := Lib.hid (fun c' => rblock_c k n c' hk hkb hn hnb)
  clear hk hkb hn hnb
  go_enter Try.func12, Try.ntmps12
  go_wp2_with fail
  generalize hW : World.alloc _ _ = W1
  have K1 := Lib.hid (show RowAt W1 w.heap.size (bysA k) by rw [← hW]; clear hW; exact ⟨by go_simp, by go_simp, by go_simp⟩)
  have N1 := Lib.hid (show RowAt W1 (w.heap.size + 1) (bysA n) by rw [← hW]; clear hW; exact ⟨by go_simp, by go_simp, by go_simp⟩)
  have B1 := Lib.hid (show Below w.heap.size w W1 by rw [← hW]; repeat (first | apply below_more | apply below_alloc | apply Below.drew | exact Below.refl _ _))
  clear hW
  generalize w.heap.size + 1 = gn at *
  go_loopw [10, 11] (fun v t wr => ∃ j : Nat, j ≤ x ∧ t = .int .i64 ((64 * j : Nat) : Int) ∧ OwnB wr W1.heap.size v (strm k n c (64 * j)) ∧ Below W1.heap.size W1 wr) (fun _ t _ => 64 * x - (intOf t).toNat)
  case atStart => exact ⟨0, Nat.zero_le _, rfl, own_nil W1 _, Below.refl _ _⟩
  case round =>
    obtain ⟨j, hj, rfl, hown, hbel⟩ := hrel
    obtain ⟨u, eu⟩ : ∃ u, u = 64 * j := ⟨_, rfl⟩
    by_cases hjx : j < x
    · have hju : (u : Int) < (m : Int) := by have := Ex.out; omega
      have hqu : (u : Int).tdiv 64 = (j : Int) := by rw [eu]; show (((64 * j) / 64 : Nat) : Int) = _; rw [Nat.mul_div_cancel_left _ (by decide)]
      have hjw : IntKind.u32.wrap (j : Int) = (j : Int) := IntWalk.u32_in _ (by omega)
      have hjw2 : IntKind.i64.wrap (j : Int) = (j : Int) := IntWalk.i64_in _ (by omega)
      obtain ⟨cj, ecj⟩ : ∃ y, y = c + j := ⟨_, rfl⟩
      have hcj : add32 (c : Int) (j : Int) = (cj : Int) := by unfold add32; rw [IntWalk.u32_in _ (by have := Hc.out; omega), ecj]; omega
      obtain ⟨a1, a2, a3⟩ := K1.out.grow hbel
      obtain ⟨b1, b2, b3⟩ := N1.out.grow hbel
      have HN := Lib.hid (strm_next k n c j)
      rw [← ecj, ← eu] at HN
      rw [← eu] at hown ⊢
      have hlT := strm_length k n c u
      have hbl := blk_length k n cj
      have hbz := bysA_size' hbl
      have HBj := Lib.hid (HBl.out cj wr)
      generalize blk k n cj = b at *
      generalize strm k n c u = T at *
      have HlT := Lib.hid hlT
      have Hbl := Lib.hid hbl
      have Eu := Lib.hid eu
      have hu : (u : Int) ≤ 65536 := by have := Hm.out; omega
      have Ho := Lib.hid hown
      have Hb := Lib.hid hbel
      obtain ⟨W2, eW2⟩ : ∃ x, x = wr := ⟨_, rfl⟩
      clear ecj eu hlT hbl hown hbel eW2
      go_wp2_with fail
      refine HBj.out.mono ?_
      rintro e W3 ⟨rfl, hb3⟩
      have Ho3 := Lib.hid (Ho.out.below hb3)
      have Hb3 := Lib.hid (Hb.out.trans (hb3.mono Hb.out.size))
      clear hb3 a1 a2 a3 b1 b2 b3 Ho Hb HBj
      go_wp2_with fail
      generalize hW : World.alloc _ _ = W4
      have R4 := Lib.hid (show RowAt W4 W3.heap.size (bysA b) by rw [← hW]; clear hW; exact ⟨by go_simp, by go_simp, by go_simp⟩)
      have hbA : Below W3.heap.size W3 W4 := by rw [← hW]; exact below_alloc (Below.refl _ _) _
      have Ho4 := Lib.hid (Ho3.out.below hbA)
      have Hb4 := Lib.hid (Hb3.out.trans (hbA.mono Hb3.out.size))
      have hgb : W1.heap.size ≤ W3.heap.size := Hb3.out.size
      clear hW hbA Hb3
      have hne : u10.ownBlock ≠ some W3.heap.size := fun h => by have := (Ho3.out.ltb _ h).2; omega
      clear Ho3
      generalize W3.heap.size = gb at *
      go_loopw [10, 13] (fun v t wr => ∃ i : Nat, i ≤ 64 ∧ t = .int .i64 i ∧ OwnB wr W1.heap.size v (T ++ b.take i) ∧ v.ownBlock ≠ some gb ∧ RowAt wr gb (bysA b) ∧ Below W1.heap.size W1 wr) (fun _ t _ => 64 - (intOf t).toNat)
      case atStart => exact ⟨0, Nat.zero_le _, rfl, by rw [List.take_zero, List.append_nil]; exact Ho4.out, hne, R4.out, Hb4.out⟩
      case round =>
        obtain ⟨i, hi, rfl, hown, hne, hrow, hbel⟩ := hrel
        by_cases hi64 : i < 64
        · have hi0 : (0 : Int) ≤ (i : Int) := by omega
          have hi1 : (i : Int) < 64 := by omega
          have hib : i < b.length := by rw [Hbl.out]; exact hi64
          have hc := hrow.cellAt i (bysA_get b i hib)
          have ht := take_one b i hib
          have hgl := hrow.2.2
          generalize b.getD i 0 = y at *
          have BA := below_alloc (Below.refl wr.heap.size wr) (.cells #[.int .u8 (y : Int)] 5)
          obtain ⟨v2, w2, hr2, hown2, hgr2, hd2⟩ := app_at (hown.below BA) (bytes_new wr [y] 5 (0, 0)) (Nat.le_trans hbel.size BA.size) (by rw [List.length_append, List.length_take, HlT.out, Hbl.out]; omega)
          have Hb5 := Lib.hid (own_below (hbel.alloc hbel.size (.cells #[.int .u8 (y : Int)] 5)) (hown.below BA) (Nat.le_trans hbel.size BA.size) hgr2)
          have Ho5 := Lib.hid (show OwnB w2 W1.heap.size v2 (T ++ b.take (i + 1)) by rw [← ht, ← List.append_assoc]; exact hown2)
          have hne5 : v2.ownBlock ≠ some gb := by
            rcases hd2 with h | h
            · rw [h]; exact hne
            · rw [h]
              intro h'
              cases h'
              rw [World.size_alloc] at hgl
              omega
          have R5 := Lib.hid (rowAt_grown (hrow.grow BA) hgr2 hne)
          clear hown2 hgr2 BA hown hbel ht hib hd2 hrow
          go_wp2_with (at_builtin; refine Lib.wpList_append_run _ rfl _ _ _ _ rfl _ _ rfl rfl _ _ hr2 ?_)
          go_wp2_with fail
          go_roundw
          case rel => exact ⟨i + 1, by omega, by go_num, Ho5.out, hne5, R5.out, Hb5.out⟩
          case measure => simp [intOf]; omega
        · obtain rfl : i = 64 := by omega
          have Ho5 := Lib.hid (show OwnB wr W1.heap.size u10 (T ++ b) by rw [List.take_of_length_le (by rw [Hbl.out]; exact Nat.le_refl _)] at hown; exact hown)
          rw [HN.out] at Ho5
          have Hb5 := Lib.hid hbel
          clear hown hbel hrow
          go_wp2_with fail
          go_roundw
          case rel => exact ⟨j + 1, by omega, by rw [Eu.out]; go_num, Ho5.out, Hb5.out⟩
          case measure => have := Eu.out; simp [intOf]; omega
    · obtain rfl : j = x := by omega
      have hju : ¬ (u : Int) < (m : Int) := by have := Ex.out; omega
      have Hpre := Lib.hid (strm_pre k n c u m (by omega))
      rw [← eu] at hown ⊢
      have hlT := strm_length k n c u
      generalize strm k n c u = T at *
      obtain ⟨p, cp, rfl, hbs, hcp, hpn⟩ := hown.bs
      have hsl := slB_h p T.length cp m (by omega)
      rw [hlT] at hsl ⊢
      have Hbs := Lib.hid (hbs.take m)
      rw [Hpre.out] at Hbs
      have Hb := Lib.hid (B1.out.trans (hbel.mono B1.out.size))
      clear hown hbel hbs hcp hpn hlT eu
      go_wp2_with fail
      refine bodyPost_ret (v := .tuple #[.slice p m cp, .int .i64 0]) (results_tmp2 Try.results12 _ _ _) rfl ⟨p, ⟨cp, rfl⟩, Hbs.out, Hb.out⟩

set_option maxHeartbeats 1000000 in
set_option maxRecDepth 100000 in
theorem rmixed_c (ac bc m : Nat) (ap bp : Option Addr) (a b : List Nat) (w : World) (ha : m = a.length) (hb : m = b.length) (hab : ∀ i, a.getD i 0 < 256) (hbb : ∀ i, b.getD i 0 < 256) (haB : Bs0 w ap a) (hbB : Bs0 w bp b) (hm : m ≤ 65536) :
    Calls Try.prog 21 #[.slice ap m ac, .slice bp m bc] w fun e w' => ∃ v, e = .returned v ∧ OwnB w' w.heap.size v (mixd a b) ∧ Below w.heap.size w w' := by
  have Ha := Lib.hid ha
  have Hb := Lib.hid hb
  have HA := Lib.hid haB
  have HB := Lib.hid hbB
  have hmi : (m : Int) ≤ 65536 := by omega
  clear ha hb haB hbB
  go_enter Try.func21, Try.ntmps21
  go_wp2_with fail
  go_loopw [5, 6] (fun v t wr => ∃ j : Nat, j ≤ m ∧ t = .int .i64 j ∧ OwnB wr w.heap.size v ((mixd a b).take j) ∧ Below w.heap.size w wr) (fun _ t _ => m - (intOf t).toNat)
  case atStart => exact ⟨0, Nat.zero_le _, rfl, own_nil w _, Below.refl _ _⟩
  case round =>
    obtain ⟨j, hj, rfl, hown, hbel⟩ := hrel
    by_cases hjm : j < m
    · have hj0 : (j : Int) < (m : Int) := by omega
      have hj1 : (0 : Int) ≤ (j : Int) := by omega
      have hja : j < a.length := by rw [← Ha.out]; exact hjm
      have hjb : j < b.length := by rw [← Hb.out]; exact hjm
      obtain ⟨g1, o1, rfl, hA⟩ : ∃ b o, ap = some ⟨b, o, none⟩ ∧ BytesAt w b o a := by
        rcases HA.out with h | h
        · rw [h] at hja; simp at hja
        · exact h
      obtain ⟨g2, o2, rfl, hB⟩ : ∃ x o, bp = some ⟨x, o, none⟩ ∧ BytesAt w x o b := by
        rcases HB.out with h | h
        · rw [h] at hjb; simp at hjb
        · exact h
      have hca := (hA.grow hbel).2 j hja
      have hcb := (hB.grow hbel).2 j hjb
      have hga := (hA.grow hbel).1
      have hgb := (hB.grow hbel).1
      have hx := u8_xor_nat (a.getD j 0) (b.getD j 0) (hab j) (hbb j)
      have Hsn := Lib.hid (mixd_snoc a b j hjb)
      generalize a.getD j 0 = y at *
      generalize b.getD j 0 = z at *
      generalize y ^^^ z = v at *
      have hlen : ((mixd a b).take j).length ≤ 65536 := by rw [List.length_take]; omega
      have Hlen := Lib.hid hlen
      have Hown := Lib.hid hown
      have Hbel := Lib.hid hbel
      clear hA hB hja hjb hown hbel hlen
      go_wp2_with fail
      refine wp_region_pick wr [0, 1, 2, 3, 4, 5, 6, 7, 8, 9] [true, false, false, false, false, false, false, false, false, false] [] [] 10 (by kernel_rfl) rfl (by kernel_rfl) (by intro c a d v w h; cases d <;> exact h) ((Below.refl _ _).drew) ?_
      simp only [pick, List.getElem?_cons_succ, List.getElem?_cons_zero, List.drop_succ_cons, List.drop_zero]
      refine wpHoldF_late (wanted_none rfl) (fun w => by go_simp; rfl) ?_
      iterate 9 (refine wpHoldF_val (wanted_none rfl) (by intro K o d hK; go_simp; exact hK _ (Below.refl _ _)) ?_)
      refine wpHoldF_nil ?_
      intro w2 hb2 _
      have BA := below_alloc (Below.refl w2.heap.size w2) (.cells #[.int .u8 (v : Int)] 5)
      have hb3 := Hbel.out.trans (hb2.mono Hbel.out.size)
      have ho3 := Hown.out.below hb2
      obtain ⟨v4, w4, hr4, hown4, hgr4⟩ := app_own (k := 1) (cap := 1) (ho3.below BA) (Bs0.some (bytes_new w2 [v] 5 (0, 0))) rfl (fun h => by cases h) (Nat.le_trans hb3.size BA.size) (by have := Hlen.out; simp only [List.length_cons, List.length_nil]; omega)
      have Hb4 := Lib.hid (own_below (hb3.alloc hb3.size (.cells #[.int .u8 (v : Int)] 5)) (ho3.below BA) (Nat.le_trans hb3.size BA.size) hgr4)
      have Ho4 := Lib.hid hown4
      rw [Hsn.out] at Ho4
      clear hown4 hgr4 BA hb3 ho3 hb2 hca hcb
      go_wp2_with (at_builtin; refine Lib.wpList_append_run _ rfl _ _ _ _ rfl _ _ rfl rfl _ _ hr4 ?_)
      go_wp2_with fail
      go_roundw
      case rel => exact ⟨j + 1, by omega, by go_num, Ho4.out, Hb4.out⟩
      case measure => simp [intOf]; omega
    · obtain rfl : j = m := by omega
      have Ho := Lib.hid hown
      have Hbe := Lib.hid hbel
      clear hown hbel
      go_wp2_with fail
      go_ret
      refine ⟨_, rfl, ?_, Hbe.out⟩
      have h1 := Ho.out
      rw [List.take_of_length_le (by rw [mixd_length, ← Hb.out]; exact Nat.le_refl _)] at h1
      exact h1

set_option maxHeartbeats 400000 in
set_option maxRecDepth 100000 in
/-- What is refused. -/
theorem rxor_bad (k n : List Nat) (c m cap : Nat) (p : Option Addr) (hk : k.length = 32) (hn : n.length = 12) (hc : c < 4294967296) (w : World) (h : 65536 < m ∨ m ≤ 65536 ∧ 4294967296 < c + (m + 63) / 64) :
    Calls Try.prog 14 #[.agg (bysA k), .agg (bysA n), .int .u32 (c : Int), .slice p m cap] w fun e w' => e = .returned (.tuple #[.slice none 0 0, .int .i64 3]) ∧ Below w.heap.size w w' := by
  have hks := bysA_size' hk
  have hns := bysA_size' hn
  have HS := Lib.hid (fun W => rstream_bad k n c (m : Int) 3 hc W (by omega))
  go_enter Try.func14, Try.ntmps14
  go_wp2_with fail
  refine (HS.out _).mono ?_
  rintro e W2 ⟨rfl, hb2⟩
  have B2 := Lib.hid ((below_alloc (below_alloc (Below.refl w.heap.size w) (.cells (bysA k) 23)) (.cells (bysA n) 24)).trans (hb2.mono (by simp; omega)))
  clear hb2
  go_wp2_with fail
  refine bodyPost_ret (v := .tuple #[.slice none 0 0, .int .i64 3]) (results_tmp2 Try.results14 _ _ _) rfl ⟨rfl, B2.out⟩

set_option maxHeartbeats 1000000 in
set_option maxRecDepth 100000 in
theorem rxor_c (k n l : List Nat) (c m cap : Nat) (p : Option Addr) (hk : k.length = 32) (hkb : ∀ i, k.getD i 0 < 256) (hn : n.length = 12) (hnb : ∀ i, n.getD i 0 < 256) (hl : m = l.length) (hlb : ∀ i, l.getD i 0 < 256)
    (hm : m ≤ 65536) (hc : c + (m + 63) / 64 ≤ 4294967296) (hc' : c < 4294967296) (w : World) (hB : Bs0 w p l) :
    Calls Try.prog 14 #[.agg (bysA k), .agg (bysA n), .int .u32 (c : Int), .slice p m cap] w fun e w' => ∃ q cq, e = .returned (.tuple #[.slice q m cq, .int .i64 0]) ∧ Bs0 w' q (mixd (strm k n c m) l) ∧ Below w.heap.size w w' := by
  have hks := bysA_size' hk
  have hns := bysA_size' hn
  have HS := Lib.hid (fun W => rstream_c k n c m hk hkb hn hnb hm hc hc' W)
  have hTl := strm_length k n c m
  have hTb := strm_bts k n c m
  generalize strm k n c m = T at *
  have HB := Lib.hid hB
  have Hl := Lib.hid hl
  have HTl := Lib.hid hTl
  have HTb := Lib.hid hTb
  have Hlb := Lib.hid hlb
  have Hm := Lib.hid hm
  clear hk hkb hn hnb hc hc' hB hl hTl hTb hlb hm
  go_enter Try.func14, Try.ntmps14
  go_wp2_with fail
  refine (HS.out _).mono ?_
  rintro e W2 ⟨q, cq, rfl, hbs, hb2⟩
  have B2 := Lib.hid ((below_alloc (below_alloc (Below.refl w.heap.size w) (.cells (bysA k) 23)) (.cells (bysA n) 24)).trans (hb2.mono (by simp; omega)))
  have HM := Lib.hid (rmixed_c cq cap m q p T l W2 HTl.out.symm Hl.out HTb.out Hlb.out hbs (HB.out.grow B2.out) Hm.out)
  clear hb2 hbs HS
  go_wp2_with fail
  refine HM.out.mono ?_
  rintro e W3 ⟨v, rfl, hown, hb3⟩
  obtain ⟨q3, c3, rfl, hbs3, _⟩ := hown.bs
  have HX := Lib.hid hbs3
  have B3 := Lib.hid (B2.out.trans (hb3.mono B2.out.size))
  have hlm := mixd_length T l
  rw [hlm, ← Hl.out]
  clear hown hbs3 hb3 hlm
  go_wp2_with fail
  refine bodyPost_ret (v := .tuple #[.slice q3 m c3, .int .i64 0]) (results_tmp2 Try.results14 _ _ _) rfl ⟨q3, c3, rfl, HX.out, B3.out⟩
end Go.Proofs.Ytcaleepbnjlbpaa
