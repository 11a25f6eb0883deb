/-
  Bytes that were written may be written over; asking for a digest changes nothing; a hash that no call made answers an error, and zero.
-/
import Derived.Test.YtfkgnafbfdpgiaaDoorShaPieces
import Derived.Test.YtfkgnafbfdpgiaaDoorPickT
namespace Go.Proofs.YtfkgnafbfdpgiaaDoor
open Go.RowKit Go.Hold Go.Sh

theorem wpList_wanted {P : Program} {ops : Array Oper} {Q : Exit → Act → World → Prop} {a : Act} {w : World} {rest : List Oper} {o : Oper} (hw : Region.wanted o (yielded ops a.tmps) = true) (h : o.wp P a w (wpList P ops Q rest) Q) : wpList P ops Q (o :: rest) a w := by
  unfold wpList
  rw [if_pos hw]
  exact .inl h
theorem ownB_nil (w : World) (B : Nat) : OwnB w B (.slice none 0 0) [] := World.ownsRow_nil _ _ _ _
/-- Bytes are appended to a slice that the call made. -/
theorem app_B {w : World} {o : Oper} {a : Act} {K : Act → World → Prop} {Q : Exit → Act → World → Prop} (s x : Operand)
    (ho : o.op = .call { callee := .builtin .append, args := #[s, x], argTypes := #[22, 22] }) {B : Nat} {v : Value} {m l : List Nat} (hs : a.eval s = v) (hown : OwnB w B v m) (p : Option Addr) (q c : Nat)
    (hx : a.eval x = .slice p q c) (hq : q = l.length) (hB : Bs0 w p l) (hpc : p = none → c = 0) (hlen : m.length + l.length ≤ 100000) (hbase : B ≤ w.heap.size)
    (h : ∀ v' w', OwnB w' B v' (m ++ l) → w.grownBy w' v.ownBlock → K (a.put o.dst v') w') : o.wp Tryd.prog a w K Q := by
  obtain ⟨i0, hi, hz0, hz1, hz2⟩ := info_parts info_u8
  cases p with
  | none =>
    have hl0 : l = [] := by
      rcases hB with h | ⟨b, o, h, _⟩
      · exact h
      · cases h
    obtain rfl : c = 0 := hpc rfl
    obtain rfl : q = 0 := by rw [hq, hl0]; rfl
    have hrun := run_append_owned_none (P := Tryd.prog) (w := w) B 22 o.type 5 i0 1 Tryd.underlying22 hi v m.length (bys m) hown
    unfold Oper.wp
    simp [execOp, ho, resolve, invoke, builtin, hs, hx, hrun, Result.andThen]
    exact h v w (by rw [hl0, List.append_nil]; exact hown) ⟨rfl, rfl, rfl, Nat.le_refl _, fun _ _ _ => rfl⟩
  | some ad =>
    have hnews : ∀ j u, (bys l)[j]? = some u → w.cell? (ad.add j) = some u := fun j u hu => by
      rcases hB with h | ⟨b, o, h, hy⟩
      · subst h; simp [bys] at hu
      · cases h; exact bys_at hy j u hu
    refine wp_append_own w s x 22 ho B 5 i0 (.int .u8 0) 1 1 Tryd.underlying22 hi hz0 hz1 hz2 rfl (by decide) v m.length (bys m) hs hown ad q c (bys l) hx (by rw [bys_length, ← hq, Nat.mul_one]) hnews (bys_one l) (maxLen_small (by omega)) (by omega) hbase fun v' w' h1 h2 _ => ?_
    exact h v' w' (OwnB.snoc (by rw [← hq]; exact h1)) h2
/-- A row of n bytes at least. -/
def IsB (w : World) (g n : Nat) : Prop := ∃ cur t, w.heap[g]? = some (.cells cur t (0, 0)) ∧ ∀ i, i < n → ∃ x : Int, cur[i]? = some (.int .u8 x)
theorem IsB.cell {w : World} {g n : Nat} (h : IsB w g n) (i : Nat) (hi : i < n) : ∃ x : Int, w.cell? ⟨g, i, none⟩ = some (.int .u8 x) := by
  obtain ⟨cur, t, h1, h2⟩ := h
  obtain ⟨x, hx⟩ := h2 i hi
  exact ⟨x, by rw [cell_of_row w g i cur t _ h1, hx]⟩
theorem IsB.frozen {w : World} {g n : Nat} (h : IsB w g n) (i : Nat) : w.frozen? ⟨g, i, none⟩ = false := by
  obtain ⟨cur, t, h1, _⟩ := h
  simp [World.frozen?, h1]
theorem IsB.set {w : World} {g n : Nat} (h : IsB w g n) (i : Nat) (y : Int) : IsB (w.setCell ⟨g, i, none⟩ (.int .u8 y)) g n := by
  obtain ⟨cur, t, h1, h2⟩ := h
  refine ⟨cur.setIfInBounds i (.int .u8 y), t, ?_, fun j hj => ?_⟩
  · unfold World.setCell
    simp only [Array.getElem?_modify, if_pos, h1, Option.map_some]
    rfl
  · obtain ⟨x, hx⟩ := h2 j hj
    rw [Array.getElem?_setIfInBounds]
    by_cases e : i = j
    · subst e
      have : i < cur.size := (Array.getElem?_eq_some_iff.1 hx).1
      exact ⟨y, by rw [if_pos rfl, if_pos this]⟩
    · exact ⟨x, by rw [if_neg e]; exact hx⟩
theorem OwnB.isB {w : World} {B g k c : Nat} {l : List Nat} (h : OwnB w B (.slice (some ⟨g, 0, none⟩) k c) l) : IsB w g l.length := by
  rcases h.2 with ⟨h1, _⟩ | ⟨g', cap', cur, he, _, hg, _, _, _, hx⟩
  · cases h1
  · cases he
    refine ⟨cur, _, hg, fun i hi => ⟨((l.getD i 0 : Nat) : Int), ?_⟩⟩
    have h2 : (cur.toList.take (l.length * 1))[i]? = (bys l)[i]? := by rw [hx]
    rw [List.getElem?_take, if_pos (by omega)] at h2
    rw [← Array.getElem?_toList, h2]
    simp [bys, hi]
theorem RowAt.cellOther {w : World} {n g i : Nat} {c : Array Value} {v : Value} (h : RowAt w n c) (hn : n ≠ g) : RowAt (w.setCell ⟨g, i, none⟩ v) n c := by
  obtain ⟨t, ht⟩ := h.block
  refine RowAt.of (t := t) ?_
  unfold World.setCell
  simp only [Array.getElem?_modify]
  rw [if_neg (fun e => hn e.symm)]
  exact ht
theorem OwnB.readG {w : World} {B : Nat} {v : Value} {m : List Nat} (h : OwnB w B v m) {g : Nat} (hg : g < B) : ∃ p c, v = .slice p m.length c ∧ Bs w p m g ∧ m.length ≤ c ∧ ((m = [] ∧ p = none) ∨ ∃ b, p = some ⟨b, 0, none⟩ ∧ B ≤ b) := by
  rcases h.2 with ⟨h1, h2⟩ | ⟨g', cap, cur, rfl, hb, hg', hc, _⟩
  · have hm : m = [] := List.eq_nil_of_length_eq_zero h2
    subst hm
    exact ⟨none, 0, h1, .inl rfl, Nat.le_refl _, .inl ⟨rfl, rfl⟩⟩
  · exact ⟨some ⟨g', 0, none⟩, cap, rfl, .inr ⟨g', 0, rfl, h.bytes (Array.getElem?_eq_some_iff.1 hg').1, by omega⟩, hc, .inr ⟨g', rfl, hb⟩⟩

set_option maxHeartbeats 1500000 in
set_option maxRecDepth 100000 in
theorem own_any (cap0 cap1 : Nat) (p0 p1 : Option Addr) (l0 l1 : List Nat) (w : World) (hT : Tabs w) (ht0 : ∀ i, l0.getD i 0 < 256) (hb0 : Bs0 w p0 l0) (hc0 : l0.length ≤ cap0) (hz0 : p0 = none → cap0 = 0)
    (ht1 : ∀ i, l1.getD i 0 < 256) (hb1 : Bs0 w p1 l1) (hc1 : l1.length ≤ cap1) (hz1 : p1 = none → cap1 = 0) :
    Calls Tryd.prog 5 #[.slice p0 l0.length cap0, .slice p1 l1.length cap1] w fun e w' => e = .returned (.bool true) ∧ Below w.heap.size w w' := by
  have HT := Lib.hid hT
  have HB0 := Lib.hid hb0
  have HB1 := Lib.hid hb1
  have hw1 := hT.1
  obtain ⟨n0, en0⟩ : ∃ n, n = l0.length := ⟨_, rfl⟩
  obtain ⟨n1, en1⟩ : ∃ n, n = l1.length := ⟨_, rfl⟩
  rw [← en0] at hc0 ⊢
  rw [← en1] at hc1 ⊢
  have En0 := Lib.hid en0
  have En1 := Lib.hid en1
  have Hz0 := Lib.hid hz0
  have Hz1 := Lib.hid hz1
  clear hT hb0 hb1 en0 en1 hz0 hz1
  by_cases ha : n0 ≤ 3000
  · by_cases hb : n1 ≤ 3000
    · have ha' : ¬ (3000 : Int) < (n0 : Int) := by omega
      have hb' : ¬ (3000 : Int) < (n1 : Int) := by omega
      go_enter Tryd.func5, Tryd.ntmps5
      go_wp2_with fail
      refine (alive_c _ HT.out).mono ?_
      rintro e W0 ⟨rfl, hb0⟩
      have B0 := Lib.hid hb0
      clear hb0
      go_wp2_with fail
      generalize hW : World.alloc _ _ = W1
      have Z1 := Lib.hid (show RowAt W1 W0.heap.size (hasA false 0 stz (zs 64)) by rw [← hW]; clear hW; exact ⟨by go_simp, by go_simp, by go_simp⟩)
      have B1 := Lib.hid (show Below w.heap.size w W1 by rw [← hW]; exact below_alloc (below_alloc B0.out _) _)
      have S0 := Lib.hid (show W1.cell? ⟨W0.heap.size + 1, 0, none⟩ = some (.pointer none) by rw [← hW]; clear hW; go_simp)
      have S1 := Lib.hid (show W1.cell? ⟨W0.heap.size + 1, 1, none⟩ = some (.pointer (some ⟨W0.heap.size, 0, none⟩)) by rw [← hW]; clear hW; go_simp)
      have hsl : W0.heap.size + 1 < W1.heap.size := by rw [← hW]; simp
      clear hW
      generalize W0.heap.size + 1 = gs at *
      generalize W0.heap.size = gz at *
      go_loopw [25] (fun i wr => ∃ k : Nat, k ≤ 2 ∧ i = .int .i64 k ∧ Below W1.heap.size W1 wr) (fun i _ => 2 - (intOf i).toNat)
      case atStart => exact ⟨0, by decide, rfl, Below.refl _ _⟩
      case round =>
        obtain ⟨k, hk, rfl, hbel⟩ := hrel
        have hc0' : wr.cell? ⟨gs, 0, none⟩ = some (.pointer none) := by rw [hbel.cell hsl]; exact S0.out
        have hc1' : wr.cell? ⟨gs, 1, none⟩ = some (.pointer (some ⟨gz, 0, none⟩)) := by rw [hbel.cell hsl]; exact S1.out
        have ZR := Lib.hid (Z1.out.grow hbel)
        have Hbel := Lib.hid hbel
        have hzk := zk_size
        clear hbel
        by_cases h0 : k = 0
        · subst h0
          go_wp2_with fail
          refine (write_nil _ _).mono ?_
          rintro e w' ⟨rfl, hwE⟩
          rw [hwE]
          clear hwE w'
          go_wp2_with fail
          refine (hsum_nil _).mono ?_
          rintro e w5 ⟨rfl, hb5⟩
          have C5 := Lib.hid (Hbel.out.trans (hb5.mono Hbel.out.size))
          have hlen := Lib.hid (len_nil w5)
          clear hb5
          go_wp2_with fail
          refine (hlen.out).mono ?_
          rintro e w' ⟨rfl, hwE⟩
          rw [hwE]
          clear hwE w'
          go_wp2_with fail
          go_roundw
          case rel => exact ⟨1, by decide, rfl, C5.out⟩
          case measure => simp [intOf]
        · by_cases h1 : k = 1
          · subst h1
            go_wp2_with fail
            refine (write_zero gz _ _ ZR.out).mono ?_
            rintro e w' ⟨rfl, hwE⟩
            rw [hwE]
            clear hwE w'
            go_wp2_with fail
            refine (hsum_zero gz _ ZR.out).mono ?_
            rintro e w5 ⟨rfl, hb5⟩
            have C5 := Lib.hid (Hbel.out.trans (hb5.mono Hbel.out.size))
            have hlen := Lib.hid (len_zero gz w5 (ZR.out.grow hb5))
            clear hb5
            go_wp2_with fail
            refine (hlen.out).mono ?_
            rintro e w' ⟨rfl, hwE⟩
            rw [hwE]
            clear hwE w'
            go_wp2_with fail
            go_roundw
            case rel => exact ⟨2, by decide, rfl, C5.out⟩
            case measure => simp [intOf]
          · obtain rfl : k = 2 := by omega
            have B2 := Lib.hid (B1.out.trans (Hbel.out.mono B1.out.size))
            clear hc0' hc1' ZR Hbel hzk
            go_wp2_with fail
            refine (new_c _ (HT.out.grow B2.out)).mono ?_
            rintro e W3 ⟨g, rfl, hb3, hg3, hG3⟩
            have B3 := Lib.hid (B2.out.trans (hb3.mono B2.out.size))
            have G3 := Lib.hid hG3
            have hgw : w.heap.size ≤ g := by have := B2.out.size; omega
            obtain ⟨BB, eBB⟩ : ∃ y, y = W3.heap.size := ⟨_, rfl⟩
            have hgB : g < BB := by rw [eBB]; exact hG3.2.2
            have hBB : BB ≤ W3.heap.size := by omega
            have hwB : w.heap.size ≤ BB := by omega
            clear hb3 hg3 hG3 eBB B2
            go_wp2_with (at_builtin; refine wpList_wanted (wanted_none rfl) (app_B _ _ rfl rfl (ownB_nil W3 BB) p0 n0 cap0 rfl En0.out (HB0.out.grow B3.out) Hz0.out (by rw [← En0.out]; simp; omega) hBB ?_))
            intro v4 w4 hown4 hgrow4
            have G4 := Lib.hid (grown_row G3.out (World.ownsRow_nil W3 BB 5 1) hgB hgrow4)
            have B4 := Lib.hid (show Below w.heap.size w w4 from B3.out.grown hgrow4 B3.out.size fun x hx => by simp [Value.ownBlock] at hx)
            have hsz4 : BB ≤ w4.heap.size := by have := hgrow4.size; omega
            obtain ⟨p4, c4, ev4, hp4, hc4, hk4⟩ := hown4.readG hgB
            have HO4 := Lib.hid hown4
            have KW := Lib.hid (write_c g c4 p4 [] l0 w4 (HT.out.grow B4.out) (by omega) G4.out (by rw [← En0.out]; simp; omega) bts_0 ht0 hp4 hc4)
            subst ev4
            rw [← En0.out] at KW HO4 ⊢
            clear hown4 hgrow4 hp4 G3 B3
            go_wp2_with fail
            refine KW.out.mono ?_
            rintro e w' ⟨rfl, o5, d5, rfl⟩
            rw [List.nil_append]
            have G5 := Lib.hid ((G4.out.set (hshA l0)).grow (below_more (Below.refl _ _) o5 d5))
            have O5 := Lib.hid (show OwnB ((w4.setRow g (hshA l0)).plus o5 d5) BB (.slice p4 n0 c4) l0 from OwnB.below (owns_other HO4.out hgB (hshA l0)) (below_more (Below.refl _ _) o5 d5))
            have B5 := Lib.hid (below_more (below_setRow B4.out hgw (hshA l0)) o5 d5)
            generalize (w4.setRow g (hshA l0)).plus o5 d5 = W5 at *
            clear KW HO4 G4 B4 hsz4 hc4
            go_wp2_with fail
            go_loopw [55] (fun i wr => ∃ k : Nat, k ≤ n0 ∧ i = .int .i64 k ∧ (∀ b, p4 = some ⟨b, 0, none⟩ → IsB wr b n0) ∧ RowAt wr g (hshA l0) ∧ Below w.heap.size w wr) (fun i _ => n0 - (intOf i).toNat)
            case atStart => exact ⟨0, Nat.zero_le _, rfl, fun b hb => by have h := O5.out; rw [hb] at h; have h2 := h.isB; rw [← En0.out] at h2; exact h2, G5.out, B5.out⟩
            case round =>
              obtain ⟨k, hk, rfl, hisb, hrow, hbel⟩ := hrel
              have hkk : (0 : Int) ≤ (k : Int) := by omega
              have Hrow := Lib.hid hrow
              have Hbel := Lib.hid hbel
              clear hrow hbel
              by_cases hkn : k < n0
              · have hkn' : (k : Int) < (n0 : Int) := by omega
                rcases hk4 with ⟨h1, _⟩ | ⟨b, rfl, hbB⟩
                · exfalso
                  have := En0.out
                  rw [h1] at this
                  simp at this; omega
                · have hIs := hisb b rfl
                  have HIs := Lib.hid hIs
                  obtain ⟨x, hx⟩ := hIs.cell k hkn
                  have hfx := hIs.frozen k
                  clear hIs hisb
                  go_wp2_with fail
                  go_roundw
                  case rel => exact ⟨k + 1, by omega, by go_num, fun b' hb' => by cases hb'; exact HIs.out.set _ _, RowAt.cellOther Hrow.out (by omega), Hbel.out.setCell (p := ⟨_, _, none⟩) (by show w.heap.size ≤ b; omega) _⟩
                  case measure => simp [intOf]; omega
              · have hkn' : ¬ (k : Int) < (n0 : Int) := by omega
                have hl0n : l0.length < 1152921504606846976 := by rw [← En0.out]; omega
                clear hisb
                go_wp2_with fail
                refine (hsum_c g l0 _ (HT.out.grow Hbel.out) Hrow.out hl0n ht0).mono ?_
                rintro e W6 ⟨rfl, hb6⟩
                have G6 := Lib.hid (Hrow.out.grow hb6)
                have B6 := Lib.hid (Hbel.out.trans (hb6.mono Hbel.out.size))
                clear hb6
                generalize eD0 : dig l0 = D0 at *
                have HD0 := Lib.hid eD0
                clear eD0
                have KW2 := Lib.hid (write_c g cap1 p1 l0 l1 (W6.alloc (.cells (keA D0) 25)) (HT.out.grow (below_alloc B6.out _)) (by omega) (G6.out.grow (below_alloc (Below.refl _ _) _)) (by rw [← En0.out, ← En1.out]; omega) ht0 ht1 ((HB1.out).new (below_alloc B6.out _) hgw) (by rw [← En1.out]; exact hc1))
                rw [← En1.out] at KW2
                go_wp2_with fail
                refine KW2.out.mono ?_
                rintro e w' ⟨rfl, o7, d7, rfl⟩
                have G7 := Lib.hid (((G6.out.grow (below_alloc (Below.refl _ _) (.cells (keA D0) 25))).set (hshA (l0 ++ l1))).grow (below_more (Below.refl _ _) o7 d7))
                have X7 := Lib.hid (((RowAt.of (block_new W6 (.cells (keA D0) 25))).other (show W6.heap.size ≠ g by have := G6.out.2.2; omega) (hshA (l0 ++ l1))).grow (below_more (Below.refl _ _) o7 d7))
                have B7 := Lib.hid (below_more (below_setRow (below_alloc B6.out (.cells (keA D0) 25)) hgw (hshA (l0 ++ l1))) o7 d7)
                generalize ((W6.alloc (.cells (keA D0) 25)).setRow g (hshA (l0 ++ l1))).plus o7 d7 = W7 at *
                generalize W6.heap.size = x at *
                clear KW2 G6 B6 Hrow Hbel
                obtain ⟨x1, x2, x3⟩ := X7.out
                have hbts := bts_app ht0 ht1
                have hl01 : (l0 ++ l1).length ≤ 6000 := by rw [List.length_append, ← En0.out, ← En1.out]; omega
                obtain ⟨D1, eD1⟩ : ∃ D, D = dig (l0 ++ l1) := ⟨_, rfl⟩
                have KS := Lib.hid (show ∀ o d, Calls Tryd.prog 8 #[.slice p0 n0 cap0] (W7.plus o d) fun e w' => e = .returned (.agg (keA D0)) ∧ Below (W7.plus o d).heap.size (W7.plus o d) w' from fun o d => by
                  have h := sum_c cap0 p0 l0 (W7.plus o d) (HT.out.grow (below_more B7.out o d)) hl0n ht0 (HB0.out.grow (below_more B7.out o d)) (by rw [← En0.out]; exact hc0)
                  rw [← En0.out, HD0.out] at h; exact h)
                have KH := Lib.hid (show ∀ o d, Calls Tryd.prog 13 #[.pointer (some ⟨g, 0, none⟩)] (W7.plus o d) fun e w' => e = .returned (.agg (keA D1)) ∧ Below (W7.plus o d).heap.size (W7.plus o d) w' from fun o d => by
                  have h := hsum_c g (l0 ++ l1) (W7.plus o d) (HT.out.grow (below_more B7.out o d)) (G7.out.grow (below_more (Below.refl _ _) o d)) (by omega) hbts
                  rw [← eD1] at h; exact h)
                have HD1 := Lib.hid eD1
                have HL01 := Lib.hid hl01
                clear eD1 hl01 hl0n
                go_wp2_with fail
                refine wp_region_pickT W7 [0, 1, 2, 3, 4, 5, 6, 7, 9] [false, false, false, false, false, false, false, false, true] [8, 10, 11, 12, 13, 14] (by kernel_rfl) (by kernel_rfl) (by intro c a d v w h; cases d <;> exact h) ((Below.refl _ _).drew) ?_
                simp only [pick, List.getElem?_cons_succ, List.getElem?_cons_zero]
                refine wpHoldF_val (wanted_none rfl) (by intro K o d hK; go_simp; exact hK _ (Below.refl _ _)) ?_
                refine wpHoldF_val (wanted_none rfl) (by intro K o d hK; go_simp; exact hK _ (Below.refl _ _)) ?_
                refine wpHoldF_call (v := .agg (keA D0)) (wanted_none rfl) (by intro K o d hK; go_simp; refine (KS.out o d).mono ?_; rintro e w' ⟨rfl, hbw⟩; exact ⟨_, rfl, hK _ hbw⟩) ?_
                refine wpHoldF_val (wanted_none rfl) (by intro K o d hK; go_simp; exact hK _ (Below.refl _ _)) ?_
                refine wpHoldF_val (wanted_none rfl) (by intro K o d hK; go_simp; exact hK _ (Below.refl _ _)) ?_
                refine wpHoldF_val (wanted_some rfl rfl rfl) (by intro K o d hK; go_simp; exact hK _ (Below.refl _ _)) ?_
                refine wpHoldF_call (v := .agg (keA D1)) (wanted_some rfl rfl rfl) (by intro K o d hK; go_simp; refine (KH.out o d).mono ?_; rintro e w' ⟨rfl, hbw⟩; exact ⟨_, rfl, hK _ hbw⟩) ?_
                refine wpHoldF_val (wanted_some rfl rfl rfl) (by intro K o d hK; go_simp; exact hK _ (Below.refl _ _)) ?_
                refine wpHoldF_late (wanted_some rfl rfl rfl) (fun w => by go_simp; rfl) ?_
                refine wpHoldF_nil ?_
                intro w8 hb8
                have B8 := Lib.hid (B7.out.trans (hb8.mono B7.out.size))
                clear hb8
                refine wpList_wanted (wanted_some rfl rfl rfl) (app_B (v := .slice none 0 0) _ _ rfl rfl (ownB_nil w8 w8.heap.size) p0 n0 cap0 rfl En0.out (HB0.out.grow B8.out) Hz0.out (by rw [← En0.out]; simp; omega) (Nat.le_refl _) ?_)
                intro v9 w9 hown9 hgrow9
                rw [List.nil_append] at hown9
                have B9 := Lib.hid (show Below w.heap.size w w9 from B8.out.grown hgrow9 B8.out.size fun x hx => by simp [Value.ownBlock] at hx)
                have hs9 : w8.heap.size ≤ w9.heap.size := hgrow9.size
                refine wpList_wanted (wanted_some rfl rfl rfl) (app_B (v := v9) _ _ rfl rfl hown9 p1 n1 cap1 rfl En1.out (HB1.out.grow B9.out) Hz1.out (by rw [← En0.out, ← En1.out]; omega) hs9 ?_)
                intro v10 w10 hown10 hgrow10
                have hw8 := B8.out.size
                have B10 := Lib.hid (show Below w.heap.size w w10 from B9.out.grown hgrow10 B9.out.size fun x hx => by have := (World.ownsRow.lt hown9 x hx).1; omega)
                obtain ⟨p10, c10, ev10, hp10, hc10, _⟩ := hown10.read
                have KF := Lib.hid (sum_c c10 p10 (l0 ++ l1) w10 (HT.out.grow B10.out) (by have := HL01.out; omega) hbts hp10 hc10)
                subst ev10
                obtain ⟨L, eL⟩ : ∃ L, L = (l0 ++ l1).length := ⟨_, rfl⟩
                rw [← eL, ← HD1.out] at KF
                rw [← eL]
                clear eL hown9 hgrow9 hown10 hgrow10 hp10 hc10
                go_wp2_with fail
                refine KF.out.mono ?_
                rintro e w11 ⟨rfl, hb11⟩
                have B11 := Lib.hid (B10.out.trans (hb11.mono B10.out.size))
                clear hb11
                go_wp2_with fail
                go_ret
                exact ⟨rfl, B11.out⟩
    · have ha' : ¬ (3000 : Int) < (n0 : Int) := by omega
      have hb' : (3000 : Int) < (n1 : Int) := by omega
      go_enter Tryd.func5, Tryd.ntmps5
      go_wp2_with fail
      refine (alive_c _ HT.out).mono ?_
      rintro e W0 ⟨rfl, hb0⟩
      go_wp2_with fail
      go_ret
      exact ⟨rfl, hb0⟩
  · have ha' : (3000 : Int) < (n0 : Int) := by omega
    go_enter Tryd.func5, Tryd.ntmps5
    go_wp2_with fail
    refine (alive_c _ HT.out).mono ?_
    rintro e W0 ⟨rfl, hb0⟩
    go_wp2_with fail
    go_ret
    exact ⟨rfl, hb0⟩
end Go.Proofs.YtfkgnafbfdpgiaaDoor
