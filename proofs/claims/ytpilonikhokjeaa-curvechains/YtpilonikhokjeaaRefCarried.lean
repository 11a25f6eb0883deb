/-
  The reference's carried: digits that may be great, as 32 digits below 256 of a number that leaves the same.
-/
import Derived.Test.YtpilonikhokjeaaRefFold
import Derived.Test.YtpilonikhokjeaaRowed
namespace Go.Proofs.Ytpilonikhokjeaa
open Go.RowKit Go.Shelf Go.Hold

set_option maxHeartbeats 4000000 in
set_option maxRecDepth 100000 in
theorem carried_N (l : List Nat) (g cap : Nat) (w : World) (h32 : 32 ≤ l.length) (h64 : l.length ≤ 64) (hm : Most 4194304 l) (h : Own w 0 (.slice (some ⟨g, 0, none⟩) l.length cap) l) :
    Calls Try.prog 48 #[.slice (some ⟨g, 0, none⟩) l.length cap] w fun e w' =>
      ∃ n, e = .returned (kv n) ∧ n < 256 ^ 32 ∧ n % Fp.P = ofBytes l % Fp.P ∧ Below w.heap.size w w' := by
  obtain ⟨i0, hi, hz0, hz1, hz2⟩ := info_parts info_int
  have H := Lib.hid h
  have Hm := Lib.hid hm
  have H32 := Lib.hid h32
  have H64 := Lib.hid h64
  obtain ⟨len, elen⟩ : ∃ x, x = l.length := ⟨_, rfl⟩
  rw [← elen] at h64 ⊢
  have Helen := Lib.hid elen
  clear h hm elen h32
  have hz : #[.int .u8 0, .int .u8 0, .int .u8 0, .int .u8 0, .int .u8 0, .int .u8 0, .int .u8 0, .int .u8 0, .int .u8 0, .int .u8 0, .int .u8 0, .int .u8 0, .int .u8 0, .int .u8 0, .int .u8 0, .int .u8 0, .int .u8 0, .int .u8 0, .int .u8 0, .int .u8 0, .int .u8 0, .int .u8 0, .int .u8 0, .int .u8 0, .int .u8 0, .int .u8 0, .int .u8 0, .int .u8 0, .int .u8 0, .int .u8 0, .int .u8 0, .int .u8 0] = keyA 0 := keyA_small 0 (by decide)
  go_enter Try.func48, Try.ntmps48
  go_wp2_with (at_builtin; refine wpList_append_own _ rfl _ _ 62 rfl (w.heap.size + 1) 3 i0 (.int .i64 0) 1 8 Try.underlying62 hi hz0 hz1 hz2 rfl (by decide) _ 0 [] rfl ?c0 ⟨g, 0, none⟩ len cap (ints l) rfl (by rw [ints_length, Helen.out, Nat.mul_one]) ?c1 (ints_one l) ?c3 ?c4 ?c5 ?_)
  case c0 =>
    have h := World.ownsRow_lit (base := w.heap.size + 1) (e := 3) (size := 1) (w.alloc (.cells (keyA 0) 23)) #[] 0 (by simp) (by decide) rfl
    rw [show (w.alloc (.cells (keyA 0) 23)).heap.size = w.heap.size + 1 by simp] at h
    exact h
  case c1 =>
    intro j u hj
    exact World.ownsRow.cells ((World.ownsRow.alloc H.out _).alloc _) rfl j u hj
  case c3 => unfold maxLen; omega
  case c4 => omega
  case c5 => simp
  intro v' w1 hown' hgrow _
  have Ho : Hid (Own w1 (w.heap.size + 1) v' (it l 0)) := by
    show Own _ _ _ l
    unfold Own
    rw [← Helen.out]
    simpa using hown'
  have Hb : Hid (Below (w.heap.size + 1) (w.alloc (.cells (keyA 0) 23)) w1) := by
    refine ((Below.refl _ _).alloc (by simp) _).grown hgrow (by simp) ?_
    intro k hk
    have e : w.heap.size + 1 = k := by simpa [Value.ownBlock, Act.eval] using hk
    omega
  clear hown' hgrow
  go_wp2_with fail
  go_loopw [3, 4] (fun d r wr => ∃ k : Nat, k ≤ 4 ∧ r = .int .i64 k ∧ Own wr (w.heap.size + 1) d (it l k) ∧ Below (w.heap.size + 1) (w.alloc (.cells (keyA 0) 23)) wr) (fun _ r _ => 4 - (intOf r).toNat)
  case atStart => exact ⟨0, by decide, rfl, Ho.out, Hb.out⟩
  case round =>
    clear Ho Hb
    obtain ⟨k, hk, rfl, hown, hbel⟩ := hrel
    obtain ⟨W0, rfl⟩ : ∃ x, x = wr := ⟨_, rfl⟩
    have hsz := hbel.size
    have hsz : w.heap.size + 1 ≤ W0.heap.size := by simpa using hsz
    obtain ⟨hL1, hL2⟩ := it_length l H32.out H64.out k
    have HM := Lib.hid (it_most l _ (by decide) Hm.out H32.out H64.out k)
    obtain ⟨gd, capd, rfl, hgd1, hgd2, _⟩ := hown.addr (by omega)
    obtain ⟨D, eD⟩ : ∃ D, D = it l k := ⟨_, rfl⟩
    rw [← eD] at hL1 hL2 HM hown ⊢
    obtain ⟨dl, edl⟩ : ∃ x, x = D.length := ⟨_, rfl⟩
    rw [← edl] at hL1 hL2 hown ⊢
    have HeD := Lib.hid eD
    have Hedl := Lib.hid edl
    have Hown := Lib.hid hown
    have Hbel := Lib.hid hbel
    clear hown hbel eD edl
    by_cases hk4 : k < 4
    · go_wp2_with (at_make; refine wpList_make_full _ rfl _ _ 62 rfl W0.heap.size 3 i0 (.int .i64 0) 1 Try.underlying62 hi hz0 hz1 .i64 .i64 32 32 32 rfl rfl rfl rfl (by rw [hz2]; decide) (by decide) (Nat.le_refl _) ?_)
      intro w2 hown2 hgrow2
      have Hlow : Hid (Own w2 W0.heap.size (.slice (some ⟨W0.heap.size, 0, none⟩) 32 32) (List.replicate 32 0)) := by
        show Own _ _ _ _
        unfold Own
        rw [ints_zeros, List.length_replicate]
        rw [toList_madeCells_one] at hown2
        exact hown2
      have Hb2 : Hid (Below W0.heap.size W0 w2) := (Below.refl _ _).grown hgrow2 (Nat.le_refl _) (fun k hk => by cases hk)
      clear hown2 hgrow2
      go_wp2_with fail
      go_loopw [6] (fun i wi => ∃ (j : Nat) (m : List Nat), j ≤ dl ∧ i = .int .i64 j ∧ m.length = 32 ∧ ofBytes m = fold (D.take j) ∧ (∀ x, m.getD x 0 ≤ lim j x) ∧
        Own wi W0.heap.size (.slice (some ⟨W0.heap.size, 0, none⟩) 32 32) m ∧ Below W0.heap.size W0 wi) (fun i _ => dl - (intOf i).toNat)
      case atStart => exact ⟨0, _, Nat.zero_le _, rfl, by simp, by rw [zeros_val, List.take_zero, fold_nil], low_start, Hlow.out, Hb2.out⟩
      case round =>
        clear Hlow Hb2
        obtain ⟨j, m, hj, rfl, hml, hmf, hmb, hmo, hmw⟩ := hrel
        have hszi := hmw.size
        have Hmf := Lib.hid hmf
        have Hmb := Lib.hid hmb
        have Hmo := Lib.hid hmo
        have Hmw := Lib.hid hmw
        have Hml := Lib.hid hml
        have hlt := (Own.lt hmo).2
        clear hmf hmb hmo hmw hml
        by_cases hjl : j < dl
        · have hjl' : j < D.length := by rw [← Hedl.out]; exact hjl
          obtain ⟨x, ex⟩ : ∃ x, x = D.getD j 0 := ⟨_, rfl⟩
          have hx : x ≤ 4194304 := by rw [ex]; exact HM.out j
          have hcx : wr.cell? ⟨gd, j, none⟩ = some (.int .i64 (x : Int)) := by
            rw [Hmw.out.cell hgd2, Own.cellOf Hown.out Hedl.out.symm j hjl, ex]
          have hgdi : gd < wr.heap.size := by omega
          by_cases hj32 : j < 32
          · obtain ⟨y, ey⟩ : ∃ y, y = m.getD j 0 := ⟨_, rfl⟩
            have hcy : wr.cell? ⟨W0.heap.size, j, none⟩ = some (.int .i64 (y : Int)) := by rw [Own.cellOf Hmo.out Hml.out j hj32, ey]
            have hfy := Own.free Hmo.out Hml.out j
            have hy : y ≤ 163577856 := by rw [ey]; exact Nat.le_trans (Hmb.out j) (lim_most j j)
            obtain ⟨s, es⟩ : ∃ s, s = y + x := ⟨_, rfl⟩
            have hs : IntKind.i64.wrap ((y : Int) + (x : Int)) = (s : Int) := by rw [IntWalk.i64_in _ (by omega)]; omega
            have R := low_step hjl' hj32 (by rw [← ex]; exact hx) Hml.out Hmf.out Hmb.out
            rw [← ey, ← ex, ← es] at R
            have HR := Lib.hid R
            clear R es ey ex hjl' Hmb Hmf
            go_wp2_with fail
            refine wp_region_lays wr 12 [] (by kernel_rfl) (by kernel_rfl) ((Below.refl _ _).drew) ?_
            simp only [List.take_succ_cons, List.take_zero, List.drop_succ_cons, List.drop_zero, List.length_nil, Nat.reduceAdd]
            iterate 12 (refine wpHoldB_val (wanted_none rfl) (by intro K o d hK; go_simp; exact hK _ (Below.refl _ _)) ?_)
            refine wpHoldB_nil ?_
            intro w3 hb3 _
            obtain ⟨o3, d3, rfl⟩ := below_plus hb3
            clear hb3
            go_wp2_with fail
            go_roundw
            case rel => exact ⟨j + 1, _, by omega, by go_num, HR.out.1, HR.out.2.1, HR.out.2.2, Own.stores Hmo.out Hml.out _ _ _ _, below_store Hmw.out hszi _ _ _ (Nat.le_refl _) _ _⟩
            case measure => simp [intOf]; omega
          · obtain ⟨q, eq⟩ : ∃ q, q = j - 32 := ⟨_, rfl⟩
            have hq32 : q < 32 := by omega
            obtain ⟨y, ey⟩ : ∃ y, y = m.getD q 0 := ⟨_, rfl⟩
            have hcy : wr.cell? ⟨W0.heap.size, q, none⟩ = some (.int .i64 (y : Int)) := by rw [Own.cellOf Hmo.out Hml.out q hq32, ey]
            have hfy := Own.free Hmo.out Hml.out q
            have hy : y ≤ 163577856 := by rw [ey]; exact Nat.le_trans (Hmb.out q) (lim_most j q)
            obtain ⟨p, ep⟩ : ∃ p, p = 38 * x := ⟨_, rfl⟩
            obtain ⟨s, es⟩ : ∃ s, s = y + p := ⟨_, rfl⟩
            have hp : IntKind.i64.wrap (38 * (x : Int)) = (p : Int) := by rw [IntWalk.i64_in _ (by omega)]; omega
            have hs : IntKind.i64.wrap ((y : Int) + (p : Int)) = (s : Int) := by rw [IntWalk.i64_in _ (by omega)]; omega
            have hq1 : IntKind.i64.wrap (q : Int) = (q : Int) := IntWalk.i64_in _ (by omega)
            have hq2 : (j : Int) - 32 = (q : Int) := by omega
            have hq3 : (0 : Int) ≤ (q : Int) := by omega
            have hq4 : (q : Int) < 32 := by omega
            have R := high_step hjl' (by omega) (by omega) (by rw [← ex]; exact hx) Hml.out Hmf.out Hmb.out
            rw [← eq, ← ey, ← ex, ← ep, ← es] at R
            have HR := Lib.hid R
            clear R es ey ex ep eq hjl' Hmb Hmf
            go_wp2_with fail
            refine wp_region_lays wr 15 [] (by kernel_rfl) (by kernel_rfl) ((Below.refl _ _).drew) ?_
            simp only [List.take_succ_cons, List.take_zero, List.drop_succ_cons, List.drop_zero, List.length_nil, Nat.reduceAdd]
            iterate 15 (refine wpHoldB_val (wanted_none rfl) (by intro K o d hK; go_simp; exact hK _ (Below.refl _ _)) ?_)
            refine wpHoldB_nil ?_
            intro w3 hb3 _
            obtain ⟨o3, d3, rfl⟩ := below_plus hb3
            clear hb3
            go_wp2_with fail
            go_roundw
            case rel => exact ⟨j + 1, _, by omega, by go_num, HR.out.1, HR.out.2.1, HR.out.2.2, Own.stores Hmo.out Hml.out _ _ _ _, below_store Hmw.out hszi _ _ _ (Nat.le_refl _) _ _⟩
            case measure => simp [intOf]; omega
        · obtain rfl : j = dl := by omega
          have Hf : Hid (ofBytes m = fold D) := by
            show _ = _
            rw [Hmf.out, Hedl.out, List.take_length]
          have HC := Lib.hid (spread32 m W0.heap.size 32 wr Hml.out (fun i => Nat.le_trans (Hmb.out i) (Nat.le_trans (lim_most _ _) (by decide))) hlt (Hmo.out.mono (Nat.zero_le _)))
          clear Hmf Hmb Hmo
          go_wp2_with fail
          refine HC.out.mono ?_
          rintro e w4 ⟨v4, rfl, hown4, hbel4⟩
          have Hn : Hid (Own w4 (w.heap.size + 1) v4 (it l (k + 1))) := by
            show Own _ _ _ (nx (it l k))
            rw [← HeD.out]
            unfold nx
            rw [← Hf.out]
            exact hown4.mono (by omega)
          have Hbn : Hid (Below (w.heap.size + 1) (w.alloc (.cells (keyA 0) 23)) w4) := (Hbel.out.trans (Hmw.out.mono hsz)).trans (hbel4.mono (by omega))
          clear hown4 hbel4 HC
          go_wp2_with fail
          go_roundw
          case rel => exact ⟨k + 1, by omega, by go_num, Hn.out, Hbn.out⟩
          case measure => simp [intOf]; omega
    · obtain rfl : k = 4 := by omega
      obtain ⟨n, hn, hnp, hit⟩ := four l Hm.out H32.out H64.out
      have hdl : 32 < dl := by
        rw [Hedl.out, HeD.out, hit]; simp [dg_length]
      have Hdig : Hid (∀ i, i < 32 → W0.cell? ⟨gd, i, none⟩ = some (.int .i64 (bt n i))) := by
        intro i hi'
        have e : D = dg n 32 ++ [0] := HeD.out.trans hit
        rw [Own.cellOf Hown.out Hedl.out.symm i (by omega)]
        rw [e, List.getD_eq_getElem?_getD, List.getElem?_append_left (by rw [dg_length]; exact hi'), dg_get _ _ _ hi']
        rfl
      have HR : Hid (RowAt W0 w.heap.size (keyA 0)) := (RowAt.of (block_new w (.cells (keyA 0) 23))).grow (Hbel.out.mono (by simp))
      have HBW : Hid (Below w.heap.size w W0) := (below_alloc (Below.refl _ _) _).trans (Hbel.out.mono (by omega))
      have Hn := Lib.hid hn
      have Hnp := Lib.hid hnp
      clear hn hnp hit Hown Hbel HM HeD
      go_wp2_with fail
      go_loopw [8] (fun i wi => ∃ j : Nat, j ≤ 32 ∧ i = .int .i64 j ∧ wi = W0.alloc (.cells (mixA n 0 j) 23)) (fun i _ => 32 - (intOf i).toNat)
      case atStart => exact ⟨0, by decide, rfl, by rw [mixA_0]⟩
      case round =>
        obtain ⟨j, hj, rfl, rfl⟩ := hrel
        by_cases hj32 : j < 32
        · have hcx := Hdig.out j hj32
          have hu : IntKind.u8.wrap (bt n j) = bt n j := IntWalk.u8_in _ (by have := bt_byte n j; unfold Byte at this; omega)
          have hset := mixA_set n 0 j hj32
          have hj0 : (0 : Int) ≤ (j : Int) := by omega
          have hj1 : (j : Int) < 32 := by omega
          have hj2 : (j : Int) < (dl : Int) := by omega
          go_wp2_with fail
          go_roundw
          case rel => exact ⟨j + 1, by omega, by go_num, rfl⟩
          case measure => simp [intOf]; omega
        · obtain rfl : j = 32 := by omega
          rw [mixA_32]
          obtain ⟨r1, r2, r3⟩ := HR.out
          go_wp2_with fail
          refine bodyPost_ret (v := kv n) (results_key Try.results48 _ _ _ rfl (by go_simp; exact (HR.out.set (keyA n)).1) (by go_simp; exact (HR.out.set (keyA n)).2.1)) rfl ⟨n, rfl, Hn.out, Hnp.out, ?_⟩
          exact below_alloc (below_setRow HBW.out (Nat.le_refl _) _) _
end Go.Proofs.Ytpilonikhokjeaa
