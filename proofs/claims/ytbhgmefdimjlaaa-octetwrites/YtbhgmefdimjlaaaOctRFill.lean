/-
  The reference of layer 7: noughts behind others.
-/
import Derived.Test.YtbhgmefdimjlaaaOctRNum
namespace Go.Proofs.Ytbhgmefdimjlaaa
open Go.RowKit Go.Hold Go.Sh Go.Oc

set_option maxHeartbeats 1000000 in
set_option maxRecDepth 100000 in
theorem rfilW_c (v : Value) (room : Nat) (s : Ws) (to : Int) (w : World) (hv : MV w v s.2) (hroom : room ≤ 65536) (hle : s.2.length ≤ room) :
    Calls Try.prog 15 #[.agg (mrow v room s.1), .int .i64 to] w (MRet w v room (filS room s to)) := by
  obtain ⟨er, l⟩ := s
  simp only at hv hle
  have HMV := Lib.hid hv
  have HR := Lib.hid (m0row w (mrow v room er) #[.slice none 0 0, .int .i64 0, .int .i64 0] 28)
  have HB0 := Lib.hid (below_alloc (below_alloc (Below.refl w.heap.size w) (.cells (mrow v room er) 28)) (.cells #[.slice none 0 0, .int .i64 0, .int .i64 0] 28))
  by_cases her : er = 0
  · subst her
    have hs : filS room (0, l) to = if to < (l.length : Int) then (2, l) else if (room : Int) < to then (8, l) else layS room l (zs (to.toNat - l.length)) := by unfold filS; rw [if_neg (by simp)]
    rw [hs]
    by_cases h1 : to < (l.length : Int)
    · rw [if_pos h1]
      obtain ⟨⟨p, c, rfl, _⟩, _⟩ := hv
      generalize l.length = k at *
      clear hs hroom hle
      go_enter Try.func15, Try.ntmps15
      go_wp2_with fail
      refine (rfail_c p k c room 0 2 _).mono ?_
      rintro e w2 ⟨rfl, hb2⟩
      have HB := Lib.hid (HB0.out.trans (hb2.mono HB0.out.size))
      have HV := Lib.hid (MV.put (w := w2) (c := mrow (.slice p k c) room 2) (g := w.heap.size + 1) ((HMV.out.grow HB0.out).grow hb2) (NewB.refl _ _) (fun k hk => by have := HMV.out.2 k hk; omega) (by have := hb2.size; rw [World.size_alloc, World.size_alloc] at this; omega))
      obtain ⟨a1, a2, a3⟩ := (HR.out.2).grow hb2
      clear hb2
      go_wp2_with fail
      refine bodyPost_ret (v := .tuple #[.agg (mrow (.slice p k c) room 2), .int .i64 2]) (results_mw Try.results15 _ _ _ _ _ _ (w.heap.size + 1) rfl ?_ ?_ rfl) rfl ?_
      · go_simp
      · go_simp
      · exact ⟨_, rfl, HV.out, NewB.refl _ _, below_setRow HB.out (by omega) _⟩
    · rw [if_neg h1]
      by_cases h8 : (room : Int) < to
      · rw [if_pos h8]
        obtain ⟨⟨p, c, rfl, _⟩, _⟩ := hv
        generalize l.length = k at *
        clear hs hroom hle
        go_enter Try.func15, Try.ntmps15
        go_wp2_with fail
        refine (rfail_c p k c room 0 8 _).mono ?_
        rintro e w2 ⟨rfl, hb2⟩
        have HB := Lib.hid (HB0.out.trans (hb2.mono HB0.out.size))
        have HV := Lib.hid (MV.put (w := w2) (c := mrow (.slice p k c) room 8) (g := w.heap.size + 1) ((HMV.out.grow HB0.out).grow hb2) (NewB.refl _ _) (fun k hk => by have := HMV.out.2 k hk; omega) (by have := hb2.size; rw [World.size_alloc, World.size_alloc] at this; omega))
        obtain ⟨a1, a2, a3⟩ := (HR.out.2).grow hb2
        clear hb2
        go_wp2_with fail
        refine bodyPost_ret (v := .tuple #[.agg (mrow (.slice p k c) room 8), .int .i64 8]) (results_mw Try.results15 _ _ _ _ _ _ (w.heap.size + 1) rfl ?_ ?_ rfl) rfl ?_
        · go_simp
        · go_simp
        · exact ⟨_, rfl, HV.out, NewB.refl _ _, below_setRow HB.out (by omega) _⟩
      · rw [if_neg h8]
        obtain ⟨t, rfl⟩ : ∃ t : Nat, to = (t : Int) := ⟨to.toNat, by omega⟩
        rw [Int.toNat_natCast]
        obtain ⟨d, ed⟩ : ∃ d, d = t - l.length := ⟨_, rfl⟩
        have k1 : IntKind.i64.wrap ((t : Int) - (l.length : Int)) = (d : Int) := by rw [IntWalk.i64_in _ (by omega)]; omega
        have hmk := fun W => run_mkS W d (by omega)
        rw [← ed]
        have HZ := Lib.hid (show (zs d).length ≤ 8000000 by rw [zs_length]; omega)
        have KL := Lib.hid (fun (v u : Value) (W : World) (h1 : MV W v l) (h2 : SlV W u (zs d)) => rlay_c v u room l (zs d) W h1 h2 hroom hle HZ.out)
        generalize hS : layS room l (zs d) = S at *
        obtain ⟨er1, L⟩ := S
        simp only at KL
        obtain ⟨⟨p, c, rfl, _⟩, _⟩ := hv
        have hkc : l.length ≤ 65536 := by omega
        generalize l.length = k at *
        clear hs hroom hle hS ed
        go_enter Try.func15, Try.ntmps15
        go_wp2_with fail
        have R0 := Lib.hid HR.out.1
        have R1 := Lib.hid HR.out.2
        generalize hW : World.alloc _ _ = w0 at *
        have HB0 := Lib.hid (show Below w.heap.size w w0 by rw [← hW]; exact below_alloc (below_alloc (Below.refl _ _) _) _)
        have hgs : w.heap.size + 1 < w0.heap.size := by rw [← hW]; simp
        have HM0 := Lib.hid (HMV.out.grow HB0.out)
        clear hW
        obtain ⟨wq, rfl⟩ : ∃ x, x = w := ⟨_, rfl⟩
        refine wp_region_grows w0 10 (fun w w' => Below w.heap.size w w') (listR [fixV (.agg (mrow (.slice p k c) room 0)), fixV (.int .i64 (t : Int)), fixV (.pointer (some ⟨wq.heap.size, 0, none⟩)), fixV (.slice p k c), fixV (.int .i64 (k : Int)), fixV (.int .i64 (d : Int)), slV (zs d), mwT w0.heap.size (Value.slice p k c).ownBlock room er1 L, mwA w0.heap.size (Value.slice p k c).ownBlock room er1 L, fixV (.int .i64 er1)]) [10, 11] [0, 1, 2, 3, 4, 5, 6, 7, 8, 9] [some 32, some 33, some 34, some 35, some 36, some 37, some 38, some 39, some 40, some 41] (by kernel_rfl) (by kernel_rfl) (by kernel_rfl) (by kernel_rfl) ((Below.refl _ _).drew) (fun w w' h h' => h.trans (h'.mono h.size)) (listR_mono ⟨stays_fix _, stays_fix _, stays_fix _, stays_fix _, stays_fix _, stays_fix _, stays_sl _, stays_mwT _ _ _ _ _, stays_mwA _ _ _ _ _, stays_fix _, trivial⟩) ?_
        intro vals
        simp only [List.take_succ_cons, List.take_zero]
        refine ⟨grow_val [] [] (by kernel_rfl) rfl (fun K w hb hd hK => ⟨wanted_none rfl, ?_⟩), ?_⟩
        · obtain ⟨k1, k2, k3⟩ := R0.out.grow hb
          simp only [putZ]
          go_simp
          exact hK _ _ _ (Below.refl _ _) rfl
        refine ⟨grow_val [] [] (by kernel_rfl) rfl (fun K w hb hd hK => ⟨wanted_none rfl, ?_⟩), ?_⟩
        · simp only [putZ]
          go_simp
          exact hK _ _ _ (Below.refl _ _) rfl
        refine ⟨grow_val [] [] (by kernel_rfl) rfl (fun K w hb hd hK => ⟨wanted_none rfl, ?_⟩), ?_⟩
        · simp only [putZ]
          go_simp
          exact hK _ _ _ (Below.refl _ _) rfl
        refine ⟨grow_val [2] [some 34] (by kernel_rfl) (by kernel_rfl) (fun K w hb hd hK => ⟨wanted_none rfl, ?_⟩), ?_⟩
        · have d2 : vals 2 = .pointer (some ⟨wq.heap.size, 0, none⟩) := hd 2 (by simp)
          have hcv := (R0.out.grow hb).cellAt 0 (show (mrow (.slice p k c) room 0)[0]? = some (.slice p k c) from rfl)
          simp only [List.map_cons, List.map_nil, putZ, d2]
          go_simp
          exact hK _ _ _ (Below.refl _ _) rfl
        refine ⟨grow_val [3] [some 35] (by kernel_rfl) (by kernel_rfl) (fun K w hb hd hK => ⟨wanted_none rfl, ?_⟩), ?_⟩
        · have d3 : vals 3 = .slice p k c := hd 3 (by simp)
          simp only [List.map_cons, List.map_nil, putZ, d3]
          go_simp
          exact hK _ _ _ (Below.refl _ _) rfl
        refine ⟨grow_val [1, 4] [some 33, some 36] (by kernel_rfl) (by kernel_rfl) (fun K w hb hd hK => ⟨wanted_none rfl, ?_⟩), ?_⟩
        · have d1 : vals 1 = .int .i64 (t : Int) := hd 1 (by simp)
          have d4 : vals 4 = .int .i64 (k : Int) := hd 4 (by simp)
          simp only [List.map_cons, List.map_nil, putZ, d1, d4]
          go_simp
          exact hK _ _ _ (Below.refl _ _) rfl
        refine ⟨grow_val [5] [some 37] (by kernel_rfl) (by kernel_rfl) (fun K w hb hd hK => ⟨wanted_none rfl, ?_⟩), ?_⟩
        · have d5 : vals 5 = .int .i64 (d : Int) := hd 5 (by simp)
          have hmw := hmk w
          simp only [List.map_cons, List.map_nil, putZ, d5]
          go_simp
          exact hK _ _ _ (below_alloc (Below.refl _ _) _) ⟨some ⟨w.heap.size, 0, none⟩, d, by rw [zs_length], Bs0.some (bytes_new w _ _ _), by rw [zs_length]; exact Nat.le_refl _, fun h => by cases h⟩
        refine ⟨grow_call [0, 6] [some 32, some 38] (by kernel_rfl) (by kernel_rfl) (fun K w hb hd hK => ⟨wanted_none rfl, ?_⟩), ?_⟩
        · have d0 : vals 0 = .agg (mrow (.slice p k c) room 0) := hd 0 (by simp)
          have hs6 : SlV w (vals 6) (zs d) := hd 6 (by simp)
          simp only [List.map_cons, List.map_nil, putZ, d0]
          go_simp
          refine (KL.out _ _ w (HM0.out.grow hb) hs6).mono ?_
          rintro e w' ⟨u, rfl, hm, hn, hb'⟩
          exact ⟨_, rfl, hK _ _ hb' ⟨u, rfl, hm, fun k' hk' => (hn k' hk').imp id fun h => Nat.le_trans hb.size h⟩⟩
        refine ⟨grow_val [7] [some 39] (by kernel_rfl) (by kernel_rfl) (fun K w hb hd hK => ⟨wanted_none rfl, ?_⟩), ?_⟩
        · obtain ⟨u7, d7, hm7, hn7⟩ : ∃ u, vals 7 = .tuple #[.agg (mrow u room er1), .int .i64 er1] ∧ MV w u L ∧ ∀ k', u.ownBlock = some k' → (Value.slice p k c).ownBlock = some k' ∨ w0.heap.size ≤ k' := hd 7 (by simp)
          simp only [List.map_cons, List.map_nil, putZ, d7]
          go_simp
          exact hK _ _ _ (Below.refl _ _) ⟨u7, rfl, hm7, hn7⟩
        refine ⟨grow_val [7] [some 39] (by kernel_rfl) (by kernel_rfl) (fun K w hb hd hK => ⟨wanted_none rfl, ?_⟩), ?_⟩
        · obtain ⟨u7, d7, hm7, hn7⟩ : ∃ u, vals 7 = .tuple #[.agg (mrow u room er1), .int .i64 er1] ∧ MV w u L ∧ ∀ k', u.ownBlock = some k' → (Value.slice p k c).ownBlock = some k' ∨ w0.heap.size ≤ k' := hd 7 (by simp)
          simp only [List.map_cons, List.map_nil, putZ, d7]
          go_simp
          exact hK _ _ _ (Below.refl _ _) rfl
        intro W4 hbg hR
        obtain ⟨u, d8, hm, hn⟩ : ∃ u, vals 8 = .agg (mrow u room er1) ∧ MV W4 u L ∧ ∀ k', u.ownBlock = some k' → (Value.slice p k c).ownBlock = some k' ∨ w0.heap.size ≤ k' := hR 8 (by simp)
        obtain d9 : vals 9 = .int .i64 er1 := hR 9 (by simp)
        clear hR
        simp only [List.map_cons, List.map_nil, putZ, d8, d9, pick, List.getElem?_cons_succ, List.getElem?_cons_zero]
        generalize vals 0 = e0
        generalize vals 1 = e1
        generalize vals 2 = e2
        generalize vals 3 = e3
        generalize vals 4 = e4
        generalize vals 5 = e5
        generalize vals 6 = e6
        generalize vals 7 = e7
        clear d8 d9
        have HB := Lib.hid (HB0.out.trans (hbg.mono HB0.out.size))
        have HV := Lib.hid (hm.put (c := mrow u room er1) (g := wq.heap.size + 1) (w := w0) hn (fun k hk => by have := HMV.out.2 k hk; omega) hgs)
        have HN := Lib.hid (show NewB wq (Value.slice p k c).ownBlock u.ownBlock from fun k' hk' => (hn k' hk').imp id fun h => Nat.le_trans HB0.out.size h)
        obtain ⟨a1, a2, a3⟩ := R1.out.grow hbg
        obtain ⟨⟨p2, c2, rfl, _⟩, _⟩ := hm
        clear hn
        generalize L.length = k2 at *
        clear hbg
        go_wp2_with fail
        refine bodyPost_ret (v := .tuple #[.agg (mrow (.slice p2 k2 c2) room er1), .int .i64 er1]) (results_mw Try.results15 _ _ _ _ _ _ (wq.heap.size + 1) rfl ?_ ?_ rfl) rfl ?_
        · go_simp
        · go_simp
        · exact ⟨_, rfl, HV.out, HN.out, below_setRow HB.out (by omega) _⟩
  · have hs : filS room (er, l) to = (er, l) := by unfold filS; rw [if_pos her]
    rw [hs]
    have her' : (er != 0) = true := by simpa using her
    have HV := Lib.hid (show MRet w v room (er, l) (.returned (.tuple #[.agg (mrow v room er), .int .i64 er])) ((w.alloc (.cells (mrow v room er) 28)).alloc (.cells (mrow v room er) 28)).drew from
      ⟨v, rfl, hv.grow (below_alloc (below_alloc (Below.refl _ _) _) _).drew, NewB.refl _ _, (below_alloc (below_alloc (Below.refl _ _) _) _).drew⟩)
    obtain ⟨⟨p, c, rfl, _⟩, _⟩ := hv
    generalize l.length = k at *
    clear hs hroom hle HB0 HR HMV
    go_enter Try.func15, Try.ntmps15
    go_wp2_with fail
    go_region
    go_wp2_with fail
    refine bodyPost_ret (v := .tuple #[.agg (mrow (.slice p k c) room er), .int .i64 er]) (results_mw Try.results15 _ _ _ _ _ _ (w.heap.size + 1) rfl ?_ ?_ rfl) rfl ?_
    · go_simp
    · go_simp
    · exact HV.out
end Go.Proofs.Ytbhgmefdimjlaaa
