/-
  The reference of layer 7: a number's bytes behind others.
-/
import Derived.Test.YtbhgmefdimjlaaaOctRef2
import Derived.Test.YtbhgmefdimjlaaaGrowList
namespace Go.Proofs.Ytbhgmefdimjlaaa
open Go.RowKit Go.Hold Go.Sh Go.Oc

/-- What a call of the reference's writer answers, as a relation that stays. -/
def mwT (B : Nat) (ob : Option Nat) (room : Nat) (er : Int) (l : List Nat) : Value → World → Prop := fun v w => ∃ u, v = .tuple #[.agg (mrow u room er), .int .i64 er] ∧ MV w u l ∧ ∀ k, u.ownBlock = some k → ob = some k ∨ B ≤ k
theorem stays_mwT (B : Nat) (ob : Option Nat) (room : Nat) (er : Int) (l : List Nat) : Stays (mwT B ob room er l) := fun _ _ _ ⟨u, h, ho, hn⟩ hb => ⟨u, h, ho.grow hb, hn⟩
def mwA (B : Nat) (ob : Option Nat) (room : Nat) (er : Int) (l : List Nat) : Value → World → Prop := fun v w => ∃ u, v = .agg (mrow u room er) ∧ MV w u l ∧ ∀ k, u.ownBlock = some k → ob = some k ∨ B ≤ k
theorem stays_mwA (B : Nat) (ob : Option Nat) (room : Nat) (er : Int) (l : List Nat) : Stays (mwA B ob room er l) := fun _ _ _ ⟨u, h, ho, hn⟩ hb => ⟨u, h, ho.grow hb, hn⟩
set_option maxHeartbeats 1000000 in
set_option maxRecDepth 100000 in
theorem rnumW_c (v : Value) (room : Nat) (s : Ws) (n : Nat) (sz : Int) (w : World) (hv : MV w v s.2) (hroom : room ≤ 65536) (hle : s.2.length ≤ room) (hn : n < 18446744073709551616) :
    Calls Try.prog 11 #[.agg (mrow v room s.1), .int .u64 (n : Int), .int .i64 sz] w (MRet w v room (numS room s n sz)) := by
  obtain ⟨er, l⟩ := s
  simp only at hv hle
  have HMV := Lib.hid hv
  have HR := Lib.hid (m0row w (mrow v room er) #[.slice none 0 0, .int .i64 0, .int .i64 0] 28)
  have HB0 := Lib.hid (below_alloc (below_alloc (Below.refl w.heap.size w) (.cells (mrow v room er) 28)) (.cells #[.slice none 0 0, .int .i64 0, .int .i64 0] 28))
  by_cases her : er = 0
  · subst her
    have KF := Lib.hid (fun W => rfits_c n sz hn W)
    by_cases hfit : Fits n sz
    · obtain ⟨z, rfl⟩ : ∃ z : Nat, sz = (z : Int) := ⟨sz.toNat, by have := hfit.1; omega⟩
      have hs : numS room (0, l) n (z : Int) = layS room l (digN n z) := by unfold numS; rw [if_neg (by simp), if_neg (by simpa using hfit), Int.toNat_natCast]
      rw [hs]
      have KD := Lib.hid (fun W => rdigits_c n z (by have := hfit.1; omega) (by have := hfit.2.1; omega) W)
      have HZ := Lib.hid (show (digN n z).length ≤ 8000000 by rw [dig_length]; have := hfit.2.1; omega)
      rw [show decide (Fits n (z : Int)) = true from decide_eq_true hfit] at KF
      have KL := Lib.hid (fun (v u : Value) (W : World) (h1 : MV W v l) (h2 : SlV W u (digN n z)) => rlay_c v u room l (digN n z) W h1 h2 hroom hle HZ.out)
      generalize hS : layS room l (digN n z) = S at *
      obtain ⟨er1, L⟩ := S
      simp only at KL
      obtain ⟨⟨p, c, rfl, _⟩, _⟩ := hv
      generalize l.length = k at *
      clear hs hn hfit hroom hle hS
      go_enter Try.func11, Try.ntmps11
      go_wp2_with fail
      refine (KF.out _).mono ?_
      rintro e w' ⟨rfl, rfl⟩
      go_wp2_with fail
      have R0 := Lib.hid HR.out.1
      have R1 := Lib.hid HR.out.2
      generalize hW : World.alloc _ _ = w0 at *
      have HB0 := Lib.hid (show Below w.heap.size w w0 by rw [← hW]; exact below_alloc (below_alloc (Below.refl _ _) _) _)
      have hgs : w.heap.size + 1 < w0.heap.size := by rw [← hW]; simp
      have HM0 := Lib.hid (HMV.out.grow HB0.out)
      clear hW
      refine wp_region_grows w0 7 (fun w w' => Below w.heap.size w w') (listR [fixV (.agg (mrow (.slice p k c) room 0)), fixV (.int .u64 (n : Int)), fixV (.int .i64 (z : Int)), slV (digN n z), mwT w0.heap.size (Value.slice p k c).ownBlock room er1 L, mwA w0.heap.size (Value.slice p k c).ownBlock room er1 L, fixV (.int .i64 er1)]) [7, 8] [0, 1, 2, 3, 4, 5, 6] [some 24, some 25, some 26, some 27, some 28, some 29, some 30] (by kernel_rfl) (by kernel_rfl) (by kernel_rfl) (by kernel_rfl) ((Below.refl _ _).drew) (fun w w' h h' => h.trans (h'.mono h.size)) (listR_mono ⟨stays_fix _, stays_fix _, stays_fix _, stays_sl _, stays_mwT _ _ _ _ _, stays_mwA _ _ _ _ _, stays_fix _, trivial⟩) ?_
      intro vals
      simp only [List.take_succ_cons, List.take_zero]
      refine ⟨grow_val [] [] (by kernel_rfl) rfl (fun K w hb hd hK => ⟨wanted_none rfl, ?_⟩), ?_⟩
      · obtain ⟨k1, k2, k3⟩ := R0.out.grow hb
        simp only [putZ]
        go_simp
        exact hK _ _ _ (Below.refl _ _) rfl
      refine ⟨grow_val [] [] (by kernel_rfl) rfl (fun K w hb hd hK => ⟨wanted_none rfl, ?_⟩), ?_⟩
      · simp only [putZ]
        go_simp
        exact hK _ _ _ (Below.refl _ _) rfl
      refine ⟨grow_val [] [] (by kernel_rfl) rfl (fun K w hb hd hK => ⟨wanted_none rfl, ?_⟩), ?_⟩
      · simp only [putZ]
        go_simp
        exact hK _ _ _ (Below.refl _ _) rfl
      refine ⟨grow_call [1, 2] [some 25, some 26] (by kernel_rfl) (by kernel_rfl) (fun K w hb hd hK => ⟨wanted_none rfl, ?_⟩), ?_⟩
      · have d1 : vals 1 = .int .u64 (n : Int) := hd 1 (by simp)
        have d2 : vals 2 = .int .i64 (z : Int) := hd 2 (by simp)
        simp only [List.map_cons, List.map_nil, putZ, d1, d2]
        go_simp
        refine (KD.out w).mono ?_
        rintro e w' ⟨u, rfl, ho, hb'⟩
        exact ⟨_, rfl, hK _ _ hb' (results_own ho)⟩
      refine ⟨grow_call [0, 3] [some 24, some 27] (by kernel_rfl) (by kernel_rfl) (fun K w hb hd hK => ⟨wanted_none rfl, ?_⟩), ?_⟩
      · have d0 : vals 0 = .agg (mrow (.slice p k c) room 0) := hd 0 (by simp)
        have hs3 : SlV w (vals 3) (digN n z) := hd 3 (by simp)
        simp only [List.map_cons, List.map_nil, putZ, d0]
        go_simp
        refine (KL.out _ _ w (HM0.out.grow hb) hs3).mono ?_
        rintro e w' ⟨u, rfl, hm, hn, hb'⟩
        exact ⟨_, rfl, hK _ _ hb' ⟨u, rfl, hm, fun k' hk' => (hn k' hk').imp id fun h => Nat.le_trans hb.size h⟩⟩
      refine ⟨grow_val [4] [some 28] (by kernel_rfl) (by kernel_rfl) (fun K w hb hd hK => ⟨wanted_none rfl, ?_⟩), ?_⟩
      · obtain ⟨u4, d4, hm4, hn4⟩ : ∃ u, vals 4 = .tuple #[.agg (mrow u room er1), .int .i64 er1] ∧ MV w u L ∧ ∀ k', u.ownBlock = some k' → (Value.slice p k c).ownBlock = some k' ∨ w0.heap.size ≤ k' := hd 4 (by simp)
        simp only [List.map_cons, List.map_nil, putZ, d4]
        go_simp
        exact hK _ _ _ (Below.refl _ _) ⟨u4, rfl, hm4, hn4⟩
      refine ⟨grow_val [4] [some 28] (by kernel_rfl) (by kernel_rfl) (fun K w hb hd hK => ⟨wanted_none rfl, ?_⟩), ?_⟩
      · obtain ⟨u4, d4, hm4, hn4⟩ : ∃ u, vals 4 = .tuple #[.agg (mrow u room er1), .int .i64 er1] ∧ MV w u L ∧ ∀ k', u.ownBlock = some k' → (Value.slice p k c).ownBlock = some k' ∨ w0.heap.size ≤ k' := hd 4 (by simp)
        simp only [List.map_cons, List.map_nil, putZ, d4]
        go_simp
        exact hK _ _ _ (Below.refl _ _) rfl
      intro W4 hbg hR
      obtain ⟨u, d5, hm, hn⟩ : ∃ u, vals 5 = .agg (mrow u room er1) ∧ MV W4 u L ∧ ∀ k', u.ownBlock = some k' → (Value.slice p k c).ownBlock = some k' ∨ w0.heap.size ≤ k' := hR 5 (by simp)
      obtain d6 : vals 6 = .int .i64 er1 := hR 6 (by simp)
      clear hR
      simp only [List.map_cons, List.map_nil, putZ, d5, d6, pick, List.getElem?_cons_succ, List.getElem?_cons_zero]
      generalize vals 0 = e0
      generalize vals 1 = e1
      generalize vals 2 = e2
      generalize vals 3 = e3
      generalize vals 4 = e4
      clear d5 d6
      have HB := Lib.hid (HB0.out.trans (hbg.mono HB0.out.size))
      have HV := Lib.hid (hm.put (c := mrow u room er1) (g := w.heap.size + 1) (w := w0) hn (fun k hk => by have := HMV.out.2 k hk; omega) hgs)
      have HN := Lib.hid (show NewB w (Value.slice p k c).ownBlock u.ownBlock from fun k' hk' => (hn k' hk').imp id fun h => Nat.le_trans HB0.out.size h)
      obtain ⟨a1, a2, a3⟩ := R1.out.grow hbg
      obtain ⟨⟨p2, c2, rfl, _⟩, _⟩ := hm
      clear hn
      generalize L.length = k2 at *
      clear hbg
      go_wp2_with fail
      refine bodyPost_ret (v := .tuple #[.agg (mrow (.slice p2 k2 c2) room er1), .int .i64 er1]) (results_mw Try.results11 _ _ _ _ _ _ (w.heap.size + 1) rfl ?_ ?_ rfl) rfl ?_
      · go_simp
      · go_simp
      · exact ⟨_, rfl, HV.out, HN.out, below_setRow HB.out (by omega) _⟩
    · have hs : numS room (0, l) n sz = (2, l) := by unfold numS; rw [if_neg (by simp), if_pos hfit]
      rw [hs]
      rw [show decide (Fits n sz) = false from decide_eq_false hfit] at KF
      obtain ⟨⟨p, c, rfl, _⟩, _⟩ := hv
      generalize l.length = k at *
      clear hs hn hfit hroom hle
      go_enter Try.func11, Try.ntmps11
      go_wp2_with fail
      refine (KF.out _).mono ?_
      rintro e w' ⟨rfl, rfl⟩
      go_wp2_with fail
      refine (rfail_c p k c room 0 2 _).mono ?_
      rintro e w2 ⟨rfl, hb2⟩
      have HB := Lib.hid (HB0.out.trans (hb2.mono HB0.out.size))
      have HV := Lib.hid (MV.put (w := w2) (c := mrow (.slice p k c) room 2) (g := w.heap.size + 1) ((HMV.out.grow HB0.out).grow hb2) (NewB.refl _ _) (fun k hk => by have := HMV.out.2 k hk; omega) (by have := hb2.size; rw [World.size_alloc, World.size_alloc] at this; omega))
      obtain ⟨a1, a2, a3⟩ := (HR.out.2).grow hb2
      clear hb2
      go_wp2_with fail
      refine bodyPost_ret (v := .tuple #[.agg (mrow (.slice p k c) room 2), .int .i64 2]) (results_mw Try.results11 _ _ _ _ _ _ (w.heap.size + 1) rfl ?_ ?_ rfl) rfl ?_
      · go_simp
      · go_simp
      · exact ⟨_, rfl, HV.out, NewB.refl _ _, below_setRow HB.out (by omega) _⟩
  · have hs : numS room (er, l) n sz = (er, l) := by unfold numS; rw [if_pos her]
    rw [hs]
    have her' : (er != 0) = true := by simpa using her
    have HV := Lib.hid (show MRet w v room (er, l) (.returned (.tuple #[.agg (mrow v room er), .int .i64 er])) ((w.alloc (.cells (mrow v room er) 28)).alloc (.cells (mrow v room er) 28)).drew from
      ⟨v, rfl, hv.grow (below_alloc (below_alloc (Below.refl _ _) _) _).drew, NewB.refl _ _, (below_alloc (below_alloc (Below.refl _ _) _) _).drew⟩)
    obtain ⟨⟨p, c, rfl, _⟩, _⟩ := hv
    generalize l.length = k at *
    clear hs hroom hle HB0 HR HMV
    go_enter Try.func11, Try.ntmps11
    go_wp2_with fail
    go_region
    go_wp2_with fail
    refine bodyPost_ret (v := .tuple #[.agg (mrow (.slice p k c) room er), .int .i64 er]) (results_mw Try.results11 _ _ _ _ _ _ (w.heap.size + 1) rfl ?_ ?_ rfl) rfl ?_
    · go_simp
    · go_simp
    · exact HV.out
end Go.Proofs.Ytbhgmefdimjlaaa
