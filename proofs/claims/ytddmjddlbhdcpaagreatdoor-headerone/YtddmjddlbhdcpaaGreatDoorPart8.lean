/-
  Part 8 of the texts behind the theorem.
-/
import Derived.Test.YtddmjddlbhdcpaaGreatDoorPart7
import Derived.Test.YtddmjddlbhdcpaaGreatDoorPart6
import Derived.Laws.Bits64b
import Derived.Test.YtddmjddlbhdcpaaGreatDoorPart3
import Derived.Great.BuildSlice
import Derived.Test.YtddmjddlbhdcpaaGreatDoorPart2
/-
  Part 8 of the texts behind the theorem.
-/
/-
  Package header: a header is built.
-/
namespace Go.Proofs.YtddmjddlbhdcpaaGreatDoor
open Go.RowKit Go.Hold Go.Sh Go.Ch Go.Cm Go.Hd

theorem cmds_enc {L : List Hop} (h : isRt L = true) : cmdsE L = L.map fun h => h.c.enc := by
  unfold isRt at h
  simp only [Bool.and_eq_true] at h
  unfold cmdsE
  apply List.map_congr_left
  intro x hx
  unfold encV
  rw [if_pos (rtF_all h.2 x hx)]
theorem isRt_len {L : List Hop} (h : isRt L = true) : 1 ≤ L.length ∧ L.length ≤ 5 := by
  unfold isRt at h
  simp only [Bool.and_eq_true, decide_eq_true_eq] at h
  exact h.1
theorem beta0_ok {ss : List (List Nat)} {L : List Hop} (h : isRt L = true) (hok : ∀ h ∈ L, HopOk h) (hl : ss.length = L.length) : (beta0 ss L).length = 160 ∧ ∀ i, (beta0 ss L).getD i 0 < 256 := by
  have h15 := isRt_len h
  have hce : ∀ c ∈ cmdsE L, c.length = 16 := fun c hc => by
    obtain ⟨h, hh, rfl⟩ := List.mem_map.1 hc
    exact encV_length (hok h hh).i
  have hcb : ∀ c ∈ cmdsE L, ∀ i, c.getD i 0 < 256 := fun c hc => by
    obtain ⟨h, hh, rfl⟩ := List.mem_map.1 hc
    exact encV_bts (hok h hh).ib
  have := betas_ok (ss := ss) (cs := cmdsE L) (by unfold cmdsE; rw [List.length_map, hl]) hce hcb 0 (by omega) (by omega)
  unfold beta0
  rw [← cmds_enc h]
  exact this
theorem secF_bts {L : List Hop} {fs : List (List Nat)} {a : List Nat} {ss : List (List Nat)} (h : secF fs a L = some ss) : (∀ s ∈ ss, s.length = 32) ∧ ∀ s ∈ ss, ∀ i, s.getD i 0 < 256 :=
  ⟨fun s hs => by obtain ⟨n, rfl, _⟩ := secF_key h s hs; exact keyB_length _, fun s hs => by obtain ⟨n, rfl, _⟩ := secF_key h s hs; exact keyB_bts _⟩
theorem OwnR.base {w : World} {B B' C : Nat} {e : TypeId} {v : Value} {ls : List (Array Value)} (h : OwnR w B e C v ls) (hB : B' ≤ B) : OwnR w B' e C v ls := by
  refine ⟨⟨h.own.1, ?_⟩, h.sizes⟩
  rcases h.own.2 with hn | ⟨g, cap, cur, e, hb, rest⟩
  · exact .inl hn
  · exact .inr ⟨g, cap, cur, e, Nat.le_trans hB hb, rest⟩
theorem own_load0 {w : World} {B gs n cs : Nat} {s : List Nat} {sr : List (List Nat)} (h : OwnR w B 23 32 (.slice (some ⟨gs, 0, none⟩) n cs) ((s :: sr).map bysA)) (hs : s.length = 32) :
    (loadRow 23 (.pointer (some ⟨gs, 0, none⟩))).run Tryz.prog w = .ok (.agg (bysA s)) w := by
  obtain ⟨g', o', e, _, hl⟩ := h.rows.load Tryz.underlying23 rfl (by kernel_rfl) (i := 0) (x := bysA s) rfl (by rw [bysA_size, hs])
  obtain ⟨p', c', e2, _, _, _, hp⟩ := h.form
  obtain ⟨g2, rfl, _⟩ := hp (by simp)
  cases e2; cases e
  simpa using hl
def hdrT (x : List Nat) (L : List Hop) : Option (List (List Nat)) → List Nat
  | none => zs 208
  | some ss => puB x ++ beta0 ss L ++ prf (ss.headD []) (beta0 ss L)
set_option maxHeartbeats 2000000 in
set_option maxRecDepth 100000 in
theorem build_bad (x : List Nat) (L : List Hop) (p : Option Addr) (n cap : Nat) (hx : x.length = 32) (hok : ∀ h ∈ L, HopOk h) (hn : n = L.length) (hr : isRt L = false) (w : World) (hR : RowsAt 43 w p (hopR L)) :
    Calls Tryz.prog 11 #[.agg (bysA x), .slice p n cap] w fun e w' => e = .returned (.tuple #[.agg (bysA (zs 208)), .slice none 0 0, .int .i64 14]) ∧ Below w.heap.size w w' := by
  have hxs := bysA_size' hx
  have HI := Lib.hid (fun (W : World) (hb : Below w.heap.size w W) => isRoute_c L p cap hok W (hR.grow hb))
  rw [hr, ← hn] at HI
  clear hx hok hn hR hr
  go_enter Tryz.func11, Tryz.ntmps11
  go_wp2_with fail
  generalize hW : World.alloc _ _ = W0
  have R0x0 := Lib.hid (show RowAt W0 (w.heap.size) (bysA x) by rw [← hW]; clear hW; exact ⟨by go_simp, by first | (go_simp; done) | (go_simp; rfl), by go_simp⟩)
  have R0x1 := Lib.hid (show RowAt W0 (w.heap.size + 1) (bysA (zs 208)) by rw [← hW]; clear hW; exact ⟨by go_simp, by first | (go_simp; done) | (go_simp; rfl), by go_simp⟩)
  have B0 := Lib.hid (show Below w.heap.size w W0 by rw [← hW]; repeat (first | apply below_alloc | exact Below.refl _ _))
  clear hW
  have hzs208 := bysA_size' (zs_length 208)
  have l_z : w.heap.size ≤ w.heap.size := by omega
  have l_r : w.heap.size ≤ w.heap.size + 1 := by omega
  have n_z_r : w.heap.size ≠ w.heap.size + 1 := by omega
  generalize w.heap.size + 1 = r at *
  obtain ⟨z, ez⟩ : ∃ z, z = w.heap.size := ⟨_, rfl⟩
  rw [← ez] at R0x0 n_z_r ⊢
  have l_z : w.heap.size ≤ z := by rw [ez]; exact Nat.le_refl _
  clear ez
  refine (HI.out _ B0.out).mono ?_
  rintro e W1 ⟨rfl, hb1⟩
  have R1x0 := Lib.hid (R0x0.out.grow hb1)
  have R1x1 := Lib.hid (R0x1.out.grow hb1)
  have B1 := Lib.hid (B0.out.trans (hb1.mono B0.out.size))
  clear hb1 B0 R0x0 R0x1
  obtain ⟨R1x0a, R1x0b, R1x0c⟩ := R1x0.out
  obtain ⟨R1x1a, R1x1b, R1x1c⟩ := R1x1.out
  go_wp2_with fail
  refine bodyPost_ret (v := .tuple #[.agg (bysA (zs 208)), .slice none 0 0, .int .i64 14]) (results_hdr2 Tryz.results11 hzs208 _ _ _ rfl (by go_simp) (by go_simp) rfl rfl) rfl ⟨rfl, ?_⟩
  exact below_setRow B1.out l_r _
set_option maxHeartbeats 2000000 in
set_option maxRecDepth 100000 in
theorem build_sec (x : List Nat) (L : List Hop) (p : Option Addr) (n cap : Nat) (hx : x.length = 32) (hxb : ∀ i, x.getD i 0 < 256) (hok : ∀ h ∈ L, HopOk h) (hn : n = L.length) (hr : isRt L = true) (w : World) (hT : Tabs w) (hR : RowsAt 43 w p (hopR L)) :
    Calls Tryz.prog 11 #[.agg (bysA x), .slice p n cap] w fun e w' => ∃ v, e = .returned (.tuple #[.agg (bysA (hbH x L)), v, .int .i64 (hbE x L)]) ∧ OwnR w' w.heap.size 23 32 v ((hbK x L).map bysA) ∧ Below w.heap.size w w' := by
  have hxs := bysA_size' hx
  have h15 := isRt_len hr
  rw [← hn] at h15
  have HI := Lib.hid (fun (W : World) (hb : Below w.heap.size w W) => isRoute_c L p cap hok W (hR.grow hb))
  rw [hr, ← hn] at HI
  have HP := Lib.hid (fun (W : World) => bpublic_c x hx hxb W)
  have hal := puB_length x
  have halb := puB_bts x
  have hals := bysA_size' hal
  have HS := Lib.hid (fun (W : World) (h : Tabs W) (hb : Below w.heap.size w W) => show Calls Tryz.prog 33 #[.agg (bysA x), .agg (bysA (puB x)), .slice p n cap] W fun e w' => ∃ v, e = .returned (.tuple #[v, .int .i64 (secE (secF [x] (puB x) L))]) ∧ OwnR w' w.heap.size 23 32 v (((secF [x] (puB x) L).getD []).map bysA) ∧ (∀ k, v.ownBlock = some k → W.heap.size ≤ k) ∧ Below W.heap.size W w' from (secrets_c x (puB x) L p n cap hx hxb hal halb hok hn h15.2 W h (hR.grow hb)).mono (by rintro e w' ⟨v, rfl, hv, hb'⟩; exact ⟨v, rfl, OwnR.base hv hb.size, fun k hk => (OwnR.ltb hv k hk).1, hb'⟩))
  obtain ⟨T, eT⟩ : ∃ T, T = secF [x] (puB x) L := ⟨_, rfl⟩
  have HH := Lib.hid (show hbH x L = hdrT x L T by unfold hbH hbS; rw [if_pos hr, eT]; unfold hdrT; cases secF [x] (puB x) L <;> rfl)
  have HK := Lib.hid (show hbK x L = T.getD [] by unfold hbK hbS; rw [if_pos hr, eT])
  have HE := Lib.hid (show hbE x L = if T.isSome then 0 else 7 by unfold hbE hbS; rw [if_pos hr, eT])
  rw [HH.out, HK.out, HE.out]
  rw [← eT] at HS
  have HTn := Lib.hid eT
  have HT := Lib.hid hT
  clear hT eT HH HK HE
  cases T with
  | none =>
    rw [show secE none = 7 from rfl] at HS
    rw [show (if (none : Option (List (List Nat))).isSome = true then (0 : Int) else 7) = 7 from rfl, show (none : Option (List (List Nat))).getD [] = [] from rfl, show hdrT x L none = zs 208 from rfl]
    clear hx hxb hok hn hR hr h15 hal halb HTn
    generalize puB x = A at *
    go_enter Tryz.func11, Tryz.ntmps11
    go_wp2_with fail
    generalize hW : World.alloc _ _ = W0
    have R0x0 := Lib.hid (show RowAt W0 (w.heap.size) (bysA x) by rw [← hW]; clear hW; exact ⟨by go_simp, by first | (go_simp; done) | (go_simp; rfl), by go_simp⟩)
    have R0x1 := Lib.hid (show RowAt W0 (w.heap.size + 1) (bysA (zs 208)) by rw [← hW]; clear hW; exact ⟨by go_simp, by first | (go_simp; done) | (go_simp; rfl), by go_simp⟩)
    have B0 := Lib.hid (show Below w.heap.size w W0 by rw [← hW]; repeat (first | apply below_alloc | exact Below.refl _ _))
    clear hW
    have hzs208 := bysA_size' (zs_length 208)
    have l_z : w.heap.size ≤ w.heap.size := by omega
    have l_r : w.heap.size ≤ w.heap.size + 1 := by omega
    have n_z_r : w.heap.size ≠ w.heap.size + 1 := by omega
    generalize w.heap.size + 1 = r at *
    obtain ⟨z, ez⟩ : ∃ z, z = w.heap.size := ⟨_, rfl⟩
    rw [← ez] at R0x0 n_z_r ⊢
    have l_z : w.heap.size ≤ z := by rw [ez]; exact Nat.le_refl _
    clear ez
    refine (HI.out _ B0.out).mono ?_
    rintro e W1 ⟨rfl, hb1⟩
    have R1x0 := Lib.hid (R0x0.out.grow hb1)
    have R1x1 := Lib.hid (R0x1.out.grow hb1)
    have B1 := Lib.hid (B0.out.trans (hb1.mono B0.out.size))
    clear hb1 B0 R0x0 R0x1
    obtain ⟨R1x0a, R1x0b, R1x0c⟩ := R1x0.out
    obtain ⟨R1x1a, R1x1b, R1x1c⟩ := R1x1.out
    go_wp2_with fail
    refine (HP.out _).mono ?_
    rintro e W2 ⟨rfl, hb2⟩
    clear R1x0a R1x0b R1x0c R1x1a R1x1b R1x1c
    have R2x0 := Lib.hid (R1x0.out.grow hb2)
    have R2x1 := Lib.hid (R1x1.out.grow hb2)
    have B2 := Lib.hid (B1.out.trans (hb2.mono B1.out.size))
    clear hb2 B1 R1x0 R1x1
    obtain ⟨R2x0a, R2x0b, R2x0c⟩ := R2x0.out
    obtain ⟨R2x1a, R2x1b, R2x1c⟩ := R2x1.out
    go_wp2_with fail
    have n_z_al : z ≠ W2.heap.size := Nat.ne_of_lt R2x0.out.2.2
    have n_r_al : r ≠ W2.heap.size := Nat.ne_of_lt R2x1.out.2.2
    have l_al : w.heap.size ≤ W2.heap.size := B2.out.size
    have hb3 := below_alloc (Below.refl W2.heap.size W2) (.cells (bysA A) 23)
    have N3 := Lib.hid (RowAt.of (block_new W2 (.cells (bysA A) 23)))
    have R3x0 := Lib.hid (R2x0.out.grow hb3)
    have R3x1 := Lib.hid (R2x1.out.grow hb3)
    have B3 := Lib.hid (B2.out.trans (hb3.mono B2.out.size))
    clear hb3 B2 R2x0 R2x1 R2x0a R2x0b R2x0c R2x1a R2x1b R2x1c
    generalize W2.heap.size = al at *
    generalize W2.alloc (.cells (bysA A) 23) = W3 at *
    refine (HS.out _ (HT.out.grow B3.out) B3.out).mono ?_
    rintro e W4 ⟨v, rfl, hv, hgk, hb4⟩
    have R4x0 := Lib.hid (R3x0.out.grow hb4)
    have R4x1 := Lib.hid (R3x1.out.grow hb4)
    have R4x2 := Lib.hid (N3.out.grow hb4)
    have B4 := Lib.hid (B3.out.trans (hb4.mono B3.out.size))
    clear hb4 B3 R3x0 R3x1 N3
    clear hv hgk
    obtain ⟨R4x0a, R4x0b, R4x0c⟩ := R4x0.out
    obtain ⟨R4x1a, R4x1b, R4x1c⟩ := R4x1.out
    obtain ⟨R4x2a, R4x2b, R4x2c⟩ := R4x2.out
    go_wp2_with fail
    refine bodyPost_ret (v := .tuple #[.agg (bysA (zs 208)), .slice none 0 0, .int .i64 7]) (results_hdr2 Tryz.results11 hzs208 _ _ _ rfl (by go_simp) (by go_simp) rfl rfl) rfl ⟨_, rfl, OwnR.nil _ _ _ _, ?_⟩
    exact below_setRow B4.out l_r _
  | some ss =>
    rw [show secE (some ss) = 0 from rfl] at HS
    rw [show (if (some ss).isSome = true then (0 : Int) else 7) = 0 from rfl, show (some ss).getD [] = ss from rfl, show hdrT x L (some ss) = puB x ++ beta0 ss L ++ prf (ss.headD []) (beta0 ss L) from rfl]
    have hsl := secF_length HTn.out.symm
    have hsb := secF_bts HTn.out.symm
    have hb0 := beta0_ok hr hok hsl
    have HF := Lib.hid (fun (W : World) (h : Tabs W) (q : Option Addr) (c : Nat) (hb : Below w.heap.size w W) (hc : n ≤ c) (hq : RowsAt 32 W q (ss.map bysA)) => firstBeta_c ss L q p n c cap hsb.1 hsb.2 hok (by rw [hn, hsl]) hsl.symm h15.1 h15.2 hc W h hq (hR.grow hb))
    rw [show betas [] (ss.zip (cmdsE L)) = beta0 ss L by unfold beta0; rw [cmds_enc hr]] at HF
    obtain ⟨s0, sr, rfl⟩ : ∃ s0 sr, ss = s0 :: sr := by
      cases ss with
      | nil => rw [List.length_nil] at hsl; omega
      | cons a b => exact ⟨a, b, rfl⟩
    have hs0 := hsb.1 s0 (by simp)
    have hs0s := bysA_size' hs0
    have HPr := Lib.hid (fun (W : World) (h : Tabs W) => hproof_c s0 (beta0 (s0 :: sr) L) hs0 (hsb.2 s0 (by simp)) hb0.1 hb0.2 W h)
    have hbs := bysA_size' hb0.1
    have hpl := prf_length s0 (beta0 (s0 :: sr) L)
    have hps := bysA_size' hpl
    have hbd := fun W => run_bldHdr hal hb0.1 hpl W
    rw [show (s0 :: sr).headD [] = s0 from rfl]
    have hHs := bysA_size' (show (puB x ++ beta0 (s0 :: sr) L ++ prf s0 (beta0 (s0 :: sr) L)).length = 208 by rw [List.length_append, List.length_append, hal, hb0.1, hpl])
    have Hs0 := Lib.hid hs0
    have Hsl := Lib.hid (show (s0 :: sr).length = n by rw [hsl, hn])
    have H15 := Lib.hid h15
    generalize puB x ++ beta0 (s0 :: sr) L ++ prf s0 (beta0 (s0 :: sr) L) = H at *
    generalize prf s0 (beta0 (s0 :: sr) L) = P at *
    generalize beta0 (s0 :: sr) L = B at *
    generalize puB x = A at *
    have hn0 : 0 < n := by omega
    have hz160 := bysA_size' (zs_length 160)
    clear hx hxb hok hn hR hr h15 hal halb HTn hsl hsb hb0 hs0 hpl
    go_enter Tryz.func11, Tryz.ntmps11
    go_wp2_with fail
    generalize hW : World.alloc _ _ = W0
    have R0x0 := Lib.hid (show RowAt W0 (w.heap.size) (bysA x) by rw [← hW]; clear hW; exact ⟨by go_simp, by first | (go_simp; done) | (go_simp; rfl), by go_simp⟩)
    have R0x1 := Lib.hid (show RowAt W0 (w.heap.size + 1) (bysA (zs 208)) by rw [← hW]; clear hW; exact ⟨by go_simp, by first | (go_simp; done) | (go_simp; rfl), by go_simp⟩)
    have B0 := Lib.hid (show Below w.heap.size w W0 by rw [← hW]; repeat (first | apply below_alloc | exact Below.refl _ _))
    clear hW
    have hzs208 := bysA_size' (zs_length 208)
    have l_z : w.heap.size ≤ w.heap.size := by omega
    have l_r : w.heap.size ≤ w.heap.size + 1 := by omega
    have n_z_r : w.heap.size ≠ w.heap.size + 1 := by omega
    generalize w.heap.size + 1 = r at *
    obtain ⟨z, ez⟩ : ∃ z, z = w.heap.size := ⟨_, rfl⟩
    rw [← ez] at R0x0 n_z_r ⊢
    have l_z : w.heap.size ≤ z := by rw [ez]; exact Nat.le_refl _
    clear ez
    refine (HI.out _ B0.out).mono ?_
    rintro e W1 ⟨rfl, hb1⟩
    have R1x0 := Lib.hid (R0x0.out.grow hb1)
    have R1x1 := Lib.hid (R0x1.out.grow hb1)
    have B1 := Lib.hid (B0.out.trans (hb1.mono B0.out.size))
    clear hb1 B0 R0x0 R0x1
    obtain ⟨R1x0a, R1x0b, R1x0c⟩ := R1x0.out
    obtain ⟨R1x1a, R1x1b, R1x1c⟩ := R1x1.out
    go_wp2_with fail
    refine (HP.out _).mono ?_
    rintro e W2 ⟨rfl, hb2⟩
    clear R1x0a R1x0b R1x0c R1x1a R1x1b R1x1c
    have R2x0 := Lib.hid (R1x0.out.grow hb2)
    have R2x1 := Lib.hid (R1x1.out.grow hb2)
    have B2 := Lib.hid (B1.out.trans (hb2.mono B1.out.size))
    clear hb2 B1 R1x0 R1x1
    obtain ⟨R2x0a, R2x0b, R2x0c⟩ := R2x0.out
    obtain ⟨R2x1a, R2x1b, R2x1c⟩ := R2x1.out
    go_wp2_with fail
    have n_z_al : z ≠ W2.heap.size := Nat.ne_of_lt R2x0.out.2.2
    have n_r_al : r ≠ W2.heap.size := Nat.ne_of_lt R2x1.out.2.2
    have l_al : w.heap.size ≤ W2.heap.size := B2.out.size
    have hb3 := below_alloc (Below.refl W2.heap.size W2) (.cells (bysA A) 23)
    have N3 := Lib.hid (RowAt.of (block_new W2 (.cells (bysA A) 23)))
    have R3x0 := Lib.hid (R2x0.out.grow hb3)
    have R3x1 := Lib.hid (R2x1.out.grow hb3)
    have B3 := Lib.hid (B2.out.trans (hb3.mono B2.out.size))
    clear hb3 B2 R2x0 R2x1 R2x0a R2x0b R2x0c R2x1a R2x1b R2x1c
    generalize W2.heap.size = al at *
    generalize W2.alloc (.cells (bysA A) 23) = W3 at *
    have hrW : r < W3.heap.size := R3x1.out.2.2
    refine (HS.out _ (HT.out.grow B3.out) B3.out).mono ?_
    rintro e W4 ⟨v, rfl, hv, hgk, hb4⟩
    have R4x0 := Lib.hid (R3x0.out.grow hb4)
    have R4x1 := Lib.hid (R3x1.out.grow hb4)
    have R4x2 := Lib.hid (N3.out.grow hb4)
    have B4 := Lib.hid (B3.out.trans (hb4.mono B3.out.size))
    clear hb4 B3 R3x0 R3x1 N3
    have hv' : OwnR W4 _ 23 32 v ((s0 :: sr).map bysA) := hv
    clear hv
    obtain ⟨ps, cs, rfl, hro, hcl, hx1, hpa⟩ := OwnR.form hv'
    clear hx1
    rw [List.length_map, Hsl.out] at hcl hv' ⊢
    obtain ⟨gs, rfl, hgs⟩ := hpa (by simp)
    have HV4 := Lib.hid hv'
    have hRo := Lib.hid hro
    have Hcl := Lib.hid hcl
    have Hgr := Lib.hid (show gs ≠ r by have := hgk gs rfl; omega)
    clear hv' hro hcl hpa hgs hgk hrW
    obtain ⟨R4x0a, R4x0b, R4x0c⟩ := R4x0.out
    obtain ⟨R4x1a, R4x1b, R4x1c⟩ := R4x1.out
    obtain ⟨R4x2a, R4x2b, R4x2c⟩ := R4x2.out
    go_wp2_with fail
    refine (HF.out _ (HT.out.grow B4.out) _ _ B4.out Hcl.out hRo.out).mono ?_
    rintro e W5 ⟨rfl, hb5⟩
    clear R4x0a R4x0b R4x0c R4x1a R4x1b R4x1c R4x2a R4x2b R4x2c
    have O5x0 := Lib.hid (HV4.out.grow hb5)
    clear HV4
    have R5x0 := Lib.hid (R4x0.out.grow hb5)
    have R5x1 := Lib.hid (R4x1.out.grow hb5)
    have R5x2 := Lib.hid (R4x2.out.grow hb5)
    have B5 := Lib.hid (B4.out.trans (hb5.mono B4.out.size))
    clear hb5 B4 R4x0 R4x1 R4x2
    clear hRo
    obtain ⟨R5x0a, R5x0b, R5x0c⟩ := R5x0.out
    obtain ⟨R5x1a, R5x1b, R5x1c⟩ := R5x1.out
    obtain ⟨R5x2a, R5x2b, R5x2c⟩ := R5x2.out
    go_wp2_with fail
    have m0_bb : (Value.slice (some ⟨gs, 0, none⟩) n cs).ownBlock ≠ some W5.heap.size := fun e => by have := (O5x0.out.ltb _ e).2; omega
    have n_z_bb : z ≠ W5.heap.size := Nat.ne_of_lt R5x0.out.2.2
    have n_r_bb : r ≠ W5.heap.size := Nat.ne_of_lt R5x1.out.2.2
    have n_al_bb : al ≠ W5.heap.size := Nat.ne_of_lt R5x2.out.2.2
    have l_bb : w.heap.size ≤ W5.heap.size := B5.out.size
    have hb6 := below_alloc (Below.refl W5.heap.size W5) (.cells (bysA B) 27)
    have N6 := Lib.hid (RowAt.of (block_new W5 (.cells (bysA B) 27)))
    have O6x0 := Lib.hid (O5x0.out.grow hb6)
    clear O5x0
    have R6x0 := Lib.hid (R5x0.out.grow hb6)
    have R6x1 := Lib.hid (R5x1.out.grow hb6)
    have R6x2 := Lib.hid (R5x2.out.grow hb6)
    have B6 := Lib.hid (B5.out.trans (hb6.mono B5.out.size))
    clear hb6 B5 R5x0 R5x1 R5x2 R5x0a R5x0b R5x0c R5x1a R5x1b R5x1c R5x2a R5x2b R5x2c
    generalize W5.heap.size = bb at *
    generalize W5.alloc (.cells (bysA B) 27) = W6 at *
    have hk0 : ∀ (o' : Array Obj) (d' : Nat), (loadRow 23 (.pointer (some ⟨gs, 0, none⟩))).run Tryz.prog (W6.plus o' d') = .ok (.agg (bysA s0)) (W6.plus o' d') := fun o' d' => own_load0 (O6x0.out.grow (below_plus_of _ _ _ (Below.refl _ _) (Nat.le_refl _))) Hs0.out
    obtain ⟨R6x0a, R6x0b, R6x0c⟩ := R6x0.out
    obtain ⟨R6x1a, R6x1b, R6x1c⟩ := R6x1.out
    obtain ⟨R6x2a, R6x2b, R6x2c⟩ := R6x2.out
    obtain ⟨N6a, N6b, N6c⟩ := N6.out
    refine wp_region_pick W6 [0, 1, 2, 3, 4, 5, 6, 7, 8] [false, false, false, false, false, false, false, false, true] [] [] 9 (by kernel_rfl) rfl (by kernel_rfl) (by intro c a d v w h; cases d <;> exact h) (by first | exact (Below.refl _ _).drew | exact Below.refl _ _) ?_
    simp only [pick, List.getElem?_cons_succ, List.getElem?_cons_zero, List.drop_succ_cons, List.drop_zero]
    refine wpHoldF_val (wanted_none rfl) (by intro K o d hK; go_simp; exact hK _ (Below.refl _ _)) ?_
    refine wpHoldF_val (wanted_none rfl) (by intro K o d hK; go_simp; exact hK _ (Below.refl _ _)) ?_
    refine wpHoldF_val (wanted_none rfl) (by intro K o d hK; go_simp; exact hK _ (Below.refl _ _)) ?_
    refine wpHoldF_val (wanted_none rfl) (by intro K o d hK; go_simp; exact hK _ (Below.refl _ _)) ?_
    refine wpHoldF_val (wanted_none rfl) (by intro K o d hK; go_simp; exact hK _ (Below.refl _ _)) ?_
    refine wpHoldF_val (wanted_none rfl) (by intro K o d hK; go_simp; exact hK _ (Below.refl _ _)) ?_
    refine wpHoldF_call (v := .agg (bysA P)) (wanted_none rfl) (by intro K o d hK; go_simp; refine (HPr.out _ (HT.out.grow (below_plus_of _ _ _ B6.out B6.out.size))).mono ?_; rintro e w' ⟨rfl, hbw⟩; exact ⟨_, rfl, hK _ hbw⟩) ?_
    refine wpHoldF_val (wanted_none rfl) (by intro K o d hK; go_simp; exact hK _ (Below.refl _ _)) ?_
    refine wpHoldF_late (wanted_none rfl) (fun w => by go_simp; rfl) ?_
    refine wpHoldF_nil ?_
    intro W7 hb7 hblk
    clear hblk
    clear R6x0a R6x0b R6x0c R6x1a R6x1b R6x1c R6x2a R6x2b R6x2c N6a N6b N6c
    have O7x0 := Lib.hid (O6x0.out.grow hb7)
    clear O6x0
    have R7x0 := Lib.hid (R6x0.out.grow hb7)
    have R7x1 := Lib.hid (R6x1.out.grow hb7)
    have R7x2 := Lib.hid (R6x2.out.grow hb7)
    have R7x3 := Lib.hid (N6.out.grow hb7)
    have B7 := Lib.hid (B6.out.trans (hb7.mono B6.out.size))
    clear hb7 B6 R6x0 R6x1 R6x2 N6
    obtain ⟨R7x0a, R7x0b, R7x0c⟩ := R7x0.out
    obtain ⟨R7x1a, R7x1b, R7x1c⟩ := R7x1.out
    obtain ⟨R7x2a, R7x2b, R7x2c⟩ := R7x2.out
    obtain ⟨R7x3a, R7x3b, R7x3c⟩ := R7x3.out
    go_wp2_with fail
    refine bodyPost_ret (v := .tuple #[.agg (bysA H), .slice (some ⟨gs, 0, none⟩) n cs, .int .i64 0]) (results_hdr2 Tryz.results11 hHs _ _ _ rfl (by go_simp) (by go_simp) rfl rfl) rfl ⟨_, rfl, O7x0.out.setRow (fun e => Hgr.out (by simpa [Value.ownBlock] using e)) _, ?_⟩
    exact below_setRow B7.out l_r _
/-- What is built of any hops. -/
theorem build_c (x : List Nat) (L : List Hop) (p : Option Addr) (n cap : Nat) (hx : x.length = 32) (hxb : ∀ i, x.getD i 0 < 256) (hok : ∀ h ∈ L, HopOk h) (hn : n = L.length) (w : World) (hT : Tabs w) (hR : RowsAt 43 w p (hopR L)) :
    Calls Tryz.prog 11 #[.agg (bysA x), .slice p n cap] w fun e w' => ∃ v, e = .returned (.tuple #[.agg (bysA (hbH x L)), v, .int .i64 (hbE x L)]) ∧ OwnR w' w.heap.size 23 32 v ((hbK x L).map bysA) ∧ Below w.heap.size w w' := by
  cases hr : isRt L with
  | true => exact build_sec x L p n cap hx hxb hok hn hr w hT hR
  | false =>
    have h1 : hbH x L = zs 208 := by unfold hbH; rw [hr]; rfl
    have h2 : hbK x L = [] := by unfold hbK; rw [hr]; rfl
    have h3 : hbE x L = 14 := by unfold hbE; rw [hr]; rfl
    rw [h1, h2, h3]
    refine (build_bad x L p n cap hx hok hn hr w hR).mono ?_
    rintro e w' ⟨rfl, hb⟩
    exact ⟨_, rfl, OwnR.nil _ _ _ _, hb⟩
end Go.Proofs.YtddmjddlbhdcpaaGreatDoor

/-
  Package octet: a reader.
-/
namespace Go.Oc
theorem or_add (a x : Nat) (hx : x < 256) : a * 256 ||| x = a * 256 + x := by
  have := Nat.shiftLeft_add_eq_or_of_lt (i := 8) (b := x) hx a
  rw [Nat.shiftLeft_eq] at this
  exact this.symm
end Go.Oc
namespace Go.Proofs.YtddmjddlbhdcpaaGreatDoor
open Go.RowKit Go.Hold Go.Sh Go.Oc

/-- Bytes of a reader: none, or in its block. -/
def RB (w : World) (bb : Option Nat) (p : Option Addr) (l : List Nat) : Prop := (p = none ∧ l = []) ∨ ∃ b o, bb = some b ∧ p = some ⟨b, o, none⟩ ∧ BytesAt w b o l
theorem RB.any {w : World} {bb : Option Nat} {p : Option Addr} {l : List Nat} (h : RB w bb p l) : Bs0 w p l := by
  rcases h with ⟨_, h⟩ | ⟨b, o, _, e, h⟩
  · exact .inl h
  · exact .inr ⟨b, o, e, h⟩
theorem RB.moves {w w' : World} {g : Nat} {a bb : Option Nat} {p : Option Addr} {l : List Nat} (h : RB w bb p l) (m : Moves w g a w') (h1 : bb ≠ some g) (h2 : ∀ k, bb = some k → a ≠ some k) : RB w' bb p l := by
  rcases h with h | ⟨b, o, e1, e, h⟩
  · exact .inl h
  · exact .inr ⟨b, o, e1, e, h.moves m (fun e2 => h1 (by rw [e1, e2])) (h2 b e1)⟩
theorem RB.lt {w : World} {bb : Option Nat} {p : Option Addr} {l : List Nat} (h : RB w bb p l) : p ≠ none → ∀ k, bb = some k → k < w.heap.size := by
  rcases h with ⟨h, _⟩ | ⟨b, o, e1, _, h⟩
  · intro hp; exact absurd h hp
  · intro _ k hk; rw [e1] at hk; cases hk; exact h.1
/-- A reader lies in row g, its bytes in block bb. -/
def Rd (w : World) (g : Nat) (bb : Option Nat) (s : Ws) : Prop :=
  ∃ p c, RowAt w g (rrow true s.1 (.slice p s.2.length c)) ∧ RB w bb p s.2 ∧ (p = none → c = 0) ∧ s.2.length ≤ c ∧ bb ≠ some g ∧ s.2.length ≤ 65536 ∧ ∀ k, bb = some k → k < w.heap.size
/-- What a call leaves of a reader. -/
def RStep (w : World) (g : Nat) (bb : Option Nat) (s' : Ws) (w' : World) : Prop := Rd w' g bb s' ∧ Moves w g none w'
theorem Rd.lt {w : World} {g : Nat} {bb : Option Nat} {s : Ws} (h : Rd w g bb s) : g < w.heap.size ∧ ∀ k, bb = some k → k < w.heap.size := by
  obtain ⟨p, c, h, _, _, _, _, _, h2⟩ := h
  exact ⟨h.2.2, h2⟩
theorem Rd.le {w : World} {g : Nat} {bb : Option Nat} {s : Ws} (h : Rd w g bb s) : s.2.length ≤ 65536 := by
  obtain ⟨p, c, _, _, _, _, _, h, _⟩ := h; exact h
theorem Rd.apart {w : World} {g : Nat} {bb : Option Nat} {s : Ws} (h : Rd w g bb s) : bb ≠ some g := by
  obtain ⟨p, c, _, _, _, _, h, _, _⟩ := h; exact h
theorem Rd.moves {w w' : World} {g g2 : Nat} {bb ob2 : Option Nat} {s : Ws} (h : Rd w g bb s) (m : Moves w g2 ob2 w') (h1 : g ≠ g2) (h2 : ob2 ≠ some g) (h3 : bb ≠ some g2) (h4 : ∀ k, bb = some k → ob2 ≠ some k) : Rd w' g bb s := by
  obtain ⟨p, c, hr, hb, h5, h6, h7, h8, h9⟩ := h
  exact ⟨p, c, RowAt.moves hr m h1 h2, hb.moves m h3 h4, h5, h6, h7, h8, fun k hk => Nat.lt_of_lt_of_le (h9 k hk) m.size⟩
theorem Rd.grow {w w' : World} {g : Nat} {bb : Option Nat} {s : Ws} (h : Rd w g bb s) (hb : Below w.heap.size w w') : Rd w' g bb s := by
  have hl := h.lt
  refine h.moves (g2 := w.heap.size) (ob2 := none) (Moves.of _ _ hb) (by omega) (fun e => by cases e) (fun e => ?_) (fun _ _ e => by cases e)
  have := hl.2 _ e; omega
theorem RStep.refl {w : World} {g : Nat} {bb : Option Nat} {s : Ws} (h : Rd w g bb s) : RStep w g bb s w := ⟨h, Moves.refl _ _ _⟩
theorem RStep.grow {w w1 w' : World} {g : Nat} {bb : Option Nat} {s : Ws} (h : RStep w g bb s w1) (hb : Below w1.heap.size w1 w') : RStep w g bb s w' := ⟨h.1.grow hb, h.2.grow hb⟩
theorem Rd.row {w : World} {g : Nat} {bb : Option Nat} {s : Ws} (h : Rd w g bb s) : ∃ v, RowAt w g (rrow true s.1 v) := by
  obtain ⟨p, c, h, _⟩ := h; exact ⟨_, h⟩
/-- The first error is set. -/
theorem RStep.err {w : World} {g : Nat} {bb : Option Nat} {s : Ws} (h : Rd w g bb s) (er : Int) : RStep w g bb (er, s.2) (w.setCell ⟨g, 1, none⟩ (.int .i64 er)) := by
  have hl := h.lt
  obtain ⟨p, c, hr, hb, h5, h6, h7, h8, h9⟩ := h
  rw [setCell_row hr]
  have m := Moves.setRow (Moves.refl w g none) ((rrow true s.1 (.slice p s.2.length c)).setIfInBounds 1 (.int .i64 er))
  exact ⟨⟨p, c, hr.set _, hb.moves m h7 (fun _ _ e => by cases e), h5, h6, h7, h8, fun k hk => Nat.lt_of_lt_of_le (h9 k hk) m.size⟩, m⟩
/-- What is left is put in place. -/
theorem RStep.put {w : World} {g : Nat} {bb : Option Nat} {s : Ws} {l : List Nat} {p : Option Addr} {c : Nat} (h : Rd w g bb s) (hb : RB w bb p l) (hp : p = none → c = 0) (hc : l.length ≤ c) (hl : l.length ≤ 65536) :
    RStep w g bb (s.1, l) (w.setCell ⟨g, 2, none⟩ (.slice p l.length c)) := by
  obtain ⟨p0, c0, hr, hb0, h5, h6, h7, h8, h9⟩ := h
  rw [setCell_row hr]
  have m := Moves.setRow (Moves.refl w g none) ((rrow true s.1 (.slice p0 s.2.length c0)).setIfInBounds 2 (.slice p l.length c))
  exact ⟨⟨p, c, hr.set _, hb.moves m h7 (fun _ _ e => by cases e), hp, hc, h7, hl, fun k hk => Nat.lt_of_lt_of_le (h9 k hk) m.size⟩, m⟩
theorem slB_loN (w : World) : (slB (.slice none 0 0) (some (.int .i64 ((0 : Nat) : Int))) none none).run Tryz.prog w = .ok (.slice none 0 0) w := by
  unfold slB
  rw [run_sliceAt_slice _ _ _ _ _ _ elem8, run_slice_l _ _ _ _ _ elem8 _ _ (by omega) (by omega), size8]
  simp [sliced, Result.andThen]

set_option maxHeartbeats 600000 in
set_option maxRecDepth 100000 in
theorem newReader_c (p : Option Addr) (l : List Nat) (n cap : Nat) (w : World) (hn : n = l.length) (hl : l.length ≤ 65536) (hB : Bs0 w p l) (hp : p = none → cap = 0) :
    Calls Tryz.prog 81 #[.slice p n cap] w fun e w' => ∃ g bb, e = .returned (.pointer (some ⟨g, 0, none⟩)) ∧ Rd w' g bb (0, l) ∧ w.heap.size ≤ g ∧ (∀ k, bb = some k → w.heap.size ≤ k) ∧ Below w.heap.size w w' := by
  have h1 : ¬ (65536 : Int) < (n : Int) := by omega
  have KC := Lib.hid (clone_c p l n cap w hn hB hp (by omega))
  have HL := Lib.hid hl
  clear hl hB hp hn
  go_enter Tryz.func81, Tryz.ntmps81
  go_wp2_with fail
  refine KC.out.mono ?_
  rintro e w1 ⟨v, rfl, ho, hb1⟩
  have HO := Lib.hid ho
  have HB := Lib.hid hb1
  obtain ⟨p1, c1, rfl, _, hc1, hp1⟩ := ho.bs
  have HC := Lib.hid hc1
  have HP := Lib.hid hp1
  have HE := Lib.hid (Eq.refl l.length)
  clear ho hb1 hc1 hp1
  generalize hk : l.length = k at *
  have Hk := Lib.hid hk
  clear hk
  go_wp2_with fail
  go_ret
  refine ⟨_, (Value.slice p1 k c1).ownBlock, rfl, ?_, HB.out.size, fun k' hk' => (World.ownsRow.lt HO.out k' hk').1, (HB.out).trans ((below_alloc (Below.refl w1.heap.size w1) _).mono HB.out.size)⟩
  have hlt := World.ownsRow.lt HO.out
  refine ⟨p1, c1, by simp only [Hk.out]; exact RowAt.of (block_new w1 _), ?_, HP.out, by simp only [Hk.out]; exact HC.out, fun e => by have := (hlt _ e).2; omega, by simp only [Hk.out]; exact HL.out, fun k' hk' => Nat.lt_of_lt_of_le (hlt k' hk').2 (by simp)⟩
  rcases HO.out.2 with ⟨hv, h0⟩ | ⟨gx, cap, cur, hv, _⟩
  · cases hv
    exact .inl ⟨rfl, List.length_eq_zero_iff.1 h0⟩
  · cases hv
    exact .inr ⟨gx, 0, rfl, rfl, (OwnB.bytes HO.out (hlt gx rfl).2).grow (below_alloc (Below.refl _ _) _)⟩
end Go.Proofs.YtddmjddlbhdcpaaGreatDoor

/-
  Package octet: what a reader takes.
-/
namespace Go.Proofs.YtddmjddlbhdcpaaGreatDoor
open Go.RowKit Go.Hold Go.Sh Go.Oc

/-- What is taken. -/
def tkL (l : List Nat) (n : Nat) : List Nat := if l.length < n then [] else l.take n
theorem Rd.stop {w : World} {g : Nat} {bb : Option Nat} {s : Ws} (h : Rd w g bb s) :
    Calls Tryz.prog 110 #[.pointer (some ⟨g, 0, none⟩)] w fun e w' => e = .returned (.int .i64 s.1) ∧ w' = w := by
  obtain ⟨v, hr⟩ := h.row
  exact rstopped_c g true s.1 w (hr.cellAt 0 rfl) (hr.cellAt 1 rfl)
theorem RB.drop {w : World} {bb : Option Nat} {b o n cap : Nat} {l : List Nat} (h : RB w bb (some ⟨b, o, none⟩) l) (hc : l.length ≤ cap) : RB w bb (some ⟨b, adv o n cap, none⟩) (l.drop n) := by
  rcases h with ⟨h, _⟩ | ⟨b', o', e1, e2, h⟩
  · cases h
  · cases e2
    exact .inr ⟨b, _, e1, rfl, h.adv hc⟩
set_option maxHeartbeats 600000 in
set_option maxRecDepth 100000 in
theorem rtake_c (g : Nat) (bb : Option Nat) (l : List Nat) (n : Nat) (w : World) (h : Rd w g bb (0, l)) :
    Calls Tryz.prog 112 #[.pointer (some ⟨g, 0, none⟩), .int .i64 (n : Int)] w fun e w' => ∃ p c, e = .returned (.tuple #[.slice p (tkL l n).length c, .int .i64 (takS (0, l) n).1]) ∧ Bs0 w' p (tkL l n) ∧ (p = none → c = 0) ∧ RStep w g bb (takS (0, l) n) w' := by
  have H := Lib.hid h
  obtain ⟨p, c, hr, hb, hpc, hlc, hap, hle, hbl⟩ := h
  simp only at hr hb hlc hle
  have hc1 := hr.cellAt 1 (show (rrow true 0 (.slice p l.length c))[1]? = some (.int .i64 0) from rfl)
  have hc2 := hr.cellAt 2 (show (rrow true 0 (.slice p l.length c))[2]? = some (.slice p l.length c) from rfl)
  have hf1 := hr.frozenAt 1
  have hf2 := hr.frozenAt 2
  have hgl := hr.2.2
  obtain ⟨k, ek⟩ : ∃ k, k = l.length := ⟨_, rfl⟩
  by_cases hs : l.length < n
  · have e1 : tkL l n = [] := by unfold tkL; rw [if_pos hs]
    have e2 : takS (0, l) n = (4, l) := by unfold takS; rw [if_pos hs]
    rw [e1, e2]
    have h1 : (k : Int) < (n : Int) := by omega
    have KF := Lib.hid (fail_c g 4 0 w hc1 hf1)
    have HE := Lib.hid (RStep.err H.out 4)
    rw [← ek] at hc2
    clear hr hb hpc hlc hap hle hbl hs e1 e2 hc1 hf1 hf2 ek
    go_enter Tryz.func112, Tryz.ntmps112
    go_wp2_with fail
    refine KF.out.mono ?_
    rintro e w' ⟨rfl, rfl⟩
    go_wp2_with fail
    refine bodyPost_ret (v := .tuple #[.slice none 0 0, .int .i64 4]) (results_tmp2 Tryz.results112 _ _ _) rfl ⟨none, 0, rfl, .inl rfl, fun _ => rfl, HE.out⟩
  · have e1 : tkL l n = l.take n := by unfold tkL; rw [if_neg hs]
    have e2 : takS (0, l) n = (0, l.drop n) := by unfold takS; rw [if_neg hs]
    rw [e1, e2]
    have h1 : ¬ (k : Int) < (n : Int) := by omega
    have hlen : (l.take n).length = n := by rw [List.length_take]; omega
    have hh := slB_h p k c n (by omega)
    have hbt := hb.any.take n
    have hld : (l.drop n).length = k - n := by rw [List.length_drop, ek]
    have hc64 : c ≤ c := Nat.le_refl _
    rcases hb with ⟨rfl, rfl⟩ | ⟨b, o, rfl, rfl, hb⟩
    · obtain rfl := hpc rfl
      obtain rfl : n = 0 := by simp at hs; exact hs
      obtain rfl : k = 0 := by rw [ek]; rfl
      have hlo := slB_loN
      have HE := Lib.hid (RStep.put H.out (.inl ⟨rfl, rfl⟩) (fun _ => rfl) (Nat.le_refl _) (by simp) : RStep w g bb (0, []) _)
      clear hr hpc hlc hap hle hbl hs e1 e2 hc1 hf1 ek hlen hld hbt
      simp only [List.length_nil, List.take_nil, List.drop_nil] at *
      rw [show ((0 : Nat) : Int) = 0 from rfl] at *
      go_enter Tryz.func112, Tryz.ntmps112
      go_wp2_with fail
      refine bodyPost_ret (v := .tuple #[.slice none 0 0, .int .i64 0]) (results_tmp2 Tryz.results112 _ _ _) rfl ⟨none, 0, rfl, .inl rfl, fun _ => rfl, HE.out⟩
    · have hlo := slB_lo b o k c n (by omega)
      have hrb : RB w (some b) (some ⟨b, adv o n c, none⟩) (l.drop n) := RB.drop (.inr ⟨b, o, rfl, rfl, hb⟩) hlc
      have HE0 : RStep w g (some b) (0, l.drop n) _ := RStep.put (c := c - n) H.out hrb (fun e => by cases e) (by omega) (by omega)
      have HBt := Lib.hid (show Bs0 (w.setCell ⟨g, 2, none⟩ (.slice (some ⟨b, adv o n c, none⟩) (l.drop n).length (c - n))) (some ⟨b, o, none⟩) (l.take n) from
        hbt.moves (Moves.setCell (Moves.refl w g none) 2 _) (fun b' o' e => by cases e; exact ⟨fun e => hap (by rw [e]), fun e => by cases e⟩))
      rw [hld] at HE0 HBt
      have HE := Lib.hid HE0
      rw [← ek] at hc2
      clear hr hpc hlc hap hle hbl hs e1 e2 hc1 hf1 ek hrb hld hbt hb HE0
      generalize l.take n = t at *
      subst hlen
      go_enter Tryz.func112, Tryz.ntmps112
      go_wp2_with fail
      refine bodyPost_ret (v := .tuple #[.slice (some ⟨b, o, none⟩) t.length c, .int .i64 0]) (results_tmp2 Tryz.results112 _ _ _) rfl ⟨_, _, rfl, HBt.out, (fun e => by cases e), HE.out⟩

set_option maxHeartbeats 600000 in
set_option maxRecDepth 100000 in
theorem joined_c (p : Option Addr) (l : List Nat) (n cap : Nat) (w : World) (hn : n = l.length) (hl : l.length ≤ 8) (hB : Bs0 w p l) (hlb : ∀ i, l.getD i 0 < 256) :
    Calls Tryz.prog 113 #[.slice p n cap] w fun e w' => e = .returned (.int .u64 (joinN l : Int)) ∧ w' = w := by
  have HB := Lib.hid hB
  have Hn := Lib.hid hn
  have HL := Lib.hid hl
  have HLb := Lib.hid hlb
  clear hB hn hl hlb
  go_enter Tryz.func113, Tryz.ntmps113
  go_wp2_with fail
  go_loopw [3, 8] (fun z i wr => ∃ j : Nat, j ≤ n ∧ i = .int .i64 j ∧ z = .int .u64 (joinN (l.take j) : Int) ∧ wr = w) (fun _ i _ => n - (intOf i).toNat)
  case atStart => exact ⟨0, Nat.zero_le _, rfl, rfl, rfl⟩
  case round =>
    obtain ⟨j, hj, rfl, rfl, hwr⟩ := hrel
    subst hwr
    by_cases hjn : j < n
    · have hj0 : (0 : Int) ≤ (j : Int) := by omega
      have hj1 : (j : Int) < (n : Int) := by omega
      have hjb : (j : Int) < 8 := by have := HL.out; have := Hn.out; omega
      have hjl : j < l.length := by rw [← Hn.out]; exact hjn
      obtain ⟨b, o, hp, hby⟩ : ∃ b o, p = some ⟨b, o, none⟩ ∧ BytesAt wr b o l := by
        rcases HB.out with rfl | h
        · simp at hjl
        · exact h
      subst hp
      have hcj := hby.2 j hjl
      have hx := HLb.out j
      have ht : l.take (j + 1) = l.take j ++ [l.getD j 0] := by rw [List.take_add_one, List.getElem?_eq_getElem hjl]; simp [List.getD, hjl]
      obtain ⟨x, ex⟩ : ∃ x, x = l.getD j 0 := ⟨_, rfl⟩
      rw [← ex] at hcj hx ht
      have hjs : joinN (l.take (j + 1)) = joinN (l.take j) * 256 + x := by rw [ht, join_snoc]
      have hlt := join_lt (l.take (j + 1)) (bts_take HLb.out _)
      have hpow : (2 : Nat) ^ (8 * (l.take (j + 1)).length) ≤ 18446744073709551616 := by
        rw [show (18446744073709551616 : Nat) = 2 ^ 64 from rfl]
        refine Nat.pow_le_pow_right (by decide) ?_
        rw [List.length_take]; have := HL.out; omega
      obtain ⟨a2, ea2⟩ : ∃ a, a = joinN (l.take (j + 1)) := ⟨_, rfl⟩
      obtain ⟨a, ea⟩ : ∃ a, a = joinN (l.take j) := ⟨_, rfl⟩
      rw [← ea2, ← ea] at hjs
      rw [← ea2] at hlt
      rw [← ea]
      obtain ⟨y, ey⟩ : ∃ y, y = a * 256 := ⟨_, rfl⟩
      have hsh : IntKind.u64.wrap ((a : Int) * 256) = (y : Int) := by rw [IntWalk.u64_in _ (by omega)]; omega
      have hcx : IntKind.u64.wrap (x : Int) = (x : Int) := IntWalk.u64_in _ (by omega)
      have hor : bits .or .u64 (y : Int) (x : Int) = (a2 : Int) := by rw [bits_or_u64_nat y x (by omega) (by omega), ey, or_add a x hx, hjs]
      have Ea2 := Lib.hid ea2
      clear hby hx ht ex hjs hlt hpow ea2 ea ey hjl
      go_wp2_with fail
      go_roundw
      case rel => exact ⟨j + 1, by omega, by go_num, by rw [← Ea2.out], by first | trivial | rfl⟩
      case measure => simp [intOf]; omega
    · obtain rfl : j = n := by omega
      have hall : l.take j = l := List.take_of_length_le (by rw [← Hn.out]; exact Nat.le_refl _)
      rw [hall]
      clear hall
      go_wp2_with fail
      go_ret
      exact ⟨rfl, rfl⟩
end Go.Proofs.YtddmjddlbhdcpaaGreatDoor

/-
  Package octet: a reader's calls that take, and whether nothing but noughts is left.
-/
namespace Go.Proofs.YtddmjddlbhdcpaaGreatDoor
open Go.RowKit Go.Hold Go.Sh Go.Oc

/-- What 'stopped' answers of a reader, or of none. -/
def RStop (w : World) (v : Value) (er : Int) : Prop := Calls Tryz.prog 110 #[v] w fun e w' => e = .returned (.int .i64 er) ∧ w' = w
theorem rdNum_stop (po : Option Addr) (er : Int) (her : ¬ er = 0) (a : Value) (w : World) (h : RStop w (.pointer po) er) : Calls Tryz.prog 82 #[.pointer po, a] w fun e w' => e = .returned (.tuple #[.int .u64 0, .int .i64 er]) ∧ w' = w := by
  have HS := Lib.hid h
  unfold RStop at HS
  clear h
  go_enter Tryz.func82, Tryz.ntmps82
  go_wp2_with fail
  refine HS.out.mono ?_
  rintro e w' ⟨rfl, rfl⟩
  go_wp2_with fail
  refine bodyPost_ret (v := .tuple #[.int .u64 0, .int .i64 er]) (results_tmp2 Tryz.results82 _ _ _) rfl ⟨rfl, rfl⟩
theorem rdBytes_stop (po : Option Addr) (er : Int) (her : ¬ er = 0) (a : Value) (w : World) (h : RStop w (.pointer po) er) : Calls Tryz.prog 83 #[.pointer po, a] w fun e w' => e = .returned (.tuple #[.slice none 0 0, .int .i64 er]) ∧ w' = w := by
  have HS := Lib.hid h
  unfold RStop at HS
  clear h
  go_enter Tryz.func83, Tryz.ntmps83
  go_wp2_with fail
  refine HS.out.mono ?_
  rintro e w' ⟨rfl, rfl⟩
  go_wp2_with fail
  refine bodyPost_ret (v := .tuple #[.slice none 0 0, .int .i64 er]) (results_tmp2 Tryz.results83 _ _ _) rfl ⟨rfl, rfl⟩
theorem rdDone_stop (po : Option Addr) (er : Int) (her : ¬ er = 0) (w : World) (h : RStop w (.pointer po) er) : Calls Tryz.prog 84 #[.pointer po] w fun e w' => e = .returned (.bool false) ∧ w' = w := by
  have HS := Lib.hid h
  unfold RStop at HS
  have h2 : (er != 0) = true := by simpa using her
  clear h
  go_enter Tryz.func84, Tryz.ntmps84
  go_wp2_with fail
  refine HS.out.mono ?_
  rintro e w' ⟨rfl, rfl⟩
  go_wp2_with fail
  go_ret
  exact ⟨rfl, rfl⟩

set_option maxHeartbeats 1000000 in
set_option maxRecDepth 100000 in
theorem rdNum_c (g : Nat) (bb : Option Nat) (s : Ws) (sz : Int) (w : World) (h : Rd w g bb s) (hb : ∀ i, s.2.getD i 0 < 256) :
    Calls Tryz.prog 82 #[.pointer (some ⟨g, 0, none⟩), .int .i64 sz] w fun e w' => e = .returned (.tuple #[.int .u64 (rnumV s sz : Int), .int .i64 (rnumS s sz).1]) ∧ RStep w g bb (rnumS s sz) w' := by
  have HS := Lib.hid h.stop
  obtain ⟨er, l⟩ := s
  by_cases her : er = 0
  · subst her
    have hs : rnumS (0, l) sz = if ¬ (1 ≤ sz ∧ sz ≤ 8) then (2, l) else takS (0, l) sz.toNat := by unfold rnumS; rw [if_neg (by simp)]
    rw [hs]
    by_cases h18 : 1 ≤ sz ∧ sz ≤ 8
    · rw [if_neg (by simpa using h18)]
      obtain ⟨z, rfl⟩ : ∃ z : Nat, sz = (z : Int) := ⟨sz.toNat, by omega⟩
      rw [Int.toNat_natCast]
      have KT := Lib.hid (rtake_c g bb l z w h)
      have hv : rnumV (0, l) (z : Int) = joinN (tkL l z) := by
        unfold rnumV tkL
        simp only [Int.toNat_natCast]
        by_cases hx : l.length < z
        · rw [if_neg (by omega), if_pos hx]; rfl
        · rw [if_pos ⟨by simp, h18, by omega⟩, if_neg hx]
      rw [hv]
      have HT := Lib.hid (show (tkL l z).length ≤ 8 ∧ ∀ i, (tkL l z).getD i 0 < 256 by
        unfold tkL; split
        · exact ⟨by simp, fun i => by simp⟩
        · exact ⟨by rw [List.length_take]; omega, bts_take hb _⟩)
      have h1 : ¬ (z : Int) < 1 := by omega
      have h8 : ¬ (8 : Int) < (z : Int) := by omega
      obtain ⟨x, ex⟩ : ∃ x, x = joinN (tkL l z) := ⟨_, rfl⟩
      rw [← ex]
      have Ex := Lib.hid ex
      clear hs h hb hv h18 ex
      go_enter Tryz.func82, Tryz.ntmps82
      go_wp2_with fail
      refine HS.out.mono ?_
      rintro e w' ⟨rfl, rfl⟩
      go_wp2_with fail
      refine KT.out.mono ?_
      rintro e w1 ⟨p, c, rfl, hb1, _, hst⟩
      have KJ := Lib.hid (joined_c p (tkL l z) (tkL l z).length c w1 rfl HT.out.1 hb1 HT.out.2)
      have HR := Lib.hid hst
      clear hb1 hst KT
      rw [← Ex.out] at KJ
      generalize (tkL l z).length = k at *
      go_wp2_with fail
      refine KJ.out.mono ?_
      rintro e w' ⟨rfl, rfl⟩
      go_wp2_with fail
      refine bodyPost_ret (v := .tuple #[.int .u64 (x : Int), .int .i64 (takS (0, l) z).1]) (results_tmp2 Tryz.results82 _ _ _) rfl ⟨rfl, HR.out⟩
    · rw [if_pos h18]
      have hv : rnumV (0, l) sz = 0 := by unfold rnumV; rw [if_neg (fun e => h18 e.2.1)]
      rw [hv]
      obtain ⟨v, hr⟩ := h.row
      have KF := Lib.hid (fail_c g 2 0 w (hr.cellAt 1 rfl) (hr.frozenAt 1))
      have HE := Lib.hid (RStep.err h 2)
      clear hs h hb hv hr
      by_cases h1 : sz < 1
      · clear h18
        go_enter Tryz.func82, Tryz.ntmps82
        go_wp2_with fail
        refine HS.out.mono ?_
        rintro e w' ⟨rfl, rfl⟩
        go_wp2_with fail
        refine KF.out.mono ?_
        rintro e w' ⟨rfl, rfl⟩
        go_wp2_with fail
        refine bodyPost_ret (v := .tuple #[.int .u64 0, .int .i64 2]) (results_tmp2 Tryz.results82 _ _ _) rfl ⟨rfl, HE.out⟩
      · have h8 : (8 : Int) < sz := by omega
        clear h18
        go_enter Tryz.func82, Tryz.ntmps82
        go_wp2_with fail
        refine HS.out.mono ?_
        rintro e w' ⟨rfl, rfl⟩
        go_wp2_with fail
        refine KF.out.mono ?_
        rintro e w' ⟨rfl, rfl⟩
        go_wp2_with fail
        refine bodyPost_ret (v := .tuple #[.int .u64 0, .int .i64 2]) (results_tmp2 Tryz.results82 _ _ _) rfl ⟨rfl, HE.out⟩
  · have hs : rnumS (er, l) sz = (er, l) := by unfold rnumS; rw [if_pos her]
    have hv : rnumV (er, l) sz = 0 := by unfold rnumV; rw [if_neg (fun e => her e.1)]
    rw [hs, hv]
    refine (rdNum_stop _ er her _ w HS.out).mono ?_
    rintro e w' ⟨rfl, rfl⟩
    exact ⟨rfl, RStep.refl h⟩

set_option maxHeartbeats 1000000 in
set_option maxRecDepth 100000 in
theorem rdBytes_c (g : Nat) (bb : Option Nat) (s : Ws) (n : Int) (w : World) (h : Rd w g bb s) :
    Calls Tryz.prog 83 #[.pointer (some ⟨g, 0, none⟩), .int .i64 n] w fun e w' => ∃ v, e = .returned (.tuple #[v, .int .i64 (rbytS s n).1]) ∧ OwnB w' w.heap.size v (rbytV s n) ∧ RStep w g bb (rbytS s n) w' := by
  have HS := Lib.hid h.stop
  obtain ⟨er, l⟩ := s
  by_cases her : er = 0
  · subst her
    have hs : rbytS (0, l) n = if n < 0 then (2, l) else takS (0, l) n.toNat := by unfold rbytS; rw [if_neg (by simp)]
    rw [hs]
    by_cases h0 : n < 0
    · rw [if_pos h0]
      have hv : rbytV (0, l) n = [] := by unfold rbytV; rw [if_neg (fun e => by have := e.2.1; omega)]
      rw [hv]
      obtain ⟨v, hr⟩ := h.row
      have KF := Lib.hid (fail_c g 2 0 w (hr.cellAt 1 rfl) (hr.frozenAt 1))
      have HE := Lib.hid (RStep.err h 2)
      clear hs h hv hr
      go_enter Tryz.func83, Tryz.ntmps83
      go_wp2_with fail
      refine HS.out.mono ?_
      rintro e w' ⟨rfl, rfl⟩
      go_wp2_with fail
      refine KF.out.mono ?_
      rintro e w' ⟨rfl, rfl⟩
      go_wp2_with fail
      refine bodyPost_ret (v := .tuple #[.slice none 0 0, .int .i64 2]) (results_tmp2 Tryz.results83 _ _ _) rfl ⟨_, rfl, own_nil _ _, HE.out⟩
    · rw [if_neg h0]
      obtain ⟨z, rfl⟩ : ∃ z : Nat, n = (z : Int) := ⟨n.toNat, by omega⟩
      rw [Int.toNat_natCast]
      have KT := Lib.hid (rtake_c g bb l z w h)
      have hv : rbytV (0, l) (z : Int) = tkL l z := by
        unfold rbytV tkL
        simp only [Int.toNat_natCast]
        by_cases hx : l.length < z
        · rw [if_neg (by omega), if_pos hx]
        · rw [if_pos ⟨by simp, by omega, by omega⟩, if_neg hx]
      rw [hv]
      have HT := Lib.hid (show (tkL l z).length ≤ 16000000 by
        have := h.le
        simp only at this
        unfold tkL; split
        · simp
        · rw [List.length_take]; omega)
      clear hs h hv
      go_enter Tryz.func83, Tryz.ntmps83
      go_wp2_with fail
      refine HS.out.mono ?_
      rintro e w' ⟨rfl, rfl⟩
      go_wp2_with fail
      refine KT.out.mono ?_
      rintro e w1 ⟨p, c, rfl, hb1, hp1, hst⟩
      have KJ := Lib.hid (clone_c p (tkL l z) (tkL l z).length c w1 rfl hb1 hp1 HT.out)
      have HR := Lib.hid hst
      clear hb1 hp1 hst KT
      generalize (tkL l z).length = k at *
      go_wp2_with fail
      refine KJ.out.mono ?_
      rintro e w2 ⟨v2, rfl, ho2, hb2⟩
      have HO := Lib.hid ho2
      have HB := Lib.hid hb2
      clear ho2 hb2
      go_wp2_with fail
      refine bodyPost_ret (v := .tuple #[v2, .int .i64 (takS (0, l) z).1]) (results_tmp2 Tryz.results83 _ _ _) rfl ⟨_, rfl, HO.out.base HR.out.2.size, HR.out.grow HB.out⟩
  · have hs : rbytS (er, l) n = (er, l) := by unfold rbytS; rw [if_pos her]
    have hv : rbytV (er, l) n = [] := by unfold rbytV; rw [if_neg (fun e => her e.1)]
    rw [hs, hv]
    refine (rdBytes_stop _ er her _ w HS.out).mono ?_
    rintro e w' ⟨rfl, rfl⟩
    exact ⟨_, rfl, own_nil _ _, RStep.refl h⟩

theorem done_zero (l : List Nat) (k : Nat) (h : ∀ i, i < k → l.getD i 0 = 0) (hk : l.length ≤ k) : l.all (· == 0) = true := by
  rw [List.all_eq_true]
  intro x hx
  obtain ⟨i, hi, rfl⟩ := List.getElem_of_mem hx
  have := h i (by omega)
  simpa [List.getD, hi] using this
theorem done_not (l : List Nat) (k : Nat) (hk : k < l.length) (h : l.getD k 0 ≠ 0) : l.all (· == 0) = false := by
  rw [List.all_eq_false]
  refine ⟨l[k], List.getElem_mem hk, ?_⟩
  simpa [List.getD, hk] using h
set_option maxHeartbeats 1000000 in
set_option maxRecDepth 100000 in
theorem rdDone_c (g : Nat) (bb : Option Nat) (s : Ws) (w : World) (h : Rd w g bb s) :
    Calls Tryz.prog 84 #[.pointer (some ⟨g, 0, none⟩)] w fun e w' => e = .returned (.bool (doneS s)) ∧ w' = w := by
  have HS := Lib.hid h.stop
  obtain ⟨er, l⟩ := s
  by_cases her : er = 0
  · subst her
    have hs : doneS (0, l) = l.all (· == 0) := by unfold doneS; simp
    rw [hs]
    have hle := h.le
    obtain ⟨p, c, hr, hb, _⟩ := h
    simp only at hr hb hle
    have hc2 := hr.cellAt 2 (show (rrow true 0 (.slice p l.length c))[2]? = some (.slice p l.length c) from rfl)
    have hgl := hr.2.2
    have HB := Lib.hid hb.any
    clear hs hr hb
    obtain ⟨n, en⟩ : ∃ n, n = l.length := ⟨_, rfl⟩
    have hnb : (n : Int) ≤ 65536 := by omega
    have Hn := Lib.hid en
    rw [← en] at hc2
    clear en hle
    go_enter Tryz.func84, Tryz.ntmps84
    go_wp2_with fail
    refine HS.out.mono ?_
    rintro e w' ⟨rfl, rfl⟩
    go_wp2_with fail
    go_loopw [13] (fun i wr => ∃ j : Nat, j ≤ n ∧ i = .int .i64 j ∧ (∀ i, i < j → l.getD i 0 = 0) ∧ wr = w') (fun i _ => n - (intOf i).toNat)
    case atStart => exact ⟨0, Nat.zero_le _, rfl, fun i hi => absurd hi (by omega), rfl⟩
    case round =>
      obtain ⟨j, hj, rfl, hz, hwr⟩ := hrel
      subst hwr
      have HZ := Lib.hid hz
      clear hz
      by_cases hjn : j < n
      · have hj0 : (0 : Int) ≤ (j : Int) := by omega
        have hj1 : (j : Int) < (n : Int) := by omega
        have hjb : (j : Int) < 65536 := by omega
        have hjl : j < l.length := by rw [← Hn.out]; exact hjn
        obtain ⟨b, o, hp, hby⟩ : ∃ b o, p = some ⟨b, o, none⟩ ∧ BytesAt wr b o l := by
          rcases HB.out with rfl | h
          · simp at hjl
          · exact h
        subst hp
        have hcj := hby.2 j hjl
        have HJ := Lib.hid hjl
        obtain ⟨x, ex⟩ : ∃ x, x = l.getD j 0 := ⟨_, rfl⟩
        rw [← ex] at hcj
        have Ex := Lib.hid ex
        clear hby hjl ex
        by_cases hx : x = 0
        · subst hx
          go_wp2_with fail
          go_roundw
          case rel => exact ⟨j + 1, by omega, by go_num, fun i hi => by
            by_cases e : i = j
            · subst e; exact Ex.out.symm
            · exact HZ.out i (by omega), by first | trivial | rfl⟩
          case measure => simp [intOf]; omega
        · have hx' : ((x : Int) != 0) = true := by simpa using hx
          have HF := Lib.hid (done_not l j HJ.out (by rw [← Ex.out]; exact hx))
          clear hx
          go_wp2_with fail
          go_ret
          exact ⟨by rw [HF.out]; rfl, rfl⟩
      · obtain rfl : j = n := by omega
        have HF := Lib.hid (done_zero l j HZ.out (by rw [← Hn.out]; exact Nat.le_refl _))
        go_wp2_with fail
        go_ret
        exact ⟨by rw [HF.out]; rfl, rfl⟩
  · have hs : doneS (er, l) = false := by unfold doneS; simp [her]
    rw [hs]
    exact rdDone_stop _ er her w HS.out
end Go.Proofs.YtddmjddlbhdcpaaGreatDoor

/-
  Package octet: the calls of a reader that has bytes; what is made behind a world W0 alone changes.
-/
namespace Go.Proofs.YtddmjddlbhdcpaaGreatDoor
open Go.RowKit Go.Hold Go.Sh Go.Oc

theorem rnum_ok {W0 w : World} {g : Nat} {bb : Option Nat} {l : List Nat} (h : Rd w g bb (0, l)) (hl : ∀ i, l.getD i 0 < 256) (hg : W0.heap.size ≤ g) (hb : Below W0.heap.size W0 w) (sz : Nat) (h1 : 1 ≤ sz) (h8 : sz ≤ 8) (hr : sz ≤ l.length) :
    Calls Tryz.prog 82 #[.pointer (some ⟨g, 0, none⟩), .int .i64 (sz : Int)] w fun e w' => e = .returned (.tuple #[.int .u64 (joinN (l.take sz) : Int), .int .i64 0]) ∧ Rd w' g bb (0, l.drop sz) ∧ Below W0.heap.size W0 w' := by
  refine (rdNum_c g bb (0, l) (sz : Int) w h hl).mono ?_
  rintro e w' ⟨rfl, h2, hm⟩
  rw [rnumS_ok h1 h8 hr] at h2 ⊢
  rw [rnumV_ok h1 h8 hr]
  exact ⟨rfl, h2, hm.below hb hb.size hg (fun _ e => by cases e)⟩
theorem rbytes_ok {W0 w : World} {g : Nat} {bb : Option Nat} {l : List Nat} (h : Rd w g bb (0, l)) (hg : W0.heap.size ≤ g) (hb : Below W0.heap.size W0 w) (n : Nat) (hr : n ≤ l.length) :
    Calls Tryz.prog 83 #[.pointer (some ⟨g, 0, none⟩), .int .i64 (n : Int)] w fun e w' => ∃ v, e = .returned (.tuple #[v, .int .i64 0]) ∧ OwnB w' w.heap.size v (l.take n) ∧ Rd w' g bb (0, l.drop n) ∧ Below W0.heap.size W0 w' := by
  refine (rdBytes_c g bb (0, l) (n : Int) w h).mono ?_
  rintro e w' ⟨v, rfl, ho, h2, hm⟩
  rw [rbytS_ok hr] at h2 ⊢
  rw [rbytV_ok hr] at ho
  exact ⟨v, rfl, ho, h2, hm.below hb hb.size hg (fun _ e => by cases e)⟩
theorem rdone_ok {w : World} {g : Nat} {bb : Option Nat} {l : List Nat} (h : Rd w g bb (0, l)) :
    Calls Tryz.prog 84 #[.pointer (some ⟨g, 0, none⟩)] w fun e w' => e = .returned (.bool (l.all (· == 0))) ∧ w' = w := by
  refine (rdDone_c g bb (0, l) w h).mono ?_
  rintro e w' ⟨rfl, hw⟩
  exact ⟨by simp [doneS], hw⟩
end Go.Proofs.YtddmjddlbhdcpaaGreatDoor

/-
  Package command: the command of bytes.
-/
namespace Go.Cm
open Go Go.Sh Go.Oc
theorem join_1 {l : List Nat} (h : 1 ≤ l.length) : joinN (l.take 1) = l.getD 0 0 := by
  match l, h with
  | x :: _, _ => simp [joinN]
theorem join_2 {l : List Nat} (h : 2 ≤ l.length) : joinN (l.take 2) = l.getD 0 0 * 256 + l.getD 1 0 := by
  match l, h with
  | x :: y :: _, _ => simp [joinN]
theorem getD_drop (l : List Nat) (i j : Nat) : (l.drop i).getD j 0 = l.getD (i + j) 0 := by simp [List.getD, List.getElem?_drop]
end Go.Cm
namespace Go.Proofs.YtddmjddlbhdcpaaGreatDoor
open Go.RowKit Go.Hold Go.Sh Go.Oc Go.Cm

theorem setL_id (c : Cmd) (hc : c.id.length = 8) (m : List Nat) (hm : m.length = 8) : setL (cmdA c) 3 (bys m) = cmdA ⟨c.k, c.n, c.d, m⟩ := by
  apply Array.ext_getElem?
  intro i
  rw [setL_get, bys_length, hm, cmdA_size hc]
  by_cases h : 3 ≤ i ∧ i < 3 + 8 ∧ i < 11
  · rw [if_pos h]
    obtain ⟨j, rfl⟩ : ∃ j, i = 3 + j := ⟨i - 3, by omega⟩
    rw [cmdA_get ⟨c.k, c.n, c.d, m⟩ j (by simp only [hm]; omega), Nat.add_sub_cancel_left]
    simp only [bys, List.getElem?_map, List.getD]
    rw [List.getElem?_eq_getElem (by omega)]; rfl
  · rw [if_neg h]
    by_cases h3 : i < 3
    · match i, h3 with
      | 0, _ => rw [cmdA_0, cmdA_0]
      | 1, _ => rw [cmdA_1, cmdA_1]
      | 2, _ => rw [cmdA_2, cmdA_2]
    · rw [Array.getElem?_eq_none (by rw [cmdA_size hc]; omega), Array.getElem?_eq_none (by rw [cmdA_size (c := ⟨c.k, c.n, c.d, m⟩) hm]; omega)]
/-- An id goes into a command. -/
theorem copy_id {W : World} {g cap : Nat} {p : Option Addr} {c : Cmd} {m : List Nat} (h : RowAt W g (cmdA c)) (hc : c.id.length = 8) (hm : m.length = 8) (hB : Bs0 W p m) :
    (Builtin.copy_ #[38, 38] 3 #[.slice (some ⟨g, 3, none⟩) 8 8, .slice p 8 cap]).run Tryz.prog W = .ok (.int .i64 8) (W.setRow g (cmdA ⟨c.k, c.n, c.d, m⟩)) := by
  rcases hB with rfl | ⟨b, o, rfl, hB⟩
  · cases hm
  · have hl : (bys m).length = 8 := by rw [bys_length]; exact hm
    have hi : (Tryz.prog.info? 5).map (·.size) = some 1 := by kernel_rfl
    have := run_copy_cells (P := Tryz.prog) W 38 38 3 5 g 3 8 8 ⟨b, o, none⟩ 8 cap (bys m) Tryz.underlying38 hi (by rw [hl]; decide)
      (fun j v hv => by
        have hj : j < 8 := by have := (List.getElem?_eq_some_iff.1 hv).1; omega
        rw [Addr.add_mid, hB.2 j (by omega), ← hv]
        simp only [bys, List.getElem?_map, List.getD]
        rw [List.getElem?_eq_getElem (by omega)]; rfl)
      (fun j hj => by rw [h.cellAt (3 + j) (Array.getElem?_eq_getElem (by rw [cmdA_size hc]; omega))]; rfl)
      (fun j _ => h.frozenAt _) (bys_one _)
    rw [this, hl, setCells_row _ _ h, setL_id c hc m hm]
    rfl
set_option maxHeartbeats 1000000 in
set_option maxRecDepth 100000 in
theorem decode_c (b : List Nat) (hb : b.length = 16) (hbb : ∀ i, b.getD i 0 < 256) (w : World) :
    Calls Tryz.prog 47 #[.agg (bysA b)] w fun e w' => e = .returned (.tuple #[.agg (cmdA (decV b)), .int .i64 (decE b)]) ∧ Below w.heap.size w w' := by
  have hzs : (cmdA .zero).size = 11 := cmdA_size rfl
  obtain ⟨x0, e0⟩ : ∃ x, x = b.getD 0 0 := ⟨_, rfl⟩
  obtain ⟨x1, e1⟩ : ∃ x, x = b.getD 1 0 := ⟨_, rfl⟩
  obtain ⟨x2, e2⟩ : ∃ x, x = b.getD 2 0 * 256 + b.getD 3 0 := ⟨_, rfl⟩
  obtain ⟨m, em⟩ : ∃ m, m = (b.drop 4).take 8 := ⟨_, rfl⟩
  obtain ⟨dn, ed⟩ : ∃ d, d = (b.drop 12).all (· == 0) := ⟨_, rfl⟩
  have hml : m.length = 8 := by rw [em]; simp [hb]
  have hC : ofB b = ⟨x0, x1, x2, m⟩ := by rw [e0, e1, e2, em]; rfl
  have hO : okB b = (dn && (Cmd.mk x0 x1 x2 m).may) := by unfold okB; rw [hC, ed]
  have l0 : x0 < 256 := by rw [e0]; exact hbb 0
  have l1 : x1 < 256 := by rw [e1]; exact hbb 1
  have l2 : x2 < 65536 := by rw [e2]; have := hbb 2; have := hbb 3; omega
  have HJ0 := Lib.hid (show joinN (b.take 1) = x0 by rw [join_1 (by omega), ← e0])
  have HJ1 := Lib.hid (show joinN ((b.drop 1).take 1) = x1 by rw [join_1 (by simp; omega), getD_drop, ← e1])
  have HJ2 := Lib.hid (show joinN (((b.drop 1).drop 1).take 2) = x2 by rw [join_2 (by simp; omega), List.drop_drop, getD_drop, getD_drop, ← e2])
  have HJ3 := Lib.hid (show ((((b.drop 1).drop 1).drop 2).take 8) = m by rw [List.drop_drop, List.drop_drop, em])
  have HJ4 := Lib.hid (show (((((b.drop 1).drop 1).drop 2).drop 8).all (· == 0)) = dn by rw [List.drop_drop, List.drop_drop, List.drop_drop, ed])
  have u0 : IntKind.i64.wrap (x0 : Int) = (x0 : Int) := IntWalk.i64_in _ (by omega)
  have u1 : IntKind.i64.wrap (x1 : Int) = (x1 : Int) := IntWalk.i64_in _ (by omega)
  have u2 : IntKind.i64.wrap (x2 : Int) = (x2 : Int) := IntWalk.i64_in _ (by omega)
  have Hb := Lib.hid hb
  have Hbb := Lib.hid hbb
  have hbs : (bysA b).size = 16 := by rw [bysA_size]; exact hb
  have hcz : (cmdA ⟨x0, x1, x2, zs 8⟩).size = 11 := cmdA_size rfl
  have hcm : (cmdA ⟨x0, x1, x2, m⟩).size = 11 := cmdA_size hml
  have KM := Lib.hid (fun (W : World) => may_c ⟨x0, x1, x2, m⟩ hml W)
  have Hml := Lib.hid hml
  have HD := Lib.hid (show decV b = (if okB b then ⟨x0, x1, x2, m⟩ else .zero) by unfold decV; rw [hC])
  have HE := Lib.hid (show decE b = (if okB b then 0 else 5) from rfl)
  rw [hO] at HD HE
  obtain ⟨mb, emb⟩ : ∃ mb, mb = (Cmd.mk x0 x1 x2 m).may := ⟨_, rfl⟩
  rw [← emb] at HD HE KM
  rw [HD.out, HE.out]
  clear HD HE hO hC emb e0 e1 e2 em ed l0 l1 l2 hml hb hbb
  go_enter Tryz.func47, Tryz.ntmps47
  go_wp2_with fail
  generalize hW : World.alloc _ _ = W0
  have R0 := Lib.hid (show RowAt W0 w.heap.size (bysA b) by rw [← hW]; clear hW; exact ⟨by go_simp, by go_simp, by go_simp⟩)
  have T0 := Lib.hid (show RowAt W0 (w.heap.size + 1) (cmdA .zero) by rw [← hW]; clear hW; exact ⟨by go_simp, by go_simp; rfl, by go_simp⟩)
  have B0 := Lib.hid (show Below w.heap.size w W0 by rw [← hW]; repeat (first | apply below_alloc | exact Below.refl _ _))
  have hz1 : w.heap.size ≤ w.heap.size + 1 := by omega
  clear hW
  generalize w.heap.size + 1 = t at *
  obtain ⟨z, ez⟩ : ∃ z, z = w.heap.size := ⟨_, rfl⟩
  rw [← ez] at R0 hz1 ⊢
  have Ez := Lib.hid ez
  clear ez
  refine (newReader_c (some ⟨z, 0, none⟩) b 16 16 W0 Hb.out.symm (by rw [Hb.out]; decide) (Bs0.some (bytes_row R0.out)) (fun h => by cases h)).mono ?_
  rintro e w1 ⟨g, bb, rfl, hr1, hg1, _, hb1⟩
  have X1 := Lib.hid hr1
  have Y1 := Lib.hid hb1
  have G1 := Lib.hid hg1
  clear hr1 hb1 hg1 R0
  go_wp2_with fail
  refine (rnum_ok X1.out Hbb.out G1.out Y1.out 1 (by decide) (by decide) (by rw [Hb.out]; decide)).mono ?_
  rintro e w2 ⟨rfl, hr2, hb2⟩
  rw [HJ0.out]
  have X2 := Lib.hid hr2
  have Y2 := Lib.hid hb2
  clear hr2 hb2 X1 Y1
  go_wp2_with fail
  refine (rnum_ok X2.out (bts_drop Hbb.out 1) G1.out Y2.out 1 (by decide) (by decide) (by simp [Hb.out])).mono ?_
  rintro e w3 ⟨rfl, hr3, hb3⟩
  rw [HJ1.out]
  have X3 := Lib.hid hr3
  have Y3 := Lib.hid hb3
  clear hr3 hb3 X2 Y2
  go_wp2_with fail
  refine (rnum_ok X3.out (bts_drop (bts_drop Hbb.out 1) 1) G1.out Y3.out 2 (by decide) (by decide) (by simp [Hb.out])).mono ?_
  rintro e w4 ⟨rfl, hr4, hb4⟩
  rw [HJ2.out]
  have X4 := Lib.hid hr4
  have Y4 := Lib.hid hb4
  clear hr4 hb4 X3 Y3
  go_wp2_with fail
  refine (rbytes_ok X4.out G1.out Y4.out 8 (by simp [Hb.out])).mono ?_
  rintro e w5 ⟨v, rfl, ho, hr5, hb5⟩
  rw [HJ3.out] at ho
  obtain ⟨p, q, rfl, hs5, _, _⟩ := ho.bs
  rw [Hml.out]
  have X5 := Lib.hid hr5
  have Y5 := Lib.hid hb5
  have S5 := Lib.hid hs5
  clear ho hs5 hr5 hb5 X4 Y4 HJ0 HJ1 HJ2 HJ3
  go_wp2_with fail
  generalize hW : World.alloc _ _ = W6
  have hbA : Below w5.heap.size w5 W6 := by rw [← hW]; exact below_alloc (Below.refl _ _) _
  have C6 := Lib.hid (show RowAt W6 w5.heap.size (cmdA ⟨x0, x1, x2, zs 8⟩) by rw [← hW]; clear hW; exact ⟨by go_simp, by go_simp, by go_simp⟩)
  have S6 := Lib.hid (S5.out.grow hbA)
  have X6 := Lib.hid (X5.out.grow hbA)
  have T6 := Lib.hid ((T0.out.keep Y5.out T0.out.2.2).grow hbA)
  have B6 := Lib.hid ((B0.out.trans (Y5.out.mono B0.out.size)).trans (hbA.mono (Nat.le_trans B0.out.size Y5.out.size)))
  have hne : t ≠ w5.heap.size := by have := T0.out.2.2; have := Y5.out.size; omega
  have hle : w.heap.size ≤ w5.heap.size := Nat.le_trans B0.out.size Y5.out.size
  have hng : g ≠ w5.heap.size := by have := X5.out.lt.1; omega
  have hnb : bb ≠ some w5.heap.size := fun e => by have := X5.out.lt.2 _ e; omega
  clear hW hbA S5 X5 T0 B0 Y5 G1
  generalize w5.heap.size = gc at *
  have hcp := copy_id (cap := q) C6.out rfl Hml.out S6.out
  have C7 := Lib.hid (C6.out.set (cmdA ⟨x0, x1, x2, m⟩))
  have T7 := Lib.hid (T6.out.other hne (cmdA ⟨x0, x1, x2, m⟩))
  have B7 := Lib.hid (below_setRow B6.out hle (cmdA ⟨x0, x1, x2, m⟩))
  have X7 := Lib.hid (X6.out.moves (Moves.setRow (Moves.refl W6 gc none) (cmdA ⟨x0, x1, x2, m⟩)) hng (fun e => by cases e) hnb (fun _ _ e => by cases e))
  rw [hcp]
  clear hcp
  generalize W6.setRow gc (cmdA ⟨x0, x1, x2, m⟩) = W7 at *
  clear C6 S6 X6 T6 B6 hng hnb
  obtain ⟨c1, c2, c3⟩ := C7.out
  obtain ⟨t1, t2, t3⟩ := T7.out
  go_simp
  go_wp2_with fail
  refine (rdone_ok X7.out).mono ?_
  rintro e w' ⟨rfl, rfl⟩
  rw [HJ4.out]
  cases dn
  · go_wp2_with fail
    refine bodyPost_ret (v := .tuple #[.agg (cmdA .zero), .int .i64 5]) (results_cmd Tryz.results47 .zero rfl _ _ _ t rfl (by go_simp) (by go_simp) rfl) rfl ⟨rfl, ?_⟩
    exact below_setRow B7.out (by rw [← Ez.out]; exact hz1) _

  go_wp2_with fail
  refine (KM.out w').mono ?_
  rintro e W8 ⟨rfl, hb8⟩
  have C8 := Lib.hid (C7.out.grow hb8)
  have T8 := Lib.hid (T7.out.grow hb8)
  have B8 := Lib.hid (B7.out.trans (hb8.mono B7.out.size))
  clear hb8 C7 T7 B7 X7 c1 c2 c3 t1 t2 t3
  obtain ⟨c1, c2, c3⟩ := C8.out
  obtain ⟨t1, t2, t3⟩ := T8.out
  cases mb
  · go_wp2_with fail
    refine bodyPost_ret (v := .tuple #[.agg (cmdA .zero), .int .i64 5]) (results_cmd Tryz.results47 .zero rfl _ _ _ t rfl (by go_simp) (by go_simp) rfl) rfl ⟨rfl, ?_⟩
    exact below_setRow B8.out (by rw [← Ez.out]; exact hz1) _
  go_wp2_with fail
  refine bodyPost_ret (v := .tuple #[.agg (cmdA ⟨x0, x1, x2, m⟩), .int .i64 0]) (results_cmd Tryz.results47 ⟨x0, x1, x2, m⟩ Hml.out _ _ _ t rfl (by go_simp) (by go_simp) rfl) rfl ⟨rfl, ?_⟩
  exact below_setRow B8.out (by rw [← Ez.out]; exact hz1) _
end Go.Proofs.YtddmjddlbhdcpaaGreatDoor

/-
  Package header: what a node finds in a header.
-/
namespace Go.Proofs.YtddmjddlbhdcpaaGreatDoor
open Go.RowKit Go.Hold Go.Sh Go.Ch Go.Cm Go.Hd

set_option maxRecDepth 100000 in
theorem lays_wide (o : Oper) (h : o.op = .alloc 99) (hg : o.guard = none) : Lays Tryz.prog o 99 (bysA (zs 192)) := by
  refine ⟨hg, fun a w => ?_⟩
  obtain ⟨dst, op, ty, pos, after, guard⟩ := o
  simp only at h hg
  subst h; subst hg
  go_simp
set_option maxRecDepth 100000 in
theorem lays_hdr (o : Oper) (h : o.op = .alloc 31) (hg : o.guard = none) : Lays Tryz.prog o 31 (bysA (zs 208)) := by
  refine ⟨hg, fun a w => ?_⟩
  obtain ⟨dst, op, ty, pos, after, guard⟩ := o
  simp only at h hg
  subst h; subst hg
  go_simp
set_option maxRecDepth 100000 in
theorem lays_keyB (o : Oper) (h : o.op = .alloc 23) (hg : o.guard = none) : Lays Tryz.prog o 23 (bysA (zs 32)) := by
  refine ⟨hg, fun a w => ?_⟩
  obtain ⟨dst, op, ty, pos, after, guard⟩ := o
  simp only at h hg
  subst h; subst hg
  go_simp
  rfl
set_option maxHeartbeats 3000000 in
set_option maxRecDepth 100000 in
theorem unwrap_c (o a b g : List Nat) (ho : o.length = 32) (hob : ∀ i, o.getD i 0 < 256) (ha : a.length = 32) (hab : ∀ i, a.getD i 0 < 256) (hb : b.length = 160) (hbb : ∀ i, b.getD i 0 < 256) (hg : g.length = 16) (hgb : ∀ i, g.getD i 0 < 256) (w : World) (hT : Tabs w) :
    Calls Tryz.prog 18 #[.agg (bysA o), .agg (bysA (a ++ b ++ g))] w fun e w' => e = .returned (.tuple #[.agg (stepA (unwV o a b g)), .int .i64 (unwE o a b g)]) ∧ Below w.heap.size w w' := by
  have hos := bysA_size' ho
  have has := bysA_size' ha
  have hbs := bysA_size' hb
  have hgs := bysA_size' hg
  obtain ⟨H, eH⟩ : ∃ H, H = a ++ b ++ g := ⟨_, rfl⟩
  have hHl : H.length = 208 := by rw [eH, List.length_append, List.length_append, ha, hb, hg]
  have hHs := bysA_size' hHl
  have hA : H.take 32 = a := by rw [eH, List.append_assoc, show 32 = a.length from ha.symm, List.take_left]
  have hB : (H.drop 32).take 160 = b := by rw [eH, List.append_assoc, show 32 = a.length from ha.symm, List.drop_left, show 160 = b.length from hb.symm, List.take_left]
  have hG := Lib.hid (show H.drop 192 = g by rw [eH, show 192 = (a ++ b).length by rw [List.length_append, ha, hb], List.drop_left])
  rw [← eH]
  clear eH
  have hzz := stepA_size stpOk_zero
  have HT := Lib.hid hT
  have hz192 := bysA_size' (zs_length 192)
  have hz208 := bysA_size' (zs_length 208)
  have hz32 := bysA_size' (zs_length 32)
  have hz16 := bysA_size' (zs_length 16)
  have hcz : (cmdA .zero).size = 11 := cmdA_size rfl
  have KS := Lib.hid (fun (W : World) => bshared_c o a ho hob ha hab W)
  obtain ⟨s, es⟩ : ∃ s, s = keyB (shB o a) := ⟨_, rfl⟩
  have hs : s.length = 32 := by rw [es]; exact keyB_length _
  have hsb : ∀ i, s.getD i 0 < 256 := by rw [es]; exact keyB_bts _
  have hss := bysA_size' hs
  have KP := Lib.hid (fun (W : World) (h : Tabs W) => hproof_c s b hs hsb hb hbb W h)
  have hPl := prf_length s b
  have hPb := prf_bts s b
  have hPs := bysA_size' hPl
  have KE := Lib.hid (fun (W : World) (q r : Option Addr) (hq : Bs0 W q (prf s b)) (hr : Bs0 W r g) => show Calls Tryz.prog 44 #[.slice q 16 16, .slice r 16 16] W fun e w' => e = .returned (.bool (decide (prf s b = g))) ∧ Below W.heap.size W w' from by
    have := equal_c 16 16 q r (prf s b) g W (by rw [hPl]; decide) hPb hq hgb hr
    rwa [hPl, hg] at this)
  have KWd := Lib.hid (fun (W : World) => widened_c b hb W)
  have hbz : (b ++ zs 32).length = 192 := by rw [List.length_append, hb, zs_length]
  have KT := Lib.hid (fun (W : World) (h : Tabs W) => show Calls Tryz.prog 46 #[.agg (bysA (b ++ zs 32)), .agg (bysA s)] W fun e w' => e = .returned (.agg (bysA (opn s b))) ∧ Below W.heap.size W w' from turned_c (b ++ zs 32) s hbz (bts_app hbb (bts_zs _)) hs hsb W h)
  have hOl := opn_length (s := s) hb
  have hOb := opn_bts (s := s) hbb
  have hOs := bysA_size' hOl
  have KC := Lib.hid (fun (W : World) => wcmd_c (opn s b) hOl W)
  have hcl : ((opn s b).take 16).length = 16 := by rw [List.length_take, hOl]; rfl
  have KD := Lib.hid (fun (W : World) => decode_c ((opn s b).take 16) hcl (bts_take hOb 16) W)
  have hCs := bysA_size' hcl
  have hdi := decV_id hcl
  have hds := cmdA_size hdi
  have KB := Lib.hid (fun (W : World) (h : Tabs W) => blinding_c s a hs hsb ha hab W h)
  have hbl := bli_length s a
  have hbls := bysA_size' hbl
  have KN := Lib.hid (fun (W : World) => show Calls Tryz.prog 29 #[.agg (bysA (bli s a)), .agg (bysA a)] W fun e w' => e = .returned (.tuple #[.agg (bysA (keyB (nxA s a))), .int .i64 (F.errOf (nxA s a))]) ∧ Below W.heap.size W w' from bshared_c (bli s a) a hbl (bli_bts s a) ha hab W)
  have KNb := Lib.hid (fun (W : World) => wnxb_c (opn s b) hOl W)
  have KNg := Lib.hid (fun (W : World) => wnxg_c (opn s b) hOl W)
  have hnbl : ((opn s b).drop 32).length = 160 := by rw [List.length_drop, hOl]
  have hngl : (((opn s b).drop 16).take 16).length = 16 := by rw [List.length_take, List.length_drop, hOl]; rfl
  have hnbs := bysA_size' hnbl
  have hngs := bysA_size' hngl
  have hnal := keyB_length (nxA s a)
  have hnas := bysA_size' hnal
  have hbdH := fun W => run_bldHdr hnal hnbl hngl W
  have hHn : (keyB (nxA s a) ++ (opn s b).drop 32 ++ ((opn s b).drop 16).take 16).length = 208 := by rw [List.length_append, List.length_append, hnal, hnbl, hngl]
  have hHns := bysA_size' hHn
  have KTg := Lib.hid (fun (W : World) (h : Tabs W) => htag_c s hs hsb W h)
  have htl := tagS_length s
  have hts := bysA_size' htl
  have hE0 : unwE o a b g = (if shB o a = 0 then 7 else if ¬ prf s b = g then 6 else if okB ((opn s b).take 16) = false then 5 else if nxA s a = 0 then 7 else 0) := by unfold unwE; rw [es]
  have hV0 : unwV o a b g = if unwE o a b g = 0 then stpOf a b s else .zero := by unfold unwV; rw [es]
  obtain ⟨st, est⟩ : ∃ st, st = stpOf a b s := ⟨_, rfl⟩
  have hd0 : okB ((opn s b).take 16) = true → decV ((opn s b).take 16) = st.c ∧ decE ((opn s b).take 16) = 0 := fun h => by unfold decV decE; rw [if_pos h, if_pos h, est]; exact ⟨rfl, rfl⟩
  have hst : StpOk st := by rw [est]; exact ⟨ofB_id _ hcl, hHn, hs, htl⟩
  have hsts := stepA_size hst
  have hbdS := fun W => run_bldStep hst W
  rw [show st.nx = keyB (nxA s a) ++ (opn s b).drop 32 ++ ((opn s b).drop 16).take 16 by rw [est]; rfl, show st.s = s by rw [est]; rfl, show st.t = tagS s by rw [est]; rfl] at hbdS
  rw [hV0]
  rw [← est]
  rw [← es] at KS
  obtain ⟨er, eer⟩ : ∃ er, er = unwE o a b g := ⟨_, rfl⟩
  rw [← eer] at hE0 ⊢
  have hd1 : okB ((opn s b).take 16) = false → decE ((opn s b).take 16) = 5 := fun h => by unfold decE; rw [h]; rfl
  obtain ⟨sn, esn⟩ : ∃ n, n = shB o a := ⟨_, rfl⟩
  obtain ⟨nn, enn⟩ : ∃ n, n = nxA s a := ⟨_, rfl⟩
  rw [← esn] at KS hE0
  rw [← enn] at hE0
  rw [show F.errOf (nxA s a) = F.errOf nn by rw [enn]] at KN
  have Hd0 := Lib.hid hd0
  have Hd1 := Lib.hid hd1
  have HE0 := Lib.hid hE0
  obtain ⟨ans, eans⟩ : ∃ x, x = (if er = 0 then st else Stp.zero) := ⟨_, rfl⟩
  rw [← eans]
  have HAn := Lib.hid eans
  clear hd0 hd1 hE0 hV0 est eer esn enn es eans
  generalize keyB (nxA s a) ++ (opn s b).drop 32 ++ ((opn s b).drop 16).take 16 = Hn at *
  generalize keyB (nxA s a) = na at *
  generalize (opn s b).drop 32 = nb at *
  generalize ((opn s b).drop 16).take 16 = ng at *
  generalize okB ((opn s b).take 16) = ok at *
  generalize decE ((opn s b).take 16) = dE at *
  generalize decV ((opn s b).take 16) = dV at *
  generalize (opn s b).take 16 = C at *
  generalize opn s b = O at *
  generalize tagS s = tg at *
  generalize bli s a = bl at *
  generalize b ++ zs 32 = bz at *
  generalize prf s b = P at *
  have Hstk := Lib.hid hst
  clear ho hob ha hab hb hbb hg hgb hs hsb hPl hPb hbz hOl hOb hcl hdi hbl hnbl hngl hnal hHn htl hT hst hHl
  by_cases h1 : sn = 0
  · obtain rfl : er = 7 := by rw [HE0.out, if_pos h1]
    rw [errOf_zero h1] at KS
    obtain rfl : ans = .zero := by rw [HAn.out, if_neg (show ¬ (7 : Int) = 0 by decide)]
    clear h1 HE0 HAn
    go_enter Tryz.func18, Tryz.ntmps18
    go_wp2_with fail
    generalize hW : World.alloc _ _ = W0
    have R0x0 := Lib.hid (show RowAt W0 (w.heap.size) (bysA o) by rw [← hW]; clear hW; exact ⟨by go_simp, by first | (go_simp; done) | (go_simp; rfl), by go_simp⟩)
    have R0x1 := Lib.hid (show RowAt W0 (w.heap.size + 1) (bysA H) by rw [← hW]; clear hW; exact ⟨by go_simp, by first | (go_simp; done) | (go_simp; rfl), by go_simp⟩)
    have R0x2 := Lib.hid (show RowAt W0 (w.heap.size + 1 + 1) (stepA .zero) by rw [← hW]; clear hW; exact ⟨by go_simp, by first | (go_simp; done) | (go_simp; rfl), by go_simp⟩)
    have B0 := Lib.hid (show Below w.heap.size w W0 by rw [← hW]; repeat (first | apply below_alloc | exact Below.refl _ _))
    clear hW
    have l_z : w.heap.size ≤ w.heap.size := by omega
    have l_y : w.heap.size ≤ w.heap.size + 1 := by omega
    have n_z_y : w.heap.size ≠ w.heap.size + 1 := by omega
    have l_r : w.heap.size ≤ w.heap.size + 1 + 1 := by omega
    have n_z_r : w.heap.size ≠ w.heap.size + 1 + 1 := by omega
    have n_y_r : w.heap.size + 1 ≠ w.heap.size + 1 + 1 := by omega
    generalize w.heap.size + 1 + 1 = r at *
    generalize w.heap.size + 1 = y at *
    obtain ⟨z, ez⟩ : ∃ z, z = w.heap.size := ⟨_, rfl⟩
    rw [← ez] at R0x0 n_z_y n_z_r ⊢
    have l_z : w.heap.size ≤ z := by rw [ez]; exact Nat.le_refl _
    clear ez
    obtain ⟨R0x0a, R0x0b, R0x0c⟩ := R0x0.out
    obtain ⟨R0x1a, R0x1b, R0x1c⟩ := R0x1.out
    obtain ⟨R0x2a, R0x2b, R0x2c⟩ := R0x2.out
    go_wp2_with fail
    refine (KS.out _).mono ?_
    rintro e W1 ⟨rfl, hb1⟩
    clear R0x0a R0x0b R0x0c R0x1a R0x1b R0x1c R0x2a R0x2b R0x2c
    have R1x0 := Lib.hid (R0x0.out.grow hb1)
    have R1x1 := Lib.hid (R0x1.out.grow hb1)
    have R1x2 := Lib.hid (R0x2.out.grow hb1)
    have B1 := Lib.hid (B0.out.trans (hb1.mono B0.out.size))
    clear hb1 B0 R0x0 R0x1 R0x2
    obtain ⟨R1x0a, R1x0b, R1x0c⟩ := R1x0.out
    obtain ⟨R1x1a, R1x1b, R1x1c⟩ := R1x1.out
    obtain ⟨R1x2a, R1x2b, R1x2c⟩ := R1x2.out
    go_wp2_with fail
    refine bodyPost_ret (v := .tuple #[.agg (stepA .zero), .int .i64 7]) (results_step_slot Tryz.results18 hzz _ _ _ rfl (by go_simp) (by go_simp) rfl) rfl ⟨rfl, ?_⟩
    first | exact below_setRow B1.out l_r _ | exact below_alloc (below_setRow B1.out l_r _) _ | exact below_setRow (below_setRow B1.out l_av _) l_r _
  rw [if_neg h1] at HE0
  rw [errOf_ne h1] at KS
  clear h1
  go_enter Tryz.func18, Tryz.ntmps18
  go_wp2_with fail
  generalize hW : World.alloc _ _ = W0
  have R0x0 := Lib.hid (show RowAt W0 (w.heap.size) (bysA o) by rw [← hW]; clear hW; exact ⟨by go_simp, by first | (go_simp; done) | (go_simp; rfl), by go_simp⟩)
  have R0x1 := Lib.hid (show RowAt W0 (w.heap.size + 1) (bysA H) by rw [← hW]; clear hW; exact ⟨by go_simp, by first | (go_simp; done) | (go_simp; rfl), by go_simp⟩)
  have R0x2 := Lib.hid (show RowAt W0 (w.heap.size + 1 + 1) (stepA .zero) by rw [← hW]; clear hW; exact ⟨by go_simp, by first | (go_simp; done) | (go_simp; rfl), by go_simp⟩)
  have B0 := Lib.hid (show Below w.heap.size w W0 by rw [← hW]; repeat (first | apply below_alloc | exact Below.refl _ _))
  clear hW
  have l_z : w.heap.size ≤ w.heap.size := by omega
  have l_y : w.heap.size ≤ w.heap.size + 1 := by omega
  have n_z_y : w.heap.size ≠ w.heap.size + 1 := by omega
  have l_r : w.heap.size ≤ w.heap.size + 1 + 1 := by omega
  have n_z_r : w.heap.size ≠ w.heap.size + 1 + 1 := by omega
  have n_y_r : w.heap.size + 1 ≠ w.heap.size + 1 + 1 := by omega
  generalize w.heap.size + 1 + 1 = r at *
  generalize w.heap.size + 1 = y at *
  obtain ⟨z, ez⟩ : ∃ z, z = w.heap.size := ⟨_, rfl⟩
  rw [← ez] at R0x0 n_z_y n_z_r ⊢
  have l_z : w.heap.size ≤ z := by rw [ez]; exact Nat.le_refl _
  clear ez
  obtain ⟨R0x0a, R0x0b, R0x0c⟩ := R0x0.out
  obtain ⟨R0x1a, R0x1b, R0x1c⟩ := R0x1.out
  obtain ⟨R0x2a, R0x2b, R0x2c⟩ := R0x2.out
  go_wp2_with fail
  refine (KS.out _).mono ?_
  rintro e W1 ⟨rfl, hb1⟩
  clear R0x0a R0x0b R0x0c R0x1a R0x1b R0x1c R0x2a R0x2b R0x2c
  have R1x0 := Lib.hid (R0x0.out.grow hb1)
  have R1x1 := Lib.hid (R0x1.out.grow hb1)
  have R1x2 := Lib.hid (R0x2.out.grow hb1)
  have B1 := Lib.hid (B0.out.trans (hb1.mono B0.out.size))
  clear hb1 B0 R0x0 R0x1 R0x2
  obtain ⟨R1x0a, R1x0b, R1x0c⟩ := R1x0.out
  obtain ⟨R1x1a, R1x1b, R1x1c⟩ := R1x1.out
  obtain ⟨R1x2a, R1x2b, R1x2c⟩ := R1x2.out
  go_wp2_with fail
  have n_z_sv : z ≠ W1.heap.size := Nat.ne_of_lt R1x0.out.2.2
  have n_y_sv : y ≠ W1.heap.size := Nat.ne_of_lt R1x1.out.2.2
  have n_r_sv : r ≠ W1.heap.size := Nat.ne_of_lt R1x2.out.2.2
  have l_sv : w.heap.size ≤ W1.heap.size := B1.out.size
  have hb2 := below_alloc (Below.refl W1.heap.size W1) (.cells (bysA s) 23)
  have N2 := Lib.hid (RowAt.of (block_new W1 (.cells (bysA s) 23)))
  have R2x0 := Lib.hid (R1x0.out.grow hb2)
  have R2x1 := Lib.hid (R1x1.out.grow hb2)
  have R2x2 := Lib.hid (R1x2.out.grow hb2)
  have B2 := Lib.hid (B1.out.trans (hb2.mono B1.out.size))
  clear hb2 B1 R1x0 R1x1 R1x2 R1x0a R1x0b R1x0c R1x1a R1x1b R1x1c R1x2a R1x2b R1x2c
  generalize W1.heap.size = sv at *
  generalize W1.alloc (.cells (bysA s) 23) = W2 at *
  obtain ⟨R2x0a, R2x0b, R2x0c⟩ := R2x0.out
  obtain ⟨R2x1a, R2x1b, R2x1c⟩ := R2x1.out
  obtain ⟨R2x2a, R2x2b, R2x2c⟩ := R2x2.out
  obtain ⟨N2a, N2b, N2c⟩ := N2.out
  go_wp2_with fail
  refine (KP.out _ (HT.out.grow B2.out)).mono ?_
  rintro e W3 ⟨rfl, hb3⟩
  clear R2x0a R2x0b R2x0c R2x1a R2x1b R2x1c R2x2a R2x2b R2x2c N2a N2b N2c
  have R3x0 := Lib.hid (R2x0.out.grow hb3)
  have R3x1 := Lib.hid (R2x1.out.grow hb3)
  have R3x2 := Lib.hid (R2x2.out.grow hb3)
  have R3x3 := Lib.hid (N2.out.grow hb3)
  have B3 := Lib.hid (B2.out.trans (hb3.mono B2.out.size))
  clear hb3 B2 R2x0 R2x1 R2x2 N2
  obtain ⟨R3x0a, R3x0b, R3x0c⟩ := R3x0.out
  obtain ⟨R3x1a, R3x1b, R3x1c⟩ := R3x1.out
  obtain ⟨R3x2a, R3x2b, R3x2c⟩ := R3x2.out
  obtain ⟨R3x3a, R3x3b, R3x3c⟩ := R3x3.out
  go_wp2_with fail
  have n_z_pv : z ≠ W3.heap.size := Nat.ne_of_lt R3x0.out.2.2
  have n_y_pv : y ≠ W3.heap.size := Nat.ne_of_lt R3x1.out.2.2
  have n_r_pv : r ≠ W3.heap.size := Nat.ne_of_lt R3x2.out.2.2
  have n_sv_pv : sv ≠ W3.heap.size := Nat.ne_of_lt R3x3.out.2.2
  have l_pv : w.heap.size ≤ W3.heap.size := B3.out.size
  have hb4 := below_alloc (Below.refl W3.heap.size W3) (.cells (bysA P) 29)
  have N4 := Lib.hid (RowAt.of (block_new W3 (.cells (bysA P) 29)))
  have R4x0 := Lib.hid (R3x0.out.grow hb4)
  have R4x1 := Lib.hid (R3x1.out.grow hb4)
  have R4x2 := Lib.hid (R3x2.out.grow hb4)
  have R4x3 := Lib.hid (R3x3.out.grow hb4)
  have B4 := Lib.hid (B3.out.trans (hb4.mono B3.out.size))
  clear hb4 B3 R3x0 R3x1 R3x2 R3x3 R3x0a R3x0b R3x0c R3x1a R3x1b R3x1c R3x2a R3x2b R3x2c R3x3a R3x3b R3x3c
  generalize W3.heap.size = pv at *
  generalize W3.alloc (.cells (bysA P) 29) = W4 at *
  obtain ⟨R4x0a, R4x0b, R4x0c⟩ := R4x0.out
  obtain ⟨R4x1a, R4x1b, R4x1c⟩ := R4x1.out
  obtain ⟨R4x2a, R4x2b, R4x2c⟩ := R4x2.out
  obtain ⟨R4x3a, R4x3b, R4x3c⟩ := R4x3.out
  obtain ⟨N4a, N4b, N4c⟩ := N4.out
  clear R4x0a R4x0b R4x0c R4x1a R4x1b R4x1c R4x2a R4x2b R4x2c R4x3a R4x3b R4x3c N4a N4b N4c
  refine wp_region_pickT W4 [0, 1, 2] [true, true, true] [3, 4] (by kernel_rfl) (by kernel_rfl) (by intro c a d v w h; cases d <;> exact h) (by first | exact (Below.refl _ _).drew | exact Below.refl _ _) ?_
  simp only [pick, List.getElem?_cons_succ, List.getElem?_cons_zero]
  iterate 3 (refine wpHoldF_late (wanted_none rfl) (fun w => by go_simp; rfl) ?_)
  refine wpHoldF_nil ?_
  intro W5 hb5
  have R5x0 := Lib.hid (R4x0.out.grow hb5)
  have R5x1 := Lib.hid (R4x1.out.grow hb5)
  have R5x2 := Lib.hid (R4x2.out.grow hb5)
  have R5x3 := Lib.hid (R4x3.out.grow hb5)
  have R5x4 := Lib.hid (N4.out.grow hb5)
  have B5 := Lib.hid (B4.out.trans (hb5.mono B4.out.size))
  clear hb5 B4 R4x0 R4x1 R4x2 R4x3 N4
  go_wp2_with fail
  have hBy : BytesAt W5 y 192 g := by
    have := (bytes_row R5x1.out).from 192
    rwa [hG.out, Nat.zero_add] at this
  by_cases h2 : P = g
  · rw [if_neg (fun h => h h2)] at HE0
    rw [decide_eq_true h2] at KE
    clear h2
    refine (KE.out _ _ _ (Bs0.some (bytes_row R5x4.out)) (Bs0.some hBy)).mono ?_
    rintro e W6 ⟨rfl, hb6⟩
    have R6x0 := Lib.hid (R5x0.out.grow hb6)
    have R6x1 := Lib.hid (R5x1.out.grow hb6)
    have R6x2 := Lib.hid (R5x2.out.grow hb6)
    have R6x3 := Lib.hid (R5x3.out.grow hb6)
    have R6x4 := Lib.hid (R5x4.out.grow hb6)
    have B6 := Lib.hid (B5.out.trans (hb6.mono B5.out.size))
    clear hb6 B5 R5x0 R5x1 R5x2 R5x3 R5x4
    clear hBy
    obtain ⟨R6x0a, R6x0b, R6x0c⟩ := R6x0.out
    obtain ⟨R6x1a, R6x1b, R6x1c⟩ := R6x1.out
    obtain ⟨R6x2a, R6x2b, R6x2c⟩ := R6x2.out
    obtain ⟨R6x3a, R6x3b, R6x3c⟩ := R6x3.out
    obtain ⟨R6x4a, R6x4b, R6x4c⟩ := R6x4.out
    go_wp2_with fail
    refine wp_region_pick W6 [0, 1, 2, 3, 4] [false, false, false, false, false] [5] [(99, bysA (zs 192))] 6 (by kernel_rfl) rfl (by kernel_rfl) (by intro c a d v w h; cases d <;> exact h) (by first | exact (Below.refl _ _).drew | exact Below.refl _ _) ?_
    simp only [pick, List.getElem?_cons_succ, List.getElem?_cons_zero, List.drop_succ_cons, List.drop_zero]
    refine wpHoldF_val (wanted_none rfl) (by intro K o d hK; go_simp; exact hK _ (Below.refl _ _)) ?_
    refine wpHoldF_val (wanted_none rfl) (by intro K o d hK; go_simp; exact hK _ (Below.refl _ _)) ?_
    refine wpHoldF_call (v := .agg (bysA bz)) (wanted_none rfl) (by intro K o d hK; go_simp; refine (KWd.out _).mono ?_; rintro e w' ⟨rfl, hbw⟩; exact ⟨_, rfl, hK _ hbw⟩) ?_
    refine wpHoldF_val (wanted_none rfl) (by intro K o d hK; go_simp; exact hK _ (Below.refl _ _)) ?_
    refine wpHoldF_call (v := .agg (bysA O)) (wanted_none rfl) (by intro K o d hK; go_simp; refine (KT.out _ (HT.out.grow (below_plus_of _ _ _ B6.out B6.out.size))).mono ?_; rintro e w' ⟨rfl, hbw⟩; exact ⟨_, rfl, hK _ hbw⟩) ?_
    refine wpHoldF_nil ?_
    refine ⟨lays_wide _ rfl rfl, fun wv hg0 hn0 => ?_⟩
    intro W7 hb7 hblk
    have n_z_wv : z ≠ wv := by have := R6x0.out.2.2; omega
    have n_y_wv : y ≠ wv := by have := R6x1.out.2.2; omega
    have n_r_wv : r ≠ wv := by have := R6x2.out.2.2; omega
    have n_sv_wv : sv ≠ wv := by have := R6x3.out.2.2; omega
    have n_pv_wv : pv ≠ wv := by have := R6x4.out.2.2; omega
    have l_wv : w.heap.size ≤ wv := Nat.le_trans B6.out.size hg0
    have V7x0 := Lib.hid (RowAt.of (hblk 0 wv _ _ rfl rfl))
    clear hblk
    clear R6x0a R6x0b R6x0c R6x1a R6x1b R6x1c R6x2a R6x2b R6x2c R6x3a R6x3b R6x3c R6x4a R6x4b R6x4c
    have R7x0 := Lib.hid (R6x0.out.grow hb7)
    have R7x1 := Lib.hid (R6x1.out.grow hb7)
    have R7x2 := Lib.hid (R6x2.out.grow hb7)
    have R7x3 := Lib.hid (R6x3.out.grow hb7)
    have R7x4 := Lib.hid (R6x4.out.grow hb7)
    have B7 := Lib.hid (B6.out.trans (hb7.mono B6.out.size))
    clear hb7 B6 R6x0 R6x1 R6x2 R6x3 R6x4
    obtain ⟨R7x0a, R7x0b, R7x0c⟩ := R7x0.out
    obtain ⟨R7x1a, R7x1b, R7x1c⟩ := R7x1.out
    obtain ⟨R7x2a, R7x2b, R7x2c⟩ := R7x2.out
    obtain ⟨R7x3a, R7x3b, R7x3c⟩ := R7x3.out
    obtain ⟨R7x4a, R7x4b, R7x4c⟩ := R7x4.out
    obtain ⟨V7x0a, V7x0b, V7x0c⟩ := V7x0.out
    go_wp2_with fail
    have R8x0 := Lib.hid (R7x0.out.other n_z_wv (bysA O))
    have R8x1 := Lib.hid (R7x1.out.other n_y_wv (bysA O))
    have R8x2 := Lib.hid (R7x2.out.other n_r_wv (bysA O))
    have R8x3 := Lib.hid (R7x3.out.other n_sv_wv (bysA O))
    have R8x4 := Lib.hid (R7x4.out.other n_pv_wv (bysA O))
    have R8x5 := Lib.hid (V7x0.out.set (bysA O))
    have B8 := Lib.hid (below_setRow B7.out l_wv (bysA O))
    clear B7 R7x0 R7x1 R7x2 R7x3 R7x4 V7x0 R7x0a R7x0b R7x0c R7x1a R7x1b R7x1c R7x2a R7x2b R7x2c R7x3a R7x3b R7x3c R7x4a R7x4b R7x4c V7x0a V7x0b V7x0c
    generalize W7.setRow wv (bysA O) = W8 at *
    refine (KC.out _).mono ?_
    rintro e W9 ⟨rfl, hb9⟩
    have R9x0 := Lib.hid (R8x0.out.grow hb9)
    have R9x1 := Lib.hid (R8x1.out.grow hb9)
    have R9x2 := Lib.hid (R8x2.out.grow hb9)
    have R9x3 := Lib.hid (R8x3.out.grow hb9)
    have R9x4 := Lib.hid (R8x4.out.grow hb9)
    have R9x5 := Lib.hid (R8x5.out.grow hb9)
    have B9 := Lib.hid (B8.out.trans (hb9.mono B8.out.size))
    clear hb9 B8 R8x0 R8x1 R8x2 R8x3 R8x4 R8x5
    obtain ⟨R9x0a, R9x0b, R9x0c⟩ := R9x0.out
    obtain ⟨R9x1a, R9x1b, R9x1c⟩ := R9x1.out
    obtain ⟨R9x2a, R9x2b, R9x2c⟩ := R9x2.out
    obtain ⟨R9x3a, R9x3b, R9x3c⟩ := R9x3.out
    obtain ⟨R9x4a, R9x4b, R9x4c⟩ := R9x4.out
    obtain ⟨R9x5a, R9x5b, R9x5c⟩ := R9x5.out
    go_wp2_with fail
    rcases ok with _ | _
    · rw [if_pos rfl] at HE0
      obtain rfl : er = 5 := HE0.out
      obtain rfl : ans = .zero := by rw [HAn.out, if_neg (show ¬ (5 : Int) = 0 by decide)]
      have e5 := Hd1.out rfl
      subst e5
      clear HE0 HAn Hd0 Hd1
      refine (KD.out _).mono ?_
      rintro e W10 ⟨rfl, hb10⟩
      clear R9x0a R9x0b R9x0c R9x1a R9x1b R9x1c R9x2a R9x2b R9x2c R9x3a R9x3b R9x3c R9x4a R9x4b R9x4c R9x5a R9x5b R9x5c
      have R10x0 := Lib.hid (R9x0.out.grow hb10)
      have R10x1 := Lib.hid (R9x1.out.grow hb10)
      have R10x2 := Lib.hid (R9x2.out.grow hb10)
      have R10x3 := Lib.hid (R9x3.out.grow hb10)
      have R10x4 := Lib.hid (R9x4.out.grow hb10)
      have R10x5 := Lib.hid (R9x5.out.grow hb10)
      have B10 := Lib.hid (B9.out.trans (hb10.mono B9.out.size))
      clear hb10 B9 R9x0 R9x1 R9x2 R9x3 R9x4 R9x5
      obtain ⟨R10x0a, R10x0b, R10x0c⟩ := R10x0.out
      obtain ⟨R10x1a, R10x1b, R10x1c⟩ := R10x1.out
      obtain ⟨R10x2a, R10x2b, R10x2c⟩ := R10x2.out
      obtain ⟨R10x3a, R10x3b, R10x3c⟩ := R10x3.out
      obtain ⟨R10x4a, R10x4b, R10x4c⟩ := R10x4.out
      obtain ⟨R10x5a, R10x5b, R10x5c⟩ := R10x5.out
      go_wp2_with fail
      refine bodyPost_ret (v := .tuple #[.agg (stepA .zero), .int .i64 5]) (results_step_slot Tryz.results18 hzz _ _ _ rfl (by go_simp) (by go_simp) rfl) rfl ⟨rfl, ?_⟩
      first | exact below_setRow B10.out l_r _ | exact below_alloc (below_setRow B10.out l_r _) _ | exact below_setRow (below_setRow B10.out l_av _) l_r _
    · rw [if_neg (by decide)] at HE0
      obtain ⟨e1, e2⟩ := Hd0.out rfl
      subst e1 e2
      clear Hd0 Hd1
      by_cases h3 : nn = 0
      · rw [if_pos h3] at HE0
        obtain rfl : er = 7 := HE0.out
        obtain rfl : ans = .zero := by rw [HAn.out, if_neg (show ¬ (7 : Int) = 0 by decide)]
        rw [errOf_zero h3] at KN
        clear h3 HE0 HAn
        refine (KD.out _).mono ?_
        rintro e W10 ⟨rfl, hb10⟩
        clear R9x0a R9x0b R9x0c R9x1a R9x1b R9x1c R9x2a R9x2b R9x2c R9x3a R9x3b R9x3c R9x4a R9x4b R9x4c R9x5a R9x5b R9x5c
        have R10x0 := Lib.hid (R9x0.out.grow hb10)
        have R10x1 := Lib.hid (R9x1.out.grow hb10)
        have R10x2 := Lib.hid (R9x2.out.grow hb10)
        have R10x3 := Lib.hid (R9x3.out.grow hb10)
        have R10x4 := Lib.hid (R9x4.out.grow hb10)
        have R10x5 := Lib.hid (R9x5.out.grow hb10)
        have B10 := Lib.hid (B9.out.trans (hb10.mono B9.out.size))
        clear hb10 B9 R9x0 R9x1 R9x2 R9x3 R9x4 R9x5
        obtain ⟨R10x0a, R10x0b, R10x0c⟩ := R10x0.out
        obtain ⟨R10x1a, R10x1b, R10x1c⟩ := R10x1.out
        obtain ⟨R10x2a, R10x2b, R10x2c⟩ := R10x2.out
        obtain ⟨R10x3a, R10x3b, R10x3c⟩ := R10x3.out
        obtain ⟨R10x4a, R10x4b, R10x4c⟩ := R10x4.out
        obtain ⟨R10x5a, R10x5b, R10x5c⟩ := R10x5.out
        go_wp2_with fail
        have n_z_cv : z ≠ W10.heap.size := Nat.ne_of_lt R10x0.out.2.2
        have n_y_cv : y ≠ W10.heap.size := Nat.ne_of_lt R10x1.out.2.2
        have n_r_cv : r ≠ W10.heap.size := Nat.ne_of_lt R10x2.out.2.2
        have n_sv_cv : sv ≠ W10.heap.size := Nat.ne_of_lt R10x3.out.2.2
        have n_pv_cv : pv ≠ W10.heap.size := Nat.ne_of_lt R10x4.out.2.2
        have n_wv_cv : wv ≠ W10.heap.size := Nat.ne_of_lt R10x5.out.2.2
        have l_cv : w.heap.size ≤ W10.heap.size := B10.out.size
        have hb11 := below_alloc (Below.refl W10.heap.size W10) (.cells (cmdA st.c) 51)
        have N11 := Lib.hid (RowAt.of (block_new W10 (.cells (cmdA st.c) 51)))
        have R11x0 := Lib.hid (R10x0.out.grow hb11)
        have R11x1 := Lib.hid (R10x1.out.grow hb11)
        have R11x2 := Lib.hid (R10x2.out.grow hb11)
        have R11x3 := Lib.hid (R10x3.out.grow hb11)
        have R11x4 := Lib.hid (R10x4.out.grow hb11)
        have R11x5 := Lib.hid (R10x5.out.grow hb11)
        have B11 := Lib.hid (B10.out.trans (hb11.mono B10.out.size))
        clear hb11 B10 R10x0 R10x1 R10x2 R10x3 R10x4 R10x5 R10x0a R10x0b R10x0c R10x1a R10x1b R10x1c R10x2a R10x2b R10x2c R10x3a R10x3b R10x3c R10x4a R10x4b R10x4c R10x5a R10x5b R10x5c
        generalize W10.heap.size = cv at *
        generalize W10.alloc (.cells (cmdA st.c) 51) = W11 at *
        obtain ⟨R11x0a, R11x0b, R11x0c⟩ := R11x0.out
        obtain ⟨R11x1a, R11x1b, R11x1c⟩ := R11x1.out
        obtain ⟨R11x2a, R11x2b, R11x2c⟩ := R11x2.out
        obtain ⟨R11x3a, R11x3b, R11x3c⟩ := R11x3.out
        obtain ⟨R11x4a, R11x4b, R11x4c⟩ := R11x4.out
        obtain ⟨R11x5a, R11x5b, R11x5c⟩ := R11x5.out
        obtain ⟨N11a, N11b, N11c⟩ := N11.out
        refine wp_region_pick W11 [0, 1, 2, 3, 4, 5, 6, 7, 8, 9] [false, false, false, false, false, false, false, false, false, true] [10] [(23, bysA (zs 32))] 11 (by kernel_rfl) rfl (by kernel_rfl) (by intro c a d v w h; cases d <;> exact h) (by first | exact (Below.refl _ _).drew | exact Below.refl _ _) ?_
        simp only [pick, List.getElem?_cons_succ, List.getElem?_cons_zero, List.drop_succ_cons, List.drop_zero]
        refine wpHoldF_val (wanted_none rfl) (by intro K o d hK; go_simp; exact hK _ (Below.refl _ _)) ?_
        refine wpHoldF_val (wanted_none rfl) (by intro K o d hK; go_simp; exact hK _ (Below.refl _ _)) ?_
        refine wpHoldF_val (wanted_none rfl) (by intro K o d hK; go_simp; exact hK _ (Below.refl _ _)) ?_
        refine wpHoldF_call (v := .agg (bysA bl)) (wanted_none rfl) (by intro K o d hK; go_simp; refine (KB.out _ (HT.out.grow (below_plus_of _ _ _ B11.out B11.out.size))).mono ?_; rintro e w' ⟨rfl, hbw⟩; exact ⟨_, rfl, hK _ hbw⟩) ?_
        refine wpHoldF_val (wanted_none rfl) (by intro K o d hK; go_simp; exact hK _ (Below.refl _ _)) ?_
        refine wpHoldF_val (wanted_none rfl) (by intro K o d hK; go_simp; exact hK _ (Below.refl _ _)) ?_
        refine wpHoldF_call (v := .tuple #[.agg (bysA na), .int .i64 7]) (wanted_none rfl) (by intro K o d hK; go_simp; refine (KN.out _).mono ?_; rintro e w' ⟨rfl, hbw⟩; exact ⟨_, rfl, hK _ hbw⟩) ?_
        refine wpHoldF_val (wanted_none rfl) (by intro K o d hK; go_simp; exact hK _ (Below.refl _ _)) ?_
        refine wpHoldF_val (wanted_none rfl) (by intro K o d hK; go_simp; exact hK _ (Below.refl _ _)) ?_
        refine wpHoldF_late (wanted_none rfl) (fun w => by go_simp; rfl) ?_
        refine wpHoldF_nil ?_
        refine ⟨lays_keyB _ rfl rfl, fun av hg0 hn0 => ?_⟩
        intro W12 hb12 hblk
        have n_z_av : z ≠ av := by have := R11x0.out.2.2; omega
        have n_y_av : y ≠ av := by have := R11x1.out.2.2; omega
        have n_r_av : r ≠ av := by have := R11x2.out.2.2; omega
        have n_sv_av : sv ≠ av := by have := R11x3.out.2.2; omega
        have n_pv_av : pv ≠ av := by have := R11x4.out.2.2; omega
        have n_wv_av : wv ≠ av := by have := R11x5.out.2.2; omega
        have n_cv_av : cv ≠ av := by have := N11.out.2.2; omega
        have l_av : w.heap.size ≤ av := Nat.le_trans B11.out.size hg0
        have V12x0 := Lib.hid (RowAt.of (hblk 0 av _ _ rfl rfl))
        clear hblk
        clear R11x0a R11x0b R11x0c R11x1a R11x1b R11x1c R11x2a R11x2b R11x2c R11x3a R11x3b R11x3c R11x4a R11x4b R11x4c R11x5a R11x5b R11x5c N11a N11b N11c
        have R12x0 := Lib.hid (R11x0.out.grow hb12)
        have R12x1 := Lib.hid (R11x1.out.grow hb12)
        have R12x2 := Lib.hid (R11x2.out.grow hb12)
        have R12x3 := Lib.hid (R11x3.out.grow hb12)
        have R12x4 := Lib.hid (R11x4.out.grow hb12)
        have R12x5 := Lib.hid (R11x5.out.grow hb12)
        have R12x6 := Lib.hid (N11.out.grow hb12)
        have B12 := Lib.hid (B11.out.trans (hb12.mono B11.out.size))
        clear hb12 B11 R11x0 R11x1 R11x2 R11x3 R11x4 R11x5 N11
        obtain ⟨R12x0a, R12x0b, R12x0c⟩ := R12x0.out
        obtain ⟨R12x1a, R12x1b, R12x1c⟩ := R12x1.out
        obtain ⟨R12x2a, R12x2b, R12x2c⟩ := R12x2.out
        obtain ⟨R12x3a, R12x3b, R12x3c⟩ := R12x3.out
        obtain ⟨R12x4a, R12x4b, R12x4c⟩ := R12x4.out
        obtain ⟨R12x5a, R12x5b, R12x5c⟩ := R12x5.out
        obtain ⟨R12x6a, R12x6b, R12x6c⟩ := R12x6.out
        obtain ⟨V12x0a, V12x0b, V12x0c⟩ := V12x0.out
        go_wp2_with fail
        refine bodyPost_ret (v := .tuple #[.agg (stepA .zero), .int .i64 7]) (results_step_slot Tryz.results18 hzz _ _ _ rfl (by go_simp) (by go_simp) rfl) rfl ⟨rfl, ?_⟩
        first | exact below_setRow B12.out l_r _ | exact below_alloc (below_setRow B12.out l_r _) _ | exact below_setRow (below_setRow B12.out l_av _) l_r _
      · rw [if_neg h3] at HE0
        obtain rfl : er = 0 := HE0.out
        obtain rfl : st = ans := by rw [HAn.out, if_pos rfl]
        rw [errOf_ne h3] at KN
        clear h3 HE0 HAn
        refine (KD.out _).mono ?_
        rintro e W10 ⟨rfl, hb10⟩
        clear R9x0a R9x0b R9x0c R9x1a R9x1b R9x1c R9x2a R9x2b R9x2c R9x3a R9x3b R9x3c R9x4a R9x4b R9x4c R9x5a R9x5b R9x5c
        have R10x0 := Lib.hid (R9x0.out.grow hb10)
        have R10x1 := Lib.hid (R9x1.out.grow hb10)
        have R10x2 := Lib.hid (R9x2.out.grow hb10)
        have R10x3 := Lib.hid (R9x3.out.grow hb10)
        have R10x4 := Lib.hid (R9x4.out.grow hb10)
        have R10x5 := Lib.hid (R9x5.out.grow hb10)
        have B10 := Lib.hid (B9.out.trans (hb10.mono B9.out.size))
        clear hb10 B9 R9x0 R9x1 R9x2 R9x3 R9x4 R9x5
        obtain ⟨R10x0a, R10x0b, R10x0c⟩ := R10x0.out
        obtain ⟨R10x1a, R10x1b, R10x1c⟩ := R10x1.out
        obtain ⟨R10x2a, R10x2b, R10x2c⟩ := R10x2.out
        obtain ⟨R10x3a, R10x3b, R10x3c⟩ := R10x3.out
        obtain ⟨R10x4a, R10x4b, R10x4c⟩ := R10x4.out
        obtain ⟨R10x5a, R10x5b, R10x5c⟩ := R10x5.out
        go_wp2_with fail
        have n_z_cv : z ≠ W10.heap.size := Nat.ne_of_lt R10x0.out.2.2
        have n_y_cv : y ≠ W10.heap.size := Nat.ne_of_lt R10x1.out.2.2
        have n_r_cv : r ≠ W10.heap.size := Nat.ne_of_lt R10x2.out.2.2
        have n_sv_cv : sv ≠ W10.heap.size := Nat.ne_of_lt R10x3.out.2.2
        have n_pv_cv : pv ≠ W10.heap.size := Nat.ne_of_lt R10x4.out.2.2
        have n_wv_cv : wv ≠ W10.heap.size := Nat.ne_of_lt R10x5.out.2.2
        have l_cv : w.heap.size ≤ W10.heap.size := B10.out.size
        have hb11 := below_alloc (Below.refl W10.heap.size W10) (.cells (cmdA st.c) 51)
        have N11 := Lib.hid (RowAt.of (block_new W10 (.cells (cmdA st.c) 51)))
        have R11x0 := Lib.hid (R10x0.out.grow hb11)
        have R11x1 := Lib.hid (R10x1.out.grow hb11)
        have R11x2 := Lib.hid (R10x2.out.grow hb11)
        have R11x3 := Lib.hid (R10x3.out.grow hb11)
        have R11x4 := Lib.hid (R10x4.out.grow hb11)
        have R11x5 := Lib.hid (R10x5.out.grow hb11)
        have B11 := Lib.hid (B10.out.trans (hb11.mono B10.out.size))
        clear hb11 B10 R10x0 R10x1 R10x2 R10x3 R10x4 R10x5 R10x0a R10x0b R10x0c R10x1a R10x1b R10x1c R10x2a R10x2b R10x2c R10x3a R10x3b R10x3c R10x4a R10x4b R10x4c R10x5a R10x5b R10x5c
        generalize W10.heap.size = cv at *
        generalize W10.alloc (.cells (cmdA st.c) 51) = W11 at *
        obtain ⟨R11x0a, R11x0b, R11x0c⟩ := R11x0.out
        obtain ⟨R11x1a, R11x1b, R11x1c⟩ := R11x1.out
        obtain ⟨R11x2a, R11x2b, R11x2c⟩ := R11x2.out
        obtain ⟨R11x3a, R11x3b, R11x3c⟩ := R11x3.out
        obtain ⟨R11x4a, R11x4b, R11x4c⟩ := R11x4.out
        obtain ⟨R11x5a, R11x5b, R11x5c⟩ := R11x5.out
        obtain ⟨N11a, N11b, N11c⟩ := N11.out
        refine wp_region_pick W11 [0, 1, 2, 3, 4, 5, 6, 7, 8, 9] [false, false, false, false, false, false, false, false, false, true] [10] [(23, bysA (zs 32))] 11 (by kernel_rfl) rfl (by kernel_rfl) (by intro c a d v w h; cases d <;> exact h) (by first | exact (Below.refl _ _).drew | exact Below.refl _ _) ?_
        simp only [pick, List.getElem?_cons_succ, List.getElem?_cons_zero, List.drop_succ_cons, List.drop_zero]
        refine wpHoldF_val (wanted_none rfl) (by intro K o d hK; go_simp; exact hK _ (Below.refl _ _)) ?_
        refine wpHoldF_val (wanted_none rfl) (by intro K o d hK; go_simp; exact hK _ (Below.refl _ _)) ?_
        refine wpHoldF_val (wanted_none rfl) (by intro K o d hK; go_simp; exact hK _ (Below.refl _ _)) ?_
        refine wpHoldF_call (v := .agg (bysA bl)) (wanted_none rfl) (by intro K o d hK; go_simp; refine (KB.out _ (HT.out.grow (below_plus_of _ _ _ B11.out B11.out.size))).mono ?_; rintro e w' ⟨rfl, hbw⟩; exact ⟨_, rfl, hK _ hbw⟩) ?_
        refine wpHoldF_val (wanted_none rfl) (by intro K o d hK; go_simp; exact hK _ (Below.refl _ _)) ?_
        refine wpHoldF_val (wanted_none rfl) (by intro K o d hK; go_simp; exact hK _ (Below.refl _ _)) ?_
        refine wpHoldF_call (v := .tuple #[.agg (bysA na), .int .i64 0]) (wanted_none rfl) (by intro K o d hK; go_simp; refine (KN.out _).mono ?_; rintro e w' ⟨rfl, hbw⟩; exact ⟨_, rfl, hK _ hbw⟩) ?_
        refine wpHoldF_val (wanted_none rfl) (by intro K o d hK; go_simp; exact hK _ (Below.refl _ _)) ?_
        refine wpHoldF_val (wanted_none rfl) (by intro K o d hK; go_simp; exact hK _ (Below.refl _ _)) ?_
        refine wpHoldF_late (wanted_none rfl) (fun w => by go_simp; rfl) ?_
        refine wpHoldF_nil ?_
        refine ⟨lays_keyB _ rfl rfl, fun av hg0 hn0 => ?_⟩
        intro W12 hb12 hblk
        have n_z_av : z ≠ av := by have := R11x0.out.2.2; omega
        have n_y_av : y ≠ av := by have := R11x1.out.2.2; omega
        have n_r_av : r ≠ av := by have := R11x2.out.2.2; omega
        have n_sv_av : sv ≠ av := by have := R11x3.out.2.2; omega
        have n_pv_av : pv ≠ av := by have := R11x4.out.2.2; omega
        have n_wv_av : wv ≠ av := by have := R11x5.out.2.2; omega
        have n_cv_av : cv ≠ av := by have := N11.out.2.2; omega
        have l_av : w.heap.size ≤ av := Nat.le_trans B11.out.size hg0
        have V12x0 := Lib.hid (RowAt.of (hblk 0 av _ _ rfl rfl))
        clear hblk
        clear R11x0a R11x0b R11x0c R11x1a R11x1b R11x1c R11x2a R11x2b R11x2c R11x3a R11x3b R11x3c R11x4a R11x4b R11x4c R11x5a R11x5b R11x5c N11a N11b N11c
        have R12x0 := Lib.hid (R11x0.out.grow hb12)
        have R12x1 := Lib.hid (R11x1.out.grow hb12)
        have R12x2 := Lib.hid (R11x2.out.grow hb12)
        have R12x3 := Lib.hid (R11x3.out.grow hb12)
        have R12x4 := Lib.hid (R11x4.out.grow hb12)
        have R12x5 := Lib.hid (R11x5.out.grow hb12)
        have R12x6 := Lib.hid (N11.out.grow hb12)
        have B12 := Lib.hid (B11.out.trans (hb12.mono B11.out.size))
        clear hb12 B11 R11x0 R11x1 R11x2 R11x3 R11x4 R11x5 N11
        obtain ⟨R12x0a, R12x0b, R12x0c⟩ := R12x0.out
        obtain ⟨R12x1a, R12x1b, R12x1c⟩ := R12x1.out
        obtain ⟨R12x2a, R12x2b, R12x2c⟩ := R12x2.out
        obtain ⟨R12x3a, R12x3b, R12x3c⟩ := R12x3.out
        obtain ⟨R12x4a, R12x4b, R12x4c⟩ := R12x4.out
        obtain ⟨R12x5a, R12x5b, R12x5c⟩ := R12x5.out
        obtain ⟨R12x6a, R12x6b, R12x6c⟩ := R12x6.out
        obtain ⟨V12x0a, V12x0b, V12x0c⟩ := V12x0.out
        go_wp2_with fail
        have R13x0 := Lib.hid (R12x0.out.other n_z_av (bysA na))
        have R13x1 := Lib.hid (R12x1.out.other n_y_av (bysA na))
        have R13x2 := Lib.hid (R12x2.out.other n_r_av (bysA na))
        have R13x3 := Lib.hid (R12x3.out.other n_sv_av (bysA na))
        have R13x4 := Lib.hid (R12x4.out.other n_pv_av (bysA na))
        have R13x5 := Lib.hid (R12x5.out.other n_wv_av (bysA na))
        have R13x6 := Lib.hid (R12x6.out.other n_cv_av (bysA na))
        have R13x7 := Lib.hid (V12x0.out.set (bysA na))
        have B13 := Lib.hid (below_setRow B12.out l_av (bysA na))
        clear B12 R12x0 R12x1 R12x2 R12x3 R12x4 R12x5 R12x6 V12x0 R12x0a R12x0b R12x0c R12x1a R12x1b R12x1c R12x2a R12x2b R12x2c R12x3a R12x3b R12x3c R12x4a R12x4b R12x4c R12x5a R12x5b R12x5c R12x6a R12x6b R12x6c V12x0a V12x0b V12x0c
        generalize W12.setRow av (bysA na) = W13 at *
        obtain ⟨R13x0a, R13x0b, R13x0c⟩ := R13x0.out
        obtain ⟨R13x1a, R13x1b, R13x1c⟩ := R13x1.out
        obtain ⟨R13x2a, R13x2b, R13x2c⟩ := R13x2.out
        obtain ⟨R13x3a, R13x3b, R13x3c⟩ := R13x3.out
        obtain ⟨R13x4a, R13x4b, R13x4c⟩ := R13x4.out
        obtain ⟨R13x5a, R13x5b, R13x5c⟩ := R13x5.out
        obtain ⟨R13x6a, R13x6b, R13x6c⟩ := R13x6.out
        obtain ⟨R13x7a, R13x7b, R13x7c⟩ := R13x7.out
        refine wp_region_pick W13 [0, 1, 2, 3, 4, 5] [false, false, false, false, false, false] [6] [(31, bysA (zs 208))] 7 (by kernel_rfl) rfl (by kernel_rfl) (by intro c a d v w h; cases d <;> exact h) (by first | exact (Below.refl _ _).drew | exact Below.refl _ _) ?_
        simp only [pick, List.getElem?_cons_succ, List.getElem?_cons_zero, List.drop_succ_cons, List.drop_zero]
        refine wpHoldF_val (wanted_none rfl) (by intro K o d hK; go_simp; exact hK _ (Below.refl _ _)) ?_
        refine wpHoldF_val (wanted_none rfl) (by intro K o d hK; go_simp; exact hK _ (Below.refl _ _)) ?_
        refine wpHoldF_call (v := .agg (bysA nb)) (wanted_none rfl) (by intro K o d hK; go_simp; refine (KNb.out _).mono ?_; rintro e w' ⟨rfl, hbw⟩; exact ⟨_, rfl, hK _ hbw⟩) ?_
        refine wpHoldF_val (wanted_none rfl) (by intro K o d hK; go_simp; exact hK _ (Below.refl _ _)) ?_
        refine wpHoldF_call (v := .agg (bysA ng)) (wanted_none rfl) (by intro K o d hK; go_simp; refine (KNg.out _).mono ?_; rintro e w' ⟨rfl, hbw⟩; exact ⟨_, rfl, hK _ hbw⟩) ?_
        refine wpHoldF_val (wanted_none rfl) (by intro K o d hK; go_simp; exact hK _ (Below.refl _ _)) ?_
        refine wpHoldF_nil ?_
        refine ⟨lays_hdr _ rfl rfl, fun nv hg0 hn0 => ?_⟩
        intro W14 hb14 hblk
        have n_z_nv : z ≠ nv := by have := R13x0.out.2.2; omega
        have n_y_nv : y ≠ nv := by have := R13x1.out.2.2; omega
        have n_r_nv : r ≠ nv := by have := R13x2.out.2.2; omega
        have n_sv_nv : sv ≠ nv := by have := R13x3.out.2.2; omega
        have n_pv_nv : pv ≠ nv := by have := R13x4.out.2.2; omega
        have n_wv_nv : wv ≠ nv := by have := R13x5.out.2.2; omega
        have n_cv_nv : cv ≠ nv := by have := R13x6.out.2.2; omega
        have n_av_nv : av ≠ nv := by have := R13x7.out.2.2; omega
        have l_nv : w.heap.size ≤ nv := Nat.le_trans B13.out.size hg0
        have V14x0 := Lib.hid (RowAt.of (hblk 0 nv _ _ rfl rfl))
        clear hblk
        clear R13x0a R13x0b R13x0c R13x1a R13x1b R13x1c R13x2a R13x2b R13x2c R13x3a R13x3b R13x3c R13x4a R13x4b R13x4c R13x5a R13x5b R13x5c R13x6a R13x6b R13x6c R13x7a R13x7b R13x7c
        have R14x0 := Lib.hid (R13x0.out.grow hb14)
        have R14x1 := Lib.hid (R13x1.out.grow hb14)
        have R14x2 := Lib.hid (R13x2.out.grow hb14)
        have R14x3 := Lib.hid (R13x3.out.grow hb14)
        have R14x4 := Lib.hid (R13x4.out.grow hb14)
        have R14x5 := Lib.hid (R13x5.out.grow hb14)
        have R14x6 := Lib.hid (R13x6.out.grow hb14)
        have R14x7 := Lib.hid (R13x7.out.grow hb14)
        have B14 := Lib.hid (B13.out.trans (hb14.mono B13.out.size))
        clear hb14 B13 R13x0 R13x1 R13x2 R13x3 R13x4 R13x5 R13x6 R13x7
        obtain ⟨R14x0a, R14x0b, R14x0c⟩ := R14x0.out
        obtain ⟨R14x1a, R14x1b, R14x1c⟩ := R14x1.out
        obtain ⟨R14x2a, R14x2b, R14x2c⟩ := R14x2.out
        obtain ⟨R14x3a, R14x3b, R14x3c⟩ := R14x3.out
        obtain ⟨R14x4a, R14x4b, R14x4c⟩ := R14x4.out
        obtain ⟨R14x5a, R14x5b, R14x5c⟩ := R14x5.out
        obtain ⟨R14x6a, R14x6b, R14x6c⟩ := R14x6.out
        obtain ⟨R14x7a, R14x7b, R14x7c⟩ := R14x7.out
        obtain ⟨V14x0a, V14x0b, V14x0c⟩ := V14x0.out
        go_wp2_with fail
        have R15x0 := Lib.hid (R14x0.out.other n_z_nv (bysA Hn))
        have R15x1 := Lib.hid (R14x1.out.other n_y_nv (bysA Hn))
        have R15x2 := Lib.hid (R14x2.out.other n_r_nv (bysA Hn))
        have R15x3 := Lib.hid (R14x3.out.other n_sv_nv (bysA Hn))
        have R15x4 := Lib.hid (R14x4.out.other n_pv_nv (bysA Hn))
        have R15x5 := Lib.hid (R14x5.out.other n_wv_nv (bysA Hn))
        have R15x6 := Lib.hid (R14x6.out.other n_cv_nv (bysA Hn))
        have R15x7 := Lib.hid (R14x7.out.other n_av_nv (bysA Hn))
        have R15x8 := Lib.hid (V14x0.out.set (bysA Hn))
        have B15 := Lib.hid (below_setRow B14.out l_nv (bysA Hn))
        clear B14 R14x0 R14x1 R14x2 R14x3 R14x4 R14x5 R14x6 R14x7 V14x0 R14x0a R14x0b R14x0c R14x1a R14x1b R14x1c R14x2a R14x2b R14x2c R14x3a R14x3b R14x3c R14x4a R14x4b R14x4c R14x5a R14x5b R14x5c R14x6a R14x6b R14x6c R14x7a R14x7b R14x7c V14x0a V14x0b V14x0c
        generalize W14.setRow nv (bysA Hn) = W15 at *
        obtain ⟨R15x0a, R15x0b, R15x0c⟩ := R15x0.out
        obtain ⟨R15x1a, R15x1b, R15x1c⟩ := R15x1.out
        obtain ⟨R15x2a, R15x2b, R15x2c⟩ := R15x2.out
        obtain ⟨R15x3a, R15x3b, R15x3c⟩ := R15x3.out
        obtain ⟨R15x4a, R15x4b, R15x4c⟩ := R15x4.out
        obtain ⟨R15x5a, R15x5b, R15x5c⟩ := R15x5.out
        obtain ⟨R15x6a, R15x6b, R15x6c⟩ := R15x6.out
        obtain ⟨R15x7a, R15x7b, R15x7c⟩ := R15x7.out
        obtain ⟨R15x8a, R15x8b, R15x8c⟩ := R15x8.out
        refine wp_region_pick W15 [0, 1, 2, 3, 4, 5] [false, false, false, false, false, false] [] [] 6 (by kernel_rfl) rfl (by kernel_rfl) (by intro c a d v w h; cases d <;> exact h) (by first | exact (Below.refl _ _).drew | exact Below.refl _ _) ?_
        simp only [pick, List.getElem?_cons_succ, List.getElem?_cons_zero, List.drop_succ_cons, List.drop_zero]
        refine wpHoldF_val (wanted_none rfl) (by intro K o d hK; go_simp; exact hK _ (Below.refl _ _)) ?_
        refine wpHoldF_val (wanted_none rfl) (by intro K o d hK; go_simp; exact hK _ (Below.refl _ _)) ?_
        refine wpHoldF_val (wanted_none rfl) (by intro K o d hK; go_simp; exact hK _ (Below.refl _ _)) ?_
        refine wpHoldF_val (wanted_none rfl) (by intro K o d hK; go_simp; exact hK _ (Below.refl _ _)) ?_
        refine wpHoldF_call (v := .agg (bysA tg)) (wanted_none rfl) (by intro K o d hK; go_simp; refine (KTg.out _ (HT.out.grow (below_plus_of _ _ _ B15.out B15.out.size))).mono ?_; rintro e w' ⟨rfl, hbw⟩; exact ⟨_, rfl, hK _ hbw⟩) ?_
        refine wpHoldF_val (wanted_none rfl) (by intro K o d hK; go_simp; exact hK _ (Below.refl _ _)) ?_
        refine wpHoldF_nil ?_
        intro W16 hb16 hblk
        clear hblk
        clear R15x0a R15x0b R15x0c R15x1a R15x1b R15x1c R15x2a R15x2b R15x2c R15x3a R15x3b R15x3c R15x4a R15x4b R15x4c R15x5a R15x5b R15x5c R15x6a R15x6b R15x6c R15x7a R15x7b R15x7c R15x8a R15x8b R15x8c
        have R16x0 := Lib.hid (R15x0.out.grow hb16)
        have R16x1 := Lib.hid (R15x1.out.grow hb16)
        have R16x2 := Lib.hid (R15x2.out.grow hb16)
        have R16x3 := Lib.hid (R15x3.out.grow hb16)
        have R16x4 := Lib.hid (R15x4.out.grow hb16)
        have R16x5 := Lib.hid (R15x5.out.grow hb16)
        have R16x6 := Lib.hid (R15x6.out.grow hb16)
        have R16x7 := Lib.hid (R15x7.out.grow hb16)
        have R16x8 := Lib.hid (R15x8.out.grow hb16)
        have B16 := Lib.hid (B15.out.trans (hb16.mono B15.out.size))
        clear hb16 B15 R15x0 R15x1 R15x2 R15x3 R15x4 R15x5 R15x6 R15x7 R15x8
        obtain ⟨R16x0a, R16x0b, R16x0c⟩ := R16x0.out
        obtain ⟨R16x1a, R16x1b, R16x1c⟩ := R16x1.out
        obtain ⟨R16x2a, R16x2b, R16x2c⟩ := R16x2.out
        obtain ⟨R16x3a, R16x3b, R16x3c⟩ := R16x3.out
        obtain ⟨R16x4a, R16x4b, R16x4c⟩ := R16x4.out
        obtain ⟨R16x5a, R16x5b, R16x5c⟩ := R16x5.out
        obtain ⟨R16x6a, R16x6b, R16x6c⟩ := R16x6.out
        obtain ⟨R16x7a, R16x7b, R16x7c⟩ := R16x7.out
        obtain ⟨R16x8a, R16x8b, R16x8c⟩ := R16x8.out
        go_wp2_with fail
        refine bodyPost_ret (v := .tuple #[.agg (stepA st), .int .i64 0]) (results_step_slot Tryz.results18 hsts _ _ _ rfl (by go_simp) (by go_simp) rfl) rfl ⟨rfl, ?_⟩
        exact below_setRow B16.out l_r _
  · rw [if_pos h2] at HE0
    obtain rfl : er = 6 := HE0.out
    rw [decide_eq_false h2] at KE
    obtain rfl : ans = .zero := by rw [HAn.out, if_neg (show ¬ (6 : Int) = 0 by decide)]
    clear h2 HE0 HAn
    refine (KE.out _ _ _ (Bs0.some (bytes_row R5x4.out)) (Bs0.some hBy)).mono ?_
    rintro e W6 ⟨rfl, hb6⟩
    have R6x0 := Lib.hid (R5x0.out.grow hb6)
    have R6x1 := Lib.hid (R5x1.out.grow hb6)
    have R6x2 := Lib.hid (R5x2.out.grow hb6)
    have R6x3 := Lib.hid (R5x3.out.grow hb6)
    have R6x4 := Lib.hid (R5x4.out.grow hb6)
    have B6 := Lib.hid (B5.out.trans (hb6.mono B5.out.size))
    clear hb6 B5 R5x0 R5x1 R5x2 R5x3 R5x4
    clear hBy
    obtain ⟨R6x0a, R6x0b, R6x0c⟩ := R6x0.out
    obtain ⟨R6x1a, R6x1b, R6x1c⟩ := R6x1.out
    obtain ⟨R6x2a, R6x2b, R6x2c⟩ := R6x2.out
    obtain ⟨R6x3a, R6x3b, R6x3c⟩ := R6x3.out
    obtain ⟨R6x4a, R6x4b, R6x4c⟩ := R6x4.out
    go_wp2_with fail
    refine bodyPost_ret (v := .tuple #[.agg (stepA .zero), .int .i64 6]) (results_step_slot Tryz.results18 hzz _ _ _ rfl (by go_simp) (by go_simp) rfl) rfl ⟨rfl, ?_⟩
    first | exact below_setRow B6.out l_r _ | exact below_alloc (below_setRow B6.out l_r _) _ | exact below_setRow (below_setRow B6.out l_av _) l_r _
end Go.Proofs.YtddmjddlbhdcpaaGreatDoor

/-
  The reference of layer 3: bytes with what comes behind them.
-/
namespace Go.Proofs.YtddmjddlbhdcpaaGreatDoor
open Go.RowKit Go.Hold Go.Sh

end Go.Proofs.YtddmjddlbhdcpaaGreatDoor

/-
  The reference of layer 3: its constants, and words out of bytes.
-/
namespace Go.Proofs.YtddmjddlbhdcpaaGreatDoor
open Go.RowKit Go.Hold Go.Sh

@[go_sem ↓] theorem fold_bld8 (ps : Array (Nat × Value)) : Instr.buildSlice 179 8 ps = bldS 179 8 ps := rfl
@[go_sem ↓] theorem fold_bld64 (ps : Array (Nat × Value)) : Instr.buildSlice 179 64 ps = bldS 179 64 ps := rfl
set_option maxRecDepth 100000 in
@[go_sem] theorem run_bld8 (w : World) (a b c d e f g h : Int) : (bldS 179 8 #[(0, .int .u32 a), (1, .int .u32 b), (2, .int .u32 c), (3, .int .u32 d), (4, .int .u32 e), (5, .int .u32 f), (6, .int .u32 g), (7, .int .u32 h)]).run Tryz.prog w = .ok (.slice (some ⟨w.heap.size, 0, none⟩) 8 8) (w.alloc (.cells (stA ⟨a, b, c, d, e, f, g, h⟩) 129)) := by
  obtain ⟨ie, h1, h2, h3, _⟩ := info_parts info_u32
  refine run_buildSlice w _ _ 8 _ (stA ⟨a, b, c, d, e, f, g, h⟩) ie _ Tryz.underlying179 h1 h2 (by rw [h3]; decide) (by rw [h3]; decide) ?_
  rw [h3]; kernel_rfl
set_option maxRecDepth 100000 in
@[go_sem] theorem run_bldK (w : World) : (bldS 179 64 #[(0, .int .u32 1116352408), (1, .int .u32 1899447441), (2, .int .u32 3049323471), (3, .int .u32 3921009573), (4, .int .u32 961987163), (5, .int .u32 1508970993), (6, .int .u32 2453635748), (7, .int .u32 2870763221), (8, .int .u32 3624381080), (9, .int .u32 310598401), (10, .int .u32 607225278), (11, .int .u32 1426881987), (12, .int .u32 1925078388), (13, .int .u32 2162078206), (14, .int .u32 2614888103), (15, .int .u32 3248222580), (16, .int .u32 3835390401), (17, .int .u32 4022224774), (18, .int .u32 264347078), (19, .int .u32 604807628), (20, .int .u32 770255983), (21, .int .u32 1249150122), (22, .int .u32 1555081692), (23, .int .u32 1996064986), (24, .int .u32 2554220882), (25, .int .u32 2821834349), (26, .int .u32 2952996808), (27, .int .u32 3210313671), (28, .int .u32 3336571891), (29, .int .u32 3584528711), (30, .int .u32 113926993), (31, .int .u32 338241895), (32, .int .u32 666307205), (33, .int .u32 773529912), (34, .int .u32 1294757372), (35, .int .u32 1396182291), (36, .int .u32 1695183700), (37, .int .u32 1986661051), (38, .int .u32 2177026350), (39, .int .u32 2456956037), (40, .int .u32 2730485921), (41, .int .u32 2820302411), (42, .int .u32 3259730800), (43, .int .u32 3345764771), (44, .int .u32 3516065817), (45, .int .u32 3600352804), (46, .int .u32 4094571909), (47, .int .u32 275423344), (48, .int .u32 430227734), (49, .int .u32 506948616), (50, .int .u32 659060556), (51, .int .u32 883997877), (52, .int .u32 958139571), (53, .int .u32 1322822218), (54, .int .u32 1537002063), (55, .int .u32 1747873779), (56, .int .u32 1955562222), (57, .int .u32 2024104815), (58, .int .u32 2227730452), (59, .int .u32 2361852424), (60, .int .u32 2428436474), (61, .int .u32 2756734187), (62, .int .u32 3204031479), (63, .int .u32 3329325298)]).run Tryz.prog w = .ok (.slice (some ⟨w.heap.size, 0, none⟩) 64 64) (w.alloc (.cells (wosA Ks) 129)) := by
  obtain ⟨ie, h1, h2, h3, _⟩ := info_parts info_u32
  refine run_buildSlice w _ _ 64 _ (wosA Ks) ie _ Tryz.underlying179 h1 h2 (by rw [h3]; decide) (by rw [h3]; decide) ?_
  rw [h3]; kernel_rfl
/-! ### A word out of bytes -/
end Go.Proofs.YtddmjddlbhdcpaaGreatDoor

/-
  The reference of layer 3: the schedule of a block.
-/
namespace Go.Proofs.YtddmjddlbhdcpaaGreatDoor
open Go.RowKit Go.Hold Go.Sh

end Go.Proofs.YtddmjddlbhdcpaaGreatDoor

/-
  The reference of layer 3: the state behind 64 bytes.
-/
namespace Go.Proofs.YtddmjddlbhdcpaaGreatDoor
open Go.RowKit Go.Hold Go.Sh

/-- A state's words. -/
def stL (s : St) : List Int := [s.a, s.b, s.c, s.d, s.e, s.f, s.g, s.h]
theorem stL_A (s : St) : wosA (stL s) = stA s := rfl
theorem SlW.new (w : World) (s : St) : SlW (w.alloc (.cells (stA s) 129)) w.heap.size (stL s) := by
  have h := RowAt.of (block_new w (.cells (stA s) 129))
  exact ⟨words_row (by rw [stL_A]; exact h), fun i _ => h.frozenAt i⟩
/-- The first k words of a sum, and the letters. -/
def mixW (s r : St) (k : Nat) : List Int := (List.range 8).map fun j => if j < k then add32 ((stL r).getD j 0) ((stL s).getD j 0) else (stL r).getD j 0
end Go.Proofs.YtddmjddlbhdcpaaGreatDoor

/-
  The reference of layer 3: the digest of bytes.
-/
namespace Go.Proofs.YtddmjddlbhdcpaaGreatDoor
open Go.RowKit Go.Hold Go.Sh

theorem BytesAt.mid {w : World} {b o : Nat} {l : List Nat} (h : BytesAt w b o l) (n k : Nat) : BytesAt w b (o + n) ((l.drop n).take k) := by
  refine ⟨h.1, fun i hi => ?_⟩
  rw [List.length_take, List.length_drop] at hi
  rw [Nat.add_assoc, h.2 (n + i) (by omega)]
  simp [List.getD, List.getElem?_drop, show i < k by omega]
theorem WordsAt.word {w : World} {g : Nat} {s : St} (h : WordsAt w g (stL s)) (j : Nat) (hj : j < 8) : w.cell? ⟨g, j, none⟩ = some (.int .u32 (sWord s j)) := by
  rw [h.2 j hj]
  have : j = 0 ∨ j = 1 ∨ j = 2 ∨ j = 3 ∨ j = 4 ∨ j = 5 ∨ j = 6 ∨ j = 7 := by omega
  rcases this with rfl | rfl | rfl | rfl | rfl | rfl | rfl | rfl <;> rfl

end Go.Proofs.YtddmjddlbhdcpaaGreatDoor

/-
  Package header: a header's bytes.
-/
namespace Go.Proofs.YtddmjddlbhdcpaaGreatDoor
open Go.RowKit Go.Hold Go.Sh Go.Ch Go.Cm Go.Hd

set_option maxHeartbeats 1000000 in
set_option maxRecDepth 100000 in
theorem hencode_c (H : List Nat) (hH : H.length = 208) (w : World) :
    Calls Tryz.prog 23 #[.agg (bysA H)] w fun e w' => ∃ v, e = .returned v ∧ OwnB w' w.heap.size v H ∧ Below w.heap.size w w' := by
  have hHs := bysA_size' hH
  have Hl := Lib.hid (show (H.take 32).length = 32 ∧ ((H.drop 32).take 160).length = 160 ∧ ((H.drop 192).take 16).length = 16 from ⟨by simp [hH], by simp [hH], by simp [hH]⟩)
  have HJ := Lib.hid (show H.take 32 ++ (H.drop 32).take 160 ++ (H.drop 192).take 16 = H by
    rw [List.take_of_length_le (l := H.drop 192) (by simp [hH]), List.append_assoc, show H.drop 192 = (H.drop 32).drop 160 by rw [List.drop_drop], List.take_append_drop, List.take_append_drop])
  clear hH
  go_enter Tryz.func23, Tryz.ntmps23
  go_wp2_with fail
  generalize hW : World.alloc _ _ = W0
  have R0x0 := Lib.hid (show RowAt W0 (w.heap.size) (bysA H) by rw [← hW]; clear hW; exact ⟨by go_simp, by first | (go_simp; done) | (go_simp; rfl), by go_simp⟩)
  have B0 := Lib.hid (show Below w.heap.size w W0 by rw [← hW]; repeat (first | apply below_alloc | exact Below.refl _ _))
  clear hW
  have l_y : w.heap.size ≤ w.heap.size := by omega
  obtain ⟨y, ey⟩ : ∃ z, z = w.heap.size := ⟨_, rfl⟩
  rw [← ey] at R0x0  ⊢
  have l_y : w.heap.size ≤ y := by rw [ey]; exact Nat.le_refl _
  clear ey
  refine wp_region_pickT W0 [0, 1, 2, 3, 4, 5] [true, true, true, true, true, true] [6, 7, 8] (by kernel_rfl) (by kernel_rfl) (by intro c a d v w h; cases d <;> exact h) (by first | exact (Below.refl _ _).drew | exact Below.refl _ _) ?_
  simp only [pick, List.getElem?_cons_succ, List.getElem?_cons_zero]
  iterate 6 (refine wpHoldF_late (wanted_none rfl) (fun w => by go_simp; rfl) ?_)
  refine wpHoldF_nil ?_
  intro W1 hb1
  have R1x0 := Lib.hid (R0x0.out.grow hb1)
  have B1 := Lib.hid (B0.out.trans (hb1.mono B0.out.size))
  clear hb1 B0 R0x0
  go_wp2_with fail
  have hy := (bytes_row R1x0.out)
  have hp1 : BytesAt W1 y 0 (H.take 32) := by have := hy.mid 0 32; rwa [Nat.add_zero, List.drop_zero] at this
  have hp2 : BytesAt W1 y 32 ((H.drop 32).take 160) := by have := hy.mid 32 160; rwa [Nat.zero_add] at this
  have hp3 : BytesAt W1 y 192 ((H.drop 192).take 16) := by have := hy.mid 192 16; rwa [Nat.zero_add] at this
  have BA := below_alloc (Below.refl W1.heap.size W1) (.cells #[.slice (some ⟨y, 0, none⟩) 32 32, .slice (some ⟨y, 32, none⟩) 160 160, .slice (some ⟨y, 192, none⟩) 16 16] 38)
  refine (concat3_c (RowAt.of (block_new W1 _)) Hl.out.1.symm Hl.out.2.1.symm Hl.out.2.2.symm (Bs0.some (hp1.grow BA)) (Bs0.some (hp2.grow BA)) (Bs0.some (hp3.grow BA)) (fun h => by cases h) (fun h => by cases h) (fun h => by cases h) (by rw [Hl.out.1, Hl.out.2.1, Hl.out.2.2]; decide)).mono ?_
  rintro e W9 ⟨v, rfl, hown, hb9⟩
  rw [HJ.out] at hown
  have B9 := Lib.hid (B1.out.trans ((BA.trans (hb9.mono BA.size)).mono B1.out.size))
  have O9 := Lib.hid (hown.base (Nat.le_trans B1.out.size BA.size))
  clear hy hp1 hp2 hp3 hown hb9 BA
  go_wp2_with fail
  go_ret
  exact ⟨v, rfl, O9.out, B9.out⟩
end Go.Proofs.YtddmjddlbhdcpaaGreatDoor

/-
  Package header: keys, tags, commands, headers, steps are compared.
-/
namespace Go.Proofs.YtddmjddlbhdcpaaGreatDoor
open Go.RowKit Go.Hold Go.Sh Go.Cm Go.Hd

@[go_sem ↓ high] theorem fold_eqV_key (a : Operand → Value) (d : Option Tmp) (op : BinOp) (x y : Operand) (u t : TypeId) (p : String) (af : Array Edge) (g : Option (Nat × Bool)) :
    execOp a ⟨d, .binOp op 23 x y u, t, p, af, g⟩ = (do pure (.value (← eqV op 23 x y (a x) (a y)))) := rfl
@[go_sem] theorem run_eqV_key (x y : Operand) (l m : List Nat) (hl : (bysA l).size = 32) (hm : (bysA m).size = 32) (w : World) :
    (eqV .eql 23 x y (.agg (bysA l)) (.agg (bysA m))).run Tryz.prog w = .ok (.bool (decide (l = m))) w := run_eqV Tryz.underlying23 (by kernel_rfl) x y (by rwa [bysA_size] at hl) (by rwa [bysA_size] at hm) w
@[go_sem] theorem run_neV_key (x y : Operand) (l m : List Nat) (hl : (bysA l).size = 32) (hm : (bysA m).size = 32) (w : World) :
    (eqV .neq 23 x y (.agg (bysA l)) (.agg (bysA m))).run Tryz.prog w = .ok (.bool (!decide (l = m))) w := run_neV Tryz.underlying23 (by kernel_rfl) x y (by rwa [bysA_size] at hl) (by rwa [bysA_size] at hm) w
@[go_sem ↓ high] theorem fold_eqV_tag (a : Operand → Value) (d : Option Tmp) (op : BinOp) (x y : Operand) (u t : TypeId) (p : String) (af : Array Edge) (g : Option (Nat × Bool)) :
    execOp a ⟨d, .binOp op 29 x y u, t, p, af, g⟩ = (do pure (.value (← eqV op 29 x y (a x) (a y)))) := rfl
@[go_sem] theorem run_eqV_tag (x y : Operand) (l m : List Nat) (hl : (bysA l).size = 16) (hm : (bysA m).size = 16) (w : World) :
    (eqV .eql 29 x y (.agg (bysA l)) (.agg (bysA m))).run Tryz.prog w = .ok (.bool (decide (l = m))) w := run_eqV Tryz.underlying29 (by kernel_rfl) x y (by rwa [bysA_size] at hl) (by rwa [bysA_size] at hm) w
@[go_sem] theorem run_neV_tag (x y : Operand) (l m : List Nat) (hl : (bysA l).size = 16) (hm : (bysA m).size = 16) (w : World) :
    (eqV .neq 29 x y (.agg (bysA l)) (.agg (bysA m))).run Tryz.prog w = .ok (.bool (!decide (l = m))) w := run_neV Tryz.underlying29 (by kernel_rfl) x y (by rwa [bysA_size] at hl) (by rwa [bysA_size] at hm) w
/-! ### Two commands -/
@[go_sem ↓ high] theorem fold_eqCm (a : Operand → Value) (d : Option Tmp) (op : BinOp) (x y : Operand) (u t : TypeId) (p : String) (af : Array Edge) (g : Option (Nat × Bool)) :
    execOp a ⟨d, .binOp op 51 x y u, t, p, af, g⟩ = (do pure (.value (← eqV op 51 x y (a x) (a y)))) := rfl
set_option maxRecDepth 100000 in
theorem part_cid {c : Cmd} (hc : c.id.length = 8) (w : World) : (part 49 (cmdA c) 3).run Tryz.prog w = .ok (.agg (bysA c.id)) w := by
  have hag : (isAgg 49).run Tryz.prog w = .ok true w := by unfold isAgg; rw [Sem.run_bind, run_underlying Tryz.underlying49 w]; simp
  unfold part
  rw [Sem.run_bind, hag]
  simp [cmdA_ext c hc]
set_option maxRecDepth 100000 in
theorem equalIn_cm (d : Nat) {a b : Cmd} (ha : a.id.length = 8) (hb : b.id.length = 8) (w : World) :
    (Op.equalIn (d + 4) 51 (.agg (cmdA a)) (.agg (cmdA b))).run Tryz.prog w = .ok (beqC a b) w := by
  rw [run_equalIn_struct w (d + 3) 51 (cmdA a) (cmdA b) (by kernel_rfl) (by kernel_rfl)]
  obtain ⟨f0, f1, f2, f3, hf, n0, n1, n2, n3, t0, t1, t2, t3, o0, o1, o2, o3⟩ : ∃ f0 f1 f2 f3 : Field, (Tryz.prog.fieldsOf 51).toList = [f0, f1, f2, f3] ∧ f0.name ≠ "_" ∧ f1.name ≠ "_" ∧ f2.name ≠ "_" ∧ f3.name ≠ "_" ∧ f0.type = 3 ∧ f1.type = 3 ∧ f2.type = 3 ∧ f3.type = 49 ∧ f0.offset = 0 ∧ f1.offset = 1 ∧ f2.offset = 2 ∧ f3.offset = 3 :=
    ⟨_, _, _, _, rfl, by decide +kernel, by decide +kernel, by decide +kernel, by decide +kernel, by kernel_rfl, by kernel_rfl, by kernel_rfl, by kernel_rfl, by kernel_rfl, by kernel_rfl, by kernel_rfl, by kernel_rfl⟩
  rw [hf]
  simp only [Op.eqFields, n0, n1, n2, n3, t0, t1, t2, t3, o0, o1, o2, o3, ne_eq, not_false_eq_true, if_true, Sem.run_bind, part_int (cmdA_0 a), part_int (cmdA_0 b), Result.andThen_ok]
  rw [run_equalIn_int w (d + 2) 3 .i64 .i64 a.k b.k Tryz.underlying3]
  unfold beqC
  cases h0 : (a.k == b.k)
  · simp
  · simp only [Result.andThen_ok, Bool.not_true, Bool.false_eq_true, if_false, Bool.true_and, Sem.run_bind, part_int (cmdA_1 a), part_int (cmdA_1 b)]
    rw [run_equalIn_int w (d + 2) 3 .i64 .i64 a.n b.n Tryz.underlying3]
    cases h1 : (a.n == b.n)
    · simp
    · simp only [Result.andThen_ok, Bool.not_true, Bool.false_eq_true, if_false, Bool.true_and, Sem.run_bind, part_int (cmdA_2 a), part_int (cmdA_2 b)]
      rw [run_equalIn_int w (d + 2) 3 .i64 .i64 a.d b.d Tryz.underlying3]
      cases h2 : (a.d == b.d)
      · simp
      · simp only [Result.andThen_ok, Bool.not_true, Bool.false_eq_true, if_false, Bool.true_and, Sem.run_bind, part_cid ha, part_cid hb]
        rw [equalIn_bytes Tryz.underlying49 d ha hb]
        cases decide (a.id = b.id) <;> simp
set_option maxRecDepth 100000 in
@[go_sem] theorem run_eqCm (x y : Operand) (a b : Cmd) (ha : a.id.length = 8) (hb : b.id.length = 8) (w : World) :
    (eqV .eql 51 x y (.agg (cmdA a)) (.agg (cmdA b))).run Tryz.prog w = .ok (.bool (beqC a b)) w := by
  unfold eqV
  rw [Sem.run_bind, run_eqGuard_agg w .eql 51 x y _ _ (by kernel_rfl), Result.andThen_ok, run_eql_struct, show (10000 : Nat) = 9996 + 4 from rfl, equalIn_cm 9996 ha hb]
  rfl
set_option maxRecDepth 100000 in
@[go_sem] theorem run_neCm (x y : Operand) (a b : Cmd) (ha : a.id.length = 8) (hb : b.id.length = 8) (w : World) :
    (eqV .neq 51 x y (.agg (cmdA a)) (.agg (cmdA b))).run Tryz.prog w = .ok (.bool (!beqC a b)) w := by
  unfold eqV
  rw [Sem.run_bind, run_eqGuard_agg w .neq 51 x y _ _ (by kernel_rfl), Result.andThen_ok, run_neq_struct, show (10000 : Nat) = 9996 + 4 from rfl, equalIn_cm 9996 ha hb]
  rfl
/-! ### Headers -/
set_option maxRecDepth 100000 in
theorem part_h_key {H : List Nat} (_hH : H.length = 208) (w : World) : (part 23 (bysA H) 0).run Tryz.prog w = .ok (.agg (bysA (H.take 32))) w := by
  have hag : (isAgg 23).run Tryz.prog w = .ok true w := by unfold isAgg; rw [Sem.run_bind, run_underlying Tryz.underlying23 w]; simp
  have hx := (show (bysA H).extract 0 32 = bysA (H.take 32) by rw [bysA_ext]; rfl)
  unfold part
  rw [Sem.run_bind, hag]
  simp [hx]
set_option maxRecDepth 100000 in
theorem part_h_beta {H : List Nat} (_hH : H.length = 208) (w : World) : (part 27 (bysA H) 32).run Tryz.prog w = .ok (.agg (bysA ((H.drop 32).take 160))) w := by
  have hag : (isAgg 27).run Tryz.prog w = .ok true w := by unfold isAgg; rw [Sem.run_bind, run_underlying Tryz.underlying27 w]; simp
  have hx := (show (bysA H).extract 32 192 = bysA ((H.drop 32).take 160) by rw [bysA_ext])
  unfold part
  rw [Sem.run_bind, hag]
  simp [hx]
set_option maxRecDepth 100000 in
theorem part_h_tag {H : List Nat} (_hH : H.length = 208) (w : World) : (part 29 (bysA H) 192).run Tryz.prog w = .ok (.agg (bysA ((H.drop 192).take 16))) w := by
  have hag : (isAgg 29).run Tryz.prog w = .ok true w := by unfold isAgg; rw [Sem.run_bind, run_underlying Tryz.underlying29 w]; simp
  have hx := (show (bysA H).extract 192 208 = bysA ((H.drop 192).take 16) by rw [bysA_ext])
  unfold part
  rw [Sem.run_bind, hag]
  simp [hx]
theorem hdr_eq {H K : List Nat} (hH : H.length = 208) (hK : K.length = 208) : (decide (H.take 32 = K.take 32) && (decide ((H.drop 32).take 160 = (K.drop 32).take 160) && decide ((H.drop 192).take 16 = (K.drop 192).take 16))) = decide (H = K) := by
  rw [Bool.eq_iff_iff]
  simp only [Bool.and_eq_true, decide_eq_true_eq]
  constructor
  · rintro ⟨h1, h2, h3⟩
    rw [List.take_of_length_le (by simp [hH]), List.take_of_length_le (by simp [hK])] at h3
    have e : ∀ l : List Nat, l.drop 32 = (l.drop 32).take 160 ++ l.drop 192 := fun l => by
      rw [show l.drop 192 = (l.drop 32).drop 160 by rw [List.drop_drop], List.take_append_drop]
    rw [← List.take_append_drop 32 H, ← List.take_append_drop 32 K, h1, e H, e K, h2, h3]
  · rintro rfl; exact ⟨rfl, rfl, rfl⟩
set_option maxRecDepth 100000 in
theorem equalIn_hdr (d : Nat) {H K : List Nat} (hH : H.length = 208) (hK : K.length = 208) (w : World) :
    (Op.equalIn (d + 4) 31 (.agg (bysA H)) (.agg (bysA K))).run Tryz.prog w = .ok (decide (H = K)) w := by
  rw [run_equalIn_struct w (d + 3) 31 (bysA H) (bysA K) (by kernel_rfl) (by kernel_rfl)]
  obtain ⟨f0, f1, f2, hf, n0, n1, n2, t0, t1, t2, o0, o1, o2⟩ : ∃ f0 f1 f2 : Field, (Tryz.prog.fieldsOf 31).toList = [f0, f1, f2] ∧ f0.name ≠ "_" ∧ f1.name ≠ "_" ∧ f2.name ≠ "_" ∧ f0.type = 23 ∧ f1.type = 27 ∧ f2.type = 29 ∧ f0.offset = 0 ∧ f1.offset = 32 ∧ f2.offset = 192 :=
    ⟨_, _, _, rfl, by decide +kernel, by decide +kernel, by decide +kernel, by kernel_rfl, by kernel_rfl, by kernel_rfl, by kernel_rfl, by kernel_rfl, by kernel_rfl⟩
  rw [hf]
  have l1 : ∀ l : List Nat, l.length = 208 → (l.take 32).length = 32 := fun l h => by simp [h]
  have l2 : ∀ l : List Nat, l.length = 208 → ((l.drop 32).take 160).length = 160 := fun l h => by simp [h]
  have l3 : ∀ l : List Nat, l.length = 208 → ((l.drop 192).take 16).length = 16 := fun l h => by simp [h]
  rw [← hdr_eq hH hK]
  simp only [Op.eqFields, n0, n1, n2, t0, t1, t2, o0, o1, o2, ne_eq, not_false_eq_true, if_true, Sem.run_bind, part_h_key hH, part_h_key hK, Result.andThen_ok]
  rw [equalIn_bytes Tryz.underlying23 d (l1 H hH) (l1 K hK)]
  cases h0 : decide (H.take 32 = K.take 32)
  · simp
  · simp only [Result.andThen_ok, Bool.not_true, Bool.false_eq_true, if_false, Bool.true_and, Sem.run_bind, part_h_beta hH, part_h_beta hK]
    rw [equalIn_bytes Tryz.underlying27 d (l2 H hH) (l2 K hK)]
    cases h1 : decide ((H.drop 32).take 160 = (K.drop 32).take 160)
    · simp
    · simp only [Result.andThen_ok, Bool.not_true, Bool.false_eq_true, if_false, Bool.true_and, Sem.run_bind, part_h_tag hH, part_h_tag hK]
      rw [equalIn_bytes Tryz.underlying29 d (l3 H hH) (l3 K hK)]
      cases decide ((H.drop 192).take 16 = (K.drop 192).take 16) <;> simp
@[go_sem ↓ high] theorem fold_eqHdr (a : Operand → Value) (d : Option Tmp) (op : BinOp) (x y : Operand) (u t : TypeId) (p : String) (af : Array Edge) (g : Option (Nat × Bool)) :
    execOp a ⟨d, .binOp op 31 x y u, t, p, af, g⟩ = (do pure (.value (← eqV op 31 x y (a x) (a y)))) := rfl
set_option maxRecDepth 100000 in
@[go_sem] theorem run_eqHdr (x y : Operand) (H K : List Nat) (hH : (bysA H).size = 208) (hK : (bysA K).size = 208) (w : World) :
    (eqV .eql 31 x y (.agg (bysA H)) (.agg (bysA K))).run Tryz.prog w = .ok (.bool (decide (H = K))) w := by
  rw [bysA_size] at hH hK
  unfold eqV
  rw [Sem.run_bind, run_eqGuard_agg w .eql 31 x y _ _ (by kernel_rfl), Result.andThen_ok, run_eql_struct, show (10000 : Nat) = 9996 + 4 from rfl, equalIn_hdr 9996 hH hK]
  rfl
/-! ### Steps -/
set_option maxRecDepth 100000 in
theorem part_s_cmd {x : Stp} (h : StpOk x) (w : World) : (part 51 (stepA x) 0).run Tryz.prog w = .ok (.agg (cmdA x.c)) w := by
  have hag : (isAgg 51).run Tryz.prog w = .ok true w := by unfold isAgg; rw [Sem.run_bind, run_underlying Tryz.underlying51 w]; simp
  have hx := stepA_cmd h
  unfold part
  rw [Sem.run_bind, hag]
  simp [hx]
set_option maxRecDepth 100000 in
theorem part_s_hdr {x : Stp} (h : StpOk x) (w : World) : (part 31 (stepA x) 11).run Tryz.prog w = .ok (.agg (bysA x.nx)) w := by
  have hag : (isAgg 31).run Tryz.prog w = .ok true w := by unfold isAgg; rw [Sem.run_bind, run_underlying Tryz.underlying31 w]; simp
  have hx := stepA_next h
  unfold part
  rw [Sem.run_bind, hag]
  simp [hx]
set_option maxRecDepth 100000 in
theorem part_s_key {x : Stp} (h : StpOk x) (w : World) : (part 23 (stepA x) 219).run Tryz.prog w = .ok (.agg (bysA x.s)) w := by
  have hag : (isAgg 23).run Tryz.prog w = .ok true w := by unfold isAgg; rw [Sem.run_bind, run_underlying Tryz.underlying23 w]; simp
  have hx := stepA_sec h
  unfold part
  rw [Sem.run_bind, hag]
  simp [hx]
set_option maxRecDepth 100000 in
theorem part_s_tag {x : Stp} (h : StpOk x) (w : World) : (part 29 (stepA x) 251).run Tryz.prog w = .ok (.agg (bysA x.t)) w := by
  have hag : (isAgg 29).run Tryz.prog w = .ok true w := by unfold isAgg; rw [Sem.run_bind, run_underlying Tryz.underlying29 w]; simp
  have hx := stepA_tag h
  unfold part
  rw [Sem.run_bind, hag]
  simp [hx]
/-- Are two steps one? -/
def beqS (a b : Stp) : Bool := beqC a.c b.c && (decide (a.nx = b.nx) && (decide (a.s = b.s) && decide (a.t = b.t)))
theorem beqS_self (a : Stp) : beqS a a = true := by simp [beqS, beqC_self]
set_option maxRecDepth 100000 in
theorem equalIn_step (d : Nat) {a b : Stp} (ha : StpOk a) (hb : StpOk b) (w : World) :
    (Op.equalIn (d + 5) 53 (.agg (stepA a)) (.agg (stepA b))).run Tryz.prog w = .ok (beqS a b) w := by
  rw [run_equalIn_struct w (d + 4) 53 (stepA a) (stepA b) (by kernel_rfl) (by kernel_rfl)]
  obtain ⟨f0, f1, f2, f3, hf, n0, n1, n2, n3, t0, t1, t2, t3, o0, o1, o2, o3⟩ : ∃ f0 f1 f2 f3 : Field, (Tryz.prog.fieldsOf 53).toList = [f0, f1, f2, f3] ∧ f0.name ≠ "_" ∧ f1.name ≠ "_" ∧ f2.name ≠ "_" ∧ f3.name ≠ "_" ∧ f0.type = 51 ∧ f1.type = 31 ∧ f2.type = 23 ∧ f3.type = 29 ∧ f0.offset = 0 ∧ f1.offset = 11 ∧ f2.offset = 219 ∧ f3.offset = 251 :=
    ⟨_, _, _, _, rfl, by decide +kernel, by decide +kernel, by decide +kernel, by decide +kernel, by kernel_rfl, by kernel_rfl, by kernel_rfl, by kernel_rfl, by kernel_rfl, by kernel_rfl, by kernel_rfl, by kernel_rfl⟩
  rw [hf]
  simp only [Op.eqFields, n0, n1, n2, n3, t0, t1, t2, t3, o0, o1, o2, o3, ne_eq, not_false_eq_true, if_true, Sem.run_bind, part_s_cmd ha, part_s_cmd hb, Result.andThen_ok]
  rw [equalIn_cm d ha.i hb.i]
  unfold beqS
  cases h0 : beqC a.c b.c
  · simp
  · simp only [Result.andThen_ok, Bool.not_true, Bool.false_eq_true, if_false, Bool.true_and, Sem.run_bind, part_s_hdr ha, part_s_hdr hb]
    rw [equalIn_hdr d ha.n hb.n]
    cases h1 : decide (a.nx = b.nx)
    · simp
    · simp only [Result.andThen_ok, Bool.not_true, Bool.false_eq_true, if_false, Bool.true_and, Sem.run_bind, part_s_key ha, part_s_key hb]
      rw [equalIn_bytes Tryz.underlying23 (d + 1) ha.s hb.s]
      cases h2 : decide (a.s = b.s)
      · simp
      · simp only [Result.andThen_ok, Bool.not_true, Bool.false_eq_true, if_false, Bool.true_and, Sem.run_bind, part_s_tag ha, part_s_tag hb]
        rw [equalIn_bytes Tryz.underlying29 (d + 1) ha.t hb.t]
        cases decide (a.t = b.t) <;> simp
@[go_sem ↓ high] theorem fold_eqStep (a : Operand → Value) (d : Option Tmp) (op : BinOp) (x y : Operand) (u t : TypeId) (p : String) (af : Array Edge) (g : Option (Nat × Bool)) :
    execOp a ⟨d, .binOp op 53 x y u, t, p, af, g⟩ = (do pure (.value (← eqV op 53 x y (a x) (a y)))) := rfl
set_option maxRecDepth 100000 in
@[go_sem] theorem run_eqStep (x y : Operand) (a b : Stp) (ha : StpOk a) (hb : StpOk b) (w : World) :
    (eqV .eql 53 x y (.agg (stepA a)) (.agg (stepA b))).run Tryz.prog w = .ok (.bool (beqS a b)) w := by
  unfold eqV
  rw [Sem.run_bind, run_eqGuard_agg w .eql 53 x y _ _ (by kernel_rfl), Result.andThen_ok, run_eql_struct, show (10000 : Nat) = 9995 + 5 from rfl, equalIn_step 9995 ha hb]
  rfl
set_option maxRecDepth 100000 in
@[go_sem] theorem run_neStep (x y : Operand) (a b : Stp) (ha : StpOk a) (hb : StpOk b) (w : World) :
    (eqV .neq 53 x y (.agg (stepA a)) (.agg (stepA b))).run Tryz.prog w = .ok (.bool (!beqS a b)) w := by
  unfold eqV
  rw [Sem.run_bind, run_eqGuard_agg w .neq 53 x y _ _ (by kernel_rfl), Result.andThen_ok, run_neq_struct, show (10000 : Nat) = 9995 + 5 from rfl, equalIn_step 9995 ha hb]
  rfl
end Go.Proofs.YtddmjddlbhdcpaaGreatDoor

/-
  What is known of the operations of a drawn region that make memory, as a list of relations on value and world (for wp_region_grows).
-/
namespace Go.Proofs.YtddmjddlbhdcpaaGreatDoor
open Go.RowKit Go.Hold Go.Sh

/-- A relation that stays true while memory grows. -/
def Stays (r : Value → World → Prop) : Prop := ∀ v w w', r v w → Below w.heap.size w w' → r v w'
def StaysAll : List (Value → World → Prop) → Prop
  | [] => True
  | r :: L => Stays r ∧ StaysAll L
def listR (L : List (Value → World → Prop)) (i : Nat) (v : Value) (w : World) : Prop := match L[i]? with | some r => r v w | none => True
theorem staysAll_get {L : List (Value → World → Prop)} (h : StaysAll L) : ∀ (i : Nat) (r : Value → World → Prop), L[i]? = some r → Stays r := by
  induction L with
  | nil => intro i r hi; simp at hi
  | cons s L ih =>
    intro i r hi
    cases i with
    | zero => simp at hi; subst hi; exact h.1
    | succ i => exact ih h.2 i r (by simpa using hi)
theorem listR_mono {L : List (Value → World → Prop)} (h : StaysAll L) : ∀ i v w w', listR L i v w → Below w.heap.size w w' → listR L i v w' := by
  intro i v w w' hr hb
  unfold listR at hr ⊢
  cases e : L[i]? with
  | none => trivial
  | some r => rw [e] at hr; exact staysAll_get h i r e v w w' hr hb
/-- A value that is known. -/
def fixV (x : Value) : Value → World → Prop := fun v _ => v = x
theorem stays_fix (x : Value) : Stays (fixV x) := fun _ _ _ h _ => h
/-- A slice of bytes of one's own. -/
def ownV (B : Nat) (l : List Nat) : Value → World → Prop := fun v w => OwnB w B v l
theorem stays_own (B : Nat) (l : List Nat) : Stays (ownV B l) := fun _ _ _ h hb => OwnB.below h hb
/-- The same, with an error of nought. -/
def ownT (B : Nat) (l : List Nat) : Value → World → Prop := fun v w => ∃ u, v = .tuple #[u, .int .i64 0] ∧ OwnB w B u l
/-- What lies in a row that is new. -/
def rowV (B : Nat) (f : Nat → Value) (c : Array Value) : Value → World → Prop := fun v w => ∃ g, v = f g ∧ RowAt w g c ∧ B ≤ g
/-- A slice of bytes. -/
def slV (l : List Nat) : Value → World → Prop := fun v w => SlV w v l
end Go.Proofs.YtddmjddlbhdcpaaGreatDoor
