/-
  Noughts are turned to the stream itself, and what is turned differs just where the bytes differ.
-/
import Derived.Test.YtcaleepbnjlbpaaChaAlive
namespace Go.Proofs.Ytcaleepbnjlbpaa
open Go.RowKit Go.Hold Go.Sh Go.Ch

/-- What is known of each operation of 'z, f := chacha.Xor(k, n, 3, make([]byte, len(a)))'. -/
def nouR (k n T : List Nat) (av : Value) (m : Nat) : Nat → Value → World → Prop
  | 0, v, _ => v = .agg (bysA k)
  | 1, v, _ => v = .agg (bysA n)
  | 2, v, _ => v = av
  | 3, v, _ => v = .int .i64 (m : Int)
  | 4, v, w => ∃ g, v = .slice (some ⟨g, 0, none⟩) m m ∧ BytesAt w g 0 (zs m)
  | 5, v, w => ∃ g, v = .tuple #[.slice (some ⟨g, 0, none⟩) m m, .int .i64 0] ∧ RowAt w g (bysA T)
  | 6, v, w => ∃ g, v = .tuple #[.slice (some ⟨g, 0, none⟩) m m, .int .i64 0] ∧ RowAt w g (bysA T)
  | 7, v, w => ∃ g, v = .slice (some ⟨g, 0, none⟩) m m ∧ RowAt w g (bysA T)
  | 8, v, _ => v = .int .i64 0
  | 9, v, w => ∃ g, v = .slice (some ⟨g, 0, none⟩) m m ∧ RowAt w g (bysA T)
  | 10, v, _ => v = .int .i64 0
  | _, _, _ => True
theorem nouR_mono (k n T : List Nat) (av : Value) (m : Nat) : ∀ i v w w', nouR k n T av m i v w → Below w.heap.size w w' → nouR k n T av m i v w'
  | 0, _, _, _, h, _ => h
  | 1, _, _, _, h, _ => h
  | 2, _, _, _, h, _ => h
  | 3, _, _, _, h, _ => h
  | 4, _, _, _, h, hb => by obtain ⟨g, h1, h2⟩ := h; exact ⟨g, h1, h2.grow hb⟩
  | 5, _, _, _, h, hb => by obtain ⟨g, h1, h2⟩ := h; exact ⟨g, h1, h2.grow hb⟩
  | 6, _, _, _, h, hb => by obtain ⟨g, h1, h2⟩ := h; exact ⟨g, h1, h2.grow hb⟩
  | 7, _, _, _, h, hb => by obtain ⟨g, h1, h2⟩ := h; exact ⟨g, h1, h2.grow hb⟩
  | 8, _, _, _, h, _ => h
  | 9, _, _, _, h, hb => by obtain ⟨g, h1, h2⟩ := h; exact ⟨g, h1, h2.grow hb⟩
  | 10, _, _, _, h, _ => h
  | _ + 11, _, _, _, _, _ => trivial
theorem xor_both' (t a b : Nat) : (t ^^^ a) ^^^ (t ^^^ b) = a ^^^ b := by
  rw [Nat.xor_comm t a, Nat.xor_assoc, ← Nat.xor_assoc t t b, Nat.xor_self, Nat.zero_xor]
theorem xor_back (t a : Nat) : (t ^^^ a) ^^^ t = a := by rw [Nat.xor_comm t a, Nat.xor_assoc, Nat.xor_self, Nat.xor_zero]

set_option maxHeartbeats 2000000 in
set_option maxRecDepth 100000 in
theorem noughts_any (ac bc : Nat) (ap bp : Option Addr) (k a b : List Nat) (w : World) (hk : k.length = 32) (hkb : ∀ i, k.getD i 0 < 256) (hab : ∀ i, a.getD i 0 < 256) (hbb : ∀ i, b.getD i 0 < 256) (haB : Bs0 w ap a) (hbB : Bs0 w bp b) :
    Calls Try.prog 7 #[.agg (bysA k), .slice ap a.length ac, .slice bp b.length bc] w fun e w' => e = .returned (.bool true) ∧ Below w.heap.size w w' := by
  have hks := bysA_size' hk
  obtain ⟨m, em⟩ : ∃ m, m = a.length := ⟨_, rfl⟩
  obtain ⟨q, eq⟩ : ∃ m, m = b.length := ⟨_, rfl⟩
  rw [← em, ← eq]
  have Em := Lib.hid em
  have Eq' := Lib.hid eq
  have HA := Lib.hid haB
  have HB := Lib.hid hbB
  go_enter Try.func7, Try.ntmps7
  go_wp2_with fail
  refine (alive5_c _).mono ?_
  rintro e W1 ⟨rfl, hb1⟩
  have hA := below_alloc (Below.refl w.heap.size w) (.cells (bysA k) 23)
  have K1 := Lib.hid ((RowAt.of (block_new w (.cells (bysA k) 23))).grow hb1)
  have B1 := Lib.hid (hA.trans (hb1.mono hA.size))
  clear hA hb1 em eq
  by_cases hm : 2000 < m
  · have hm' : (2000 : Int) < (m : Int) := by omega
    go_wp2_with fail
    go_ret
    exact ⟨rfl, B1.out⟩
  have hm' : ¬ (2000 : Int) < (m : Int) := by omega
  by_cases hmq : m = q
  case neg =>
    have h2 : ¬ (m : Int) = (q : Int) := by omega
    have h3 : ((m : Int) != (q : Int)) = true := by simpa using h2
    go_wp2_with fail
    go_ret
    exact ⟨rfl, B1.out⟩
  subst hmq
  have hn : (k.take 12).length = 12 := by rw [List.length_take, hk]; rfl
  have hnb := bts_take hkb 12
  have hns := bysA_size' hn
  have hld := load_non (bytes_row K1.out) (by omega)
  generalize k.take 12 = n at *
  have HS := Lib.hid (fun W => stream_c k n 3 m hk hkb hn hnb (by omega) (by omega) (by decide) W)
  have HX := Lib.hid (fun l p cap W h1 h2 h3 => xor_c k n l 3 m cap p hk hkb hn hnb h1 h2 (by omega) (by omega) (by decide) W h3)
  have hTl := strm_length k n 3 m
  have hTb := strm_bts k n 3 m
  generalize strm k n 3 m = T at *
  have HTl := Lib.hid hTl
  have HTb := Lib.hid hTb
  have Hab := Lib.hid hab
  have Hbb := Lib.hid hbb
  have Hz := Lib.hid (mixd_zs T m hTl.symm)
  have hmk := fun W => run_mkS W m (by omega)
  have harr := fun g W => arr_non g 0 32 W
  have hmi : (m : Int) ≤ 2000 := by omega
  clear hk hkb hn hnb hab hbb haB hbB hm hTl hTb
  generalize w.heap.size = gk at K1 hld ⊢
  obtain ⟨k1, k2, k3⟩ := K1.out
  go_wp2_with fail
  have hA := below_alloc (Below.refl W1.heap.size W1) (.cells (bysA n) 33)
  have K2 := Lib.hid (K1.out.grow hA)
  have V2 := Lib.hid (RowAt.of (block_new W1 (.cells (bysA n) 33)))
  have B2 := Lib.hid (B1.out.trans (hA.mono B1.out.size))
  clear hA k1 k2 k3 hld
  generalize W1.heap.size = gv at *
  generalize W1.alloc (.cells (bysA n) 33) = W2 at *
  refine (HS.out _).mono ?_
  rintro e W3 ⟨gs, rfl, hr3, _, hb3⟩
  have K3 := Lib.hid (K2.out.grow hb3)
  have V3 := Lib.hid (V2.out.grow hb3)
  have B3 := Lib.hid (B2.out.trans (hb3.mono B2.out.size))
  have S3 := Lib.hid hr3
  clear hb3 hr3 K2 V2 B2
  go_wp2_with fail
  refine wp_region_grows W3 10 (fun w w' => Below w.heap.size w w') (nouR k n T (.slice ap m ac) m) [10] [0, 1, 2, 3, 4, 5, 6, 7, 8, 9] [some 41, some 42, some 43, some 44, some 45, some 46, some 40, some 47, some 48, some 10] (by kernel_rfl) (by kernel_rfl) (by kernel_rfl) (by kernel_rfl) ((Below.refl _ _).drew) (fun w w' h h' => h.trans (h'.mono h.size)) (nouR_mono _ _ _ _ _) ?_
  intro vals
  simp only [List.take_succ_cons, List.take_zero]
  refine ⟨grow_val [] [] (by kernel_rfl) rfl (fun K w hb hd hK => ⟨wanted_none rfl, ?_⟩), ?_⟩
  · obtain ⟨k1, k2, k3⟩ := K3.out.grow hb
    simp only [putZ]; go_simp; exact hK _ _ _ (Below.refl _ _) rfl
  refine ⟨grow_val [] [] (by kernel_rfl) rfl (fun K w hb hd hK => ⟨wanted_none rfl, ?_⟩), ?_⟩
  · obtain ⟨k1, k2, k3⟩ := V3.out.grow hb
    simp only [putZ]; go_simp; exact hK _ _ _ (Below.refl _ _) rfl
  refine ⟨grow_val [] [] (by kernel_rfl) rfl (fun K w hb hd hK => ⟨wanted_none rfl, ?_⟩), ?_⟩
  · simp only [putZ]; go_simp; exact hK _ _ _ (Below.refl _ _) rfl
  refine ⟨grow_val [2] [some 43] (by kernel_rfl) (by kernel_rfl) (fun K w hb hd hK => ⟨wanted_none rfl, ?_⟩), ?_⟩
  · have d2 : vals 2 = .slice ap m ac := hd 2 (by simp)
    simp only [List.map_cons, List.map_nil, putZ, d2]; go_simp; exact hK _ _ _ (Below.refl _ _) rfl
  refine ⟨grow_val [3] [some 44] (by kernel_rfl) (by kernel_rfl) (fun K w hb hd hK => ⟨wanted_none rfl, ?_⟩), ?_⟩
  · have d3 : vals 3 = .int .i64 (m : Int) := hd 3 (by simp)
    simp only [List.map_cons, List.map_nil, putZ, d3]; go_simp; exact hK _ _ _ (below_alloc (Below.refl _ _) _) ⟨_, rfl, bytes_new w (zs m) _ _⟩
  refine ⟨grow_call [0, 1, 4] [some 41, some 42, some 45] (by kernel_rfl) (by kernel_rfl) (fun K w hb hd hK => ⟨wanted_none rfl, ?_⟩), ?_⟩
  · have d0 : vals 0 = .agg (bysA k) := hd 0 (by simp)
    have d1 : vals 1 = .agg (bysA n) := hd 1 (by simp)
    obtain ⟨g4, d4, hB4⟩ : ∃ g, vals 4 = .slice (some ⟨g, 0, none⟩) m m ∧ BytesAt w g 0 (zs m) := hd 4 (by simp)
    simp only [List.map_cons, List.map_nil, putZ, d0, d1, d4]; go_simp
    refine (HX.out (zs m) _ m w (zs_length m).symm (bts_zs m) (Bs0.some hB4)).mono ?_
    rintro e w' ⟨g, rfl, hr, _, hb'⟩
    refine ⟨_, rfl, hK _ _ hb' ⟨g, rfl, ?_⟩⟩
    rw [Hz.out] at hr; exact hr
  refine ⟨grow_val [5] [some 46] (by kernel_rfl) (by kernel_rfl) (fun K w hb hd hK => ⟨wanted_none rfl, ?_⟩), ?_⟩
  · obtain ⟨g5, d5, hr5⟩ : ∃ g, vals 5 = .tuple #[.slice (some ⟨g, 0, none⟩) m m, .int .i64 0] ∧ RowAt w g (bysA T) := hd 5 (by simp)
    simp only [List.map_cons, List.map_nil, putZ, d5]; go_simp; exact hK _ _ _ (Below.refl _ _) ⟨g5, rfl, hr5⟩
  refine ⟨grow_val [6] [some 40] (by kernel_rfl) (by kernel_rfl) (fun K w hb hd hK => ⟨wanted_none rfl, ?_⟩), ?_⟩
  · obtain ⟨g5, d5, hr5⟩ : ∃ g, vals 6 = .tuple #[.slice (some ⟨g, 0, none⟩) m m, .int .i64 0] ∧ RowAt w g (bysA T) := hd 6 (by simp)
    simp only [List.map_cons, List.map_nil, putZ, d5]; go_simp; exact hK _ _ _ (Below.refl _ _) ⟨g5, rfl, hr5⟩
  refine ⟨grow_val [6] [some 40] (by kernel_rfl) (by kernel_rfl) (fun K w hb hd hK => ⟨wanted_none rfl, ?_⟩), ?_⟩
  · obtain ⟨g5, d5, hr5⟩ : ∃ g, vals 6 = .tuple #[.slice (some ⟨g, 0, none⟩) m m, .int .i64 0] ∧ RowAt w g (bysA T) := hd 6 (by simp)
    simp only [List.map_cons, List.map_nil, putZ, d5]; go_simp; exact hK _ _ _ (Below.refl _ _) rfl
  refine ⟨grow_val [7] [some 47] (by kernel_rfl) (by kernel_rfl) (fun K w hb hd hK => ⟨wanted_none rfl, ?_⟩), ?_⟩
  · obtain ⟨g5, d5, hr5⟩ : ∃ g, vals 7 = .slice (some ⟨g, 0, none⟩) m m ∧ RowAt w g (bysA T) := hd 7 (by simp)
    simp only [List.map_cons, List.map_nil, putZ, d5]; go_simp; exact hK _ _ _ (Below.refl _ _) ⟨g5, rfl, hr5⟩
  intro W4 hb4 hR
  obtain ⟨gz, d9, hr9⟩ : ∃ g, vals 9 = .slice (some ⟨g, 0, none⟩) m m ∧ RowAt W4 g (bysA T) := hR 9 (by simp)
  have d8 : vals 8 = .int .i64 0 := hR 8 (by simp)
  clear hR
  simp only [List.map_cons, List.map_nil, putZ, d9, d8, pick, List.getElem?_cons_succ, List.getElem?_cons_zero]
  generalize vals 0 = e0
  generalize vals 1 = e1
  generalize vals 2 = e2
  generalize vals 3 = e3
  generalize vals 4 = e4
  generalize vals 5 = e5
  generalize vals 6 = e6
  generalize vals 7 = e7
  have K4 := Lib.hid (K3.out.grow hb4)
  have V4 := Lib.hid (V3.out.grow hb4)
  have S4 := Lib.hid (S3.out.grow hb4)
  have Z4 := Lib.hid hr9
  have B4 := Lib.hid (B3.out.trans (hb4.mono B3.out.size))
  clear hb4 hr9 d9 d8 K3 V3 S3 B3
  obtain ⟨k1, k2, k3⟩ := K4.out
  obtain ⟨v1, v2, v3⟩ := V4.out
  go_wp2_with fail
  refine (HX.out a ap ac _ Em.out Hab.out (HA.out.grow B4.out)).mono ?_
  rintro e W5 ⟨gx, rfl, hr5, _, hb5⟩
  have K5 := Lib.hid (K4.out.grow hb5)
  have V5 := Lib.hid (V4.out.grow hb5)
  have S5 := Lib.hid (S4.out.grow hb5)
  have Z5 := Lib.hid (Z4.out.grow hb5)
  have X5 := Lib.hid hr5
  have B5 := Lib.hid (B4.out.trans (hb5.mono B4.out.size))
  clear hb5 hr5 K4 V4 S4 Z4 B4 k1 k2 k3 v1 v2 v3
  obtain ⟨k1, k2, k3⟩ := K5.out
  obtain ⟨v1, v2, v3⟩ := V5.out
  go_wp2_with fail
  refine (HX.out b bp bc _ Eq'.out Hbb.out (HB.out.grow B5.out)).mono ?_
  rintro e W6 ⟨gy, rfl, hr6, _, hb6⟩
  have S6 := Lib.hid (S5.out.grow hb6)
  have Z6 := Lib.hid (Z5.out.grow hb6)
  have X6 := Lib.hid (X5.out.grow hb6)
  have Y6 := Lib.hid hr6
  have B6 := Lib.hid (B5.out.trans (hb6.mono B5.out.size))
  have hcv1 : (cvBS (.slice (some ⟨gs, 0, none⟩) m m)).run Try.prog W6 = .ok (.string (toS T)) W6 := run_cvBS (Bs0.some (bytes_row S6.out)) HTl.out.symm
  have hcv2 : (cvBS (.slice (some ⟨gz, 0, none⟩) m m)).run Try.prog W6 = .ok (.string (toS T)) W6 := run_cvBS (Bs0.some (bytes_row Z6.out)) HTl.out.symm
  generalize toS T = ST at *
  clear hb6 hr6 K5 V5 S5 Z5 X5 B5 k1 k2 k3 v1 v2 v3
  go_wp2_with fail
  clear hcv1 hcv2
  go_loopw [93] (fun i wr => ∃ j : Nat, j ≤ m ∧ i = .int .i64 j ∧ Below W6.heap.size W6 wr) (fun i _ => m - (intOf i).toNat)
  case atStart => exact ⟨0, Nat.zero_le _, rfl, Below.refl _ _⟩
  case round =>
    obtain ⟨j, hj, rfl, hbel⟩ := hrel
    by_cases hjm : j < m
    · have hj0 : (j : Int) < (m : Int) := by omega
      have hj1 : (0 : Int) ≤ (j : Int) := by omega
      have hja : j < a.length := by rw [← Em.out]; exact hjm
      have hjb : j < b.length := by rw [← Eq'.out]; exact hjm
      obtain ⟨ga, oa, rfl, hA⟩ : ∃ b o, ap = some ⟨b, o, none⟩ ∧ BytesAt w b o a := by
        rcases HA.out with h | h
        · rw [h] at hja; simp at hja
        · exact h
      obtain ⟨gb, ob, rfl, hB⟩ : ∃ x o, bp = some ⟨x, o, none⟩ ∧ BytesAt w x o b := by
        rcases HB.out with h | h
        · rw [h] at hjb; simp at hjb
        · exact h
      have hbw := B6.out.trans (hbel.mono B6.out.size)
      have hca := (hA.grow hbw).2 j hja
      have hcb := (hB.grow hbw).2 j hjb
      have hla := (hA.grow hbw).1
      have hlb := (hB.grow hbw).1
      have hcs := (S6.out.grow hbel).cellAt j (bysA_get T j (by rw [HTl.out]; exact hjm))
      have hls := (S6.out.grow hbel).2.2
      have hcx := (X6.out.grow hbel).cellAt j (bysA_get _ j (by rw [mixd_length]; exact hja))
      have hlx := (X6.out.grow hbel).2.2
      have hcy := (Y6.out.grow hbel).cellAt j (bysA_get _ j (by rw [mixd_length]; exact hjb))
      have hly := (Y6.out.grow hbel).2.2
      rw [mixd_get T a j hja] at hcx
      rw [mixd_get T b j hjb] at hcy
      have b1 := HTb.out j
      have b2 := Hab.out j
      have b3 := Hbb.out j
      generalize T.getD j 0 = t at *
      generalize a.getD j 0 = xa at *
      generalize b.getD j 0 = xb at *
      have hx1 := u8_xor_nat (t ^^^ xa) (t ^^^ xb) (xor_lt b1 b2) (xor_lt b1 b3)
      have hx2 := u8_xor_nat xa xb b2 b3
      have hx3 := u8_xor_nat (t ^^^ xa) t (xor_lt b1 b2) b1
      rw [xor_both'] at hx1
      rw [xor_back] at hx3
      generalize t ^^^ xa = yx at *
      generalize t ^^^ xb = yy at *
      generalize xa ^^^ xb = yv at *
      have Hbel := Lib.hid hbel
      clear hA hB hja hjb hbel hbw b1 b2 b3
      go_wp2_with fail
      refine wp_region_fast (fun w' => ∃ o d, w' = wr.plus o d) (by kernel_rfl) (by kernel_rfl) ⟨#[], _, rfl⟩ ?_
      refine wpHold_val ⟨_, #[], 0, rfl⟩ (wanted_none rfl) (by rintro K _ ⟨o, d, rfl⟩ hK; go_simp; exact hK _ ⟨o, d, rfl⟩) ?_
      refine wpHold_val ⟨_, #[], 0, rfl⟩ (wanted_none rfl) (by rintro K _ ⟨o, d, rfl⟩ hK; go_simp; exact hK _ ⟨o, d, rfl⟩) ?_
      refine wpHold_val ⟨_, #[], 0, rfl⟩ (wanted_none rfl) (by rintro K _ ⟨o, d, rfl⟩ hK; go_simp; exact hK _ ⟨o, d, rfl⟩) ?_
      refine wpHold_val ⟨_, #[], 0, rfl⟩ (wanted_none rfl) (by rintro K _ ⟨o, d, rfl⟩ hK; go_simp; exact hK _ ⟨o, d, rfl⟩) ?_
      refine wpHold_val ⟨_, #[], 0, rfl⟩ (wanted_none rfl) (by rintro K _ ⟨o, d, rfl⟩ hK; go_simp; exact hK _ ⟨o, d, rfl⟩) ?_
      refine wpHold_val ⟨_, #[], 0, rfl⟩ (wanted_none rfl) (by rintro K _ ⟨o, d, rfl⟩ hK; go_simp; exact hK _ ⟨o, d, rfl⟩) ?_
      refine wpHold_val ⟨_, #[], 0, rfl⟩ (wanted_none rfl) (by rintro K _ ⟨o, d, rfl⟩ hK; go_simp; exact hK _ ⟨o, d, rfl⟩) ?_
      refine wpHold_val ⟨_, #[], 0, rfl⟩ (wanted_none rfl) (by rintro K _ ⟨o, d, rfl⟩ hK; go_simp; exact hK _ ⟨o, d, rfl⟩) ?_
      refine wpHold_val ⟨_, #[], 0, rfl⟩ (wanted_none rfl) (by rintro K _ ⟨o, d, rfl⟩ hK; go_simp; exact hK _ ⟨o, d, rfl⟩) ?_
      refine wpHold_val ⟨_, #[], 0, rfl⟩ (wanted_none rfl) (by rintro K _ ⟨o, d, rfl⟩ hK; go_simp; exact hK _ ⟨o, d, rfl⟩) ?_
      refine wpHold_val ⟨_, #[], 0, rfl⟩ (wanted_none rfl) (by rintro K _ ⟨o, d, rfl⟩ hK; go_simp; exact hK _ ⟨o, d, rfl⟩) ?_
      refine wpHold_val ⟨_, #[], 0, rfl⟩ (wanted_none rfl) (by rintro K _ ⟨o, d, rfl⟩ hK; go_simp; exact hK _ ⟨o, d, rfl⟩) ?_
      refine wpHold_val ⟨_, #[], 0, rfl⟩ (wanted_none rfl) (by rintro K _ ⟨o, d, rfl⟩ hK; go_simp; exact hK _ ⟨o, d, rfl⟩) ?_
      refine wpHold_val ⟨_, #[], 0, rfl⟩ (wanted_none rfl) (by rintro K _ ⟨o, d, rfl⟩ hK; go_simp; exact hK _ ⟨o, d, rfl⟩) ?_
      refine wpHold_val ⟨_, #[], 0, rfl⟩ (wanted_none rfl) (by rintro K _ ⟨o, d, rfl⟩ hK; go_simp; exact hK _ ⟨o, d, rfl⟩) ?_
      refine wpHold_val ⟨_, #[], 0, rfl⟩ (wanted_none rfl) (by rintro K _ ⟨o, d, rfl⟩ hK; go_simp; exact hK _ ⟨o, d, rfl⟩) ?_
      refine wpHold_val ⟨_, #[], 0, rfl⟩ (wanted_none rfl) (by rintro K _ ⟨o, d, rfl⟩ hK; go_simp; exact hK _ ⟨o, d, rfl⟩) ?_
      refine wpHold_val ⟨_, #[], 0, rfl⟩ (wanted_none rfl) (by rintro K _ ⟨o, d, rfl⟩ hK; go_simp; exact hK _ ⟨o, d, rfl⟩) ?_
      refine wpHold_val ⟨_, #[], 0, rfl⟩ (wanted_none rfl) (by rintro K _ ⟨o, d, rfl⟩ hK; go_simp; exact hK _ ⟨o, d, rfl⟩) ?_
      refine wpHold_val ⟨_, #[], 0, rfl⟩ (wanted_none rfl) (by rintro K _ ⟨o, d, rfl⟩ hK; go_simp; exact hK _ ⟨o, d, rfl⟩) ?_
      refine wpHold_val ⟨_, #[], 0, rfl⟩ (wanted_some rfl rfl rfl) (by rintro K _ ⟨o, d, rfl⟩ hK; go_simp; exact hK _ ⟨o, d, rfl⟩) ?_
      refine wpHold_val ⟨_, #[], 0, rfl⟩ (wanted_some rfl rfl rfl) (by rintro K _ ⟨o, d, rfl⟩ hK; go_simp; exact hK _ ⟨o, d, rfl⟩) ?_
      refine wpHold_val ⟨_, #[], 0, rfl⟩ (wanted_some rfl rfl rfl) (by rintro K _ ⟨o, d, rfl⟩ hK; go_simp; exact hK _ ⟨o, d, rfl⟩) ?_
      refine wpHold_val ⟨_, #[], 0, rfl⟩ (wanted_some rfl rfl rfl) (by rintro K _ ⟨o, d, rfl⟩ hK; go_simp; exact hK _ ⟨o, d, rfl⟩) ?_
      refine wpHold_val ⟨_, #[], 0, rfl⟩ (wanted_some rfl rfl rfl) (by rintro K _ ⟨o, d, rfl⟩ hK; go_simp; exact hK _ ⟨o, d, rfl⟩) ?_
      refine wpHold_val ⟨_, #[], 0, rfl⟩ (wanted_some rfl rfl rfl) (by rintro K _ ⟨o, d, rfl⟩ hK; go_simp; exact hK _ ⟨o, d, rfl⟩) ?_
      refine wpHold_val ⟨_, #[], 0, rfl⟩ (wanted_some rfl rfl rfl) (by rintro K _ ⟨o, d, rfl⟩ hK; go_simp; exact hK _ ⟨o, d, rfl⟩) ?_
      refine wpHold_val ⟨_, #[], 0, rfl⟩ (wanted_some rfl rfl rfl) (by rintro K _ ⟨o, d, rfl⟩ hK; go_simp; exact hK _ ⟨o, d, rfl⟩) ?_
      refine wpHold_val ⟨_, #[], 0, rfl⟩ (wanted_some rfl rfl rfl) (by rintro K _ ⟨o, d, rfl⟩ hK; go_simp; exact hK _ ⟨o, d, rfl⟩) ?_
      refine wpHold_val ⟨_, #[], 0, rfl⟩ (wanted_some rfl rfl rfl) (by rintro K _ ⟨o, d, rfl⟩ hK; go_simp; exact hK _ ⟨o, d, rfl⟩) ?_
      refine wpHold_val ⟨_, #[], 0, rfl⟩ (wanted_some rfl rfl rfl) (by rintro K _ ⟨o, d, rfl⟩ hK; go_simp; exact hK _ ⟨o, d, rfl⟩) ?_
      refine wpHold_val ⟨_, #[], 0, rfl⟩ (wanted_some rfl rfl rfl) (by rintro K _ ⟨o, d, rfl⟩ hK; go_simp; exact hK _ ⟨o, d, rfl⟩) ?_
      refine wpHold_val ⟨_, #[], 0, rfl⟩ (wanted_some rfl rfl rfl) (by rintro K _ ⟨o, d, rfl⟩ hK; go_simp; exact hK _ ⟨o, d, rfl⟩) ?_
      refine wpHold_val ⟨_, #[], 0, rfl⟩ (wanted_some rfl rfl rfl) (by rintro K _ ⟨o, d, rfl⟩ hK; go_simp; exact hK _ ⟨o, d, rfl⟩) ?_
      refine wpHold_val ⟨_, #[], 0, rfl⟩ (wanted_none rfl) (by rintro K _ ⟨o, d, rfl⟩ hK; go_simp; exact hK _ ⟨o, d, rfl⟩) ?_
      refine wpHold_nil ?_
      rintro _ ⟨o2, d2, rfl⟩
      have Hb2 := Lib.hid (below_more Hbel.out o2 d2)
      clear hca hcb hcs hcx hcy
      generalize wr.plus o2 d2 = w2 at *
      go_wp2_with fail
      go_roundw
      case rel => exact ⟨j + 1, by omega, by go_num, Hb2.out⟩
      case measure => simp [intOf]; omega
    · obtain rfl : j = m := by omega
      have Hb := Lib.hid (B6.out.trans (hbel.mono B6.out.size))
      clear hbel
      go_wp2_with fail
      go_ret
      exact ⟨rfl, Hb.out⟩
end Go.Proofs.Ytcaleepbnjlbpaa
