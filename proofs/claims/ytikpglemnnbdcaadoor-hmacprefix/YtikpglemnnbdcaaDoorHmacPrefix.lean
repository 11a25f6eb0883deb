/-
  What is expanded to fewer bytes is the beginning of what is expanded to more.
-/
import Derived.Test.YtikpglemnnbdcaaDoorHmacAlive
namespace Go.Proofs.YtikpglemnnbdcaaDoor
open Go.RowKit Go.Hold Go.Sh

def preR (q a b lo hi : Nat) : Nat → Value → World → Prop
  | 0, v, _ => v = .pointer (some ⟨q, 0, none⟩)
  | 1, v, _ => v = .int .u8 (a : Int)
  | 2, v, _ => v = .pointer (some ⟨q, 1, none⟩)
  | 3, v, _ => v = .int .u8 (b : Int)
  | 4, v, _ => v = .int .u8 (lo : Int)
  | 5, v, _ => v = .int .i64 (lo : Int)
  | 6, v, _ => v = .pointer (some ⟨q, 0, none⟩)
  | 7, v, _ => v = .int .u8 (a : Int)
  | 8, v, _ => v = .pointer (some ⟨q, 1, none⟩)
  | 9, v, _ => v = .int .u8 (b : Int)
  | 10, v, _ => v = .int .u8 (hi : Int)
  | 11, v, _ => v = .int .i64 (hi : Int)
  | 12, v, _ => v = .int .i64 (lo : Int)
  | 13, v, _ => v = .int .i64 (hi : Int)
  | _, _, _ => True
theorem preR_mono (q a b lo hi : Nat) : ∀ i v w w', preR q a b lo hi i v w → Below w.heap.size w w' → preR q a b lo hi i v w'
  | 0, _, _, _, h, _ => h
  | 1, _, _, _, h, _ => h
  | 2, _, _, _, h, _ => h
  | 3, _, _, _, h, _ => h
  | 4, _, _, _, h, _ => h
  | 5, _, _, _, h, _ => h
  | 6, _, _, _, h, _ => h
  | 7, _, _, _, h, _ => h
  | 8, _, _, _, h, _ => h
  | 9, _, _, _, h, _ => h
  | 10, _, _, _, h, _ => h
  | 11, _, _, _, h, _ => h
  | 12, _, _, _, h, _ => h
  | 13, _, _, _, h, _ => h
  | _ + 14, _, _, _, _, _ => trivial
set_option maxHeartbeats 1000000 in
set_option maxRecDepth 100000 in
theorem prefix_any (ic a b : Nat) (ip : Option Addr) (s info : List Nat) (w : World) (hT : Tabs w) (hs : s.length = 32) (hsb : ∀ i, s.getD i 0 < 256)
    (hib : ∀ i, info.getD i 0 < 256) (hiB : Bs0 w ip info) (hip : ip = none → ic = 0) (ha : a < 256) (hb : b < 256) :
    Calls Tryd.prog 6 #[.agg (bysA s), .slice ip info.length ic, .agg (bysA [a, b])] w fun e w' => e = .returned (.bool true) ∧ Below w.heap.size w w' := by
  have HT := Lib.hid hT
  have HI := Lib.hid hiB
  have Hib := Lib.hid hib
  have Hip := Lib.hid hip
  have Hs := Lib.hid hs
  have Hsb := Lib.hid hsb
  have hz : (bysA s).size = 32 := by rw [bysA_size, hs]
  obtain ⟨m, em⟩ : ∃ n, n = info.length := ⟨_, rfl⟩
  rw [← em]
  have Em := Lib.hid em
  clear hT hiB hib hip hs hsb em
  go_enter Tryd.func6, Tryd.ntmps6
  go_wp2_with fail
  generalize hW : World.alloc _ _ = W0
  have X0 := Lib.hid (show RowAt W0 w.heap.size (bysA s) by rw [← hW]; exact (RowAt.of (block_new w _)).grow (below_alloc (Below.refl _ _) _))
  have Q0 := Lib.hid (show RowAt W0 (w.heap.size + 1) (bysA [a, b]) by
    rw [← hW]
    have := RowAt.of (block_new (w.alloc (.cells (bysA s) 25)) (.cells (bysA [a, b]) 39))
    rw [World.size_alloc] at this; exact this)
  have B0 := Lib.hid (show Below w.heap.size w W0 by rw [← hW]; repeat (first | apply below_alloc | exact Below.refl _ _))
  clear hW
  generalize w.heap.size + 1 = q at *
  refine (alive_c _ (HT.out.grow B0.out)).mono ?_
  rintro e W1 ⟨rfl, hb1⟩
  have X1 := Lib.hid (X0.out.grow hb1)
  have Q1 := Lib.hid (Q0.out.grow hb1)
  have B1 := Lib.hid (B0.out.trans (hb1.mono B0.out.size))
  clear hb1 X0 Q0 B0
  generalize w.heap.size = x at X1 ⊢
  by_cases h1 : 1000 < m
  · have h1' : (1000 : Int) < (m : Int) := by omega
    go_wp2_with fail
    go_ret
    exact ⟨rfl, B1.out⟩
  have h1' : ¬ (1000 : Int) < (m : Int) := by omega
  obtain ⟨lo, elo⟩ : ∃ y, y = min a b := ⟨_, rfl⟩
  obtain ⟨hi, ehi⟩ : ∃ y, y = max a b := ⟨_, rfl⟩
  have hlh : lo ≤ hi := by omega
  have hh : hi < 256 := by omega
  have hmin : min (a : Int) (b : Int) = (lo : Int) := by omega
  have hmax : max (a : Int) (b : Int) = (hi : Int) := by omega
  have hwl : IntKind.i64.wrap (lo : Int) = (lo : Int) := by rw [IntWalk.i64_in _ (by omega)]
  have hwh : IntKind.i64.wrap (hi : Int) = (hi : Int) := by rw [IntWalk.i64_in _ (by omega)]
  clear elo ehi
  go_wp2_with fail
  refine wp_region_grows W1 14 (fun w w' => Below w.heap.size w w') (preR q a b lo hi) [] [0, 1, 2, 3, 4, 5, 6, 7, 8, 9, 10, 11, 12, 13] [some 18, some 19, some 20, some 21, some 22, some 23, some 24, some 25, some 26, some 27, some 28, some 29, some 7, some 8] (by kernel_rfl) (by kernel_rfl) (by kernel_rfl) (by kernel_rfl) ((Below.refl _ _).drew) (fun w w' h h' => h.trans (h'.mono h.size)) (preR_mono _ _ _ _ _) ?_
  intro vals
  simp only [List.take_succ_cons, List.take_zero]
  refine ⟨grow_val [] [] (by kernel_rfl) (by kernel_rfl) (fun K w1 hb hd hK => ⟨wanted_none rfl, ?_⟩), ?_⟩
  · simp only [putZ]
    go_simp
    exact hK _ _ _ (Below.refl _ _) rfl
  refine ⟨grow_val [0] [some 18] (by kernel_rfl) (by kernel_rfl) (fun K w1 hb hd hK => ⟨wanted_none rfl, ?_⟩), ?_⟩
  · have d0 : vals 0 = .pointer (some ⟨q, 0, none⟩) := hd 0 (by simp)
    have c0 := (Q1.out.grow hb).cellAt 0 (show (bysA [a, b])[0]? = some (.int .u8 ((a : Nat) : Int)) from rfl)
    simp only [List.map_cons, List.map_nil, putZ, d0]
    go_simp
    exact hK _ _ _ (Below.refl _ _) rfl
  refine ⟨grow_val [] [] (by kernel_rfl) (by kernel_rfl) (fun K w1 hb hd hK => ⟨wanted_none rfl, ?_⟩), ?_⟩
  · simp only [putZ]
    go_simp
    exact hK _ _ _ (Below.refl _ _) rfl
  refine ⟨grow_val [2] [some 20] (by kernel_rfl) (by kernel_rfl) (fun K w1 hb hd hK => ⟨wanted_none rfl, ?_⟩), ?_⟩
  · have d2 : vals 2 = .pointer (some ⟨q, 1, none⟩) := hd 2 (by simp)
    have c1 := (Q1.out.grow hb).cellAt 1 (show (bysA [a, b])[1]? = some (.int .u8 ((b : Nat) : Int)) from rfl)
    simp only [List.map_cons, List.map_nil, putZ, d2]
    go_simp
    exact hK _ _ _ (Below.refl _ _) rfl
  refine ⟨grow_val [1, 3] [some 19, some 21] (by kernel_rfl) (by kernel_rfl) (fun K w1 hb hd hK => ⟨wanted_none rfl, ?_⟩), ?_⟩
  · have d1 : vals 1 = .int .u8 (a : Int) := hd 1 (by simp)
    have d3 : vals 3 = .int .u8 (b : Int) := hd 3 (by simp)
    simp only [List.map_cons, List.map_nil, putZ, d1, d3]
    go_simp
    exact hK _ _ _ (Below.refl _ _) (by show Value.int .u8 _ = Value.int .u8 _; congr 1; split <;> omega)
  refine ⟨grow_val [4] [some 22] (by kernel_rfl) (by kernel_rfl) (fun K w1 hb hd hK => ⟨wanted_none rfl, ?_⟩), ?_⟩
  · have d4 : vals 4 = .int .u8 (lo : Int) := hd 4 (by simp)
    simp only [List.map_cons, List.map_nil, putZ, d4]
    go_simp
    exact hK _ _ _ (Below.refl _ _) rfl
  refine ⟨grow_val [] [] (by kernel_rfl) (by kernel_rfl) (fun K w1 hb hd hK => ⟨wanted_none rfl, ?_⟩), ?_⟩
  · simp only [putZ]
    go_simp
    exact hK _ _ _ (Below.refl _ _) rfl
  refine ⟨grow_val [6] [some 24] (by kernel_rfl) (by kernel_rfl) (fun K w1 hb hd hK => ⟨wanted_none rfl, ?_⟩), ?_⟩
  · have d6 : vals 6 = .pointer (some ⟨q, 0, none⟩) := hd 6 (by simp)
    have c0 := (Q1.out.grow hb).cellAt 0 (show (bysA [a, b])[0]? = some (.int .u8 ((a : Nat) : Int)) from rfl)
    simp only [List.map_cons, List.map_nil, putZ, d6]
    go_simp
    exact hK _ _ _ (Below.refl _ _) rfl
  refine ⟨grow_val [] [] (by kernel_rfl) (by kernel_rfl) (fun K w1 hb hd hK => ⟨wanted_none rfl, ?_⟩), ?_⟩
  · simp only [putZ]
    go_simp
    exact hK _ _ _ (Below.refl _ _) rfl
  refine ⟨grow_val [8] [some 26] (by kernel_rfl) (by kernel_rfl) (fun K w1 hb hd hK => ⟨wanted_none rfl, ?_⟩), ?_⟩
  · have d8 : vals 8 = .pointer (some ⟨q, 1, none⟩) := hd 8 (by simp)
    have c1 := (Q1.out.grow hb).cellAt 1 (show (bysA [a, b])[1]? = some (.int .u8 ((b : Nat) : Int)) from rfl)
    simp only [List.map_cons, List.map_nil, putZ, d8]
    go_simp
    exact hK _ _ _ (Below.refl _ _) rfl
  refine ⟨grow_val [7, 9] [some 25, some 27] (by kernel_rfl) (by kernel_rfl) (fun K w1 hb hd hK => ⟨wanted_none rfl, ?_⟩), ?_⟩
  · have d7 : vals 7 = .int .u8 (a : Int) := hd 7 (by simp)
    have d9 : vals 9 = .int .u8 (b : Int) := hd 9 (by simp)
    simp only [List.map_cons, List.map_nil, putZ, d7, d9]
    go_simp
    exact hK _ _ _ (Below.refl _ _) (by show Value.int .u8 _ = Value.int .u8 _; congr 1; split <;> omega)
  refine ⟨grow_val [10] [some 28] (by kernel_rfl) (by kernel_rfl) (fun K w1 hb hd hK => ⟨wanted_none rfl, ?_⟩), ?_⟩
  · have d10 : vals 10 = .int .u8 (hi : Int) := hd 10 (by simp)
    simp only [List.map_cons, List.map_nil, putZ, d10]
    go_simp
    exact hK _ _ _ (Below.refl _ _) rfl
  refine ⟨grow_val [5] [some 23] (by kernel_rfl) (by kernel_rfl) (fun K w1 hb hd hK => ⟨wanted_none rfl, ?_⟩), ?_⟩
  · have d5 : vals 5 = .int .i64 (lo : Int) := hd 5 (by simp)
    simp only [List.map_cons, List.map_nil, putZ, d5]
    go_simp
    exact hK _ _ _ (Below.refl _ _) rfl
  refine ⟨grow_val [11] [some 29] (by kernel_rfl) (by kernel_rfl) (fun K w1 hb hd hK => ⟨wanted_none rfl, ?_⟩), ?_⟩
  · have d11 : vals 11 = .int .i64 (hi : Int) := hd 11 (by simp)
    simp only [List.map_cons, List.map_nil, putZ, d11]
    go_simp
    exact hK _ _ _ (Below.refl _ _) rfl
  intro W2 hb2 hd
  have d12 : vals 12 = .int .i64 (lo : Int) := hd 12 (by simp)
  have d13 : vals 13 = .int .i64 (hi : Int) := hd 13 (by simp)
  clear hd
  have X2 := Lib.hid (X1.out.grow hb2)
  have B2 := Lib.hid (B1.out.trans (hb2.mono B1.out.size))
  simp only [List.map_cons, List.map_nil, putZ, d12, d13, pick]
  clear d12 d13 hb2 X1 Q1
  generalize vals 0 = v0
  generalize vals 1 = v1
  generalize vals 2 = v2
  generalize vals 3 = v3
  generalize vals 4 = v4
  generalize vals 5 = v5
  generalize vals 6 = v6
  generalize vals 7 = v7
  generalize vals 8 = v8
  generalize vals 9 = v9
  generalize vals 10 = v10
  generalize vals 11 = v11
  obtain ⟨r1, r2, r3⟩ := X2.out
  have HE := expand_c ic lo ip s info W2 (HT.out.grow B2.out) Hs.out Hsb.out (by rw [← Em.out]; omega) Hib.out (HI.out.grow B2.out) Hip.out (by omega)
  rw [← Em.out] at HE
  have HE := Lib.hid HE
  go_wp2_with fail
  refine HE.out.mono ?_
  rintro e W3 ⟨p, rfl, hP3, hp3, hb3⟩
  have X3 := Lib.hid (X2.out.grow hb3)
  have P3 := Lib.hid hP3
  have B3 := Lib.hid (B2.out.trans (hb3.mono B2.out.size))
  clear hP3 hb3 hp3 X2 r1 r2 r3 HE
  obtain ⟨r1, r2, r3⟩ := X3.out
  have HE := expand_c ic hi ip s info W3 (HT.out.grow B3.out) Hs.out Hsb.out (by rw [← Em.out]; omega) Hib.out (HI.out.grow B3.out) Hip.out (by omega)
  rw [← Em.out] at HE
  have HE := Lib.hid HE
  go_wp2_with fail
  refine HE.out.mono ?_
  rintro e W4 ⟨p2, rfl, hP4, hp4, hb4⟩
  have P4 := Lib.hid (P3.out.grow hb4)
  have B4 := Lib.hid (B3.out.trans (hb4.mono B3.out.size))
  have hP5 : Bs0 W4 p2 (expN s info lo) := by rw [← expN_le s info lo hi hlh]; exact hP4.take lo
  have hsl := slB_h p2 hi hi lo hlh
  have hcv1 : ∀ o d, (cvBS (.slice p2 lo hi)).run Tryd.prog (W4.plus o d) = .ok (.string (toS (expN s info lo))) (W4.plus o d) := fun o d => run_cvBS (hP5.grow (below_more (Below.refl _ _) o d)) (expN_length _ _ _).symm
  have hcv2 : ∀ o d, (cvBS (.slice p lo lo)).run Tryd.prog (W4.plus o d) = .ok (.string (toS (expN s info lo))) (W4.plus o d) := fun o d => run_cvBS (P4.out.grow (below_more (Below.refl _ _) o d)) (expN_length _ _ _).symm
  generalize toS (expN s info lo) = K0 at *
  clear hP4 hP5 hb4 hp4 X3 r1 r2 r3 HE P3
  go_wp2_with fail
  refine wp_region_pickT W4 [0, 1, 2, 3, 4, 5, 6, 7, 8, 9, 10, 11, 12, 13, 14, 15, 16, 17, 18, 19, 20, 21, 22, 23, 24, 25, 26] [false, false, false, false, false, false, false, false, false, false, false, false, false, false, false, false, false, false, false, false, false, false, false, false, false, false, false] [27] (by kernel_rfl) (by kernel_rfl) (by intro c a d v w h; cases d <;> exact h) ((Below.refl _ _).drew) ?_
  simp only [pick, List.getElem?_cons_succ, List.getElem?_cons_zero]
  refine wpHoldF_val (wanted_none rfl) (by intro K o d hK; go_simp; exact hK _ (Below.refl _ _)) ?_
  refine wpHoldF_val (wanted_none rfl) (by intro K o d hK; go_simp; exact hK _ (Below.refl _ _)) ?_
  refine wpHoldF_val (wanted_none rfl) (by intro K o d hK; go_simp; exact hK _ (Below.refl _ _)) ?_
  refine wpHoldF_val (wanted_some rfl rfl rfl) (by intro K o d hK; go_simp; exact hK _ (Below.refl _ _)) ?_
  refine wpHoldF_val (wanted_some rfl rfl rfl) (by intro K o d hK; go_simp; exact hK _ (Below.refl _ _)) ?_
  refine wpHoldF_val (wanted_none rfl) (by intro K o d hK; go_simp; exact hK _ (Below.refl _ _)) ?_
  refine wpHoldF_val (wanted_none rfl) (by intro K o d hK; go_simp; exact hK _ (Below.refl _ _)) ?_
  refine wpHoldF_val (wanted_some rfl rfl rfl) (by intro K o d hK; go_simp; exact hK _ (Below.refl _ _)) ?_
  refine wpHoldF_val (wanted_some rfl rfl rfl) (by intro K o d hK; go_simp; exact hK _ (Below.refl _ _)) ?_
  refine wpHoldF_val (wanted_some rfl rfl rfl) (by intro K o d hK; go_simp; exact hK _ (Below.refl _ _)) ?_
  refine wpHoldF_val (wanted_some rfl rfl rfl) (by intro K o d hK; go_simp; exact hK _ (Below.refl _ _)) ?_
  refine wpHoldF_val (wanted_none rfl) (by intro K o d hK; go_simp; exact hK _ (Below.refl _ _)) ?_
  refine wpHoldF_val (wanted_none rfl) (by intro K o d hK; go_simp; exact hK _ (Below.refl _ _)) ?_
  refine wpHoldF_val (wanted_some rfl rfl rfl) (by intro K o d hK; go_simp; exact hK _ (Below.refl _ _)) ?_
  refine wpHoldF_val (wanted_some rfl rfl rfl) (by intro K o d hK; go_simp; exact hK _ (Below.refl _ _)) ?_
  refine wpHoldF_val (wanted_some rfl rfl rfl) (by intro K o d hK; go_simp; exact hK _ (Below.refl _ _)) ?_
  refine wpHoldF_val (wanted_some rfl rfl rfl) (by intro K o d hK; go_simp; exact hK _ (Below.refl _ _)) ?_
  refine wpHoldF_val (wanted_none rfl) (by intro K o d hK; go_simp; exact hK _ (Below.refl _ _)) ?_
  refine wpHoldF_val (wanted_none rfl) (by intro K o d hK; go_simp; exact hK _ (Below.refl _ _)) ?_
  refine wpHoldF_val (wanted_some rfl rfl rfl) (by intro K o d hK; go_simp; exact hK _ (Below.refl _ _)) ?_
  refine wpHoldF_val (wanted_some rfl rfl rfl) (by intro K o d hK; go_simp; exact hK _ (Below.refl _ _)) ?_
  refine wpHoldF_val (wanted_some rfl rfl rfl) (by intro K o d hK; go_simp; exact hK _ (Below.refl _ _)) ?_
  refine wpHoldF_val (wanted_some rfl rfl rfl) (by intro K o d hK; go_simp; exact hK _ (Below.refl _ _)) ?_
  refine wpHoldF_val (wanted_some rfl rfl rfl) (by intro K o d hK; go_simp; exact hK _ (Below.refl _ _)) ?_
  refine wpHoldF_val (wanted_some rfl rfl rfl) (by intro K o d hK; go_simp; exact hK _ (Below.refl _ _)) ?_
  refine wpHoldF_val (wanted_some rfl rfl rfl) (by intro K o d hK; go_simp; exact hK _ (Below.refl _ _)) ?_
  refine wpHoldF_val (wanted_none rfl) (by intro K o d hK; go_simp; exact hK _ (Below.refl _ _)) ?_
  refine wpHoldF_nil ?_
  intro W6 hb6
  have B6 := Lib.hid (B4.out.trans (hb6.mono B4.out.size))
  clear hb6
  go_wp2_with fail
  go_ret
  exact ⟨rfl, B6.out⟩
end Go.Proofs.YtikpglemnnbdcaaDoor
