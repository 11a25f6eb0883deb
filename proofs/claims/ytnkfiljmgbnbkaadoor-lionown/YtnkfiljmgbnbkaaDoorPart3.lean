/-
  Part 3 of the texts behind the theorem.
-/
import Derived.Test.YtnkfiljmgbnbkaaDoorPart2
import Derived.Laws.BitsAllLaws
import Derived.Lib.ConvBytes
import Derived.Laws.BytesString
import Derived.Great.BuildSlice
/-
  What is known of the operations of a drawn region that make memory, as a list of relations on value and world (for wp_region_grows).
-/
namespace Go.Proofs.YtnkfiljmgbnbkaaDoor
open Go.RowKit Go.Hold Go.Sh

/-- A relation that stays true while memory grows. -/
def Stays (r : Value → World → Prop) : Prop := ∀ v w w', r v w → Below w.heap.size w w' → r v w'
def StaysAll : List (Value → World → Prop) → Prop
  | [] => True
  | r :: L => Stays r ∧ StaysAll L
def listR (L : List (Value → World → Prop)) (i : Nat) (v : Value) (w : World) : Prop := match L[i]? with | some r => r v w | none => True
theorem staysAll_get {L : List (Value → World → Prop)} (h : StaysAll L) : ∀ (i : Nat) (r : Value → World → Prop), L[i]? = some r → Stays r := by
  induction L with
  | nil => intro i r hi; simp at hi
  | cons s L ih =>
    intro i r hi
    cases i with
    | zero => simp at hi; subst hi; exact h.1
    | succ i => exact ih h.2 i r (by simpa using hi)
theorem listR_mono {L : List (Value → World → Prop)} (h : StaysAll L) : ∀ i v w w', listR L i v w → Below w.heap.size w w' → listR L i v w' := by
  intro i v w w' hr hb
  unfold listR at hr ⊢
  cases e : L[i]? with
  | none => trivial
  | some r => rw [e] at hr; exact staysAll_get h i r e v w w' hr hb
/-- A value that is known. -/
def fixV (x : Value) : Value → World → Prop := fun v _ => v = x
theorem stays_fix (x : Value) : Stays (fixV x) := fun _ _ _ h _ => h
/-- A slice of bytes of one's own. -/
def ownV (B : Nat) (l : List Nat) : Value → World → Prop := fun v w => OwnB w B v l
theorem stays_own (B : Nat) (l : List Nat) : Stays (ownV B l) := fun _ _ _ h hb => OwnB.below h hb
/-- The same, with an error of nought. -/
def ownT (B : Nat) (l : List Nat) : Value → World → Prop := fun v w => ∃ u, v = .tuple #[u, .int .i64 0] ∧ OwnB w B u l
theorem stays_ownT (B : Nat) (l : List Nat) : Stays (ownT B l) := fun _ _ _ ⟨u, h, ho⟩ hb => ⟨u, h, ho.below hb⟩
/-- What lies in a row that is new. -/
def rowV (B : Nat) (f : Nat → Value) (c : Array Value) : Value → World → Prop := fun v w => ∃ g, v = f g ∧ RowAt w g c ∧ B ≤ g
theorem stays_row (B : Nat) (f : Nat → Value) (c : Array Value) : Stays (rowV B f c) := fun _ _ _ ⟨g, h, hr, hg⟩ hb => ⟨g, h, hr.grow hb, hg⟩
/-- A slice of bytes. -/
def slV (l : List Nat) : Value → World → Prop := fun v w => SlV w v l
theorem stays_sl (l : List Nat) : Stays (slV l) := fun _ _ _ h hb => SlV.grow h hb
/-- Bytes are laid behind those of a slice that is full. -/
theorem app_full {w : World} {g q n k cap : Nat} {l m : List Nat} (hl : BytesAt w g 0 l) (hn : n = l.length) (hm : BytesAt w q 0 m) (hk : k = m.length) (h0 : 0 < k) (hlen : n + k ≤ 16777216) :
    ∃ c w', (Builtin.append_ #[24, 24] 24 #[.slice (some ⟨g, 0, none⟩) n n, .slice (some ⟨q, 0, none⟩) k cap]).run Tryd.prog w = .ok (.slice (some ⟨w.heap.size, 0, none⟩) (n + k) c) w' ∧
      OwnB w' w.heap.size (.slice (some ⟨w.heap.size, 0, none⟩) (n + k) c) (l ++ m) ∧ Below w.heap.size w w' := by
  subst hn hk
  obtain ⟨i0, hi, hz0, hz1, hz2⟩ := info_parts info_u8
  have hr := run_append_grow (P := Tryd.prog) w 24 24 5 i0 (.int .u8 0) Tryd.underlying24 hi hz0 ⟨g, 0, none⟩ l.length l.length (bys l) (by rw [hz1, bys_length, Nat.mul_one]) (bys_at hl) ⟨q, 0, none⟩ m.length cap (bys m) (by rw [hz1, bys_length, Nat.mul_one]) (bys_at hm) (by omega) (by omega) (by rw [hz2]; exact growslice_fits (by omega) (by omega))
  have hge := grownCap_ge w (l.length + m.length) l.length 5
  have hle := grownCap_le_maxLen w (l.length + m.length) l.length 5 (maxLen_small hlen)
  generalize grownCap w (l.length + m.length) l.length 5 = c at *
  refine ⟨c, _, hr, ⟨by simp [bys], .inr ⟨w.heap.size, c, _, by rw [List.length_append], Nat.le_refl _, block_new w.drew _, by rw [List.length_append]; exact hge, hle, ?_, ?_⟩⟩, (Below.refl w.heap.size w).drew.alloc (Nat.le_refl _) _⟩
  · simp [size_zeroCells, bys_length, Value.cells]; omega
  · rw [show (l ++ m).length * 1 = (bys l ++ bys m).length by simp [bys], show bys (l ++ m) = bys l ++ bys m by simp [bys]]
    simp only [Array.toList_append]
    exact List.take_left
end Go.Proofs.YtnkfiljmgbnbkaaDoor

/-
  Package lion: a block in its parts; its bytes again.
-/
namespace Go.Proofs.YtnkfiljmgbnbkaaDoor
open Go.RowKit Go.Hold Go.Sh Go.Ch Go.Li

theorem arr_key (b o cap : Nat) (w : World) : (Instr.arrayAt 23 (.slice (some ⟨b, o, none⟩) 32 cap)).run Tryd.prog w = .ok (.pointer (some ⟨b, o, none⟩)) w := by
  simp [Instr.arrayAt, run_underlying Tryd.underlying23]
set_option maxHeartbeats 600000 in
set_option maxRecDepth 100000 in
theorem parted_c (b o m cap : Nat) (l : List Nat) (hm : m = l.length) (h33 : 33 ≤ m) (hmc : m ≤ cap) (w : World) (hB : BytesAt w b o l) :
    Calls Tryd.prog 23 #[.slice (some ⟨b, o, none⟩) m cap] w fun e w' => ∃ v, e = .returned v ∧ BlkV w' v (prt l) b ∧ Below w.heap.size w w' := by
  have hlen : (l.take 32).length = 32 := by rw [List.length_take]; omega
  have HB := Lib.hid hB
  have Hm := Lib.hid hm
  have hld := fun (W : World) (hW : Below w.heap.size w W) => load_key (hB.grow hW) (show 32 ≤ l.length by omega)
  have Hld := Lib.hid hld
  have hs1 := fun W => slB_h32 (some ⟨b, o, none⟩) m cap (by omega) W
  have hs2 := fun W => slB_lo32 b o m cap (by omega) W
  have harr := fun W => arr_key b o cap W
  have hbd := fun W => run_bldBlk hlen (some ⟨b, adv o 32 cap, none⟩) (m - 32) (cap - 32) W
  have hz := fun p n c => blkA_size (s := Value.slice p n c) hlen
  have Hadv := Lib.hid (hB.adv (n := 32) (cap := cap) (by omega))
  clear hB hm hld hlen
  go_enter Tryd.func23, Tryd.ntmps23
  go_wp2_with fail
  generalize hW : World.alloc _ _ = W0
  obtain ⟨z0, hz0, hR0⟩ : ∃ c : Array Value, c.size = 33 ∧ RowAt W0 w.heap.size c := by rw [← hW]; clear hW; exact ⟨_, rfl, RowAt.of (block_new w _)⟩
  have R0 := Lib.hid hR0
  have B0 := Lib.hid (show Below w.heap.size w W0 by rw [← hW]; repeat (first | apply below_more | apply below_alloc | exact Below.refl _ _))
  clear hW hR0
  have hld := fun os d => Hld.out (W0.plus os d) (B0.out.trans ((below_more (Below.refl W0.heap.size W0) os d).mono B0.out.size))
  refine wp_region_pickT W0 [0, 1, 2, 3, 4, 5, 6] [false, false, false, false, false, false, false] [7] (by kernel_rfl) (by kernel_rfl) (by intro c a d v w h; cases d <;> exact h) ((Below.refl _ _).drew) ?_
  simp only [pick, List.getElem?_cons_succ, List.getElem?_cons_zero]
  iterate 7 (refine wpHoldF_val (wanted_none rfl) (by intro K o d hK; go_simp; exact hK _ (Below.refl _ _)) ?_)
  refine wpHoldF_nil ?_
  intro W1 hb1
  obtain ⟨r1, r2, r3⟩ := R0.out.grow hb1
  have B1 := Lib.hid (B0.out.trans (hb1.mono B0.out.size))
  clear hb1 R0 B0 hld
  go_wp2_with fail
  refine bodyPost_ret (v := .agg (blkA (l.take 32) (.slice (some ⟨b, adv o 32 cap, none⟩) (m - 32) (cap - 32)))) (results_blk Tryd.results23 (hz _ _ _) _ _ _ rfl (by go_simp) (by go_simp)) rfl ⟨_, rfl, ?_, ?_⟩
  · refine ⟨adv o 32 cap, cap - 32, ?_, Hadv.out.grow (below_setRow B1.out (Nat.le_refl _) _), ?_⟩
    · simp only [prt, List.length_drop, ← Hm.out]
    · simp only [prt, List.length_drop, ← Hm.out]; omega
  · exact below_setRow B1.out (Nat.le_refl _) _
set_option maxHeartbeats 600000 in
set_option maxRecDepth 100000 in
theorem joined_c (x : Blk) (hx : OkB x) (hl : x.2.length ≤ 65536) (v : Value) (b : Nat) (w : World) (hV : BlkV w v x b) :
    Calls Tryd.prog 25 #[v] w fun e w' => ∃ u, e = .returned u ∧ OwnB w' w.heap.size u (jn x) ∧ Below w.heap.size w w' := by
  obtain ⟨l, r⟩ := x
  obtain ⟨o, c, rfl, hB, hc⟩ := hV
  have hll : l.length = 32 := hx.left
  simp only at hB hc hl ⊢
  have HB := Lib.hid hB
  have Hll := Lib.hid hll
  obtain ⟨n, en⟩ : ∃ n, n = r.length := ⟨_, rfl⟩
  have En := Lib.hid en
  rw [← en] at hl hc ⊢
  have hz := blkA_size (s := .slice (some ⟨b, o, none⟩) n c) hll
  clear hB hll en hx
  go_enter Tryd.func25, Tryd.ntmps25
  go_wp2_with fail
  generalize hW : World.alloc _ _ = W0
  have R0 := Lib.hid (show RowAt W0 w.heap.size (blkA l (.slice (some ⟨b, o, none⟩) n c)) by rw [← hW]; exact RowAt.of (block_new w _))
  have B0 := Lib.hid (show Below w.heap.size w W0 by rw [← hW]; repeat (first | apply below_more | apply below_alloc | exact Below.refl _ _))
  clear hW
  obtain ⟨z, ez⟩ : ∃ z, z = w.heap.size := ⟨_, rfl⟩
  have hz0 : z ≤ W0.heap.size := by rw [ez]; exact B0.out.size
  have Ez := Lib.hid ez
  rw [← ez] at R0 ⊢
  clear ez
  refine wp_region_grows W0 6 (fun w w' => Below w.heap.size w w') (listR [fixV (.pointer (some ⟨z, 0, none⟩)), fixV (.slice (some ⟨z, 0, none⟩) 32 32), fixV (.pointer (some ⟨z, 32, none⟩)), fixV (.slice (some ⟨b, o, none⟩) n c), rowV W0.heap.size (fun g => .slice (some ⟨g, 0, none⟩) 2 2) #[.slice (some ⟨z, 0, none⟩) 32 32, .slice (some ⟨b, o, none⟩) n c], ownV W0.heap.size (jn (l, r))]) [6] [0, 1, 2, 3, 4, 5] [some 3, some 4, some 5, some 6, some 7, some 8] (by kernel_rfl) (by kernel_rfl) (by kernel_rfl) (by kernel_rfl) ((Below.refl _ _).drew) (fun w w' h h' => h.trans (h'.mono h.size)) (listR_mono ⟨stays_fix _, stays_fix _, stays_fix _, stays_fix _, stays_row _ _ _, stays_own _ _, trivial⟩) ?_
  intro vals
  simp only [List.take_succ_cons, List.take_zero]
  refine ⟨grow_val [] [] (by kernel_rfl) rfl (fun K w hb hd hK => ⟨wanted_none rfl, ?_⟩), ?_⟩
  · simp only [putZ]
    go_simp
    exact hK _ _ _ (Below.refl _ _) rfl
  refine ⟨grow_val [0] [some 3] (by kernel_rfl) (by kernel_rfl) (fun K w hb hd hK => ⟨wanted_none rfl, ?_⟩), ?_⟩
  · have d0 : vals 0 = .pointer (some ⟨z, 0, none⟩) := hd 0 (by simp)
    simp only [List.map_cons, List.map_nil, putZ, d0]
    go_simp
    exact hK _ _ _ (Below.refl _ _) rfl
  refine ⟨grow_val [] [] (by kernel_rfl) rfl (fun K w hb hd hK => ⟨wanted_none rfl, ?_⟩), ?_⟩
  · simp only [putZ]
    go_simp
    exact hK _ _ _ (Below.refl _ _) rfl
  refine ⟨grow_val [2] [some 5] (by kernel_rfl) (by kernel_rfl) (fun K w hb hd hK => ⟨wanted_none rfl, ?_⟩), ?_⟩
  · have d0 : vals 2 = .pointer (some ⟨z, 32, none⟩) := hd 2 (by simp)
    have hcl := cell_blk (R0.out.grow hb) Hll.out
    simp only [List.map_cons, List.map_nil, putZ, d0]
    go_simp
    exact hK _ _ _ (Below.refl _ _) rfl
  refine ⟨grow_val [1, 3] [some 4, some 6] (by kernel_rfl) (by kernel_rfl) (fun K w hb hd hK => ⟨wanted_none rfl, ?_⟩), ?_⟩
  · have d1 : vals 1 = .slice (some ⟨z, 0, none⟩) 32 32 := hd 1 (by simp)
    have d3 : vals 3 = .slice (some ⟨b, o, none⟩) n c := hd 3 (by simp)
    simp only [List.map_cons, List.map_nil, putZ, d1, d3]
    go_simp
    exact hK _ _ _ (below_alloc (Below.refl _ _) _) ⟨_, rfl, RowAt.of (block_new _ _), hb.size⟩
  refine ⟨grow_call [4] [some 7] (by kernel_rfl) (by kernel_rfl) (fun K w' hb hd hK => ⟨wanted_none rfl, ?_⟩), ?_⟩
  · obtain ⟨g, d4, hr4, hg4⟩ : ∃ g, vals 4 = .slice (some ⟨g, 0, none⟩) 2 2 ∧ RowAt w' g #[.slice (some ⟨z, 0, none⟩) 32 32, .slice (some ⟨b, o, none⟩) n c] ∧ W0.heap.size ≤ g := hd 4 (by simp)
    simp only [List.map_cons, List.map_nil, putZ, d4]
    go_simp
    refine (concat2_c (l := l) (m := r) hr4 Hll.out.symm En.out (Bs0.some (bytes_blk (R0.out.grow hb))) (Bs0.some (HB.out.grow (B0.out.trans (hb.mono B0.out.size)))) (fun h => by cases h) (fun h => by cases h) (by rw [Hll.out, ← En.out]; omega)).mono ?_
    rintro e w2 ⟨u, rfl, hown, hb2⟩
    exact ⟨_, rfl, hK _ _ hb2 (hown.base hb.size)⟩
  intro W1 hbg hR
  have d5 : OwnB W1 W0.heap.size (vals 5) (jn (l, r)) := hR 5 (by simp)
  clear hR
  simp only [List.map_cons, List.map_nil, putZ, pick, List.getElem?_cons_succ, List.getElem?_cons_zero]
  generalize vals 5 = u at *
  generalize vals 0 = e0
  generalize vals 1 = e1
  generalize vals 2 = e2
  generalize vals 3 = e3
  generalize vals 4 = e4
  have B1 := Lib.hid (B0.out.trans (hbg.mono B0.out.size))
  have D5 := Lib.hid (d5.base hz0)
  clear hbg d5
  go_wp2_with fail
  go_ret
  exact ⟨u, rfl, by rw [← Ez.out]; exact D5.out, B1.out⟩
end Go.Proofs.YtnkfiljmgbnbkaaDoor

/-
  Package lion: two keys as one.
-/
namespace Go.Proofs.YtnkfiljmgbnbkaaDoor
open Go.RowKit Go.Hold Go.Sh Go.Ch Go.Li

/-- A byte of a key's value. -/
theorem run_indexKey {A : Array Value} {k : Nat} {v : Value} (hk : k < 32) (hv : A[k]? = some v) (w : World) : (Instr.index 23 (.agg A) (.int .i64 (k : Int))).run Tryd.prog w = .ok v w := by
  have hu := Tryd.underlying23
  have hi : (Tryd.prog.info? 5).map (fun i => (i.zero, i.size, i.bytes)) = some (some (.int .u8 0), 1, 1) := by kernel_rfl
  obtain ⟨i0, hi, hz0, hz1, hz2⟩ := info_parts hi
  have hu8 := Tryd.underlying5
  simp [Instr.index, asIntOf, run_underlying hu, sizeOf, typeInfo, hi, hz1, part, isAgg, run_underlying hu8, hv, hk, Sem.run_bind]
set_option maxHeartbeats 1000000 in
set_option maxRecDepth 100000 in
theorem xored_c (a b : List Nat) (ha : a.length = 32) (hb : b.length = 32) (hab : ∀ i, a.getD i 0 < 256) (hbb : ∀ i, b.getD i 0 < 256) (w : World) :
    Calls Tryd.prog 37 #[.agg (bysA a), .agg (bysA b)] w fun e w' => e = .returned (.agg (bysA (mixd a b))) ∧ Below w.heap.size w w' := by
  have hza := bysA_size' ha
  have hzb := bysA_size' hb
  have Ha := Lib.hid ha
  have Hb := Lib.hid hb
  have hzm : (bysA (mixd a b)).size = 32 := by rw [bysA_size, mixd_length, hb]
  clear ha hb
  go_enter Tryd.func37, Tryd.ntmps37
  go_wp2_with fail
  generalize hW : World.alloc _ _ = W1
  have R0 := Lib.hid (show RowAt W1 w.heap.size (bysA (mixP a b 0)) by rw [mixP_zero a b (by rw [Ha.out, Hb.out]), ← hW]; clear hW; exact ⟨by go_simp, by go_simp, by go_simp⟩)
  have Q0 := Lib.hid (show RowAt W1 (w.heap.size + 1) (bysA b) by rw [← hW]; clear hW; exact ⟨by go_simp, by go_simp, by go_simp⟩)
  have K0 := Lib.hid (show RowAt W1 (w.heap.size + 1 + 1) (bysA (zs 32)) by rw [← hW]; clear hW; exact ⟨by go_simp, by go_simp; rfl, by go_simp⟩)
  have B0 := Lib.hid (show Below w.heap.size w W1 by rw [← hW]; repeat (first | apply below_more | apply below_alloc | apply Below.drew | exact Below.refl _ _))
  clear hW
  go_loopw [8] (fun i wr => ∃ k : Nat, k ≤ 32 ∧ i = .int .i64 k ∧ RowAt wr w.heap.size (bysA (mixP a b k)) ∧ RowAt wr (w.heap.size + 1 + 1) (bysA (zs 32)) ∧ Below w.heap.size w wr) (fun i _ => 32 - (intOf i).toNat)
  case atStart => exact ⟨0, by decide, rfl, R0.out, K0.out, B0.out⟩
  case round =>
    obtain ⟨k, hk, rfl, hrow, hk0, hbel⟩ := hrel
    by_cases hk32 : k < 32
    · have hi0 : (0 : Int) ≤ (k : Int) := by omega
      have hi1 : (k : Int) < 32 := by omega
      have hkb : k < b.length := by rw [Hb.out]; exact hk32
      have hcb := fun W => run_indexKey hk32 (bysA_get b k hkb) W
      have hck := hrow.cellAt k (bysA_get _ k (by rw [mixP_length]; exact hkb))
      rw [mix_step a b k hkb] at hck
      have hfk := hrow.frozenAt k
      have hx := u8_xor_nat (a.getD k 0) (b.getD k 0) (hab k) (hbb k)
      have Hset := Lib.hid (mixP_set a b k hkb)
      generalize a.getD k 0 = y at *
      generalize b.getD k 0 = z at *
      generalize y ^^^ z = v at *
      have Hrow := Lib.hid hrow
      have Hk0 := Lib.hid hk0
      have Hbel := Lib.hid hbel
      clear hrow hk0 hbel hkb
      go_wp2_with fail
      go_roundw
      case rel =>
        refine ⟨k + 1, by omega, by go_num, ?_, ?_, ?_⟩
        · rw [← Hset.out, ← bysA_set]; exact Hrow.out.setCell _ _
        · rw [setCell_row Hrow.out]; exact Hk0.out.other (by omega) _
        · exact Hbel.out.setCell (p := ⟨_, _, none⟩) (Nat.le_refl _) _
      case measure => simp [intOf]; omega
    · obtain rfl : k = 32 := by omega
      have hall := mixP_all a b
      rw [Hb.out] at hall
      rw [hall] at hrow
      obtain ⟨q1, q2, q3⟩ := hk0
      obtain ⟨r1, r2, r3⟩ := hrow
      have hz := bysA_size' (zs_length 32)
      have Hbel := Lib.hid hbel
      clear hbel
      go_wp2_with fail
      refine bodyPost_ret (v := .agg (bysA (mixd a b))) (results_key Tryd.results37 hzm _ _ _ rfl (by go_simp) (by go_simp)) rfl ⟨rfl, ?_⟩
      exact below_setRow Hbel.out (by omega) _
end Go.Proofs.YtnkfiljmgbnbkaaDoor

/-
  Package chacha: bytes are put into words.
-/
namespace Go.Proofs.YtnkfiljmgbnbkaaDoor
open Go.RowKit Go.Hold Go.Sh Go.Ch

set_option maxHeartbeats 1000000 in
set_option maxRecDepth 100000 in
theorem put_c (g b a n cap : Nat) (s : List Int) (l : List Nat) (w : World) (hn : n = l.length) (hs : s.length = 16) (hz : ∀ j, a ≤ j → s.getD j 0 = 0) (ha : a + (n + 3) / 4 ≤ 16) (hlb : ∀ i, l.getD i 0 < 256) (h : RowAt w g (wosA s)) (hB : BytesAt w b 0 l) (hbg : b ≠ g) :
    Calls Tryd.prog 74 #[.pointer (some ⟨g, 0, none⟩), .int .i64 (a : Int), .slice (some ⟨b, 0, none⟩) n cap] w fun e w' => e = .returned (.tuple #[]) ∧ Sets w g (wosA (wput s a l n)) w' := by
  have H := Lib.hid h
  have HB := Lib.hid hB
  have Hn := Lib.hid hn
  have S0 := Lib.hid (show Sets w g (wosA (wput s a l 0)) w by rw [wput_zero s a l hs hz]; exact Sets.refl h)
  clear h hB hn hs hz
  go_enter Tryd.func74, Tryd.ntmps74
  go_wp2_with fail
  go_loopw [10] (fun i wr => ∃ k : Nat, k ≤ n ∧ i = .int .i64 k ∧ Sets w g (wosA (wput s a l k)) wr) (fun i _ => n - (intOf i).toNat)
  case atStart => exact ⟨0, by omega, rfl, S0.out⟩
  case round =>
    obtain ⟨k, hk, rfl, hset⟩ := hrel
    by_cases hkn : k < n
    · have hk0 : (0 : Int) ≤ (k : Int) := by omega
      have hk1 : (k : Int) < (n : Int) := by omega
      have hkl : k < l.length := by rw [← Hn.out]; exact hkn
      have hrow := hset.row H.out
      have hcb : wr.cell? ⟨b, k, none⟩ = some (.int .u8 ((l.getD k 0 : Nat) : Int)) := by
        have := (hset.bytes HB.out hbg).2 k hkl
        rwa [Nat.zero_add] at this
      have hq : (k : Int).tdiv 4 = ((k / 4 : Nat) : Int) := rfl
      have hm : (k : Int).tmod 4 = ((k % 4 : Nat) : Int) := rfl
      have hc := hrow.cellAt (a + k / 4) (wosA_get' _ _ (wput_get s a l k (a + k / 4) (by omega)))
      rw [if_neg (by omega), show a + k / 4 - a = k / 4 by omega, show k - 4 * (k / 4) = k % 4 by omega] at hc
      have hf := hrow.frozenAt (a + k / 4)
      have hst := wput_step l hlb k
      have Hset := Lib.hid (wput_set s a l k (by omega))
      have hlt := hlb k
      generalize l.getD k 0 = y at hcb hst hlt
      have hyw : IntKind.u32.wrap (y : Int) = (y : Int) := IntWalk.u32_in _ (by omega)
      have hm3 : k % 4 < 4 := by omega
      generalize pkl l (k / 4) (k % 4) = p at hc hst
      generalize ((pkl l (k / 4) (k % 4 + 1) : Nat) : Int) = p' at hst Hset
      have hq4 : a + k / 4 < 16 := by omega
      generalize k / 4 = q at *
      generalize k % 4 = r at *
      obtain ⟨x, ex⟩ : ∃ x, x = a + q := ⟨_, rfl⟩
      rw [← ex] at hc hf hq4 Hset
      have hqw : IntKind.i64.wrap (q : Int) = (q : Int) := IntWalk.i64_in _ (by omega)
      have hx : IntKind.i64.wrap ((a : Int) + (q : Int)) = (x : Int) := by rw [IntWalk.i64_in _ (by omega)]; omega
      have hx0 : (0 : Int) ≤ (x : Int) := by omega
      have hx1 : (x : Int) < 16 := by omega
      obtain ⟨m, em⟩ : ∃ m, m = r * 8 := ⟨_, rfl⟩
      rw [← em] at hst
      have hmw : IntKind.i64.wrap ((r : Int) * 8) = (m : Int) := by rw [IntWalk.i64_in _ (by omega)]; omega
      have hm0 : (0 : Int) ≤ (m : Int) := by omega
      have hm1 : (m : Int) ≤ 32 := by omega
      have Hset2 := Lib.hid hset
      have hgl := hrow.2.2
      clear ex em hset hrow hkl
      go_wp2_with fail
      refine wp_region_pick wr [0, 1, 2, 3, 4, 5, 6, 7, 8, 9, 10, 11, 12, 13, 14, 15, 16] [false, false, false, false, false, false, false, false, false, false, false, false, false, false, false, false, false] [] [] 17 (by kernel_rfl) rfl (by kernel_rfl) (by intro c a d v w h; cases d <;> exact h) ((Below.refl _ _).drew) ?_
      simp only [pick, List.getElem?_cons_succ, List.getElem?_cons_zero, List.drop_succ_cons, List.drop_zero]
      iterate 17 (refine wpHoldF_val (wanted_none rfl) (by intro K o d hK; go_simp; exact hK _ (Below.refl _ _)) ?_)
      refine wpHoldF_nil ?_
      intro w2 hb2 _
      have S2 := Lib.hid (Hset2.out.grow hb2)
      have hc2 : w2.cell? ⟨g, x, none⟩ = some (.int .u32 (p : Int)) := by rw [hb2.cell hgl]; exact hc
      have hf2 := (S2.out.row H.out).frozenAt x
      clear hb2 hc hf Hset2
      go_wp2_with fail
      go_roundw
      case rel =>
        refine ⟨k + 1, by omega, by go_num, ?_⟩
        rw [← Hset.out, ← wosA_set]; exact S2.out.cell H.out
      case measure => simp [intOf]; omega
    · obtain rfl : k = n := by omega
      have HS := Lib.hid hset
      clear hset
      go_wp2_with fail
      go_end0
      exact ⟨rfl, HS.out⟩
end Go.Proofs.YtnkfiljmgbnbkaaDoor

/-
  Package chacha: a quarter.
-/
namespace Go.Proofs.YtnkfiljmgbnbkaaDoor
open Go.RowKit Go.Hold Go.Sh Go.Ch

theorem quart_eq (s : List Int) (i j k l : Nat) : quart s i j k l = (((s.set i (qr (s.getD i 0) (s.getD j 0) (s.getD k 0) (s.getD l 0)).a).set j (qr (s.getD i 0) (s.getD j 0) (s.getD k 0) (s.getD l 0)).b).set k (qr (s.getD i 0) (s.getD j 0) (s.getD k 0) (s.getD l 0)).c).set l (qr (s.getD i 0) (s.getD j 0) (s.getD k 0) (s.getD l 0)).d := rfl
theorem wos_cell {w : World} {g : Nat} {s : List Int} (h : RowAt w g (wosA s)) (i : Nat) (hi : i < s.length) : w.cell? ⟨g, i, none⟩ = some (.int .u32 (s.getD i 0)) := h.cellAt i (wosA_get s i hi)
set_option maxHeartbeats 1000000 in
set_option maxRecDepth 100000 in
theorem quarter_c (g i j k l : Nat) (s : List Int) (w : World) (hs : s.length = 16) (hi : i < j) (hj : j < k) (hk : k < l) (hl : l < 16) (h : RowAt w g (wosA s)) :
    Calls Tryd.prog 75 #[.pointer (some ⟨g, 0, none⟩), .int .i64 (i : Int), .int .i64 (j : Int), .int .i64 (k : Int), .int .i64 (l : Int)] w fun e w' => e = .returned (.tuple #[]) ∧ Sets w g (wosA (quart s i j k l)) w' := by
  have H := Lib.hid h
  have Hq := Lib.hid (quart_eq s i j k l)
  have Hs := Lib.hid hs
  have hi0 : (0 : Int) ≤ (i : Int) := by omega
  have hi1 : (i : Int) < 16 := by omega
  have hj0 : (0 : Int) ≤ (j : Int) := by omega
  have hj1 : (j : Int) < 16 := by omega
  have hk0 : (0 : Int) ≤ (k : Int) := by omega
  have hk1 : (k : Int) < 16 := by omega
  have hl0 : (0 : Int) ≤ (l : Int) := by omega
  have hl1 : (l : Int) < 16 := by omega
  have hci := wos_cell h i (by omega)
  have hcj := wos_cell h j (by omega)
  have hck := wos_cell h k (by omega)
  have hcl := wos_cell h l (by omega)
  have hgl := h.2.2
  generalize s.getD i 0 = a0 at *
  generalize s.getD j 0 = b0 at *
  generalize s.getD k 0 = c0 at *
  generalize s.getD l 0 = d0 at *
  have n1 : ¬ i = j := by omega
  have n2 : ¬ i = k := by omega
  have n3 : ¬ i = l := by omega
  have n4 : ¬ j = k := by omega
  have n5 : ¬ j = l := by omega
  have n6 : ¬ k = l := by omega
  clear h hs
  go_enter Tryd.func75, Tryd.ntmps75
  go_wp2_with fail
  refine wp_region_fast (fun w' => ∃ o d, w' = w.plus o d) (by kernel_rfl) (by kernel_rfl) ⟨#[], _, rfl⟩ ?_
  iterate 24 (refine wpHold_val ⟨_, #[], 0, rfl⟩ (wanted_none rfl) (by rintro K _ ⟨o, d, rfl⟩ hK; go_simp; exact hK _ ⟨o, d, rfl⟩) ?_)
  refine wpHold_nil ?_
  rintro _ ⟨o1, n1, rfl⟩
  have S1 := Lib.hid ((Sets.refl H.out).grow (below_more (Below.refl _ _) o1 n1))
  clear hci hcj hck hcl
  generalize w.plus o1 n1 = W1 at *
  go_wp2_with fail
  refine (rotP_16 _ _).mono ?_
  rintro e w' ⟨rfl, hwE⟩
  rw [hwE]
  clear hwE w'
  go_wp2_with fail
  refine (rotP_12 _ _).mono ?_
  rintro e w' ⟨rfl, hwE⟩
  rw [hwE]
  clear hwE w'
  go_wp2_with fail
  refine (rotP_8 _ _).mono ?_
  rintro e w' ⟨rfl, hwE⟩
  rw [hwE]
  clear hwE w'
  go_wp2_with fail
  refine (rotP_7 _ _).mono ?_
  rintro e w' ⟨rfl, hwE⟩
  rw [hwE]
  clear hwE w'
  go_wp2_with fail
  refine wp_region_pickT W1 [0, 1, 2, 3, 4, 5, 6, 7, 8, 9, 10, 11, 12, 15, 18, 21] [true, true, true, true, true, true, true, true, true, true, true, true, true, true, true, true] [13, 14, 16, 17, 19, 20, 22, 23] (by kernel_rfl) (by kernel_rfl) (by intro c a d v w h; cases d <;> exact h) ((Below.refl _ _).drew) ?_
  simp only [pick, List.getElem?_cons_succ, List.getElem?_cons_zero]
  iterate 16 (refine wpHoldF_late (wanted_none rfl) (fun w => by go_simp; rfl) ?_)
  refine wpHoldF_nil ?_
  intro W2 hb2
  have S2 := Lib.hid (S1.out.grow hb2)
  have R2 := S2.out.row H.out
  have hci := wos_cell R2 i (by rw [Hs.out]; omega)
  have hcj := wos_cell R2 j (by rw [Hs.out]; omega)
  have hck := wos_cell R2 k (by rw [Hs.out]; omega)
  have hcl := wos_cell R2 l (by rw [Hs.out]; omega)
  have hfi := R2.frozenAt i
  have hfj := R2.frozenAt j
  have hfk := R2.frozenAt k
  have hfl := R2.frozenAt l
  clear hb2 R2 S1
  go_wp2_with fail
  go_end0
  refine ⟨rfl, ?_⟩
  have h4 := (((S2.out.cell (i := i) (v := .int .u32 (qr a0 b0 c0 d0).a) H.out).cell (i := j) (v := .int .u32 (qr a0 b0 c0 d0).b) H.out).cell (i := k) (v := .int .u32 (qr a0 b0 c0 d0).c) H.out).cell (i := l) (v := .int .u32 (qr a0 b0 c0 d0).d) H.out
  rw [wosA_set, wosA_set, wosA_set, wosA_set, ← Hq.out] at h4
  exact h4
end Go.Proofs.YtnkfiljmgbnbkaaDoor

/-
  Package chacha: a double round; words as bytes.
-/
namespace Go.Proofs.YtnkfiljmgbnbkaaDoor
open Go.RowKit Go.Hold Go.Sh Go.Ch

set_option maxHeartbeats 1000000 in
set_option maxRecDepth 100000 in
theorem doubleRound_c (g : Nat) (s : List Int) (w : World) (hs : s.length = 16) (h : RowAt w g (wosA s)) :
    Calls Tryd.prog 64 #[.pointer (some ⟨g, 0, none⟩)] w fun e w' => e = .returned (.tuple #[]) ∧ Sets w g (wosA (drnd s)) w' := by
  have H := Lib.hid h
  have Hs := Lib.hid hs
  clear h hs
  go_enter Tryd.func64, Tryd.ntmps64
  go_wp2_with fail
  go_loopw [4] (fun i wr => ∃ n : Nat, n ≤ 4 ∧ i = .int .i64 n ∧ Sets w g (wosA (cols s n)) wr) (fun i _ => 4 - (intOf i).toNat)
  case atStart => exact ⟨0, by decide, rfl, Sets.refl H.out⟩
  case round =>
    obtain ⟨n, hn, rfl, hset⟩ := hrel
    by_cases hn4 : n < 4
    · have hn0 : (n : Int) < 4 := by omega
      have h1 : IntKind.i64.wrap (4 + (n : Int)) = ((4 + n : Nat) : Int) := by rw [IntWalk.i64_in _ (by omega)]; omega
      have h2 : IntKind.i64.wrap (8 + (n : Int)) = ((8 + n : Nat) : Int) := by rw [IntWalk.i64_in _ (by omega)]; omega
      have h3 : IntKind.i64.wrap (12 + (n : Int)) = ((12 + n : Nat) : Int) := by rw [IntWalk.i64_in _ (by omega)]; omega
      have HQ := Lib.hid (quarter_c g n (4 + n) (8 + n) (12 + n) (cols s n) wr (by rw [cols_length, Hs.out]) (by omega) (by omega) (by omega) (by omega) (hset.row H.out))
      have HE := Lib.hid (show cols s (n + 1) = quart (cols s n) n (4 + n) (8 + n) (12 + n) from rfl)
      generalize ((4 + n : Nat) : Int) = x1 at *
      generalize ((8 + n : Nat) : Int) = x2 at *
      generalize ((12 + n : Nat) : Int) = x3 at *
      have HS := Lib.hid hset
      clear hset
      go_wp2_with fail
      refine HQ.out.mono ?_
      rintro e W ⟨rfl, hW⟩
      have HW := Lib.hid (HS.out.trans H.out hW)
      clear hW
      go_wp2_with fail
      go_roundw
      case rel => exact ⟨n + 1, by omega, by go_num, by rw [HE.out]; exact HW.out⟩
      case measure => simp [intOf]; omega
    · obtain rfl : n = 4 := by omega
      have HS := Lib.hid hset
      clear hset
      rw [show ((4 : Nat) : Int) = 4 from rfl]
      go_wp2_with fail
      obtain ⟨W2, eW2⟩ : ∃ x, x = wr := ⟨_, rfl⟩
      rw [← eW2] at HS ⊢
      clear eW2
      go_loopw [17] (fun i wr => ∃ n : Nat, n ≤ 4 ∧ i = .int .i64 n ∧ Sets w g (wosA (dias (cols s 4) n)) wr) (fun i _ => 4 - (intOf i).toNat)
      case atStart => exact ⟨0, by decide, rfl, HS.out⟩
      case round =>
        obtain ⟨n, hn, rfl, hset⟩ := hrel
        by_cases hn4 : n < 4
        · have hn0 : (n : Int) < 4 := by omega
          have h1 : IntKind.i64.wrap ((n : Int) + 1) = ((n + 1 : Nat) : Int) := by rw [IntWalk.i64_in _ (by omega)]; omega
          have h2 : IntKind.i64.wrap ((n : Int) + 2) = ((n + 2 : Nat) : Int) := by rw [IntWalk.i64_in _ (by omega)]; omega
          have h3 : IntKind.i64.wrap ((n : Int) + 3) = ((n + 3 : Nat) : Int) := by rw [IntWalk.i64_in _ (by omega)]; omega
          have t1 : ((n + 1 : Nat) : Int).tmod 4 = (((n + 1) % 4 : Nat) : Int) := rfl
          have t2 : ((n + 2 : Nat) : Int).tmod 4 = (((n + 2) % 4 : Nat) : Int) := rfl
          have t3 : ((n + 3 : Nat) : Int).tmod 4 = (((n + 3) % 4 : Nat) : Int) := rfl
          have m1 : IntKind.i64.wrap (4 + (((n + 1) % 4 : Nat) : Int)) = ((4 + (n + 1) % 4 : Nat) : Int) := by rw [IntWalk.i64_in _ (by omega)]; omega
          have m2 : IntKind.i64.wrap (8 + (((n + 2) % 4 : Nat) : Int)) = ((8 + (n + 2) % 4 : Nat) : Int) := by rw [IntWalk.i64_in _ (by omega)]; omega
          have m3 : IntKind.i64.wrap (12 + (((n + 3) % 4 : Nat) : Int)) = ((12 + (n + 3) % 4 : Nat) : Int) := by rw [IntWalk.i64_in _ (by omega)]; omega
          have HQ := Lib.hid (quarter_c g n (4 + (n + 1) % 4) (8 + (n + 2) % 4) (12 + (n + 3) % 4) (dias (cols s 4) n) wr (by rw [dias_length, cols_length, Hs.out]) (by omega) (by omega) (by omega) (by omega) (hset.row H.out))
          have HE := Lib.hid (show dias (cols s 4) (n + 1) = quart (dias (cols s 4) n) n (4 + (n + 1) % 4) (8 + (n + 2) % 4) (12 + (n + 3) % 4) from rfl)
          generalize ((4 + (n + 1) % 4 : Nat) : Int) = x1 at *
          generalize ((8 + (n + 2) % 4 : Nat) : Int) = x2 at *
          generalize ((12 + (n + 3) % 4 : Nat) : Int) = x3 at *
          generalize (((n + 1) % 4 : Nat) : Int) = y1 at *
          generalize (((n + 2) % 4 : Nat) : Int) = y2 at *
          generalize (((n + 3) % 4 : Nat) : Int) = y3 at *
          generalize ez1 : ((n + 1 : Nat) : Int) = z1 at *
          have Ez1 := Lib.hid ez1
          clear ez1
          generalize ((n + 2 : Nat) : Int) = z2 at *
          generalize ((n + 3 : Nat) : Int) = z3 at *
          have HS := Lib.hid hset
          clear hset
          go_wp2_with fail
          refine HQ.out.mono ?_
          rintro e W ⟨rfl, hW⟩
          have HW := Lib.hid (HS.out.trans H.out hW)
          clear hW
          go_wp2_with fail
          go_roundw
          case rel => exact ⟨n + 1, by omega, by rw [Ez1.out], by rw [HE.out]; exact HW.out⟩
          case measure => have := Ez1.out; simp [intOf]; omega
        · obtain rfl : n = 4 := by omega
          have HS := Lib.hid hset
          clear hset
          go_wp2_with fail
          go_end0
          exact ⟨rfl, HS.out⟩

set_option maxHeartbeats 1000000 in
set_option maxRecDepth 100000 in
theorem wblock_c (s : List Int) (hs : s.length = 16) (w : World) :
    Calls Tryd.prog 65 #[.agg (wosA s)] w fun e w' => e = .returned (.agg (bysA (outB s))) ∧ Below w.heap.size w w' := by
  have hsz := wosA_size' hs
  go_enter Tryd.func65, Tryd.ntmps65
  go_wp2_with fail
  generalize hW : World.alloc _ _ = W1
  have R0 := Lib.hid (show RowAt W1 w.heap.size (wosA s) by rw [← hW]; clear hW; exact ⟨by go_simp, by go_simp, by go_simp⟩)
  have Q0 := Lib.hid (show RowAt W1 (w.heap.size + 1) (bysA (outP s 0)) by rw [← hW, outP_zero]; clear hW; exact ⟨by go_simp, by go_simp; rfl, by go_simp⟩)
  have K0 := Lib.hid (show RowAt W1 (w.heap.size + 1 + 1) (bysA (outP s 0)) by rw [← hW, outP_zero]; clear hW; exact ⟨by go_simp, by go_simp; rfl, by go_simp⟩)
  have B0 := Lib.hid (show Below w.heap.size w W1 by rw [← hW]; repeat (first | apply below_more | apply below_alloc | apply Below.drew | exact Below.refl _ _))
  clear hW
  go_loopw [5] (fun i wr => ∃ k : Nat, k ≤ 64 ∧ i = .int .i64 k ∧ RowAt wr (w.heap.size + 1 + 1) (bysA (outP s k)) ∧ Below (w.heap.size + 1 + 1) W1 wr) (fun i _ => 64 - (intOf i).toNat)
  case atStart => exact ⟨0, by decide, rfl, K0.out, Below.refl _ _⟩
  case round =>
    obtain ⟨k, hk, rfl, hrow, hbel⟩ := hrel
    by_cases hk64 : k < 64
    · have hk0 : (0 : Int) ≤ (k : Int) := by omega
      have hk1 : (k : Int) < 64 := by omega
      have hq : (k : Int).tdiv 4 = ((k / 4 : Nat) : Int) := rfl
      have hm : (k : Int).tmod 4 = ((k % 4 : Nat) : Int) := rfl
      have hc := wos_cell (R0.out.keep hbel (by omega)) (k / 4) (by omega)
      have hck := hrow.cellAt k (bysA_get _ k (by rw [outP_length]; exact hk64))
      have hfk := hrow.frozenAt k
      have Hset := Lib.hid (outP_set s k hk64)
      have h0 : (0 : Int) ≤ ((k / 4 : Nat) : Int) := by omega
      have h8 : ((k / 4 : Nat) : Int) < 16 := by omega
      obtain ⟨m, em⟩ : ∃ y, y = k % 4 * 8 := ⟨_, rfl⟩
      have h1 : IntKind.i64.wrap (((k % 4 : Nat) : Int) * 8) = (m : Int) := by rw [IntWalk.i64_in _ (by omega)]; omega
      have hm0 : (0 : Int) ≤ (m : Int) := by omega
      have hm1 : (m : Int) ≤ 32 := by omega
      obtain ⟨v, ev⟩ : ∃ v, v = oB s k := ⟨_, rfl⟩
      rw [← ev] at Hset
      have hv : s.getD (k / 4) 0 / 2 ^ m % 256 = (v : Int) := by rw [ev, oI_nat, em]; rfl
      clear em ev
      generalize s.getD (k / 4) 0 = x at hc hv
      have hqw : IntKind.i64.wrap ((k / 4 : Nat) : Int) = ((k / 4 : Nat) : Int) := IntWalk.i64_in _ (by omega)
      generalize k / 4 = q at *
      generalize k % 4 = r4 at *
      have Hrow := Lib.hid hrow
      have Hbel := Lib.hid hbel
      clear hrow hbel
      go_wp2_with fail
      go_roundw
      case rel =>
        refine ⟨k + 1, by omega, by go_num, ?_, ?_⟩
        · rw [← Hset.out, ← bysA_set]; exact Hrow.out.setCell _ _
        · exact Hbel.out.setCell (p := ⟨_, _, none⟩) (Nat.le_refl _) _
      case measure => simp [intOf]; omega
    · obtain rfl : k = 64 := by omega
      rw [outP_all] at hrow
      obtain ⟨q1, q2, q3⟩ := Q0.out.keep hbel (by omega)
      obtain ⟨r1, r2, r3⟩ := hrow
      have hz := bysA_size' (outP_length s 0)
      have hy := bysA_size' (outB_length s)
      have Hbel := Lib.hid hbel
      clear hbel
      go_wp2_with fail
      refine bodyPost_ret (v := .agg (bysA (outB s))) (results_b64 Tryd.results65 hy _ _ _ rfl (by go_simp) (by go_simp)) rfl ⟨rfl, ?_⟩
      exact below_setRow (B0.out.trans (Hbel.out.mono (by omega))) (by omega) _
end Go.Proofs.YtnkfiljmgbnbkaaDoor

/-
  Package chacha: a block's first words; a block.
-/
namespace Go.Proofs.YtnkfiljmgbnbkaaDoor
open Go.RowKit Go.Hold Go.Sh Go.Ch

set_option maxHeartbeats 1000000 in
set_option maxRecDepth 100000 in
theorem firstWords_c (k n : List Nat) (c : Int) (hk : k.length = 32) (hkb : ∀ i, k.getD i 0 < 256) (hn : n.length = 12) (hnb : ∀ i, n.getD i 0 < 256) (w : World) :
    Calls Tryd.prog 63 #[.agg (bysA k), .agg (bysA n), .int .u32 c] w fun e w' => e = .returned (.agg (wosA (fst k n c))) ∧ Below w.heap.size w w' := by
  have hks := bysA_size' hk
  have hns := bysA_size' hn
  have hcs := wosA_size' cst0_length
  go_enter Tryd.func63, Tryd.ntmps63
  go_wp2_with fail
  generalize hW : World.alloc _ _ = W1
  have K1 := Lib.hid (show RowAt W1 w.heap.size (bysA k) by rw [← hW]; clear hW; exact ⟨by go_simp, by go_simp, by go_simp⟩)
  have N1 := Lib.hid (show RowAt W1 (w.heap.size + 1) (bysA n) by rw [← hW]; clear hW; exact ⟨by go_simp, by go_simp, by go_simp⟩)
  obtain ⟨z0, hz0, hR0⟩ : ∃ c : Array Value, c.size = 16 ∧ RowAt W1 (w.heap.size + 1 + 1) c := by rw [← hW]; clear hW; exact ⟨wosA (List.replicate 16 0), by rw [wosA_size]; rfl, by go_simp, by go_simp; rfl, by go_simp⟩
  have C1 := Lib.hid (show RowAt W1 (w.heap.size + 1 + 1 + 1) (wosA cst0) by rw [← hW]; clear hW; exact ⟨by go_simp, by go_simp, by go_simp⟩)
  have B1 := Lib.hid (show Below w.heap.size w W1 by rw [← hW]; repeat (first | apply below_more | apply below_alloc | apply Below.drew | exact Below.refl _ _))
  have R1 := Lib.hid hR0
  clear hW hR0
  have l0 : w.heap.size ≤ w.heap.size + 1 + 1 + 1 := by omega
  have l1 : w.heap.size ≤ w.heap.size + 1 + 1 := by omega
  have e0 : w.heap.size ≠ w.heap.size + 1 + 1 + 1 := by omega
  have e1 : w.heap.size + 1 ≠ w.heap.size + 1 + 1 + 1 := by omega
  have e2 : w.heap.size + 1 + 1 ≠ w.heap.size + 1 + 1 + 1 := by omega
  generalize w.heap.size + 1 + 1 + 1 = gc at *
  generalize w.heap.size + 1 + 1 = gr at *
  generalize w.heap.size + 1 = gn at *
  have HP := Lib.hid (put_c gc w.heap.size 4 32 32 cst0 k W1 hk.symm cst0_length cst0_zero (by decide) hkb C1.out (bytes_row K1.out) e0)
  refine HP.out.mono ?_
  rintro e W2 ⟨rfl, hS2⟩
  have N2 := Lib.hid (hS2.old N1.out e1)
  have R2 := Lib.hid (hS2.old R1.out e2)
  have C2 := Lib.hid (hS2.row C1.out)
  have B2 := Lib.hid (hS2.below B1.out l0 B1.out.size)
  clear hS2 HP K1 N1 R1 C1 B1
  have hc12 := wos_cell C2.out 12 (by rw [wput_length]; decide)
  have hf12 := C2.out.frozenAt 12
  have S3 := Lib.hid ((Sets.refl C2.out).cell (i := 12) (v := .int .u32 c) C2.out)
  go_wp2_with fail
  generalize hW : World.setCell _ _ _ = W3
  rw [hW] at S3
  clear hW hc12 hf12
  have hS3 := S3.out
  rw [wosA_set] at hS3
  have N3 := Lib.hid (hS3.old N2.out e1)
  have R3 := Lib.hid (hS3.old R2.out e2)
  have C3 := Lib.hid (show RowAt W3 gc (wosA (mid k c)) from hS3.row C2.out)
  have B3 := Lib.hid (hS3.below B2.out l0 B2.out.size)
  clear hS3 S3 N2 R2 C2 B2
  have HP := Lib.hid (put_c gc gn 13 12 12 (mid k c) n W3 hn.symm (mid_length k c) (mid_zero k c) (by decide) hnb C3.out (bytes_row N3.out) e1)
  rw [nonce_in] at HP
  refine HP.out.mono ?_
  rintro e W4 ⟨rfl, hS4⟩
  obtain ⟨r1, r2, r3⟩ := hS4.old R3.out e2
  obtain ⟨c1, c2, c3⟩ := hS4.row C3.out
  have B4 := Lib.hid (hS4.below B3.out l0 B3.out.size)
  have hfz := wosA_size' (fst_length k n c)
  clear hS4 HP N3 R3 C3 B3
  go_wp2_with fail
  refine bodyPost_ret (v := .agg (wosA (fst k n c))) (results_cw Tryd.results63 hfz _ _ _ rfl (by go_simp) (by go_simp)) rfl ⟨rfl, ?_⟩
  exact below_setRow B4.out l1 _

set_option maxHeartbeats 1000000 in
set_option maxRecDepth 100000 in
theorem chablock_c (k n : List Nat) (c : Nat) (hk : k.length = 32) (hkb : ∀ i, k.getD i 0 < 256) (hn : n.length = 12) (hnb : ∀ i, n.getD i 0 < 256) (w : World) :
    Calls Tryd.prog 55 #[.agg (bysA k), .agg (bysA n), .int .u32 (c : Int)] w fun e w' => e = .returned (.agg (bysA (blk k n c))) ∧ Below w.heap.size w w' := by
  have hks := bysA_size' hk
  have hns := bysA_size' hn
  have HF := Lib.hid (firstWords_c k n (c : Int) hk hkb hn hnb)
  have Hb := Lib.hid (blk_eq k n c)
  have hlf := fst_length k n (c : Int)
  generalize fst k n (c : Int) = F at *
  have hFs := wosA_size' hlf
  have Hlf := Lib.hid hlf
  clear hlf hk hkb hn hnb
  go_enter Tryd.func55, Tryd.ntmps55
  go_wp2_with fail
  generalize hW : World.alloc _ _ = W1
  obtain ⟨z0, hz0, hR0⟩ : ∃ c : Array Value, c.size = 64 ∧ RowAt W1 (w.heap.size + 1 + 1) c := by rw [← hW]; clear hW; exact ⟨bysA (zs 64), by rw [bysA_size]; rfl, by go_simp, by go_simp; rfl, by go_simp⟩
  have R1 := Lib.hid hR0
  have B1 := Lib.hid (show Below w.heap.size w W1 by rw [← hW]; repeat (first | apply below_more | apply below_alloc | apply Below.drew | exact Below.refl _ _))
  clear hW hR0
  have l1 : w.heap.size ≤ w.heap.size + 1 + 1 := by omega
  generalize w.heap.size + 1 + 1 = gr at *
  refine (HF.out _).mono ?_
  rintro e W2 ⟨rfl, hb2⟩
  have R2 := Lib.hid (R1.out.grow hb2)
  have B2 := Lib.hid (B1.out.trans (hb2.mono B1.out.size))
  clear hb2 R1 B1 HF
  have l2 : w.heap.size ≤ W2.heap.size := B2.out.size
  have l3 : gr < W2.heap.size := R2.out.2.2
  go_wp2_with fail
  generalize hW : World.alloc _ _ = W3
  have F3 := Lib.hid (show RowAt W3 W2.heap.size (wosA F) by rw [← hW]; clear hW; exact ⟨by go_simp, by go_simp, by go_simp⟩)
  have C3 := Lib.hid (show RowAt W3 (W2.heap.size + 1) (wosA F) by rw [← hW]; clear hW; exact ⟨by go_simp, by go_simp, by go_simp⟩)
  have R3 := Lib.hid (show RowAt W3 gr z0 by rw [← hW]; exact R2.out.grow (below_alloc (below_alloc (Below.refl _ _) _) _))
  have B3 := Lib.hid (show Below w.heap.size w W3 by rw [← hW]; exact below_alloc (below_alloc B2.out _) _)
  clear hW R2 B2
  have e1 : gr ≠ W2.heap.size + 1 := by omega
  have e2 : W2.heap.size ≠ W2.heap.size + 1 := by omega
  have l4 : w.heap.size ≤ W2.heap.size + 1 := by omega
  generalize W2.heap.size + 1 = gc at *
  generalize W2.heap.size = gf at *
  go_loopw [15] (fun i wr => ∃ m : Nat, m ≤ 10 ∧ i = .int .i64 m ∧ Sets W3 gc (wosA (drnds F m)) wr) (fun i _ => 10 - (intOf i).toNat)
  case atStart => exact ⟨0, by decide, rfl, Sets.refl C3.out⟩
  case round =>
    obtain ⟨m, hm, rfl, hset⟩ := hrel
    by_cases hm10 : m < 10
    · have hm0 : (m : Int) < 10 := by omega
      have HQ := Lib.hid (doubleRound_c gc (drnds F m) wr (by rw [drnds_length, Hlf.out]) (hset.row C3.out))
      have HS := Lib.hid hset
      clear hset
      go_wp2_with fail
      refine HQ.out.mono ?_
      rintro e W ⟨rfl, hW⟩
      have HW := Lib.hid (HS.out.trans C3.out hW)
      clear hW
      go_wp2_with fail
      go_roundw
      case rel => exact ⟨m + 1, by omega, by go_num, HW.out⟩
      case measure => simp [intOf]; omega
    · obtain rfl : m = 10 := by omega
      have hlD : (drnds F 10).length = 16 := by rw [drnds_length, Hlf.out]
      have HlD := Lib.hid hlD
      generalize drnds F 10 = D at *
      have HS := Lib.hid hset
      clear hset hlD
      rw [show ((10 : Nat) : Int) = 10 from rfl]
      go_wp2_with fail
      have S4 := Lib.hid (show Sets W3 gc (wosA (sumW D F 0)) wr by rw [sumW_zero D F HlD.out]; exact HS.out)
      obtain ⟨W4, eW4⟩ : ∃ x, x = wr := ⟨_, rfl⟩
      rw [← eW4] at S4 ⊢
      clear eW4 HS
      go_loopw [19] (fun i wr => ∃ m : Nat, m ≤ 16 ∧ i = .int .i64 m ∧ Sets W3 gc (wosA (sumW D F m)) wr) (fun i _ => 16 - (intOf i).toNat)
      case atStart => exact ⟨0, by decide, rfl, S4.out⟩
      case round =>
        obtain ⟨m, hm, rfl, hset⟩ := hrel
        by_cases hm16 : m < 16
        · have hm0 : (m : Int) < 16 := by omega
          have hm1 : (0 : Int) ≤ (m : Int) := by omega
          have hrow := hset.row C3.out
          have hca := hrow.cellAt m (wosA_get' _ _ (sumW_get D F m m hm16))
          rw [if_neg (by omega)] at hca
          have hcb := wos_cell (hset.old F3.out e2) m (by rw [Hlf.out]; exact hm16)
          have Hset := Lib.hid (sumW_set D F m hm16)
          generalize D.getD m 0 = xd at hca Hset
          generalize F.getD m 0 = xf at hcb Hset
          have hgl := hrow.2.2
          have hgf := (hset.old F3.out e2).2.2
          have HS := Lib.hid hset
          clear hset hrow
          go_wp2_with fail
          refine wp_region_pick wr [0, 1, 2, 3, 4, 5, 6, 7] [false, false, false, false, false, false, false, false] [] [] 8 (by kernel_rfl) rfl (by kernel_rfl) (by intro c a d v w h; cases d <;> exact h) ((Below.refl _ _).drew) ?_
          simp only [pick, List.getElem?_cons_succ, List.getElem?_cons_zero, List.drop_succ_cons, List.drop_zero]
          iterate 8 (refine wpHoldF_val (wanted_none rfl) (by intro K o d hK; go_simp; exact hK _ (Below.refl _ _)) ?_)
          refine wpHoldF_nil ?_
          intro w2 hb2 _
          have S2 := Lib.hid (HS.out.grow hb2)
          have hc2 : w2.cell? ⟨gc, m, none⟩ = some (.int .u32 xd) := by rw [hb2.cell hgl]; exact hca
          have hf2 := (S2.out.row C3.out).frozenAt m
          clear hb2 hca hcb HS
          go_wp2_with fail
          go_roundw
          case rel =>
            refine ⟨m + 1, by omega, by go_num, ?_⟩
            rw [← Hset.out, ← wosA_set]; exact S2.out.cell C3.out
          case measure => simp [intOf]; omega
        · obtain rfl : m = 16 := by omega
          rw [sumW_all] at hset
          obtain ⟨c1, c2, c3⟩ := hset.row C3.out
          have hz := wosA_size' (sum16_length D F)
          have HQ := Lib.hid (wblock_c (sum16 D F) (sum16_length D F) wr)
          have R5 := Lib.hid (hset.old R3.out e1)
          have B5 := Lib.hid (hset.below B3.out l4 B3.out.size)
          clear hset
          go_wp2_with fail
          refine HQ.out.mono ?_
          rintro e W6 ⟨rfl, hb6⟩
          obtain ⟨r1, r2, r3⟩ := R5.out.grow hb6
          have B6 := Lib.hid (B5.out.trans (hb6.mono B5.out.size))
          have hy := bysA_size' (outB_length (sum16 D F))
          clear hb6
          go_wp2_with fail
          refine bodyPost_ret (v := .agg (bysA (outB (sum16 D F)))) (results_b64 Tryd.results55 hy _ _ _ rfl (by go_simp) (by go_simp)) rfl ⟨by rw [Hb.out], ?_⟩
          exact below_setRow B6.out l1 _
end Go.Proofs.YtnkfiljmgbnbkaaDoor

/-
  Bytes go over those of a row, from a place on.
-/
namespace Go.Proofs.YtnkfiljmgbnbkaaDoor
open Go.RowKit Go.Hold Go.Sh

theorem setL_at (r l : List Nat) (u : Nat) (h : u + l.length ≤ r.length) : setL (bysA r) u (bys l) = bysA (r.take u ++ l ++ r.drop (u + l.length)) := by
  apply Array.ext_getElem?
  intro i
  rw [setL_get, bys_length, bysA_size]
  have hn : (r.take u ++ l ++ r.drop (u + l.length)).length = r.length := by simp; omega
  by_cases hi : i < r.length
  · rw [bysA_get (r.take u ++ l ++ r.drop (u + l.length)) i (by rw [hn]; exact hi)]
    by_cases h1 : u ≤ i ∧ i < u + l.length
    · rw [if_pos (by omega)]
      simp only [bys, List.getElem?_map, List.getD]
      rw [List.append_assoc, List.getElem?_append_right (by simp; omega), List.getElem?_append_left (by simp; omega)]
      simp only [List.length_take]
      rw [show min u r.length = u by omega, List.getElem?_eq_getElem (by omega)]
      rfl
    · rw [if_neg (by omega), bysA_get _ i hi]
      congr 3
      simp only [List.getD]
      by_cases h2 : i < u
      · rw [List.append_assoc, List.getElem?_append_left (by simp; omega), List.getElem?_take, if_pos h2]
      · rw [List.getElem?_append_right (by simp; omega), List.getElem?_drop]
        congr 2
        simp only [List.length_append, List.length_take]; omega
  · rw [if_neg (by omega), Array.getElem?_eq_none (by rw [bysA_size]; omega), Array.getElem?_eq_none (by rw [bysA_size, hn]; omega)]
theorem copy_at {W : World} {g u c2 cap d s k : Nat} {p : Option Addr} {r l : List Nat} (h : RowAt W g (bysA r)) (hu : u ≤ r.length) (hd : d = r.length - u) (hs : s = l.length) (hk : k = min l.length (r.length - u)) (hB : Bs0 W p l) :
    (Builtin.copy_ #[24, 24] 3 #[.slice (some ⟨g, u, none⟩) d c2, .slice p s cap]).run Tryd.prog W = .ok (.int .i64 (k : Int)) (W.setRow g (bysA (r.take u ++ l.take k ++ r.drop (u + k)))) := by
  subst hd hs
  rcases hB with rfl | ⟨b, o, rfl, hB⟩
  · have hk0 : k = 0 := by simpa using hk
    subst hk0
    rw [List.take_zero, List.append_nil, Nat.add_zero, List.take_append_drop, setRow_self h]
    exact copy_none W _ _ _ _ _
  · have hl : (bys (l.take k)).length = k := by rw [bys_length, List.length_take]; omega
    have hi : (Tryd.prog.info? 5).map (·.size) = some 1 := by kernel_rfl
    have := run_copy_cells (P := Tryd.prog) W 24 24 3 5 g u (r.length - u) c2 ⟨b, o, none⟩ l.length cap (bys (l.take k)) Tryd.underlying24 hi (by rw [hl, hk])
      (fun j v hv => by
        have hj : j < k := by have := (List.getElem?_eq_some_iff.1 hv).1; omega
        rw [Addr.add_mid, hB.2 j (by omega), ← hv]
        simp only [bys, List.getElem?_map, List.getElem?_take, if_pos hj, List.getD]
        rw [List.getElem?_eq_getElem (by omega)]; rfl)
      (fun j hj => by rw [h.cellAt (u + j) (Array.getElem?_eq_getElem (by rw [bysA_size]; omega))]; rfl)
      (fun j _ => h.frozenAt _) (bys_one _)
    rw [this, hl, setCells_row _ _ h, setL_at _ _ _ (by rw [List.length_take]; omega)]
    rw [show (l.take k).length = k by rw [List.length_take]; omega]
    rfl
end Go.Proofs.YtnkfiljmgbnbkaaDoor

/-
  Package chacha: so many bytes of a stream.
-/
namespace Go.Proofs.YtnkfiljmgbnbkaaDoor
open Go.RowKit Go.Hold Go.Sh Go.Ch

set_option maxHeartbeats 400000 in
theorem blocksOf_c (n : Nat) (hn : n ≤ 1000000) (w : World) : Calls Tryd.prog 54 #[.int .i64 (n : Int)] w fun e w' => e = .returned (.int .i64 (((n + 63) / 64 : Nat) : Int)) ∧ w' = w := by
  have h1 : IntKind.i64.wrap ((n : Int) + 64) = ((n + 64 : Nat) : Int) := by rw [IntWalk.i64_in _ (by omega)]; omega
  have h2 : IntKind.i64.wrap (((n + 64 : Nat) : Int) - 1) = ((n + 63 : Nat) : Int) := by rw [IntWalk.i64_in _ (by omega)]; omega
  have h3 : ((n + 63 : Nat) : Int).tdiv 64 = (((n + 63) / 64 : Nat) : Int) := rfl
  have h4 : IntKind.i64.wrap (((n + 63) / 64 : Nat) : Int) = (((n + 63) / 64 : Nat) : Int) := by rw [IntWalk.i64_in _ (by omega)]
  generalize (((n + 63) / 64 : Nat) : Int) = x at *
  generalize ((n + 63 : Nat) : Int) = y at *
  generalize ((n + 64 : Nat) : Int) = z at *
  go_enter Tryd.func54, Tryd.ntmps54
  go_wp2_with fail
  go_ret
  exact ⟨rfl, rfl⟩

set_option maxHeartbeats 400000 in
set_option maxRecDepth 100000 in
/-- What is refused. -/
theorem stream_bad (k n : List Nat) (c : Nat) (z er : Int) (hc : c < 4294967296) (w : World)
    (h : z < 0 ∧ er = 2 ∨ 65536 < z ∧ er = 3 ∨ 0 ≤ z ∧ z ≤ 65536 ∧ 4294967296 < c + (z.toNat + 63) / 64 ∧ er = 3) :
    Calls Tryd.prog 44 #[.agg (bysA k), .agg (bysA n), .int .u32 (c : Int), .int .i64 z] w fun e w' => e = .returned (.tuple #[.slice none 0 0, .int .i64 er]) ∧ Below w.heap.size w w' := by
  rcases h with ⟨h1, rfl⟩ | ⟨h1, rfl⟩ | ⟨h0, h1, h2, rfl⟩
  · go_enter Tryd.func44, Tryd.ntmps44
    go_wp2_with fail
    refine bodyPost_ret (v := .tuple #[.slice none 0 0, .int .i64 2]) (results_tmp2 Tryd.results44 _ _ _) rfl ⟨rfl, by repeat (first | apply below_alloc | exact Below.refl _ _)⟩
  · have h0 : ¬ z < 0 := by omega
    go_enter Tryd.func44, Tryd.ntmps44
    go_wp2_with fail
    refine bodyPost_ret (v := .tuple #[.slice none 0 0, .int .i64 3]) (results_tmp2 Tryd.results44 _ _ _) rfl ⟨rfl, by repeat (first | apply below_alloc | exact Below.refl _ _)⟩
  · obtain ⟨m, rfl⟩ : ∃ m : Nat, z = (m : Int) := ⟨z.toNat, by omega⟩
    rw [Int.toNat_natCast] at h2
    have h3 : ¬ (m : Int) < 0 := by omega
    have h4 : ¬ (65536 : Int) < (m : Int) := by omega
    have HB := Lib.hid (blocksOf_c m (by omega))
    obtain ⟨x, ex⟩ : ∃ x, x = (m + 63) / 64 := ⟨_, rfl⟩
    rw [← ex] at HB h2
    have h5 : IntKind.u64.wrap (c : Int) = (c : Int) := IntWalk.u64_in _ (by omega)
    have h6 : IntKind.u64.wrap (x : Int) = (x : Int) := IntWalk.u64_in _ (by omega)
    have h7 : IntKind.u64.wrap ((c : Int) + (x : Int)) = ((c + x : Nat) : Int) := by rw [IntWalk.u64_in _ (by omega)]; omega
    have h8 : (4294967296 : Int) < ((c + x : Nat) : Int) := by omega
    generalize ((c + x : Nat) : Int) = y at *
    clear ex
    go_enter Tryd.func44, Tryd.ntmps44
    go_wp2_with fail
    refine (HB.out _).mono ?_
    rintro e w' ⟨rfl, hwE⟩
    rw [hwE]
    clear hwE w'
    go_wp2_with fail
    refine bodyPost_ret (v := .tuple #[.slice none 0 0, .int .i64 3]) (results_tmp2 Tryd.results44 _ _ _) rfl ⟨rfl, by repeat (first | apply below_alloc | exact Below.refl _ _)⟩

set_option maxHeartbeats 1000000 in
set_option maxRecDepth 100000 in
theorem stream_c (k n : List Nat) (c m : Nat) (hk : k.length = 32) (hkb : ∀ i, k.getD i 0 < 256) (hn : n.length = 12) (hnb : ∀ i, n.getD i 0 < 256) (hm : m ≤ 65536) (hc : c + (m + 63) / 64 ≤ 4294967296) (hc' : c < 4294967296) (w : World) :
    Calls Tryd.prog 44 #[.agg (bysA k), .agg (bysA n), .int .u32 (c : Int), .int .i64 (m : Int)] w fun e w' => ∃ g, e = .returned (.tuple #[.slice (some ⟨g, 0, none⟩) m m, .int .i64 0]) ∧ RowAt w' g (bysA (strm k n c m)) ∧ w.heap.size ≤ g ∧ Below w.heap.size w w' := by
  have hks := bysA_size' hk
  have hns := bysA_size' hn
  have h3 : ¬ (m : Int) < 0 := by omega
  have h4 : ¬ (65536 : Int) < (m : Int) := by omega
  have HB := Lib.hid (blocksOf_c m (by omega))
  obtain ⟨x, ex⟩ : ∃ x, x = (m + 63) / 64 := ⟨_, rfl⟩
  rw [← ex] at HB hc
  have h5 : IntKind.u64.wrap (c : Int) = (c : Int) := IntWalk.u64_in _ (by omega)
  have h6 : IntKind.u64.wrap (x : Int) = (x : Int) := IntWalk.u64_in _ (by omega)
  have h7 : IntKind.u64.wrap ((c : Int) + (x : Int)) = ((c + x : Nat) : Int) := by rw [IntWalk.u64_in _ (by omega)]; omega
  have h8 : ¬ (4294967296 : Int) < ((c + x : Nat) : Int) := by omega
  generalize ((c + x : Nat) : Int) = y at *
  have Ex := Lib.hid ex
  have Hc := Lib.hid hc
  have Hm := Lib.hid hm
  have hxb : (x : Int) ≤ 2000 := by omega
  clear ex hc hm
  have hmk := fun W => run_mkS W m (by have := Hm.out; omega)
  have HBl := Lib.hid (fun c' => chablock_c k n c' hk hkb hn hnb)
  clear hk hkb hn hnb
  go_enter Tryd.func44, Tryd.ntmps44
  go_wp2_with fail
  refine (HB.out _).mono ?_
  rintro e w' ⟨rfl, hwE⟩
  rw [hwE]
  clear hwE w'
  go_wp2_with fail
  generalize hW : World.alloc _ _ = W1
  have K1 := Lib.hid (show RowAt W1 w.heap.size (bysA k) by rw [← hW]; clear hW; exact ⟨by go_simp, by go_simp, by go_simp⟩)
  have N1 := Lib.hid (show RowAt W1 (w.heap.size + 1) (bysA n) by rw [← hW]; clear hW; exact ⟨by go_simp, by go_simp, by go_simp⟩)
  have S1 := Lib.hid (show RowAt W1 (w.heap.size + 1 + 1) (bysA (strP k n c m (64 * 0))) by rw [← hW, Nat.mul_zero, strP_zero]; clear hW; exact ⟨by go_simp, by go_simp, by go_simp⟩)
  have B1 := Lib.hid (show Below w.heap.size w W1 by rw [← hW]; repeat (first | apply below_more | apply below_alloc | apply Below.drew | exact Below.refl _ _))
  clear hW
  have l0 : w.heap.size ≤ w.heap.size + 1 + 1 := by omega
  have e0 : w.heap.size ≠ w.heap.size + 1 + 1 := by omega
  have e1 : w.heap.size + 1 ≠ w.heap.size + 1 + 1 := by omega
  generalize w.heap.size + 1 + 1 = g at *
  generalize w.heap.size + 1 = gn at *
  go_loopw [29] (fun i wr => ∃ j : Nat, j ≤ x ∧ i = .int .i64 j ∧ Sets W1 g (bysA (strP k n c m (64 * j))) wr) (fun i _ => x - (intOf i).toNat)
  case atStart => exact ⟨0, Nat.zero_le _, rfl, Sets.refl S1.out⟩
  case round =>
    obtain ⟨j, hj, rfl, hset⟩ := hrel
    by_cases hjx : j < x
    · have hj0 : (j : Int) < (x : Int) := by omega
      have hju : 64 * j < m := by have := Ex.out; omega
      have hjw : IntKind.u32.wrap (j : Int) = (j : Int) := IntWalk.u32_in _ (by have := Hm.out; omega)
      obtain ⟨cj, ecj⟩ : ∃ y, y = c + j := ⟨_, rfl⟩
      have hcj : add32 (c : Int) (j : Int) = (cj : Int) := by unfold add32; rw [IntWalk.u32_in _ (by have := Hc.out; omega), ecj]; omega
      obtain ⟨k1, k2, k3⟩ := hset.old K1.out e0
      obtain ⟨n1, n2, n3⟩ := hset.old N1.out e1
      have hgl := (hset.row S1.out).2.2
      obtain ⟨u, eu⟩ : ∃ u, u = 64 * j := ⟨_, rfl⟩
      have hjm : IntKind.i64.wrap ((j : Int) * 64) = (u : Int) := by rw [IntWalk.i64_in _ (by have := Hm.out; omega), eu]; omega
      have hsl := slB_lo g 0 m m u (by omega)
      rw [show adv 0 u m = u by unfold adv; rw [if_neg (by omega), Nat.zero_add]] at hsl
      obtain ⟨t, et⟩ : ∃ t, t = min 64 (m - u) := ⟨_, rfl⟩
      have Hst := Lib.hid (strP_step k n c m j t hju (by rw [et, eu]))
      rw [← ecj, ← eu] at Hst
      rw [← eu] at hset
      have hPl := strP_length k n c m u
      have hbl := blk_length k n cj
      have hbz := bysA_size' hbl
      have HBj := Lib.hid (HBl.out cj wr)
      generalize blk k n cj = b at *
      generalize strP k n c m u = P at *
      have Et := Lib.hid et
      have Eu := Lib.hid eu
      have HPl := Lib.hid hPl
      have Hbl := Lib.hid hbl
      have Hju := Lib.hid hju
      have HS := Lib.hid hset
      clear hset ecj eu et hPl hbl hju
      go_wp2_with fail
      refine HBj.out.mono ?_
      rintro e W2 ⟨rfl, hb2⟩
      have S2 := Lib.hid (HS.out.grow hb2)
      clear hb2 k1 k2 k3 n1 n2 n3
      go_wp2_with fail
      generalize hW : World.alloc _ _ = W3
      have b3 := Lib.hid (show RowAt W3 W2.heap.size (bysA b) by rw [← hW]; clear hW; exact ⟨by go_simp, by go_simp, by go_simp⟩)
      have S3 := Lib.hid (show Sets W1 g (bysA P) W3 by rw [← hW]; exact S2.out.grow (below_alloc (Below.refl _ _) _))
      clear hW S2
      generalize W2.heap.size = gb at *
      refine wp_region_pickT W3 [0, 1, 2, 3, 4] [true, true, true, true, true] [5] (by kernel_rfl) (by kernel_rfl) (by intro c a d v w h; cases d <;> exact h) ((Below.refl _ _).drew) ?_
      simp only [pick, List.getElem?_cons_succ, List.getElem?_cons_zero]
      iterate 5 (refine wpHoldF_late (wanted_none rfl) (fun w => by go_simp; rfl) ?_)
      refine wpHoldF_nil ?_
      intro W4 hb4
      have S4 := Lib.hid (S3.out.grow hb4)
      have hcp := copy_at (c2 := m - u) (cap := 64) (d := m - u) (s := 64) (u := u) (k := t) (S4.out.row S1.out) (by rw [HPl.out, Eu.out]; have := Hju.out; omega) (by rw [HPl.out]) Hbl.out.symm (by rw [HPl.out, Hbl.out, Et.out]) (Bs0.some (bytes_row (b3.out.grow hb4)))
      rw [Hst.out] at hcp
      have S5 := Lib.hid (S4.out.set (c' := bysA (strP k n c m (64 * (j + 1)))) S1.out)
      generalize W4.setRow g (bysA (strP k n c m (64 * (j + 1)))) = W5 at *
      clear hb4
      go_wp2_with fail
      go_roundw
      case rel => exact ⟨j + 1, by omega, by go_num, S5.out⟩
      case measure => simp [intOf]; omega
    · obtain rfl : j = x := by omega
      have R2 := Lib.hid (hset.row S1.out)
      have B2 := Lib.hid (hset.below B1.out l0 B1.out.size)
      clear hset
      go_wp2_with fail
      refine bodyPost_ret (v := .tuple #[.slice (some ⟨g, 0, none⟩) m m, .int .i64 0]) (results_tmp2 Tryd.results44 _ _ _) rfl ⟨g, rfl, ?_, l0, B2.out⟩
      have h1 := R2.out
      rw [strP_all k n c m _ (by have := Ex.out; omega)] at h1
      exact h1
end Go.Proofs.YtnkfiljmgbnbkaaDoor

/-
  Package chacha: bytes, each turned by one of the stream.
-/
namespace Go.Proofs.YtnkfiljmgbnbkaaDoor
open Go.RowKit Go.Hold Go.Sh Go.Ch

set_option maxHeartbeats 400000 in
set_option maxRecDepth 100000 in
/-- What is refused. -/
theorem xor_bad (k n : List Nat) (c m cap : Nat) (p : Option Addr) (hk : k.length = 32) (hn : n.length = 12) (hc : c < 4294967296) (w : World) (h : 65536 < m ∨ m ≤ 65536 ∧ 4294967296 < c + (m + 63) / 64) :
    Calls Tryd.prog 31 #[.agg (bysA k), .agg (bysA n), .int .u32 (c : Int), .slice p m cap] w fun e w' => e = .returned (.tuple #[.slice none 0 0, .int .i64 3]) ∧ Below w.heap.size w w' := by
  have hks := bysA_size' hk
  have hns := bysA_size' hn
  have HS := Lib.hid (fun W => stream_bad k n c (m : Int) 3 hc W (by omega))
  go_enter Tryd.func31, Tryd.ntmps31
  go_wp2_with fail
  refine (HS.out _).mono ?_
  rintro e W2 ⟨rfl, hb2⟩
  have B2 := Lib.hid ((below_alloc (below_alloc (Below.refl w.heap.size w) (.cells (bysA k) 23)) (.cells (bysA n) 35)).trans (hb2.mono (by simp; omega)))
  clear hb2
  go_wp2_with fail
  refine bodyPost_ret (v := .tuple #[.slice none 0 0, .int .i64 3]) (results_tmp2 Tryd.results31 _ _ _) rfl ⟨rfl, B2.out⟩

set_option maxHeartbeats 1000000 in
set_option maxRecDepth 100000 in
theorem xor_c (k n l : List Nat) (c m cap : Nat) (p : Option Addr) (hk : k.length = 32) (hkb : ∀ i, k.getD i 0 < 256) (hn : n.length = 12) (hnb : ∀ i, n.getD i 0 < 256) (hl : m = l.length) (hlb : ∀ i, l.getD i 0 < 256)
    (hm : m ≤ 65536) (hc : c + (m + 63) / 64 ≤ 4294967296) (hc' : c < 4294967296) (w : World) (hB : Bs0 w p l) :
    Calls Tryd.prog 31 #[.agg (bysA k), .agg (bysA n), .int .u32 (c : Int), .slice p m cap] w fun e w' => ∃ g, e = .returned (.tuple #[.slice (some ⟨g, 0, none⟩) m m, .int .i64 0]) ∧ RowAt w' g (bysA (mixd (strm k n c m) l)) ∧ w.heap.size ≤ g ∧ Below w.heap.size w w' := by
  have hks := bysA_size' hk
  have hns := bysA_size' hn
  have HS := Lib.hid (fun W => stream_c k n c m hk hkb hn hnb hm hc hc' W)
  have hTl := strm_length k n c m
  have hTb := strm_bts k n c m
  generalize strm k n c m = T at *
  have HL := Lib.hid hl
  have HTl := Lib.hid hTl
  have HB := Lib.hid hB
  have hmi : (m : Int) ≤ 65536 := by omega
  clear hk hkb hn hnb hc hc' hB hl hTl
  go_enter Tryd.func31, Tryd.ntmps31
  go_wp2_with fail
  refine (HS.out _).mono ?_
  rintro e W2 ⟨g, rfl, hr2, hg, hb2⟩
  have l0 : w.heap.size ≤ g := by simp at hg; omega
  have B2 := Lib.hid ((below_alloc (below_alloc (Below.refl w.heap.size w) (.cells (bysA k) 23)) (.cells (bysA n) 35)).trans (hb2.mono (by simp; omega)))
  have R2 := Lib.hid (show RowAt W2 g (bysA (mixP T l 0)) by rw [mixP_zero T l (by rw [HTl.out, HL.out])]; exact hr2)
  have HB2 := Lib.hid (HB.out.grow B2.out)
  clear hb2 hr2 hg HS
  go_wp2_with fail
  go_loopw [28] (fun i wr => ∃ j : Nat, j ≤ m ∧ i = .int .i64 j ∧ Sets W2 g (bysA (mixP T l j)) wr) (fun i _ => m - (intOf i).toNat)
  case atStart => exact ⟨0, Nat.zero_le _, rfl, Sets.refl R2.out⟩
  case round =>
    obtain ⟨j, hj, rfl, hset⟩ := hrel
    by_cases hjm : j < m
    · have hj0 : (j : Int) < (m : Int) := by omega
      have hj1 : (0 : Int) ≤ (j : Int) := by omega
      have hjl : j < l.length := by rw [← HL.out]; exact hjm
      obtain ⟨b, o, rfl, hbw⟩ : ∃ b o, p = some ⟨b, o, none⟩ ∧ BytesAt w b o l := by
        rcases HB.out with h | h
        · rw [h] at hjl; simp at hjl
        · exact h
      have hbg : b ≠ g := by have := hbw.1; omega
      have hcb := (hset.bytes (hbw.grow B2.out) hbg).2 j hjl
      have hrow := hset.row R2.out
      have hca := hrow.cellAt j (bysA_get _ j (by rw [mixP_length]; exact hjl))
      rw [List.getD, mixP_get T l j j hjl, if_neg (by omega), Option.getD_some] at hca
      have hfa := hrow.frozenAt j
      have hx := u8_xor_nat (T.getD j 0) (l.getD j 0) (hTb j) (hlb j)
      have Hset := Lib.hid (mixP_set T l j hjl)
      generalize T.getD j 0 = y at *
      generalize l.getD j 0 = z at *
      generalize y ^^^ z = v at *
      have hgl := hrow.2.2
      have HSet := Lib.hid hset
      clear hset hrow hjl hbw
      go_wp2_with fail
      go_roundw
      case rel =>
        refine ⟨j + 1, by omega, by go_num, ?_⟩
        rw [← Hset.out, ← bysA_set]; exact HSet.out.cell R2.out
      case measure => simp [intOf]; omega
    · obtain rfl : j = m := by omega
      have R3 := Lib.hid (hset.row R2.out)
      have B3 := Lib.hid (hset.below B2.out l0 B2.out.size)
      clear hset
      go_wp2_with fail
      refine bodyPost_ret (v := .tuple #[.slice (some ⟨g, 0, none⟩) j j, .int .i64 0]) (results_tmp2 Tryd.results31 _ _ _) rfl ⟨g, rfl, ?_, l0, B3.out⟩
      have h1 := R3.out
      rw [HL.out, mixP_all] at h1
      exact h1
end Go.Proofs.YtnkfiljmgbnbkaaDoor

/-
  A nonce of a key.
-/
namespace Go.Proofs.YtnkfiljmgbnbkaaDoor
open Go.RowKit Go.Hold Go.Sh

/-! ### A nonce of a key -/
theorem arr_non (b o cap : Nat) (w : World) : (Instr.arrayAt 35 (.slice (some ⟨b, o, none⟩) 12 cap)).run Tryd.prog w = .ok (.pointer (some ⟨b, o, none⟩)) w := by
  simp [Instr.arrayAt, run_underlying Tryd.underlying35]
theorem load_non {w : World} {b o : Nat} {l : List Nat} (h : BytesAt w b o l) (hl : 12 ≤ l.length) : (loadRow 35 (.pointer (some ⟨b, o, none⟩))).run Tryd.prog w = .ok (.agg (bysA (l.take 12))) w := by
  have e : (Tryd.prog.info? 35).map (·.size) = some 12 := by kernel_rfl
  have hbl : (bys (l.take 12)).length = 12 := by rw [bys_length, List.length_take]; omega
  refine run_loadAt_mid w b o _ (bys (l.take 12)) _ (fun j v hv => ?_) Tryd.underlying35 rfl (by rw [hbl]; exact e)
  have hj : j < 12 := by have := (List.getElem?_eq_some_iff.1 hv).1; omega
  rw [h.2 j (by omega), ← hv]
  simp only [bys, List.getElem?_map, List.getElem?_take, if_pos hj, List.getD]
  rw [List.getElem?_eq_getElem (by omega)]; rfl
/-! ### A nonce that is built -/
@[go_sem ↓] theorem build_non (ps : Array (Nat × Value)) : Instr.build 35 ps = bldA 35 ps := rfl
set_option maxRecDepth 100000 in
@[go_sem] theorem run_bldNon0 (w : World) : (bldA 35 #[]).run Tryd.prog w = .ok (.agg (bysA (zs 12))) w := run_build w _ _ _ (by kernel_rfl)
end Go.Proofs.YtnkfiljmgbnbkaaDoor

/-
  As in Grow: a region that draws its order, whose operations make new memory; but the last of them (an answer's second part) may come behind the first that stores. Nothing is assumed.
-/
namespace Go.Hold
open Go Go.RowKit
section
variable {P : Program} {md : Region.Mode} {W : World} {Q : Exit → Act → World → Prop} {ops : Array Oper} {R : Nat → Value → World → Prop} {G : World → World → Prop}

theorem doneA_eq {listed : Array Bool} {D : List Nat} {n : Nat} (hls : listed.size = ops.size) (hl : ∀ i, i < ops.size → listed.getD i false = decide (i ∈ D)) (h1 : ∀ i, i ∈ D → i < n) (h2 : ∀ i, i < n → i ∈ D) : listed = doneA n ops.size := by
  apply Array.ext_getElem?
  intro i
  by_cases hi : i < ops.size
  · have e1 := hl i hi
    have e2 : listed[i]? = some (listed.getD i false) := by simp [hls, hi]
    rw [e2, e1]
    unfold doneA
    rw [Array.getElem?_map, Array.getElem?_range, if_pos hi]
    simp only [Option.map_some, Option.some.injEq]
    by_cases e : i < n
    · rw [decide_eq_true (h2 i e)]; exact ((show Nat.blt i n = true from by rw [Nat.blt_eq]; exact e)).symm
    · rw [decide_eq_false fun h => e (h1 i h)]
      cases hx : Nat.blt i n
      · rfl
      · exact absurd ((by rw [Nat.blt_eq] at hx; exact hx)) e
  · rw [Array.getElem?_eq_none (by omega), Array.getElem?_eq_none (by simp [doneA]; omega)]
def growLB (md : Region.Mode) (ops : Array Oper) (m t0 : Nat) (tr : List Nat) : Bool :=
  Region.noSelect ops && decide (m + 1 + (t0 :: tr).length = ops.size) && ((t0 :: tr).all fun i => decide (i < ops.size)) &&
  ((List.range (m + 1)).all fun i => match ops[i]? with
    | some o => edgesOk md i o && ((List.range (m + 1)).all fun j => !looksB ops o j || boundB md o j)
    | none => false) &&
  ((List.range (m + 1)).all fun i => (List.range (m + 1)).all fun j => Nat.beq i j || apartD (dstOf ops i) (dstOf ops j)) &&
  ((List.range ops.size).all fun t => Nat.blt t (m + 1) || match ops[t]? with
    | some o => (List.range m).all fun j => boundB md o j
    | none => false) &&
  seqT md ops (t0 :: tr) (doneA (m + 1) ops.size) &&
  ((Region.ready md ops (doneA m ops.size)).all fun i => Nat.beq i m || Nat.beq i t0) &&
  seqT md ops (m :: tr) ((doneA m ops.size).setIfInBounds t0 true)

theorem grow_anyL {l : List Oper} {m t0 : Nat} {tr : List Nat} {a : Act} (hop : ops = l.toArray) (hsel : Region.noSelect ops = true) (hsz : m + 1 + (t0 :: tr).length = ops.size) (hts : ∀ i ∈ t0 :: tr, i < l.length)
    (hedge : ∀ i o, i < (m + 1) → ops[i]? = some o → edgesOk md i o = true ∧ ∀ j, j < (m + 1) → looksB ops o j = true → boundB md o j = true)
    (hdst : ∀ i j, i < (m + 1) → j < (m + 1) → i ≠ j → ∀ d, dstOf ops i = some d → dstOf ops j ≠ some d)
    (hlate : ∀ t o, m + 1 ≤ t → ops[t]? = some o → ∀ j, j < m → boundB md o j = true) (hseq : seqT md ops (t0 :: tr) (doneA (m + 1) ops.size) = true)
    (hl1 : ∀ i ∈ Region.ready md ops (doneA m ops.size), i = m ∨ i = t0) (hl2 : seqT md ops (m :: tr) ((doneA m ops.size).setIfInBounds t0 true) = true)
    (hGB : ∀ w w', Below W.heap.size W w → G w w' → Below W.heap.size W w') (hmono : ∀ i v w w', R i v w → G w w' → R i v w')
    (hst : ∀ vals i o, i < (m + 1) → ops[i]? = some o → GrowStep P ops W (m + 1) G R a vals i o)
    (hfin : ∀ vals w, Below W.heap.size W w → (∀ i, i < m + 1 → R i (vals i) w) → wpList P ops Q (pick l (t0 :: tr)) (putAll ops vals (List.range (m + 1)) a) w)
    (hfin2 : ∀ vals w, Below W.heap.size W w → (∀ i, i < m → R i (vals i) w) → wpList P ops Q (pick l (t0 :: m :: tr)) (putAll ops vals (List.range m) a) w) :
    ∀ (f : Nat) (D : List Nat) (listed : Array Bool) (vals : Nat → Value) (w : World), D.Nodup → (∀ i ∈ D, i < (m + 1)) → D.length + f = (m + 1) → listed.size = ops.size →
    (∀ i, i < ops.size → listed.getD i false = decide (i ∈ D)) → Below W.heap.size W w → (∀ i ∈ D, R i (vals i) w) → wpAny P md ops Q (f + (t0 :: tr).length) listed (putAll ops vals D a) w
  | 0, D, listed, vals, w, hnd, hlt, hlen, hls, hl, hb, hR => by
    have hall : ∀ i, i < (m + 1) → i ∈ D := fun i hi => by
      by_cases e : i ∈ D
      · exact e
      · exfalso
        have := nodup_le (i :: D) (List.range (m + 1)) (List.nodup_cons.2 ⟨e, hnd⟩) fun j hj => by
          rcases List.mem_cons.1 hj with rfl | h
          · exact List.mem_range.2 hi
          · exact List.mem_range.2 (hlt j h)
        simp at this; omega
    have hp : D.Perm (List.range (m + 1)) := (List.perm_ext_iff_of_nodup hnd List.nodup_range).2 fun i => ⟨fun h => List.mem_range.2 (hlt i h), fun h => hall i (List.mem_range.1 h)⟩
    have hle : listed = doneA (m + 1) ops.size := doneA_eq hls hl hlt hall
    subst hle
    rw [Nat.zero_add, putAll_perm vals hdst hp hlt]
    subst hop
    exact wpAny_of_seqT (t0 :: tr) _ _ _ hts hseq (hfin vals w hb fun i hi => hR i (hall i hi))
  | f + 1, D, listed, vals, w, hnd, hlt, hlen, hls, hl, hb, hR => by
    have hex : ∃ i, i < (m + 1) ∧ i ∉ D := by
      apply Classical.byContradiction
      intro hno
      have := nodup_le (List.range (m + 1)) D List.nodup_range fun i hi => by
        by_cases e : i ∈ D
        · exact e
        · exact absurd ⟨i, List.mem_range.1 hi, e⟩ hno
      simp at this; omega
    obtain ⟨i0, hi0, hi0D, hmin⟩ := least_not D (m + 1) hex
    have hget : ∀ i, i < ops.size → listed.getD i true = decide (i ∈ D) := fun i hi => by
      have := hl i hi
      simpa [hls, hi] using this
    have hr0 : i0 ∈ Region.ready md ops listed := by
      have hs0 : i0 < ops.size := by omega
      obtain ⟨o, ho⟩ : ∃ o, ops[i0]? = some o := ⟨_, Array.getElem?_eq_getElem hs0⟩
      refine mem_ready.2 ⟨by rw [hget i0 hs0]; exact decide_eq_false hi0D, o, ho, fun e he hbe => ?_⟩
      have h1 := List.all_eq_true.1 (hedge i0 o hi0 ho).1 e (by simpa using he)
      have h2 : e.on < i0 := by simpa [hbe] using h1
      rw [hl _ (by omega)]; exact decide_eq_true (hmin _ h2)
    rw [show f + 1 + (t0 :: tr).length = (f + (t0 :: tr).length) + 1 by omega]
    refine ⟨fun h => (by rw [h] at hr0; cases hr0), fun i hi => ?_⟩
    obtain ⟨hun, o, ho, hdeps⟩ := mem_ready.1 hi
    have hsi : i < ops.size := (Array.getElem?_eq_some_iff.1 ho).1
    have hiD : i ∉ D := by rw [hget i hsi] at hun; exact of_decide_eq_false hun
    have hbd : ∀ j, j < (m + 1) → boundB md o j = true → j ∈ D := fun j hj hbj => by
      obtain ⟨e, hem, heb⟩ := List.any_eq_true.1 hbj
      rw [Bool.and_eq_true] at heb
      have h1 := hdeps e (by simpa using hem) heb.1
      rw [Nat.eq_of_beq_eq_true heb.2, hl j (by omega)] at h1
      exact of_decide_eq_true h1
    by_cases hin : ¬ i < (m + 1)
    · have hDall : ∀ j, j < m → j ∈ D := fun j hj => hbd j (by omega) (hlate i o (by omega) ho j hj)
      have hm0 : i0 = m := by
        apply Classical.byContradiction
        intro hne
        exact hi0D (hDall i0 (by omega))
      subst hm0
      have hDlt : ∀ j, j ∈ D → j < i0 := fun j hj => by
        have h1 := hlt j hj
        have h2 : j ≠ i0 := fun e => hi0D (e ▸ hj)
        omega
      have hle : listed = doneA i0 ops.size := doneA_eq hls hl hDlt hDall
      have hp : D.Perm (List.range i0) := (List.perm_ext_iff_of_nodup hnd List.nodup_range).2 fun j => ⟨fun h => List.mem_range.2 (hDlt j h), fun h => hDall j (List.mem_range.1 h)⟩
      have hf : f = 0 := by have h1 := hp.length_eq; rw [List.length_range] at h1; omega
      subst hf hle
      rcases hl1 i hi with h | h
      · omega
      subst h
      rw [Nat.zero_add, putAll_perm vals hdst hp hlt]
      have h := hfin2 vals w hb fun j hj => hR j (hDall j hj)
      subst hop
      have ht : i < l.length := hts i (by simp)
      have h0 : l.toArray[i]? = some l[i] := by simp [ht]
      rw [pick, List.getElem?_eq_getElem ht] at h
      have hw : wpOp P l.toArray Q i (wpList P l.toArray Q (pick l (i0 :: tr))) (putAll l.toArray vals (List.range i0) a) w := by unfold wpOp; simp only [h0]; exact h
      exact wpOp_mono (fun a' w' h' => wpAny_of_seqT (i0 :: tr) _ a' w' (fun j hj => by
        rcases List.mem_cons.1 hj with rfl | hj
        · have : j < l.toArray.size := by omega
          simpa using this
        · exact hts j (by simp [hj])) hl2 h') hw
    have hin : i < (m + 1) := Classical.not_not.1 hin
    have hdep : ∀ j ∈ depsOf ops (m + 1) o, j ∈ D := fun j hj => by
      obtain ⟨h1, h2⟩ := List.mem_filter.1 hj
      have hjn := List.mem_range.1 h1
      exact hbd j hjn ((hedge i o hin ho).2 j hjn h2)
    have hsl := fun cs b => Region.noSelect_spec hsel i o cs b ho
    have hcut : ∀ b, putAll ops vals D b = putAll ops vals (D.filter fun j => !looksB ops o j) (putAll ops vals (depsOf ops (m + 1) o) b) := fun b => by
      rw [← putAll_append]
      refine putAll_perm vals hdst ?_ hlt b
      refine (List.filter_append_perm (looksB ops o) D).symm.trans (List.Perm.append_right _ ?_)
      refine (List.perm_ext_iff_of_nodup (hnd.filter _) (List.nodup_range.filter _)).2 fun j => ?_
      constructor
      · intro h
        obtain ⟨h1, h2⟩ := List.mem_filter.1 h
        exact List.mem_filter.2 ⟨List.mem_range.2 (hlt j h1), h2⟩
      · intro h
        exact List.mem_filter.2 ⟨hdep j h, (List.mem_filter.1 h).2⟩
    obtain ⟨e1, e2⟩ := putAll_unlooked (ops := ops) vals (o := o) hsl (D.filter fun j => !looksB ops o j) (putAll ops vals (depsOf ops (m + 1) o) a) fun j hj => by
      have := (List.mem_filter.1 hj).2
      simpa using this
    rw [← hcut] at e1 e2
    obtain ⟨hw, hc⟩ := hst vals i o hin ho w hb fun j hj => hR j (hdep j hj)
    rw [← e2] at hw
    rw [← e1] at hc
    have next : ∀ v w', G w w' → R i v w' → wpAny P md ops Q (f + (t0 :: tr).length) (listed.setIfInBounds i true) ((putAll ops vals D a).put o.dst v) w' := fun v w' hb' hRv => by
      have he : (putAll ops vals D a).put o.dst v = putAll ops (fun j => if j = i then v else vals j) (D ++ [i]) a := by
        rw [putAll_append, putAll_congr (v := fun j => if j = i then v else vals j) (u := vals) D a (fun j hj => if_neg (fun (e : j = i) => hiD (e ▸ hj)))]
        simp [putAll, dstOf, ho]
      rw [he]
      refine grow_anyL hop hsel hsz hts hedge hdst hlate hseq hl1 hl2 hGB hmono hst hfin hfin2 f (D ++ [i]) _ _ w' ?_ ?_ (by simp; omega) (by simp [hls]) ?_ (hGB _ _ hb hb') ?_
      · exact List.nodup_append.2 ⟨hnd, by simp, fun x hx y hy => by simp at hy; subst hy; intro e; subst e; exact hiD hx⟩
      · intro j hj
        rcases List.mem_append.1 hj with h | h
        · exact hlt j h
        · simp at h; omega
      · intro j hj
        by_cases e : j = i
        · subst e; simp [hls, hj]
        · have h1 := hl j hj
          have h2 : (listed.setIfInBounds i true).getD j false = listed.getD j false := by
            simp only [Array.getD_eq_getD_getElem?]
            rw [Array.getElem?_setIfInBounds_ne (fun h => e h.symm)]
          rw [h2, h1]
          simp [e]
      · intro j hj
        rcases List.mem_append.1 hj with h | h
        · have : j ≠ i := fun e => hiD (e ▸ h)
          simp only [this, if_false]
          exact hmono _ _ _ _ (hR j h) hb'
        · simp at h; subst h; simpa using hRv
    unfold Go.wpOp
    simp only [ho, hw, if_true]
    refine .inl ?_
    unfold Oper.wp
    revert hc
    generalize (execOp (putAll ops vals D a).eval o).run P w = r
    intro hc
    cases r with
    | halt x w => exact False.elim hc
    | ok nx w2 =>
      cases nx <;> try exact False.elim hc
      case value u => exact next _ _ hc.1 hc.2
      case skip => exact next _ _ hc.1 hc.2
      case enter fn args =>
        refine Calls.mono (P := P) hc ?_
        rintro e w'' ⟨u, rfl, h1, h2⟩
        exact next _ _ h1 h2


/-- A REGION THAT DRAWS ITS ORDER: its first operations make memory; the last of these may come behind the first one that stores. -/
theorem wp_region_growsL {id : Nat} {a : Act} {w : World} {l : List Oper} (W : World) (m : Nat) (G : World → World → Prop) (R : Nat → Value → World → Prop) (t0 : Nat) (tr ns ms : List Nat) (qa qb : List (Option Tmp)) (hm : P.follows .mixedOrders = true) (hB : growLB .any l.toArray m t0 tr = true)
    (hns : List.range (m + 1) = ns) (hms : List.range m = ms) (hqa : ns.map (dstOf l.toArray) = qa) (hqb : ms.map (dstOf l.toArray) = qb) (hW : Below W.heap.size W { w with drawn := w.drawn + 1 }) (hGB : ∀ w w', Below W.heap.size W w → G w w' → Below W.heap.size W w') (hmono : ∀ i v w w', R i v w → G w w' → R i v w')
    (h : ∀ vals, wpGrow P l.toArray W (m + 1) G R a vals ((∀ w, Below W.heap.size W w → (∀ i ∈ ns, R i (vals i) w) → wpList P l.toArray Q (pick l (t0 :: tr)) (putZ qa (ns.map vals) a) w) ∧
      (∀ w, Below W.heap.size W w → (∀ i ∈ ms, R i (vals i) w) → wpList P l.toArray Q (pick l (t0 :: m :: tr)) (putZ qb (ms.map vals) a) w)) 0 (l.take (m + 1))) :
    (Code.region id l.toArray true).wp P Q a w := by
  subst hns hms hqa hqb
  simp only [growLB, Bool.and_eq_true, decide_eq_true_eq] at hB
  obtain ⟨⟨⟨⟨⟨⟨⟨⟨hsel, hsz⟩, hts⟩, h1⟩, h2⟩, h3⟩, hseq⟩, hl1⟩, hl2⟩ := hB
  have hts' : ∀ i ∈ t0 :: tr, i < l.length := fun i hi => by simpa using List.all_eq_true.1 hts i hi
  refine wp_region_any hm ?_
  have H := grow_anyL (md := .any) (P := P) (W := W) (Q := Q) (R := R) (G := G) (l := l) (m := m) (t0 := t0) (tr := tr) (a := a) rfl hsel hsz hts'
    (fun i o hi ho => by
      have := List.all_eq_true.1 h1 i (List.mem_range.2 hi)
      rw [ho] at this
      simp only [Bool.and_eq_true] at this
      refine ⟨this.1, fun j hj hlj => ?_⟩
      have h4 := List.all_eq_true.1 this.2 j (List.mem_range.2 hj)
      simpa [hlj] using h4)
    (fun i j hi hj hne d hd => by
      have := List.all_eq_true.1 (List.all_eq_true.1 h2 i (List.mem_range.2 hi)) j (List.mem_range.2 hj)
      rcases Bool.or_eq_true_iff.1 this with h | h
      · exact absurd (Nat.eq_of_beq_eq_true h) hne
      · rw [hd] at h
        simpa [apartD] using h)
    (fun t o ht ho j hj => by
      have := List.all_eq_true.1 h3 t (List.mem_range.2 (Array.getElem?_eq_some_iff.1 ho).1)
      rw [ho] at this
      rcases Bool.or_eq_true_iff.1 this with h | h
      · exact absurd (by rw [Nat.blt_eq] at h; exact h : t < m + 1) (by omega)
      · exact List.all_eq_true.1 h j (List.mem_range.2 hj))
    hseq
    (fun i hi => by
      rcases Bool.or_eq_true_iff.1 (List.all_eq_true.1 hl1 i hi) with h | h
      · exact .inl (Nat.eq_of_beq_eq_true h)
      · exact .inr (Nat.eq_of_beq_eq_true h))
    hl2 hGB hmono
    (fun vals i o hi ho => by
      have := (wpGrow_out 0 _ (h vals)).2 i o (by rw [List.getElem?_take, if_pos hi]; simpa using ho)
      rwa [Nat.zero_add] at this)
    (fun vals w hb hR => by
      rw [putZ_eq]
      exact (wpGrow_out 0 _ (h vals)).1.1 w hb fun i hi => hR i (List.mem_range.1 hi))
    (fun vals w hb hR => by
      rw [putZ_eq]
      exact (wpGrow_out 0 _ (h vals)).1.2 w hb fun i hi => hR i (List.mem_range.1 hi))
    (m + 1) [] (Array.replicate l.toArray.size false) (fun _ => undef) { w with drawn := w.drawn + 1 } List.nodup_nil (fun i hi => by cases hi) (by simp) (by simp) (fun i hi => by rw [getD_replicate_false]; simp) hW (fun i hi => by cases hi)
  rw [hsz] at H
  exact H
end
end Go.Hold

/-
  Package lion: a stream round.
-/
namespace Go.Proofs.YtnkfiljmgbnbkaaDoor
open Go.RowKit Go.Hold Go.Sh Go.Ch Go.Li

theorem bts_zero (n : Nat) : ∀ i, (zs n).getD i 0 < 256 := bts_zs n
set_option maxHeartbeats 1000000 in
set_option maxRecDepth 100000 in
theorem lstream_c (k : List Nat) (x : Blk) (hx : OkB x) (h1 : 1 ≤ x.2.length) (hl : x.2.length ≤ 65536) (hk : k.length = 32) (hkb : ∀ i, k.getD i 0 < 256) (v : Value) (b : Nat) (w : World) (hV : BlkV w v x b) :
    Calls Tryd.prog 26 #[v, .agg (bysA k)] w fun e w' => ∃ u b', e = .returned u ∧ BlkV w' u (sRd k x) b' ∧ (b' = b ∨ w.heap.size ≤ b') ∧ Below w.heap.size w w' := by
  obtain ⟨l, r⟩ := x
  obtain ⟨o, c, rfl, hB, hc⟩ := hV
  have hll : l.length = 32 := hx.left
  have hlb := hx.lb
  have hrb := hx.rb
  simp only at hB hc hl h1 hlb hrb ⊢
  obtain ⟨n, en⟩ : ∃ n, n = r.length := ⟨_, rfl⟩
  have hks := bysA_size' hk
  have HX := Lib.hid (fun (W : World) => xored_c k l hk hll hkb hlb W)
  have HS := Lib.hid (fun (W : World) (hW : Below w.heap.size w W) => xor_c (mixd k l) (zs 12) r 0 n c (some ⟨b, o, none⟩) (by rw [mixd_length, hll]) (mixd_bts hkb hlb) (zs_length 12) (bts_zero 12) en hrb (by omega) (by omega) (by decide) W (Bs0.some (hB.grow hW)))
  have Hs := Lib.hid (show sRd k (l, r) = (l, mixd (strm (mixd k l) (zs 12) 0 n) r) by rw [en]; rfl)
  rw [Hs.out]
  have Hml := Lib.hid (show n = (mixd (strm (mixd k l) (zs 12) 0 n) r).length by rw [mixd_length]; exact en)
  generalize mixd (strm (mixd k l) (zs 12) 0 n) r = H at *
  generalize mixd k l = kl at *
  rw [← en] at hl hc h1 ⊢
  have Hll := Lib.hid hll
  have hz := blkA_size (s := .slice (some ⟨b, o, none⟩) n c) hll
  have hz2 := fun g => blkA_size (s := .slice (some ⟨g, 0, none⟩) n n) hll
  have hbd := fun p n c W => run_bldBlk hll p n c W
  clear hB hll en hx hlb hrb hk hkb
  go_enter Tryd.func26, Tryd.ntmps26
  go_wp2_with fail
  generalize hW : World.alloc _ _ = W0
  obtain ⟨z0, hz0, hT0⟩ : ∃ c : Array Value, c.size = 33 ∧ RowAt W0 (w.heap.size + 1 + 1) c := by rw [← hW]; clear hW; exact ⟨_, rfl, by go_simp, by go_simp; rfl, by go_simp⟩
  have T0 := Lib.hid hT0
  have R0 := Lib.hid (show RowAt W0 w.heap.size (blkA l (.slice (some ⟨b, o, none⟩) n c)) by rw [← hW]; clear hW; exact ⟨by go_simp, by go_simp, by go_simp⟩)
  have K0 := Lib.hid (show RowAt W0 (w.heap.size + 1) (bysA k) by rw [← hW]; clear hW; exact ⟨by go_simp, by go_simp, by go_simp⟩)
  have B0 := Lib.hid (show Below w.heap.size w W0 by rw [← hW]; repeat (first | apply below_more | apply below_alloc | exact Below.refl _ _))
  clear hW hT0
  have hg1 : w.heap.size ≤ w.heap.size + 1 + 1 := by omega
  generalize w.heap.size + 1 + 1 = t at *
  generalize w.heap.size + 1 = gk at *
  obtain ⟨z, ez⟩ : ∃ z, z = w.heap.size := ⟨_, rfl⟩
  have hz00 : z ≤ W0.heap.size := by rw [ez]; exact B0.out.size
  rw [← ez] at R0 hg1 ⊢
  have Ez := Lib.hid ez
  clear ez
  refine wp_region_growsL W0 10 (fun w w' => Below w.heap.size w w') (listR [fixV (.agg (bysA k)), fixV (.pointer (some ⟨z, 0, none⟩)), fixV (.agg (bysA l)), fixV (.agg (bysA kl)), fixV (.agg (bysA (zs 12))), fixV (.pointer (some ⟨z, 32, none⟩)), fixV (.slice (some ⟨b, o, none⟩) n c),
    rowV W0.heap.size (fun g => .tuple #[.slice (some ⟨g, 0, none⟩) n n, .int .i64 0]) (bysA H), rowV W0.heap.size (fun g => .tuple #[.slice (some ⟨g, 0, none⟩) n n, .int .i64 0]) (bysA H), rowV W0.heap.size (fun g => .slice (some ⟨g, 0, none⟩) n n) (bysA H), fixV (.int .i64 0)]) 11 [12] [0, 1, 2, 3, 4, 5, 6, 7, 8, 9, 10] [0, 1, 2, 3, 4, 5, 6, 7, 8, 9] [some 8, some 9, some 10, some 11, some 12, some 13, some 14, some 15, some 7, some 16, some 17] [some 8, some 9, some 10, some 11, some 12, some 13, some 14, some 15, some 7, some 16] (by kernel_rfl) (by kernel_rfl) (by kernel_rfl) (by kernel_rfl) (by kernel_rfl) (by kernel_rfl) ((Below.refl _ _).drew) (fun w w' h h' => h.trans (h'.mono h.size)) (listR_mono ⟨stays_fix _, stays_fix _, stays_fix _, stays_fix _, stays_fix _, stays_fix _, stays_fix _, stays_row _ _ _, stays_row _ _ _, stays_row _ _ _, stays_fix _, trivial⟩) ?_
  intro vals
  simp only [List.take_succ_cons, List.take_zero]
  refine ⟨grow_val [] [] (by kernel_rfl) rfl (fun K w hb hd hK => ⟨wanted_none rfl, ?_⟩), ?_⟩
  · obtain ⟨k1, k2, k3⟩ := K0.out.grow hb
    simp only [putZ]
    go_simp
    exact hK _ _ _ (Below.refl _ _) rfl
  refine ⟨grow_val [] [] (by kernel_rfl) rfl (fun K w hb hd hK => ⟨wanted_none rfl, ?_⟩), ?_⟩
  · simp only [putZ]
    go_simp
    exact hK _ _ _ (Below.refl _ _) rfl
  refine ⟨grow_val [1] [some 9] (by kernel_rfl) (by kernel_rfl) (fun K w hb hd hK => ⟨wanted_none rfl, ?_⟩), ?_⟩
  · have d0 : vals 1 = .pointer (some ⟨z, 0, none⟩) := hd 1 (by simp)
    have hcl := load_left (R0.out.grow hb) Hll.out
    simp only [List.map_cons, List.map_nil, putZ, d0]
    go_simp
    exact hK _ _ _ (Below.refl _ _) rfl
  refine ⟨grow_call [0, 2] [some 8, some 10] (by kernel_rfl) (by kernel_rfl) (fun K w hb hd hK => ⟨wanted_none rfl, ?_⟩), ?_⟩
  · have d0 : vals 0 = .agg (bysA k) := hd 0 (by simp)
    have d2 : vals 2 = .agg (bysA l) := hd 2 (by simp)
    simp only [List.map_cons, List.map_nil, putZ, d0, d2]
    go_simp
    refine (HX.out w).mono ?_
    rintro e w' ⟨rfl, hb'⟩
    exact ⟨_, rfl, hK _ _ hb' rfl⟩
  refine ⟨grow_val [] [] (by kernel_rfl) rfl (fun K w hb hd hK => ⟨wanted_none rfl, ?_⟩), ?_⟩
  · simp only [putZ]
    go_simp
    exact hK _ _ _ (Below.refl _ _) rfl
  refine ⟨grow_val [] [] (by kernel_rfl) rfl (fun K w hb hd hK => ⟨wanted_none rfl, ?_⟩), ?_⟩
  · simp only [putZ]
    go_simp
    exact hK _ _ _ (Below.refl _ _) rfl
  refine ⟨grow_val [5] [some 13] (by kernel_rfl) (by kernel_rfl) (fun K w hb hd hK => ⟨wanted_none rfl, ?_⟩), ?_⟩
  · have d0 : vals 5 = .pointer (some ⟨z, 32, none⟩) := hd 5 (by simp)
    have hcl := cell_blk (R0.out.grow hb) Hll.out
    simp only [List.map_cons, List.map_nil, putZ, d0]
    go_simp
    exact hK _ _ _ (Below.refl _ _) rfl
  refine ⟨grow_call [3, 4, 6] [some 11, some 12, some 14] (by kernel_rfl) (by kernel_rfl) (fun K w hb hd hK => ⟨wanted_none rfl, ?_⟩), ?_⟩
  · have d1 : vals 3 = .agg (bysA kl) := hd 3 (by simp)
    have d2 : vals 4 = .agg (bysA (zs 12)) := hd 4 (by simp)
    have d3 : vals 6 = .slice (some ⟨b, o, none⟩) n c := hd 6 (by simp)
    simp only [List.map_cons, List.map_nil, putZ, d1, d2, d3]
    go_simp
    refine (HS.out w (B0.out.trans (hb.mono B0.out.size))).mono ?_
    rintro e w' ⟨g, rfl, hr, hg, hb'⟩
    exact ⟨_, rfl, hK _ _ hb' ⟨g, rfl, hr, Nat.le_trans hb.size hg⟩⟩
  refine ⟨grow_val [7] [some 15] (by kernel_rfl) (by kernel_rfl) (fun K w hb hd hK => ⟨wanted_none rfl, ?_⟩), ?_⟩
  · obtain ⟨g4, d4, hr4, hg4⟩ : ∃ g, vals 7 = .tuple #[.slice (some ⟨g, 0, none⟩) n n, .int .i64 0] ∧ RowAt w g (bysA H) ∧ W0.heap.size ≤ g := hd 7 (by simp)
    simp only [List.map_cons, List.map_nil, putZ, d4]
    go_simp
    exact hK _ _ _ (Below.refl _ _) ⟨g4, rfl, hr4, hg4⟩
  refine ⟨grow_val [8] [some 7] (by kernel_rfl) (by kernel_rfl) (fun K w hb hd hK => ⟨wanted_none rfl, ?_⟩), ?_⟩
  · obtain ⟨g4, d4, hr4, hg4⟩ : ∃ g, vals 8 = .tuple #[.slice (some ⟨g, 0, none⟩) n n, .int .i64 0] ∧ RowAt w g (bysA H) ∧ W0.heap.size ≤ g := hd 8 (by simp)
    simp only [List.map_cons, List.map_nil, putZ, d4]
    go_simp
    exact hK _ _ _ (Below.refl _ _) ⟨g4, rfl, hr4, hg4⟩
  refine ⟨grow_val [8] [some 7] (by kernel_rfl) (by kernel_rfl) (fun K w hb hd hK => ⟨wanted_none rfl, ?_⟩), ?_⟩
  · obtain ⟨g4, d4, hr4, hg4⟩ : ∃ g, vals 8 = .tuple #[.slice (some ⟨g, 0, none⟩) n n, .int .i64 0] ∧ RowAt w g (bysA H) ∧ W0.heap.size ≤ g := hd 8 (by simp)
    simp only [List.map_cons, List.map_nil, putZ, d4]
    go_simp
    exact hK _ _ _ (Below.refl _ _) rfl
  constructor
  all_goals
    intro W1 hbg hR
    obtain ⟨g, d9, hr9, hg9⟩ : ∃ g, vals 9 = .slice (some ⟨g, 0, none⟩) n n ∧ RowAt W1 g (bysA H) ∧ W0.heap.size ≤ g := hR 9 (by simp)
    obtain ⟨g', d8, _, _⟩ : ∃ g, vals 8 = .tuple #[.slice (some ⟨g, 0, none⟩) n n, .int .i64 0] ∧ RowAt W1 g (bysA H) ∧ W0.heap.size ≤ g := hR 8 (by simp)
    simp only [List.map_cons, List.map_nil, putZ, d8, d9, pick, List.getElem?_cons_succ, List.getElem?_cons_zero]
    generalize vals 0 = e0
    generalize vals 1 = e1
    generalize vals 2 = e2
    generalize vals 3 = e3
    generalize vals 4 = e4
    generalize vals 5 = e5
    generalize vals 6 = e6
    generalize vals 7 = e7
    try generalize vals 10 = e10
    clear d9 d8 hR
    have hcl := load_left (R0.out.grow hbg) Hll.out
    obtain ⟨t1, t2, t3⟩ := T0.out.grow hbg
    have hgt : g ≠ t := by have := T0.out.2.2; omega
    have hzg : w.heap.size ≤ g := by rw [← Ez.out]; omega
    have B1 := Lib.hid (B0.out.trans (hbg.mono B0.out.size))
    have Y1 := Lib.hid (bytes_row hr9)
    clear hbg hr9 hg9 HX HS R0 K0 T0 B0 hks
    go_wp2_with fail
    refine bodyPost_ret (v := .agg (blkA l (.slice (some ⟨g, 0, none⟩) n n))) (results_blk Tryd.results26 (hz2 _) _ _ _ rfl (by go_simp) (by go_simp)) rfl ⟨_, g, rfl, ?_, .inr hzg, ?_⟩
    · exact ⟨0, n, by rw [← Hml.out], Y1.out.other hgt _, by rw [← Hml.out]; exact Nat.le_refl _⟩
    · exact below_setRow B1.out (by rw [← Ez.out]; exact hg1) _
end Go.Proofs.YtnkfiljmgbnbkaaDoor

/-
  Package hmac: are bytes alike; a tag's first half; the tag, its lengths named.
-/
namespace Go.Proofs.YtnkfiljmgbnbkaaDoor
open Go.RowKit Go.Hold Go.Sh

/-! ### Are bytes alike? -/
/-- What bytes have unlike, all together. -/
def unl (a b : List Nat) : Nat → Nat
  | 0 => 0
  | i + 1 => unl a b i ||| (a.getD i 0 ^^^ b.getD i 0)
theorem unl_lt {a b : List Nat} (ha : ∀ i, a.getD i 0 < 256) (hb : ∀ i, b.getD i 0 < 256) (n : Nat) : unl a b n < 256 := by
  induction n with
  | zero => exact Nat.zero_lt_succ _
  | succ n ih => exact Nat.or_lt_two_pow (n := 8) ih (xor_lt (ha n) (hb n))
theorem xor_zero_iff (a b : Nat) : a ^^^ b = 0 ↔ a = b := by
  constructor
  · intro h
    have : (a ^^^ b) ^^^ b = b := by rw [h, Nat.zero_xor]
    rwa [Nat.xor_assoc, Nat.xor_self, Nat.xor_zero] at this
  · rintro rfl; exact Nat.xor_self _
theorem unl_zero (a b : List Nat) (n : Nat) : unl a b n = 0 ↔ ∀ i, i < n → a.getD i 0 = b.getD i 0 := by
  induction n with
  | zero => simp [unl]
  | succ n ih =>
    rw [unl, Nat.or_eq_zero_iff, ih]
    constructor
    · intro ⟨h1, h2⟩ i hi
      by_cases e : i < n
      · exact h1 i e
      · obtain rfl : i = n := by omega
        exact (xor_zero_iff _ _).1 h2
    · intro h
      exact ⟨fun i hi => h i (by omega), (xor_zero_iff _ _).2 (h n (by omega))⟩
theorem unl_eq (a b : List Nat) (h : a.length = b.length) : unl a b a.length = 0 ↔ a = b := by
  rw [unl_zero]
  constructor
  · intro h1
    apply List.ext_getElem h
    intro i h2 h3
    have := h1 i h2
    simpa [List.getD, h2, h3] using this
  · rintro rfl i _; rfl
set_option maxHeartbeats 400000 in
set_option maxRecDepth 100000 in
theorem equal_c (ac bc : Nat) (ap bp : Option Addr) (a b : List Nat) (w : World) (ha : a.length ≤ 1000000) (hab : ∀ i, a.getD i 0 < 256) (haB : Bs0 w ap a) (hbb : ∀ i, b.getD i 0 < 256) (hbB : Bs0 w bp b) :
    Calls Tryd.prog 22 #[.slice ap a.length ac, .slice bp b.length bc] w fun e w' => e = .returned (.bool (decide (a = b))) ∧ Below w.heap.size w w' := by
  by_cases hl : a.length = b.length
  · obtain ⟨R, eR⟩ : ∃ r, r = decide (a = b) := ⟨_, rfl⟩
    have HU := Lib.hid (unl_eq a b hl)
    have HUl := Lib.hid (fun n => unl_lt hab hbb n)
    rw [← hl, ← eR]
    obtain ⟨n, en⟩ : ∃ n, n = a.length := ⟨_, rfl⟩
    have Hlb := Lib.hid (show b.length = n by rw [en, hl])
    rw [← en] at ha HU ⊢
    have En := Lib.hid en
    have ER := Lib.hid eR
    have HA := Lib.hid haB
    have HB := Lib.hid hbB
    have Hab := Lib.hid hab
    have Hbb := Lib.hid hbb
    clear en eR hl haB hbB hab hbb
    go_enter Tryd.func22, Tryd.ntmps22
    go_wp2_with fail
    go_loopw [5, 14] (fun u i wr => ∃ k : Nat, k ≤ n ∧ i = .int .i64 k ∧ u = .int .u8 ((unl a b k : Nat) : Int) ∧ Below w.heap.size w wr) (fun _ i _ => n - (intOf i).toNat)
    case atStart => exact ⟨0, by omega, rfl, rfl, Below.refl _ _⟩
    case round =>
      obtain ⟨k, hk, rfl, rfl, hbel⟩ := hrel
      have Hbel := Lib.hid hbel
      by_cases hkn : k < n
      · have hk0 : (0 : Int) ≤ (k : Int) := by omega
        have hk1 : (k : Int) < (n : Int) := by omega
        obtain ⟨ga, oa, ea, hA⟩ : ∃ b o, ap = some ⟨b, o, none⟩ ∧ BytesAt wr b o a := by
          rcases HA.out.grow hbel with h | h
          · exfalso; have := En.out; rw [h] at this; simp at this; omega
          · exact h
        obtain ⟨gb, ob, eb, hB⟩ : ∃ c o, bp = some ⟨c, o, none⟩ ∧ BytesAt wr c o b := by
          rcases HB.out.grow hbel with h | h
          · exfalso; have := Hlb.out; rw [h] at this; simp at this; omega
          · exact h
        subst ea eb
        have hca := hA.2 k (by rw [← En.out]; exact hkn)
        have hcb := hB.2 k (by rw [Hlb.out]; exact hkn)
        have hx := u8_xor_nat (a.getD k 0) (b.getD k 0) (Hab.out k) (Hbb.out k)
        have hxl := xor_lt (Hab.out k) (Hbb.out k)
        have ho := u8_or_nat (unl a b k) (a.getD k 0 ^^^ b.getD k 0) (HUl.out k) hxl
        have Hs := Lib.hid (show unl a b (k + 1) = unl a b k ||| (a.getD k 0 ^^^ b.getD k 0) from rfl)
        generalize a.getD k 0 = x at *
        generalize b.getD k 0 = y at *
        generalize x ^^^ y = z at *
        generalize unl a b k = u at *
        generalize u ||| z = u2 at *
        have hga := hA.1
        have hgb := hB.1
        clear hA hB hbel hxl
        go_wp2_with fail
        refine wp_region_pickT wr [0, 1, 2, 3, 4, 5, 6, 7, 8, 9, 10] [false, false, false, false, false, false, false, false, false, false, false] [11] (by kernel_rfl) (by kernel_rfl) (by intro c a d v w h; cases d <;> exact h) ((Below.refl _ _).drew) ?_
        simp only [pick, List.getElem?_cons_succ, List.getElem?_cons_zero]
        iterate 11 (refine wpHoldF_val (wanted_none rfl) (by intro K o d hK; go_simp; exact hK _ (Below.refl _ _)) ?_)
        refine wpHoldF_nil ?_
        intro w1 hb1
        have Hb1 := Lib.hid (Hbel.out.trans (hb1.mono Hbel.out.size))
        clear hb1
        go_wp2_with fail
        go_roundw
        case rel => exact ⟨k + 1, by omega, by go_num, by rw [Hs.out], Hb1.out⟩
        case measure => simp [intOf]; omega
      · obtain rfl : k = n := by omega
        have hU := HU.out
        have hlt := HUl.out k
        clear hbel
        by_cases e : a = b
        · have h0 : unl a b k = 0 := hU.2 e
          have hR : R = true := by rw [ER.out]; exact decide_eq_true e
          subst hR
          rw [h0]
          clear h0 e hU hlt
          go_wp2_with fail
          go_ret
          exact ⟨rfl, Hbel.out⟩
        · have h0 : unl a b k ≠ 0 := fun h => e (hU.1 h)
          have hR : R = false := by rw [ER.out]; exact decide_eq_false e
          subst hR
          generalize unl a b k = u at *
          have h1 : ¬ (u : Int) = 0 := by omega
          have h2 : ((u : Int) == 0) = false := by simpa using h1
          clear h0 e hU hlt
          go_wp2_with fail
          go_ret
          exact ⟨rfl, Hbel.out⟩
  · have hR : decide (a = b) = false := decide_eq_false fun e => hl (by rw [e])
    rw [hR]
    obtain ⟨n, en⟩ : ∃ n, n = a.length := ⟨_, rfl⟩
    obtain ⟨m, em⟩ : ∃ n, n = b.length := ⟨_, rfl⟩
    rw [← en, ← em] at hl ⊢
    have h1 : ¬ (n : Int) = (m : Int) := by omega
    have h2 : ((n : Int) != (m : Int)) = true := by simpa using h1
    clear en em ha hab haB hbb hbB hR
    go_enter Tryd.func22, Tryd.ntmps22
    go_wp2_with fail
    go_ret
    exact ⟨rfl, Below.refl _ _⟩

/-! ### A tag's first half -/
@[go_sem ↓] theorem loadAt_tag (v : Value) : Instr.loadAt 47 v = loadRow 47 v := rfl
@[go_sem] theorem run_loadTag (w : World) (n : Nat) (h1 : w.isRow n = true) (h2 : (w.rowOf n).size = 16) : (loadRow 47 (.pointer (some ⟨n, 0, none⟩))).run Tryd.prog w = .ok (.agg (w.rowOf n)) w := run_loadRow w Tryd.underlying47 rfl (by kernel_rfl) n h1 h2
theorem results_tag {fn : Func} {p : Tmp} {cs : Array Value} (h : fn.results = #[.cell p 47]) (hc : cs.size = 16) (w : World) (tmps : Array Value) (n : Nat) (hp : tmps.getD p undef = .pointer (some ⟨n, 0, none⟩)) (h1 : w.isRow n = true) (h2 : w.rowOf n = cs) : (results fn tmps).run Tryd.prog w = .ok (.agg cs) w :=
  results_row w h Tryd.underlying47 rfl (by rw [hc]; kernel_rfl) tmps n hp h1 h2
set_option maxHeartbeats 400000 in
set_option maxRecDepth 100000 in
theorem short_c (s : List Nat) (hs : s.length = 32) (w : World) : Calls Tryd.prog 33 #[.agg (bysA s)] w fun e w' => e = .returned (.agg (bysA (s.take 16))) ∧ Below w.heap.size w w' := by
  have hst : (s.take 16 ++ (zs 16).drop 16) = s.take 16 := by rw [zs_drop]; simp [zs]
  have hz2 : (bysA (s.take 16)).size = 16 := by rw [bysA_size, List.length_take, hs]; rfl
  have Hs := Lib.hid hs
  have Hst := Lib.hid hst
  clear hs hst
  go_enter Tryd.func33, Tryd.ntmps33
  go_wp2_with fail
  generalize hW : World.alloc _ _ = W0
  have K0 := Lib.hid (show RowAt W0 w.heap.size (bysA s) by rw [← hW]; clear hW; exact ⟨by go_simp, by go_simp, by go_simp⟩)
  obtain ⟨z0, hz0, hR0⟩ : ∃ c : Array Value, c.size = 16 ∧ RowAt W0 (w.heap.size + 1) c := by rw [← hW]; clear hW; exact ⟨bysA (zs 16), by rw [bysA_size, zs_length], by go_simp, by go_simp; rfl, by go_simp⟩
  have T0 := Lib.hid (show RowAt W0 (w.heap.size + 1 + 1) (bysA (zs 16)) by rw [← hW]; clear hW; exact ⟨by go_simp, by go_simp; rfl, by go_simp⟩)
  have R0 := Lib.hid hR0
  have B0 := Lib.hid (show Below w.heap.size w W0 by rw [← hW]; repeat (first | apply below_more | apply below_alloc | exact Below.refl _ _))
  clear hW hR0
  have hg1 : w.heap.size ≤ w.heap.size + 1 + 1 := by omega
  have hg2 : ¬ w.heap.size + 1 = w.heap.size + 1 + 1 := by omega
  have hg3 : w.heap.size ≤ w.heap.size + 1 := by omega
  generalize w.heap.size + 1 + 1 = t at *
  generalize w.heap.size + 1 = r at *
  refine wp_region_pickT W0 [0, 1] [true, true] [2] (by kernel_rfl) (by kernel_rfl) (by intro c a d v w h; cases d <;> exact h) ((Below.refl _ _).drew) ?_
  simp only [pick, List.getElem?_cons_succ, List.getElem?_cons_zero]
  refine wpHoldF_late (wanted_none rfl) (fun w => by go_simp; rfl) ?_
  refine wpHoldF_late (wanted_none rfl) (fun w => by go_simp; rfl) ?_
  refine wpHoldF_nil ?_
  intro W1 hb1
  have hcp := copy_bytes (c2 := 16) (cap := 32) (d := 16) (s := 32) (k := 16) (T0.out.grow hb1) (by rw [zs_length]) Hs.out.symm (by rw [zs_length, Hs.out]; decide) (Bs0.some (bytes_row (K0.out.grow hb1)))
  rw [Hst.out] at hcp
  have T1 := (T0.out.grow hb1).set (bysA (s.take 16))
  have R1 := (R0.out.grow hb1).other hg2 (bysA (s.take 16))
  have B1 := Lib.hid (below_setRow (B0.out.trans (hb1.mono B0.out.size)) hg1 (bysA (s.take 16)))
  generalize W1.setRow t (bysA (s.take 16)) = W2 at *
  obtain ⟨t1, t2, t3⟩ := T1
  obtain ⟨r1, r2, r3⟩ := R1
  clear hb1
  go_wp2_with fail
  refine bodyPost_ret (v := .agg (bysA (s.take 16))) (results_tag Tryd.results33 hz2 _ _ _ rfl (by go_simp) (by go_simp)) rfl ⟨rfl, ?_⟩
  exact below_setRow B1.out hg3 _
theorem mac_at {kc bc m nb : Nat} {kp bp : Option Addr} {k b : List Nat} {M : St} {w : World} (hm : m = k.length) (hnb : nb = b.length) (hM : mac k b = M) (hT : Tabs w) (hk : k.length ≤ 1000000) (hkb : ∀ i, k.getD i 0 < 256) (hkB : Bs0 w kp k) (hkc : k.length ≤ kc)
    (hb : b.length ≤ 1000000) (hbb : ∀ i, b.getD i 0 < 256) (hbB : Bs0 w bp b) (hbc : bp = none → bc = 0) :
    Calls Tryd.prog 34 #[.slice kp m kc, .slice bp nb bc] w fun e w' => e = .returned (.agg (keA M)) ∧ Below w.heap.size w w' := by
  subst hm hnb hM
  exact mac_c kc bc kp bp k b w hT hk hkb hkB hkc hb hbb hbB hbc
theorem equal_at {ac bc na nb : Nat} {ap bp : Option Addr} {a b : List Nat} {r : Bool} {w : World} (hna : na = a.length) (hnb : nb = b.length) (hr : decide (a = b) = r) (ha : a.length ≤ 1000000) (hab : ∀ i, a.getD i 0 < 256) (haB : Bs0 w ap a) (hbb : ∀ i, b.getD i 0 < 256) (hbB : Bs0 w bp b) :
    Calls Tryd.prog 22 #[.slice ap na ac, .slice bp nb bc] w fun e w' => e = .returned (.bool r) ∧ Below w.heap.size w w' := by
  subst hna hnb hr
  exact equal_c ac bc ap bp a b w ha hab haB hbb hbB
end Go.Proofs.YtnkfiljmgbnbkaaDoor

/-
  Package lion: a tag round.
-/
namespace Go.Proofs.YtnkfiljmgbnbkaaDoor
open Go.RowKit Go.Hold Go.Sh Go.Ch Go.Li

set_option maxHeartbeats 1000000 in
set_option maxRecDepth 100000 in
theorem ltag_c (k : List Nat) (x : Blk) (hx : OkB x) (hl : x.2.length ≤ 65536) (hk : k.length = 32) (hkb : ∀ i, k.getD i 0 < 256) (v : Value) (b : Nat) (w : World) (hT : Tabs w) (hV : BlkV w v x b) :
    Calls Tryd.prog 27 #[v, .agg (bysA k)] w fun e w' => ∃ u b', e = .returned u ∧ BlkV w' u (tRd k x) b' ∧ (b' = b ∨ w.heap.size ≤ b') ∧ Below w.heap.size w w' := by
  obtain ⟨l, r⟩ := x
  obtain ⟨o, c, rfl, hB, hc⟩ := hV
  have hll : l.length = 32 := hx.left
  have hlb := hx.lb
  have hrb := hx.rb
  simp only at hB hc hl hlb hrb ⊢
  obtain ⟨n, en⟩ : ∃ n, n = r.length := ⟨_, rfl⟩
  have hks := bysA_size' hk
  have HM := Lib.hid (fun (W : World) (hW : Below w.heap.size w W) (g : Nat) (hg : RowAt W g (bysA k)) => mac_at (kc := 32) (bc := c) (m := 32) (nb := n) (kp := some ⟨g, 0, none⟩) (bp := some ⟨b, o, none⟩) (k := k) (b := r) hk.symm en rfl (hT.grow hW) (by omega) hkb (Bs0.some (bytes_row hg)) (by omega) (by omega) hrb (Bs0.some (hB.grow hW)) (fun h => by cases h))
  obtain ⟨M, eM⟩ : ∃ M, M = keyN (mac k r) := ⟨_, rfl⟩
  rw [keA_bys, ← eM] at HM
  have hMl : M.length = 32 := by rw [eM]; exact keyN_length _
  have HX := Lib.hid (fun (W : World) => xored_c l M hll hMl hlb (by rw [eM]; exact keyN_bts _) W)
  have Hs := Lib.hid (show tRd k (l, r) = (mixd l M, r) by rw [mixd_comm l M (by rw [hll, hMl]), eM]; rfl)
  rw [Hs.out]
  have hH : (mixd l M).length = 32 := by rw [mixd_length, hMl]
  have hms := bysA_size' hMl
  generalize mixd l M = H at *
  have En := Lib.hid en
  rw [← en] at hl hc ⊢
  have Hll := Lib.hid hll
  have HB := Lib.hid hB
  have hz := blkA_size (s := .slice (some ⟨b, o, none⟩) n c) hll
  have hz2 := blkA_size (s := .slice (some ⟨b, o, none⟩) n c) hH
  have hbd := fun p n c W => run_bldBlk hH p n c W
  clear hB hll en hx hlb hrb hk hkb hT hMl eM hH
  go_enter Tryd.func27, Tryd.ntmps27
  go_wp2_with fail
  generalize hW : World.alloc _ _ = W0
  obtain ⟨z0, hz0, hT0⟩ : ∃ c : Array Value, c.size = 33 ∧ RowAt W0 (w.heap.size + 1 + 1) c := by rw [← hW]; clear hW; exact ⟨_, rfl, by go_simp, by go_simp; rfl, by go_simp⟩
  have T0 := Lib.hid hT0
  have R0 := Lib.hid (show RowAt W0 w.heap.size (blkA l (.slice (some ⟨b, o, none⟩) n c)) by rw [← hW]; clear hW; exact ⟨by go_simp, by go_simp, by go_simp⟩)
  have K0 := Lib.hid (show RowAt W0 (w.heap.size + 1) (bysA k) by rw [← hW]; clear hW; exact ⟨by go_simp, by go_simp, by go_simp⟩)
  have B0 := Lib.hid (show Below w.heap.size w W0 by rw [← hW]; repeat (first | apply below_more | apply below_alloc | exact Below.refl _ _))
  clear hW hT0
  have hg1 : w.heap.size ≤ w.heap.size + 1 + 1 := by omega
  generalize w.heap.size + 1 + 1 = t at *
  generalize w.heap.size + 1 = gk at *
  obtain ⟨z, ez⟩ : ∃ z, z = w.heap.size := ⟨_, rfl⟩
  rw [← ez] at R0 hg1 ⊢
  have Ez := Lib.hid ez
  clear ez
  refine wp_region_grows W0 10 (fun w w' => Below w.heap.size w w') (listR [fixV (.pointer (some ⟨z, 0, none⟩)), fixV (.agg (bysA l)), fixV (.slice (some ⟨gk, 0, none⟩) 32 32), fixV (.pointer (some ⟨z, 32, none⟩)), fixV (.slice (some ⟨b, o, none⟩) n c), fixV (.agg (bysA M)), fixV (.agg (bysA H)), fixV (.pointer (some ⟨z, 32, none⟩)), fixV (.slice (some ⟨b, o, none⟩) n c), fixV (.agg (blkA H (.slice (some ⟨b, o, none⟩) n c)))]) [10] [0, 1, 2, 3, 4, 5, 6, 7, 8, 9] [some 5, some 6, some 7, some 8, some 9, some 10, some 11, some 12, some 13, some 14] (by kernel_rfl) (by kernel_rfl) (by kernel_rfl) (by kernel_rfl) ((Below.refl _ _).drew) (fun w w' h h' => h.trans (h'.mono h.size)) (listR_mono ⟨stays_fix _, stays_fix _, stays_fix _, stays_fix _, stays_fix _, stays_fix _, stays_fix _, stays_fix _, stays_fix _, stays_fix _, trivial⟩) ?_
  intro vals
  simp only [List.take_succ_cons, List.take_zero]
  refine ⟨grow_val [] [] (by kernel_rfl) rfl (fun K w hb hd hK => ⟨wanted_none rfl, ?_⟩), ?_⟩
  · simp only [putZ]
    go_simp
    exact hK _ _ _ (Below.refl _ _) rfl
  refine ⟨grow_val [0] [some 5] (by kernel_rfl) (by kernel_rfl) (fun K w hb hd hK => ⟨wanted_none rfl, ?_⟩), ?_⟩
  · have d0 : vals 0 = .pointer (some ⟨z, 0, none⟩) := hd 0 (by simp)
    have hcl := load_left (R0.out.grow hb) Hll.out
    simp only [List.map_cons, List.map_nil, putZ, d0]
    go_simp
    exact hK _ _ _ (Below.refl _ _) rfl
  refine ⟨grow_val [] [] (by kernel_rfl) rfl (fun K w hb hd hK => ⟨wanted_none rfl, ?_⟩), ?_⟩
  · simp only [putZ]
    go_simp
    exact hK _ _ _ (Below.refl _ _) rfl
  refine ⟨grow_val [] [] (by kernel_rfl) rfl (fun K w hb hd hK => ⟨wanted_none rfl, ?_⟩), ?_⟩
  · simp only [putZ]
    go_simp
    exact hK _ _ _ (Below.refl _ _) rfl
  refine ⟨grow_val [3] [some 8] (by kernel_rfl) (by kernel_rfl) (fun K w hb hd hK => ⟨wanted_none rfl, ?_⟩), ?_⟩
  · have d0 : vals 3 = .pointer (some ⟨z, 32, none⟩) := hd 3 (by simp)
    have hcl := cell_blk (R0.out.grow hb) Hll.out
    simp only [List.map_cons, List.map_nil, putZ, d0]
    go_simp
    exact hK _ _ _ (Below.refl _ _) rfl
  refine ⟨grow_call [2, 4] [some 7, some 9] (by kernel_rfl) (by kernel_rfl) (fun K w hb hd hK => ⟨wanted_none rfl, ?_⟩), ?_⟩
  · have d0 : vals 2 = .slice (some ⟨gk, 0, none⟩) 32 32 := hd 2 (by simp)
    have d2 : vals 4 = .slice (some ⟨b, o, none⟩) n c := hd 4 (by simp)
    simp only [List.map_cons, List.map_nil, putZ, d0, d2]
    go_simp
    refine (HM.out w (B0.out.trans (hb.mono B0.out.size)) gk (K0.out.grow hb)).mono ?_
    rintro e w' ⟨rfl, hb'⟩
    exact ⟨_, rfl, hK _ _ hb' rfl⟩
  refine ⟨grow_call [1, 5] [some 6, some 10] (by kernel_rfl) (by kernel_rfl) (fun K w hb hd hK => ⟨wanted_none rfl, ?_⟩), ?_⟩
  · have d0 : vals 1 = .agg (bysA l) := hd 1 (by simp)
    have d2 : vals 5 = .agg (bysA M) := hd 5 (by simp)
    simp only [List.map_cons, List.map_nil, putZ, d0, d2]
    go_simp
    refine (HX.out w).mono ?_
    rintro e w' ⟨rfl, hb'⟩
    exact ⟨_, rfl, hK _ _ hb' rfl⟩
  refine ⟨grow_val [] [] (by kernel_rfl) rfl (fun K w hb hd hK => ⟨wanted_none rfl, ?_⟩), ?_⟩
  · simp only [putZ]
    go_simp
    exact hK _ _ _ (Below.refl _ _) rfl
  refine ⟨grow_val [7] [some 12] (by kernel_rfl) (by kernel_rfl) (fun K w hb hd hK => ⟨wanted_none rfl, ?_⟩), ?_⟩
  · have d0 : vals 7 = .pointer (some ⟨z, 32, none⟩) := hd 7 (by simp)
    have hcl := cell_blk (R0.out.grow hb) Hll.out
    simp only [List.map_cons, List.map_nil, putZ, d0]
    go_simp
    exact hK _ _ _ (Below.refl _ _) rfl
  refine ⟨grow_val [6, 8] [some 11, some 13] (by kernel_rfl) (by kernel_rfl) (fun K w hb hd hK => ⟨wanted_none rfl, ?_⟩), ?_⟩
  · have d0 : vals 6 = .agg (bysA H) := hd 6 (by simp)
    have d1 : vals 8 = .slice (some ⟨b, o, none⟩) n c := hd 8 (by simp)
    simp only [List.map_cons, List.map_nil, putZ, d0, d1]
    go_simp
    exact hK _ _ _ (Below.refl _ _) rfl
  intro W1 hbg hR
  obtain d9 : vals 9 = .agg (blkA H (.slice (some ⟨b, o, none⟩) n c)) := hR 9 (by simp)
  clear hR
  simp only [List.map_cons, List.map_nil, putZ, d9, pick, List.getElem?_cons_succ, List.getElem?_cons_zero]
  generalize vals 0 = e0
  generalize vals 1 = e1
  generalize vals 2 = e2
  generalize vals 3 = e3
  generalize vals 4 = e4
  generalize vals 5 = e5
  generalize vals 6 = e6
  generalize vals 7 = e7
  generalize vals 8 = e8
  clear d9
  obtain ⟨t1, t2, t3⟩ := T0.out.grow hbg
  have B1 := Lib.hid (B0.out.trans (hbg.mono B0.out.size))
  clear hbg HX HM R0 K0 T0 B0 hks
  go_wp2_with fail
  refine bodyPost_ret (v := .agg (blkA H (.slice (some ⟨b, o, none⟩) n c))) (results_blk Tryd.results27 hz2 _ _ _ rfl (by go_simp) (by go_simp)) rfl ⟨_, b, rfl, ?_, .inl rfl, ?_⟩
  · have Bf := below_setRow B1.out (show w.heap.size ≤ t by rw [← Ez.out]; exact hg1) (blkA H (.slice (some ⟨b, o, none⟩) n c))
    exact ⟨o, c, by rw [← En.out], HB.out.grow Bf, by rw [← En.out]; exact hc⟩
  · exact below_setRow B1.out (by rw [← Ez.out]; exact hg1) _
end Go.Proofs.YtnkfiljmgbnbkaaDoor

/-
  Package hmac: as many bytes as one likes of a secret.
-/
namespace Go.Proofs.YtnkfiljmgbnbkaaDoor
open Go.RowKit Go.Hold Go.Sh

/-- What is known of each operation of 'next := Mac(secret[:], slices.Concat(last, info, []byte{byte(i)}))'. -/
def expR (W : World) (x : Nat) (last info : Value) (j : Nat) (L : List Nat) (D : St) : Nat → Value → World → Prop
  | 0, v, _ => v = .slice (some ⟨x, 0, none⟩) 32 32
  | 1, v, _ => v = last
  | 2, v, _ => v = info
  | 3, v, _ => v = .int .i64 (j : Int)
  | 4, v, _ => v = .int .u8 ((j % 256 : Nat) : Int)
  | 5, v, w => ∃ g, v = .slice (some ⟨g, 0, none⟩) 1 1 ∧ BytesAt w g 0 [j % 256]
  | 6, v, w => ∃ g gb, v = .slice (some ⟨g, 0, none⟩) 3 3 ∧ RowAt w g #[last, info, .slice (some ⟨gb, 0, none⟩) 1 1] ∧ BytesAt w gb 0 [j % 256]
  | 7, v, w => SlV w v L
  | 8, v, _ => v = .agg (keA D)
  | 9, v, w => ∃ g, v = .pointer (some ⟨g, 0, none⟩) ∧ W.heap.size ≤ g ∧ ∃ c, c.size = 32 ∧ RowAt w g c
  | _, _, _ => True
theorem expR_mono (W : World) (x : Nat) (last info : Value) (j : Nat) (L : List Nat) (D : St) : ∀ i v w w', expR W x last info j L D i v w → Below w.heap.size w w' → expR W x last info j L D i v w'
  | 0, _, _, _, h, _ => h
  | 1, _, _, _, h, _ => h
  | 2, _, _, _, h, _ => h
  | 3, _, _, _, h, _ => h
  | 4, _, _, _, h, _ => h
  | 5, _, _, _, h, hb => by obtain ⟨g, h1, h2⟩ := h; exact ⟨g, h1, h2.grow hb⟩
  | 6, _, _, _, h, hb => by obtain ⟨g, gb, h1, h2, h3⟩ := h; exact ⟨g, gb, h1, h2.grow hb, h3.grow hb⟩
  | 7, _, _, _, h, hb => SlV.grow h hb
  | 8, _, _, _, h, _ => h
  | 9, _, _, _, h, hb => by obtain ⟨g, h1, h2, c, h3, h4⟩ := h; exact ⟨g, h1, h2, c, h3, h4.grow hb⟩
  | _ + 10, _, _, _, _, _ => trivial

set_option maxHeartbeats 600000 in
set_option maxRecDepth 100000 in
theorem expand_c (ic n : Nat) (ip : Option Addr) (s info : List Nat) (w : World) (hT : Tabs w) (hs : s.length = 32) (hsb : ∀ i, s.getD i 0 < 256) (hi : info.length ≤ 100000) (hib : ∀ i, info.getD i 0 < 256) (hiB : Bs0 w ip info) (hic : ip = none → ic = 0) (hn : n ≤ 8160) :
    Calls Tryd.prog 45 #[.agg (bysA s), .slice ip info.length ic, .int .i64 (n : Int)] w fun e w' => ∃ p, e = .returned (.tuple #[.slice p n n, .int .i64 0]) ∧ Bs0 w' p (expN s info n) ∧ (p = none → n = 0) ∧ Below w.heap.size w w' := by
  have HT := Lib.hid hT
  have HI := Lib.hid hiB
  have HIc := Lib.hid hic
  have Hsb := Lib.hid hsb
  have Hib := Lib.hid hib
  have Hs := Lib.hid hs
  have h0 : ¬ (n : Int) < 0 := by omega
  have h1 : ¬ (8160 : Int) < (n : Int) := by omega
  obtain ⟨m, em⟩ : ∃ m, m = info.length := ⟨_, rfl⟩
  rw [← em] at hi ⊢
  have Em := Lib.hid em
  clear hT hiB hic hsb hib hs em
  go_enter Tryd.func45, Tryd.ntmps45
  go_wp2_with fail
  generalize hW : World.alloc _ _ = W0
  have R0 := Lib.hid (show RowAt W0 w.heap.size (bysA s) by rw [← hW]; exact RowAt.of (block_new w _))
  have B0 := Lib.hid (show Below w.heap.size w W0 by rw [← hW]; exact below_alloc (Below.refl _ _) _)
  clear hW
  obtain ⟨x, ex⟩ : ∃ x, x = w.heap.size := ⟨_, rfl⟩
  rw [← ex] at R0 ⊢
  have Ex := Lib.hid ex
  clear ex
  go_loopw [8, 9, 10] (fun all last i wr => ∃ j : Nat, i = .int .i64 ((j + 1 : Nat) : Int) ∧ 32 * j < n + 32 ∧ OwnB wr W0.heap.size all (exps s info j) ∧ SlV wr last (tagT s info j) ∧ Below W0.heap.size W0 wr) (fun _ _ i _ => 300 - (intOf i).toNat)
  case atStart => exact ⟨0, rfl, by omega, own_nil W0 _, ⟨none, 0, rfl, .inl rfl, Nat.le_refl _, fun _ => rfl⟩, Below.refl _ _⟩
  case round =>
    obtain ⟨j, rfl, hj, hown, hlast, hbel⟩ := hrel
    have hel := exps_length s info j
    obtain ⟨pa, ca, rfl, hBa, hca, hpa⟩ := hown.bs
    rw [hel] at hown hca ⊢
    obtain ⟨na, ena⟩ : ∃ y, y = 32 * j := ⟨_, rfl⟩
    rw [← ena] at hown hca hj ⊢
    have Hown := Lib.hid hown
    have Hlast := Lib.hid hlast
    have Hbel := Lib.hid hbel
    have Ena := Lib.hid ena
    have HBa := Lib.hid hBa
    have Hpa := Lib.hid hpa
    clear hown hlast hbel ena hel hBa hpa
    obtain ⟨j1, ej1⟩ : ∃ y, y = j + 1 := ⟨_, rfl⟩
    rw [← ej1]
    by_cases hjn : na < n
    · have hlt : (na : Int) < (n : Int) := by omega
      have hw8 := u8_wrap j1
      obtain ⟨pl, cl, rfl, hBl, hcl, hpl⟩ := Hlast.out
      obtain ⟨nl, enl⟩ : ∃ y, y = (tagT s info j).length := ⟨_, rfl⟩
      have hnl := tagT_le s info j
      rw [← enl] at hcl hnl ⊢
      have Enl := Lib.hid enl
      have HBl := Lib.hid hBl
      have Hpl := Lib.hid hpl
      have Ej1 := Lib.hid ej1
      have hj1 : j1 ≤ 256 := by have := Ena.out; omega
      clear hBl hpl enl ej1 hcl
      obtain ⟨L, eL⟩ : ∃ y, y = tagT s info j ++ info ++ [j1 % 256] := ⟨_, rfl⟩
      obtain ⟨D, eD⟩ : ∃ y, y = mac s L := ⟨_, rfl⟩
      have Htag := Lib.hid (show tagT s info (j + 1) = keyN D by rw [tagT, eD, eL, Ej1.out])
      have HLb := Lib.hid (show ∀ i, L.getD i 0 < 256 by rw [eL]; exact bts_app (bts_app (tagT_bts _ _ _) Hib.out) (bts_1 _ (Nat.mod_lt _ (by decide))))
      have hLl : L.length ≤ 200000 := by rw [eL, List.length_append, List.length_append, ← Enl.out, ← Em.out]; simp only [List.length_cons, List.length_nil]; omega
      have EL := Lib.hid eL
      have ED := Lib.hid eD
      clear eL eD
      have hWr := Hbel.out.size
      have R1 := Lib.hid (R0.out.grow Hbel.out)
      have I1 := Lib.hid ((HI.out.grow B0.out).grow Hbel.out)
      have T1 := Lib.hid ((HT.out.grow B0.out).grow Hbel.out)
      have BB1 := Lib.hid (B0.out.trans (Hbel.out.mono B0.out.size))
      go_wp2_with fail
      refine wp_region_grows wr 10 (fun w w' => Below w.heap.size w w') (expR wr x (.slice pl nl cl) (.slice ip m ic) j1 L D) [10] [0, 1, 2, 3, 4, 5, 6, 7, 8, 9] [some 24, some 25, some 26, some 27, some 28, some 29, some 30, some 31, some 32, some 11] (by kernel_rfl) (by kernel_rfl) (by kernel_rfl) (by kernel_rfl) ((Below.refl _ _).drew) (fun w w' h h' => h.trans (h'.mono h.size)) (expR_mono _ _ _ _ _ _ _) ?_
      intro vals
      simp only [List.take_succ_cons, List.take_zero]
      refine ⟨grow_val [] [] (by kernel_rfl) rfl (fun K w hb hd hK => ⟨wanted_none rfl, ?_⟩), ?_⟩
      · simp only [putZ]; go_simp; exact hK _ _ _ (Below.refl _ _) rfl
      refine ⟨grow_val [] [] (by kernel_rfl) rfl (fun K w hb hd hK => ⟨wanted_none rfl, ?_⟩), ?_⟩
      · simp only [putZ]; go_simp; exact hK _ _ _ (Below.refl _ _) rfl
      refine ⟨grow_val [] [] (by kernel_rfl) rfl (fun K w hb hd hK => ⟨wanted_none rfl, ?_⟩), ?_⟩
      · simp only [putZ]; go_simp; exact hK _ _ _ (Below.refl _ _) rfl
      refine ⟨grow_val [] [] (by kernel_rfl) rfl (fun K w hb hd hK => ⟨wanted_none rfl, ?_⟩), ?_⟩
      · simp only [putZ]; go_simp; exact hK _ _ _ (Below.refl _ _) rfl
      refine ⟨grow_val [3] [some 27] (by kernel_rfl) (by kernel_rfl) (fun K w hb hd hK => ⟨wanted_none rfl, ?_⟩), ?_⟩
      · have d3 : vals 3 = .int .i64 (j1 : Int) := hd 3 (by simp)
        simp only [List.map_cons, List.map_nil, putZ, d3]; go_simp; exact hK _ _ _ (Below.refl _ _) rfl
      refine ⟨grow_val [4] [some 28] (by kernel_rfl) (by kernel_rfl) (fun K w hb hd hK => ⟨wanted_none rfl, ?_⟩), ?_⟩
      · have d4 : vals 4 = .int .u8 ((j1 % 256 : Nat) : Int) := hd 4 (by simp)
        obtain ⟨b, eb⟩ : ∃ b, b = j1 % 256 := ⟨_, rfl⟩
        rw [← eb] at d4
        have Eb := Lib.hid eb
        clear eb
        simp only [List.map_cons, List.map_nil, putZ, d4]; go_simp; exact hK _ _ _ (below_alloc (Below.refl _ _) _) ⟨_, rfl, by rw [← Eb.out]; exact bytes_new w [b] _ _⟩
      refine ⟨grow_val [1, 2, 5] [some 25, some 26, some 29] (by kernel_rfl) (by kernel_rfl) (fun K w hb hd hK => ⟨wanted_none rfl, ?_⟩), ?_⟩
      · have d1 : vals 1 = .slice pl nl cl := hd 1 (by simp)
        have d2 : vals 2 = .slice ip m ic := hd 2 (by simp)
        obtain ⟨gb, d5, hgb⟩ : ∃ g, vals 5 = .slice (some ⟨g, 0, none⟩) 1 1 ∧ BytesAt w g 0 [j1 % 256] := hd 5 (by simp)
        simp only [List.map_cons, List.map_nil, putZ, d1, d2, d5]; go_simp; exact hK _ _ _ (below_alloc (Below.refl _ _) _) ⟨_, gb, rfl, RowAt.of (block_new w _), hgb.grow (below_alloc (Below.refl _ _) _)⟩
      refine ⟨grow_call [6] [some 30] (by kernel_rfl) (by kernel_rfl) (fun K w hb hd hK => ⟨wanted_none rfl, ?_⟩), ?_⟩
      · obtain ⟨g6, gb, d6, hr6, hgb⟩ : ∃ g gb, vals 6 = .slice (some ⟨g, 0, none⟩) 3 3 ∧ RowAt w g #[.slice pl nl cl, .slice ip m ic, .slice (some ⟨gb, 0, none⟩) 1 1] ∧ BytesAt w gb 0 [j1 % 256] := hd 6 (by simp)
        simp only [List.map_cons, List.map_nil, putZ, d6]; go_simp
        refine (concat3_c hr6 Enl.out Em.out (k := [j1 % 256]) rfl (HBl.out.grow hb) (I1.out.grow hb) (Bs0.some hgb) Hpl.out HIc.out (fun h => by cases h) (by rw [← Enl.out, ← Em.out]; simp only [List.length_cons, List.length_nil]; omega)).mono ?_
        rintro e w' ⟨v, rfl, hown, hb'⟩
        refine ⟨v, rfl, hK _ _ hb' ?_⟩
        show SlV w' v L
        rw [EL.out]; exact hown.bs
      refine ⟨grow_call [0, 7] [some 24, some 31] (by kernel_rfl) (by kernel_rfl) (fun K w hb hd hK => ⟨wanted_none rfl, ?_⟩), ?_⟩
      · have d0 : vals 0 = .slice (some ⟨x, 0, none⟩) 32 32 := hd 0 (by simp)
        obtain ⟨p7, c7, d7, hB7, _, hp7⟩ : SlV w (vals 7) L := hd 7 (by simp)
        simp only [List.map_cons, List.map_nil, putZ, d0, d7]; go_simp
        have HM := mac_c 32 c7 (some ⟨x, 0, none⟩) p7 s L w (T1.out.grow hb) (by rw [Hs.out]; decide) Hsb.out (Bs0.some (bytes_row (R1.out.grow hb))) (by rw [Hs.out]; decide) (by omega) HLb.out hB7 hp7
        rw [Hs.out, ← ED.out] at HM
        refine HM.mono ?_
        rintro e w' ⟨rfl, hb'⟩
        exact ⟨_, rfl, hK _ _ hb' rfl⟩
      refine ⟨grow_val [] [] (by kernel_rfl) rfl (fun K w hb hd hK => ⟨wanted_none rfl, ?_⟩), ?_⟩
      · simp only [putZ]; go_simp; exact hK _ _ _ (below_alloc (Below.refl _ _) _) ⟨_, rfl, hb.size, _, by simp, RowAt.of (block_new w _)⟩
      intro W1 hb1 hd
      have d8 : vals 8 = .agg (keA D) := hd 8 (by simp)
      obtain ⟨g, d9, hg, c9, hc9, hR9⟩ : ∃ g, vals 9 = .pointer (some ⟨g, 0, none⟩) ∧ wr.heap.size ≤ g ∧ ∃ c : Array Value, c.size = 32 ∧ RowAt W1 g c := hd 9 (by simp)
      clear hd
      simp only [List.map_cons, List.map_nil, putZ, d8, d9, pick, List.getElem?_cons_succ, List.getElem?_cons_zero]
      generalize vals 0 = v0
      generalize vals 1 = v1
      generalize vals 2 = v2
      generalize vals 3 = v3
      generalize vals 4 = v4
      generalize vals 5 = v5
      generalize vals 6 = v6
      generalize vals 7 = v7
      clear d8 d9
      have hown1 : OwnB W1 W0.heap.size (.slice pa na ca) (exps s info j) := Hown.out.below hb1
      have hown2 : OwnB (W1.setRow g (keA D)) W0.heap.size (.slice pa na ca) (exps s info j) :=
        World.ownsRow.kept (row := some g) hown1 ⟨rfl, rfl, rfl, by rw [size_setRow]; exact Nat.le_refl _, fun k _ hk => setRow_other W1 g k _ (fun e => hk (by rw [e]))⟩ (by
          right
          intro he
          have := (World.ownsRow.lt Hown.out g he).2
          omega)
      have RG := hR9.set (keA D)
      have hsz2 : W0.heap.size ≤ (W1.setRow g (keA D)).heap.size := by rw [size_setRow]; have := hb1.size; omega
      have hB2 : Below W0.heap.size W0 (W1.setRow g (keA D)) := by
        have := Hbel.out.trans (hb1.mono Hbel.out.size)
        exact below_setRow this (by omega) _
      obtain ⟨va, wa, hra, howna, hgra⟩ := app_own (cap := 32) (k := 32) hown2 (Bs0.some (keyN_row RG)) (keyN_length D).symm (fun h => by cases h) hsz2 (by rw [exps_length, keyN_length]; have := Ena.out; omega)
      have Hba := Lib.hid (own_below hB2 hown2 hsz2 hgra)
      have Hoa := Lib.hid (show OwnB wa W0.heap.size va (exps s info (j + 1)) by rw [exps, Htag.out]; exact howna)
      have Hla := Lib.hid (show SlV wa (.slice (some ⟨g, 0, none⟩) 32 32) (tagT s info (j + 1)) by
        rw [Htag.out]
        refine ⟨some ⟨g, 0, none⟩, 32, by rw [keyN_length], Bs0.some (keyN_row ?_), by rw [keyN_length]; exact Nat.le_refl _, fun h => by cases h⟩
        obtain ⟨t, ht⟩ := RG.block
        refine RowAt.of (t := t) ?_
        rw [hgra.block g RG.2.2 (fun he => by have := (World.ownsRow.lt Hown.out g he.symm).2; omega)]
        exact ht)
      obtain ⟨r1, r2, r3⟩ := hR9
      clear hown1 hown2 RG hsz2 hB2 howna hgra
      go_wp2_with (at_builtin; refine Lib.wpList_append_run _ rfl _ _ _ _ rfl _ _ rfl rfl _ _ hra ?_)
      go_wp2_with fail
      go_roundw
      case rel => exact ⟨j + 1, by rw [← Ej1.out]; go_num, by have := Ena.out; omega, Hoa.out, Hla.out, Hba.out⟩
      case measure => simp [intOf]; omega
    · have hlt : ¬ (na : Int) < (n : Int) := by omega
      have hsl := slB_hm pa na ca n (by omega)
      clear ej1
      go_wp2_with fail
      refine bodyPost_ret (v := .tuple #[.slice pa n n, .int .i64 0]) (results_tmp2 Tryd.results45 _ _ _) rfl ⟨pa, rfl, ?_, fun h => ?_, B0.out.trans (Hbel.out.mono B0.out.size)⟩
      · rw [expN_take s info n j (by have := Ena.out; omega)]
        exact Bs0.take HBa.out n
      · have hz : exps s info j = [] := by
          rcases HBa.out with h1 | ⟨b, o, h1, _⟩
          · exact h1
          · rw [h] at h1; cases h1
        have := exps_length s info j
        rw [hz] at this
        have := Ena.out
        simp at *; omega

set_option maxHeartbeats 400000 in
set_option maxRecDepth 100000 in
theorem expand_bad (z : Int) (s : List Nat) (v : Value) (w : World) (hz : z < 0 ∨ 8160 < z) :
    Calls Tryd.prog 45 #[.agg (bysA s), v, .int .i64 z] w fun e w' => e = .returned (.tuple #[.slice none 0 0, .int .i64 3]) ∧ Below w.heap.size w w' := by
  rcases hz with h | h
  · go_enter Tryd.func45, Tryd.ntmps45
    go_wp2_with fail
    refine bodyPost_ret (v := .tuple #[.slice none 0 0, .int .i64 3]) (results_tmp2 Tryd.results45 _ _ _) rfl ⟨rfl, below_alloc (Below.refl _ _) _⟩
  · have h' : ¬ z < 0 := by omega
    go_enter Tryd.func45, Tryd.ntmps45
    go_wp2_with fail
    refine bodyPost_ret (v := .tuple #[.slice none 0 0, .int .i64 3]) (results_tmp2 Tryd.results45 _ _ _) rfl ⟨rfl, below_alloc (Below.refl _ _) _⟩
end Go.Proofs.YtnkfiljmgbnbkaaDoor

/-
  Bytes and strings.
-/
namespace Go.Proofs.YtnkfiljmgbnbkaaDoor
open Go.RowKit Go.Hold Go.Sh

/-- A string's bytes. -/
def strB (s : ByteArray) : List Nat := s.data.toList.map fun b => b.toNat
theorem strB_length (s : ByteArray) : (strB s).length = s.size := by simp [strB]
theorem strB_bts (s : ByteArray) : ∀ i, (strB s).getD i 0 < 256 := getD_lt fun x hx => by
  obtain ⟨b, _, rfl⟩ := List.mem_map.1 hx
  exact b.toNat_lt
theorem strB_app (s t : ByteArray) : strB (s ++ t) = strB s ++ strB t := by simp [strB]
def cvSB (v : Value) : Sem Value := convert 9 24 v
@[go_sem ↓ high] theorem fold_cvSB (v : Value) : convert 9 24 v = cvSB v := rfl
/-- A string is turned into bytes. -/
theorem run_cvSB (s : ByteArray) (w : World) : ∃ c W, (cvSB (.string s)).run Tryd.prog w = .ok (.slice (some ⟨w.heap.size, 0, none⟩) s.size c) W ∧ BytesAt W w.heap.size 0 (strB s) ∧ Below w.heap.size w W ∧ s.size ≤ c := by
  refine ⟨grownCap w s.size 0 5, Lib.bytesWorld w 5 s, Lib.run_convert_string_bytes w _ _ 5 s Tryd.underlying9 Tryd.underlying24 Tryd.underlying5, ⟨by rw [Lib.bytesWorld_size]; omega, fun i hi => ?_⟩, ⟨?_, ?_, ?_, by rw [Lib.bytesWorld_size]; omega, fun k hk => Lib.bytesWorld_at_old w _ s k hk⟩, grownCap_ge _ _ _ _⟩
  · rw [strB_length] at hi
    rw [Nat.zero_add, Lib.bytesWorld_cell w _ s i hi]
    simp [strB, List.getD, hi]
  · rfl
  · rfl
  · rfl
/-- Bytes as a string. -/
def toS (l : List Nat) : ByteArray := ⟨(l.map UInt8.ofNat).toArray⟩
theorem strB_toS {l : List Nat} (h : ∀ i, l.getD i 0 < 256) : strB (toS l) = l := by
  unfold strB toS
  simp only [List.map_map]
  conv => rhs; rw [← List.map_id l]
  apply List.map_congr_left
  intro x hx
  have := mem_lt h x hx
  simp only [Function.comp, id]
  rw [UInt8.toNat_ofNat']
  omega
theorem toS_inj {a b : List Nat} (ha : ∀ i, a.getD i 0 < 256) (hb : ∀ i, b.getD i 0 < 256) : toS a = toS b ↔ a = b := by
  constructor
  · intro h
    rw [← strB_toS ha, ← strB_toS hb, h]
  · rintro rfl; rfl
theorem toS_size (l : List Nat) : (toS l).size = l.length := by simp [toS, ByteArray.size]
def cvBS (v : Value) : Sem Value := convert 24 9 v
@[go_sem ↓ high] theorem fold_cvBS (v : Value) : convert 24 9 v = cvBS v := rfl
theorem foldl_toS : ∀ (l : List Nat) (s : ByteArray), (l.map fun n : Nat => (n : Int)).foldl (fun r n => r.push (UInt8.ofNat n.toNat)) s = ⟨s.data ++ (l.map UInt8.ofNat).toArray⟩
  | [], s => by simp
  | n :: l, s => by
    rw [List.map_cons, List.foldl_cons, foldl_toS l]
    simp [ByteArray.push]
theorem run_cvBS {w : World} {p : Option Addr} {l : List Nat} {n c : Nat} (h : Bs0 w p l) (hn : n = l.length) : (cvBS (.slice p n c)).run Tryd.prog w = .ok (.string (toS l)) w := by
  subst hn
  unfold cvBS
  rw [run_convert_bytes_string w _ _ 5 _ _ _ Tryd.underlying24 Tryd.underlying5 Tryd.underlying9]
  have key : ∀ a : Addr, (∀ j u, (bys l)[j]? = some u → w.cell? (a.add j) = some u) → (Conv.bytesToString (.slice (some a) l.length c)).run Tryd.prog w = .ok (.string (toS l)) w := fun a ha => by
    have h1 := run_loadCells_list (P := Tryd.prog) w a (bys l) ha
    rw [bys_length] at h1
    have h2 : bys l = (l.map fun n : Nat => (n : Int)).map (Value.int .u8) := by simp [bys]
    rw [h2] at h1
    rw [run_bytesToString w a l.length c _ h1, foldl_toS]
    simp [toS]
  cases p with
  | none =>
    have hl : l = [] := by
      rcases h with h | ⟨b, o, h, _⟩
      · exact h
      · cases h
    subst hl
    simp [Conv.bytesToString, toS]
    rfl
  | some a =>
    refine key a ?_
    rcases h with rfl | ⟨b, o, he, h⟩
    · intro j u hu; simp [bys] at hu
    · cases he; exact bys_at h
end Go.Proofs.YtnkfiljmgbnbkaaDoor

/-
  Package hmac: a key of its own for a purpose.
-/
namespace Go.Proofs.YtnkfiljmgbnbkaaDoor
open Go.RowKit Go.Hold Go.Sh

theorem purp_str : strB ⟨#[112, 105, 103, 101, 111, 110, 114, 121, 32]⟩ = purp := by decide
set_option maxHeartbeats 400000 in
set_option maxRecDepth 100000 in
theorem derive_c (s : List Nat) (lab : ByteArray) (w : World) (hT : Tabs w) (hs : s.length = 32) (hsb : ∀ i, s.getD i 0 < 256) (hl : lab.size ≤ 50000) :
    Calls Tryd.prog 32 #[.agg (bysA s), .string lab] w fun e w' => e = .returned (.agg (keA (drv s (purp ++ strB lab)))) ∧ Below w.heap.size w w' := by
  have hz : (bysA s).size = 32 := by rw [bysA_size, hs]
  have HT := Lib.hid hT
  have Hs := Lib.hid hs
  have Hsb := Lib.hid hsb
  obtain ⟨D, eD⟩ : ∃ y, y = drv s (purp ++ strB lab) := ⟨_, rfl⟩
  rw [← eD]
  have ED := Lib.hid eD
  clear hT hs hsb eD
  go_enter Tryd.func32, Tryd.ntmps32
  go_wp2_with fail
  generalize hS : ({ data := #[112, 105, 103, 101, 111, 110, 114, 121, 32] } : ByteArray) ++ lab = S0
  have HS0 := Lib.hid (show strB S0 = purp ++ strB lab by rw [← hS, strB_app, purp_str])
  have hS0 : S0.size ≤ 60000 := by
    have := congrArg List.length HS0.out
    rw [strB_length, List.length_append, strB_length] at this
    simp [purp] at this; omega
  clear hS
  generalize hW : World.alloc _ _ = W0
  obtain ⟨z0, hz0, hR0⟩ : ∃ c : Array Value, c.size = 32 ∧ RowAt W0 (w.heap.size + 1) c := by rw [← hW]; clear hW; exact ⟨byI (List.replicate 32 0), by simp [byI], by go_simp, by go_simp; rfl, by go_simp⟩
  have K0 := Lib.hid (show RowAt W0 (w.heap.size + 1 + 1) (bysA (zs 32)) by rw [← hW]; clear hW; exact ⟨by go_simp, by go_simp; rfl, by go_simp⟩)
  have R0 := Lib.hid hR0
  have B0 := Lib.hid (show Below w.heap.size w W0 by rw [← hW]; repeat (first | apply below_more | apply below_alloc | exact Below.refl _ _))
  clear hW hR0
  have hg1 : w.heap.size ≤ w.heap.size + 1 + 1 := by omega
  have hg2 : ¬ w.heap.size + 1 = w.heap.size + 1 + 1 := by omega
  have hg3 : w.heap.size ≤ w.heap.size + 1 := by omega
  generalize w.heap.size + 1 + 1 = t at *
  generalize w.heap.size + 1 = r at *
  obtain ⟨c, W1, hr, hby, hb1, hc⟩ := run_cvSB S0 W0
  have HE := expand_c c 32 (some ⟨W0.heap.size, 0, none⟩) s (strB S0) W1 ((HT.out.grow B0.out).grow hb1) Hs.out Hsb.out (by rw [strB_length]; omega) (strB_bts _) (Bs0.some hby) (fun h => by cases h) (by decide)
  rw [strB_length, expN_32, HS0.out, ← ED.out] at HE
  have HE := Lib.hid HE
  have R1 := Lib.hid (R0.out.grow hb1)
  have K1 := Lib.hid (K0.out.grow hb1)
  have B1 := Lib.hid (B0.out.trans (hb1.mono B0.out.size))
  clear hby hb1 hc R0 K0 hS0
  rw [hr]
  go_simp
  go_wp2_with fail
  refine HE.out.mono ?_
  rintro e W2 ⟨p, rfl, hB2, hp2, hb2⟩
  have hcp := copy_bytes (c2 := 32) (cap := 32) (d := 32) (s := 32) (k := 32) (K1.out.grow hb2) (by rw [zs_length]) (keyN_length D).symm (by rw [zs_length, keyN_length]; decide) hB2
  rw [show (keyN D).take 32 ++ (zs 32).drop 32 = keyN D by rw [List.take_of_length_le (by rw [keyN_length]; exact Nat.le_refl _), zs_drop]; simp [zs], ← keA_bys] at hcp
  have K2 := (K1.out.grow hb2).set (keA D)
  have R2 := (R1.out.grow hb2).other hg2 (keA D)
  have B2 := Lib.hid (below_setRow (B1.out.trans (hb2.mono B1.out.size)) hg1 (keA D))
  generalize W2.setRow t (keA D) = W3 at *
  obtain ⟨k1, k2, k3⟩ := K2
  obtain ⟨r1, r2, r3⟩ := R2
  clear hb2 hB2 hp2 HE K1 R1
  go_wp2_with fail
  refine bodyPost_ret (v := .agg (keA D)) (results_key Tryd.results32 (keA_size _) _ _ _ rfl (by go_simp) (by go_simp)) rfl ⟨rfl, ?_⟩
  exact below_setRow B2.out hg3 _
end Go.Proofs.YtnkfiljmgbnbkaaDoor

/-
  Package lion: what comes of a block by a round.
-/
namespace Go.Proofs.YtnkfiljmgbnbkaaDoor
open Go.RowKit Go.Hold Go.Sh Go.Ch Go.Li

/-- A block, as a value of a region. -/
def blkR (B b : Nat) (y : Blk) : Value → World → Prop := fun v w => ∃ b', BlkV w v y b' ∧ (b' = b ∨ B ≤ b')
theorem stays_blk (B b : Nat) (y : Blk) : Stays (blkR B b y) := fun _ _ _ ⟨b', h, h'⟩ hb => ⟨b', BlkV.grow h hb, h'⟩
set_option maxHeartbeats 1000000 in
set_option maxRecDepth 100000 in
theorem by_g (F : Nat) (hF : F = 26 ∨ F = 27) (s : ByteArray) (k rk : List Nat) (y : Blk) (v : Value) (b : Nat) (w : World) (hbw : b < w.heap.size) (hk : k.length = 32) (hy : y.1.length = 32) (hv : ∃ c : Array Value, v = .agg c ∧ c.size = 33 ∧ oneAll c = true)
    (hD : ∀ W, Below w.heap.size w W → Calls Tryd.prog 32 #[.agg (bysA k), .string s] W fun e w' => e = .returned (.agg (bysA rk)) ∧ Below W.heap.size W w')
    (hG : ∀ W, Below w.heap.size w W → Calls Tryd.prog F #[v, .agg (bysA rk)] W fun e w' => ∃ u b', e = .returned u ∧ BlkV w' u y b' ∧ (b' = b ∨ W.heap.size ≤ b') ∧ Below W.heap.size W w') :
    Calls Tryd.prog 24 #[.agg #[.func (.func F) #[] #[], .string s], .agg (bysA k), v] w fun e w' => ∃ u b', e = .returned u ∧ BlkV w' u y b' ∧ (b' = b ∨ w.heap.size ≤ b') ∧ Below w.heap.size w w' := by
  obtain ⟨c, rfl, hc, hone⟩ := hv
  have hks := bysA_size' hk
  have HD := Lib.hid hD
  have HG := Lib.hid hG
  have Hy := Lib.hid hy
  clear hk hD hG hy
  go_enter Tryd.func24, Tryd.ntmps24
  go_wp2_with fail
  generalize hW : World.alloc _ _ = W0
  obtain ⟨z0, hz0, hT0⟩ : ∃ c : Array Value, c.size = 33 ∧ RowAt W0 (w.heap.size + 1 + 1 + 1) c := by rw [← hW]; clear hW; exact ⟨_, rfl, by go_simp, by go_simp; rfl, by go_simp⟩
  have T0 := Lib.hid hT0
  have F0 := Lib.hid (show RowAt W0 w.heap.size #[.func (.func F) #[] #[], .string s] by rw [← hW]; clear hW; exact ⟨by go_simp, by go_simp, by go_simp⟩)
  have K0 := Lib.hid (show RowAt W0 (w.heap.size + 1) (bysA k) by rw [← hW]; clear hW; exact ⟨by go_simp, by go_simp, by go_simp⟩)
  have X0 := Lib.hid (show RowAt W0 (w.heap.size + 1 + 1) c by rw [← hW]; clear hW; exact ⟨by go_simp, by go_simp, by go_simp⟩)
  have B0 := Lib.hid (show Below w.heap.size w W0 by rw [← hW]; repeat (first | apply below_more | apply below_alloc | exact Below.refl _ _))
  clear hW hT0
  have hg1 : w.heap.size ≤ w.heap.size + 1 + 1 + 1 := by omega
  generalize w.heap.size + 1 + 1 + 1 = t at *
  generalize w.heap.size + 1 + 1 = gx at *
  generalize w.heap.size + 1 = gk at *
  obtain ⟨z, ez⟩ : ∃ z, z = w.heap.size := ⟨_, rfl⟩
  rw [← ez] at F0 hg1 ⊢
  have Ez := Lib.hid ez
  clear ez
  refine wp_region_grows W0 8 (fun w w' => Below w.heap.size w w') (listR [fixV (.pointer (some ⟨z, 0, none⟩)), fixV (.func (.func F) #[] #[]), fixV (.agg c), fixV (.agg (bysA k)), fixV (.pointer (some ⟨z, 1, none⟩)), fixV (.string s), fixV (.agg (bysA rk)), blkR W0.heap.size b y]) [8] [0, 1, 2, 3, 4, 5, 6, 7] [some 7, some 8, some 9, some 10, some 11, some 12, some 13, some 14] (by kernel_rfl) (by kernel_rfl) (by kernel_rfl) (by kernel_rfl) ((Below.refl _ _).drew) (fun w w' h h' => h.trans (h'.mono h.size)) (listR_mono ⟨stays_fix _, stays_fix _, stays_fix _, stays_fix _, stays_fix _, stays_fix _, stays_fix _, stays_blk _ _ _, trivial⟩) ?_
  intro vals
  simp only [List.take_succ_cons, List.take_zero]
  refine ⟨grow_val [] [] (by kernel_rfl) rfl (fun K w hb hd hK => ⟨wanted_none rfl, ?_⟩), ?_⟩
  · simp only [putZ]
    go_simp
    exact hK _ _ _ (Below.refl _ _) rfl
  refine ⟨grow_val [0] [some 7] (by kernel_rfl) (by kernel_rfl) (fun K w hb hd hK => ⟨wanted_none rfl, ?_⟩), ?_⟩
  · have d0 : vals 0 = .pointer (some ⟨z, 0, none⟩) := hd 0 (by simp)
    have hcl := (F0.out.grow hb).cellAt 0 rfl
    simp only [List.map_cons, List.map_nil, putZ, d0]
    go_simp
    exact hK _ _ _ (Below.refl _ _) rfl
  refine ⟨grow_val [] [] (by kernel_rfl) rfl (fun K w hb hd hK => ⟨wanted_none rfl, ?_⟩), ?_⟩
  · obtain ⟨k1, k2, k3⟩ := X0.out.grow hb
    simp only [putZ]
    go_simp
    exact hK _ _ _ (Below.refl _ _) rfl
  refine ⟨grow_val [] [] (by kernel_rfl) rfl (fun K w hb hd hK => ⟨wanted_none rfl, ?_⟩), ?_⟩
  · obtain ⟨k1, k2, k3⟩ := K0.out.grow hb
    simp only [putZ]
    go_simp
    exact hK _ _ _ (Below.refl _ _) rfl
  refine ⟨grow_val [] [] (by kernel_rfl) rfl (fun K w hb hd hK => ⟨wanted_none rfl, ?_⟩), ?_⟩
  · simp only [putZ]
    go_simp
    exact hK _ _ _ (Below.refl _ _) rfl
  refine ⟨grow_val [4] [some 11] (by kernel_rfl) (by kernel_rfl) (fun K w hb hd hK => ⟨wanted_none rfl, ?_⟩), ?_⟩
  · have d0 : vals 4 = .pointer (some ⟨z, 1, none⟩) := hd 4 (by simp)
    have hcl := (F0.out.grow hb).cellAt 1 rfl
    simp only [List.map_cons, List.map_nil, putZ, d0]
    go_simp
    exact hK _ _ _ (Below.refl _ _) rfl
  refine ⟨grow_call [3, 5] [some 10, some 12] (by kernel_rfl) (by kernel_rfl) (fun K w hb hd hK => ⟨wanted_none rfl, ?_⟩), ?_⟩
  · have d0 : vals 3 = .agg (bysA k) := hd 3 (by simp)
    have d2 : vals 5 = .string s := hd 5 (by simp)
    simp only [List.map_cons, List.map_nil, putZ, d0, d2]
    go_simp
    refine (HD.out w (B0.out.trans (hb.mono B0.out.size))).mono ?_
    rintro e w' ⟨rfl, hb'⟩
    exact ⟨_, rfl, hK _ _ hb' rfl⟩
  refine ⟨grow_call [1, 2, 6] [some 8, some 9, some 13] (by kernel_rfl) (by kernel_rfl) (fun K w hb hd hK => ⟨wanted_none rfl, ?_⟩), ?_⟩
  · have d0 : vals 1 = .func (.func F) #[] #[] := hd 1 (by simp)
    have d2 : vals 2 = .agg c := hd 2 (by simp)
    have d6 : vals 6 = .agg (bysA rk) := hd 6 (by simp)
    simp only [List.map_cons, List.map_nil, putZ, d0, d2, d6]
    have hcall := HG.out w (B0.out.trans (hb.mono B0.out.size))
    rcases hF with rfl | rfl
    · go_simp
      refine hcall.mono ?_
      rintro e w' ⟨u, b', rfl, hu, hn, hb'⟩
      exact ⟨_, rfl, hK _ _ hb' ⟨b', hu, hn.imp_right fun h => Nat.le_trans hb.size h⟩⟩
    · go_simp
      refine hcall.mono ?_
      rintro e w' ⟨u, b', rfl, hu, hn, hb'⟩
      exact ⟨_, rfl, hK _ _ hb' ⟨b', hu, hn.imp_right fun h => Nat.le_trans hb.size h⟩⟩
  intro W1 hbg hR
  obtain ⟨b', ⟨o, cp, e7, hy2, hyc⟩, hn⟩ : ∃ b', BlkV W1 (vals 7) y b' ∧ (b' = b ∨ W0.heap.size ≤ b') := hR 7 (by simp)
  clear hR
  simp only [List.map_cons, List.map_nil, putZ, e7, pick, List.getElem?_cons_succ, List.getElem?_cons_zero]
  generalize vals 0 = e0
  generalize vals 1 = e1
  generalize vals 2 = e2
  generalize vals 3 = e3
  generalize vals 4 = e4
  generalize vals 5 = e5
  generalize vals 6 = e6
  clear e7
  obtain ⟨y1, y2⟩ := y
  simp only at hy2 hyc ⊢
  have hz2 := blkA_size (s := .slice (some ⟨b', o, none⟩) y2.length cp) (l := y1) Hy.out
  have hsz := B0.out.size
  have htw := T0.out.2.2
  have hgt : b' ≠ t := by
    rcases hn with rfl | h
    · rw [← Ez.out] at hbw; omega
    · omega
  have hn' : b' = b ∨ w.heap.size ≤ b' := hn.imp_right fun h => Nat.le_trans hsz h
  obtain ⟨t1, t2, t3⟩ := T0.out.grow hbg
  have B1 := Lib.hid (B0.out.trans (hbg.mono B0.out.size))
  have Y1 := Lib.hid hy2
  have Hc := Lib.hid hyc
  clear hbg hn hy2 hyc HD HG F0 K0 X0 T0 B0 hks hsz htw
  go_wp2_with fail
  refine bodyPost_ret (v := .agg (blkA y1 (.slice (some ⟨b', o, none⟩) y2.length cp))) (results_blk Tryd.results24 hz2 _ _ _ rfl (by go_simp) (by go_simp)) rfl ⟨_, rfl, b', ?_, hn', ?_⟩
  · exact ⟨o, cp, rfl, Y1.out.other hgt _, Hc.out⟩
  · exact below_setRow B1.out (by rw [← Ez.out]; exact hg1) _
/-- The label and the function of the i-th round, as cells. -/
def labB (i : Nat) : ByteArray := match i with
  | 1 => ⟨#[108, 105, 111, 110, 32, 49]⟩
  | 2 => ⟨#[108, 105, 111, 110, 32, 50]⟩
  | 3 => ⟨#[108, 105, 111, 110, 32, 51]⟩
  | _ => ⟨#[108, 105, 111, 110, 32, 52]⟩
def rndF (i : Nat) : Nat := if i % 2 == 0 then 27 else 26
def rndA (i : Nat) : Array Value := #[.func (.func (rndF i)) #[] #[], .string (labB i)]
/-- The number of a round. -/
def OkR (i : Nat) : Prop := i = 1 ∨ i = 2 ∨ i = 3 ∨ i = 4
theorem labB_eq {i : Nat} (h : OkR i) : strB (labB i) = lab i ∧ (labB i).size ≤ 50000 := by
  rcases h with rfl | rfl | rfl | rfl <;> exact ⟨by decide, by decide⟩
theorem by_c (i : Nat) (hi : OkR i) (k : List Nat) (x : Blk) (hx : OkB x) (h1 : 1 ≤ x.2.length) (hl : x.2.length ≤ 65536) (hk : k.length = 32) (hkb : ∀ i, k.getD i 0 < 256) (v : Value) (b : Nat) (w : World) (hT : Tabs w) (hV : BlkV w v x b) :
    Calls Tryd.prog 24 #[.agg (rndA i), .agg (bysA k), v] w fun e w' => ∃ u b', e = .returned u ∧ BlkV w' u (rnd k i x) b' ∧ (b' = b ∨ w.heap.size ≤ b') ∧ Below w.heap.size w w' := by
  have hbw : b < w.heap.size := by obtain ⟨_, _, _, h, _⟩ := hV; exact h.1
  have hv : ∃ c : Array Value, v = .agg c ∧ c.size = 33 ∧ oneAll c = true := by
    obtain ⟨o, c, e, _, _⟩ := hV
    exact ⟨_, e, blkA_size hx.left, blkA_one _ _ _ _⟩
  refine by_g (rndF i) ?_ (labB i) k (rkey k i) (rnd k i x) v b w hbw hk (by rw [rnd, rd_left]; exact hx.left) hv (fun W hW => ?_) (fun W hW => ?_)
  · unfold rndF; split
    · exact .inr rfl
    · exact .inl rfl
  · have h := derive_c k (labB i) W (hT.grow hW) hk hkb (labB_eq hi).2
    rw [(labB_eq hi).1, keA_bys] at h
    exact h
  · unfold rndF rnd rd
    by_cases e : (i % 2 == 0) = true
    · rw [if_pos e, if_pos e]
      exact ltag_c (rkey k i) x hx hl (rkey_length _ _) (rkey_bts _ _) v b W (hT.grow hW) (hV.grow hW)
    · rw [if_neg e, if_neg e]
      exact lstream_c (rkey k i) x hx h1 hl (rkey_length _ _) (rkey_bts _ _) v b W (hV.grow hW)
end Go.Proofs.YtnkfiljmgbnbkaaDoor

/-
  Package lion: the four rounds, in their order and the opposite one.
-/
namespace Go.Proofs.YtnkfiljmgbnbkaaDoor
open Go.RowKit Go.Hold Go.Sh Go.Ch Go.Li

/-- The cells of rounds in a row. -/
def rndsA (l : List Nat) : Array Value := (l.flatMap fun i => (rndA i).toList).toArray
theorem rndsA_get : ∀ (l : List Nat) (j i d : Nat), l[j]? = some i → d < 2 → (rndsA l)[2 * j + d]? = (rndA i)[d]?
  | [], j, i, d, h, _ => by simp at h
  | n :: l, 0, i, d, h, hd => by
    simp only [List.getElem?_cons_zero, Option.some.injEq] at h
    subst h
    simp only [rndsA, List.getElem?_toArray, List.flatMap_cons, Nat.mul_zero, Nat.zero_add]
    rw [List.getElem?_append_left (by simpa [rndA] using hd), Array.getElem?_toList]
  | n :: l, j + 1, i, d, h, hd => by
    simp only [List.getElem?_cons_succ] at h
    have ih := rndsA_get l j i d h hd
    simp only [rndsA, List.getElem?_toArray, List.flatMap_cons] at ih ⊢
    rw [List.getElem?_append_right (by simp [rndA]; omega), ← ih]
    congr 1
    simp [rndA]; omega
theorem rndsA_size (l : List Nat) : (rndsA l).size = 2 * l.length := by
  induction l with
  | nil => rfl
  | cons n l ih =>
    simp only [rndsA, List.size_toArray, List.flatMap_cons, List.length_append, List.length_cons] at ih ⊢
    rw [ih]; simp [rndA]; omega
@[go_sem] theorem rndA_one (i : Nat) : oneAll (rndA i) = true := by simp [oneAll, rndA, Value.oneCell']
@[go_sem ↓] theorem loadAt_rnd (v : Value) : Instr.loadAt 44 v = loadRow 44 v := rfl
@[go_sem] theorem run_loadRnd0 (w : World) (n : Nat) (h1 : w.isRow n = true) (h2 : (w.rowOf n).size = 2) : (loadRow 44 (.pointer (some ⟨n, 0, none⟩))).run Tryd.prog w = .ok (.agg (w.rowOf n)) w := run_loadRow w Tryd.underlying44 rfl (by kernel_rfl) n h1 h2
/-- A round out of those in a row. -/
theorem load_rnd {w : World} {g j i : Nat} {l : List Nat} (h : RowAt w g (rndsA l)) (hj : l[j]? = some i) : (loadRow 44 (.pointer (some ⟨g, 2 * j, none⟩))).run Tryd.prog w = .ok (.agg (rndA i)) w := by
  refine run_loadAt_mid w g (2 * j) _ (rndA i).toList _ (fun d v hv => ?_) Tryd.underlying44 rfl (by kernel_rfl)
  have hd : d < 2 := by have := (List.getElem?_eq_some_iff.1 hv).1; simpa [rndA] using this
  refine h.cellAt _ ?_
  rw [rndsA_get l j i d hj hd, ← hv, Array.getElem?_toList]
@[go_sem ↓] theorem build_rnd (ps : Array (Nat × Value)) : Instr.build 44 ps = bldA 44 ps := rfl
set_option maxRecDepth 100000 in
@[go_sem] theorem run_bldRnd1 (w : World) : (bldA 44 #[(0, .func (.func 26) #[] #[]), (1, .string ⟨#[108, 105, 111, 110, 32, 49]⟩)]).run Tryd.prog w = .ok (.agg (rndA 1)) w := run_build w _ _ _ (by kernel_rfl)
set_option maxRecDepth 100000 in
@[go_sem] theorem run_bldRnd2 (w : World) : (bldA 44 #[(0, .func (.func 27) #[] #[]), (1, .string ⟨#[108, 105, 111, 110, 32, 50]⟩)]).run Tryd.prog w = .ok (.agg (rndA 2)) w := run_build w _ _ _ (by kernel_rfl)
set_option maxRecDepth 100000 in
@[go_sem] theorem run_bldRnd3 (w : World) : (bldA 44 #[(0, .func (.func 26) #[] #[]), (1, .string ⟨#[108, 105, 111, 110, 32, 51]⟩)]).run Tryd.prog w = .ok (.agg (rndA 3)) w := run_build w _ _ _ (by kernel_rfl)
set_option maxRecDepth 100000 in
@[go_sem] theorem run_bldRnd4 (w : World) : (bldA 44 #[(0, .func (.func 27) #[] #[]), (1, .string ⟨#[108, 105, 111, 110, 32, 52]⟩)]).run Tryd.prog w = .ok (.agg (rndA 4)) w := run_build w _ _ _ (by kernel_rfl)
def bldR (n : Nat) (ps : Array (Nat × Value)) : Sem Value := Instr.buildSlice 37 n ps
@[go_sem ↓] theorem fold_bldR (n : Nat) (ps : Array (Nat × Value)) : Instr.buildSlice 37 n ps = bldR n ps := rfl
theorem info_rnd : (Tryd.prog.info? 44).map (fun i => (i.zero, i.size, i.bytes)) = some (some (.agg #[.nilFunc, .string ⟨#[]⟩]), 2, 24) := by kernel_rfl
set_option maxRecDepth 100000 in
@[go_sem] theorem run_bldR4 (w : World) : (bldR 4 #[(0, .agg (rndA 1)), (1, .agg (rndA 2)), (2, .agg (rndA 3)), (3, .agg (rndA 4))]).run Tryd.prog w = .ok (.slice (some ⟨w.heap.size, 0, none⟩) 4 4) (w.alloc (.cells (rndsA fwd) 44)) := by
  obtain ⟨ie, h1, h2, h3, _⟩ := info_parts info_rnd
  refine run_buildSlice w _ _ 4 _ (rndsA fwd) ie _ Tryd.underlying37 h1 h2 (by rw [h3]; decide) (by rw [h3]; decide) ?_
  rw [h3]; kernel_rfl
set_option maxHeartbeats 400000 in
set_option maxRecDepth 100000 in
theorem rounds_c (w : World) : Calls Tryd.prog 16 #[] w fun e w' => ∃ g, e = .returned (.slice (some ⟨g, 0, none⟩) 4 4) ∧ RowAt w' g (rndsA fwd) ∧ w.heap.size ≤ g ∧ Below w.heap.size w w' := by
  go_enter Tryd.func16, Tryd.ntmps16
  go_wp2_with fail
  go_ret
  exact ⟨_, rfl, RowAt.of (block_new w _), Nat.le_refl _, below_alloc (Below.refl _ _) _⟩
end Go.Proofs.YtnkfiljmgbnbkaaDoor

/-
  slices.Reverse, of the four rounds.
-/
namespace Go.Proofs.YtnkfiljmgbnbkaaDoor
open Go.RowKit Go.Hold Go.Sh Go.Ch Go.Li

/-- Behind so many swaps. -/
def revP : Nat → List Nat
  | 0 => [1, 2, 3, 4]
  | 1 => [4, 2, 3, 1]
  | _ => [4, 3, 2, 1]
set_option maxHeartbeats 600000 in
set_option maxRecDepth 100000 in
theorem reverse_c (g : Nat) (w : World) (h : RowAt w g (rndsA fwd)) : Calls Tryd.prog 19 #[.slice (some ⟨g, 0, none⟩) 4 4] w fun e w' => e = .returned (.tuple #[]) ∧ Sets w g (rndsA bwd) w' := by
  have H := Lib.hid h
  clear h
  go_enter Tryd.func19, Tryd.ntmps19
  go_wp2_with fail
  go_loopw [2, 3] (fun i j wr => ∃ (n : Nat) (x y : Int), (n = 0 ∧ x = 0 ∧ y = 3 ∨ n = 1 ∧ x = 1 ∧ y = 2 ∨ n = 2 ∧ x = 2 ∧ y = 1) ∧ i = .int .i64 x ∧ j = .int .i64 y ∧ Sets w g (rndsA (revP n)) wr) (fun i _ _ => 2 - (intOf i).toNat)
  case atStart => exact ⟨0, 0, 3, .inl ⟨rfl, rfl, rfl⟩, rfl, rfl, Sets.refl H.out⟩
  case round =>
    obtain ⟨n, x, y, hn, rfl, rfl, hset⟩ := hrel
    have R0 := hset.row H.out
    rcases hn with ⟨rfl, rfl, rfl⟩ | ⟨rfl, rfl, rfl⟩ | ⟨rfl, rfl, rfl⟩
    · have l0 : ∀ os d, (loadRow 44 (.pointer (some ⟨g, 0, none⟩))).run Tryd.prog (wr.plus os d) = .ok (.agg (rndA 1)) (wr.plus os d) := fun os d => load_rnd (j := 0) (R0.grow (below_more (Below.refl _ _) os d)) rfl
      have l3 : ∀ os d, (loadRow 44 (.pointer (some ⟨g, 6, none⟩))).run Tryd.prog (wr.plus os d) = .ok (.agg (rndA 4)) (wr.plus os d) := fun os d => load_rnd (j := 3) (R0.grow (below_more (Below.refl _ _) os d)) rfl
      go_wp2_with fail
      refine wp_region_pickT wr [0, 1, 2, 3, 4, 5, 6, 7, 8, 9, 10, 11, 12] [false, false, true, true, false, false, false, false, false, false, false, false, false] [13, 14, 15] (by kernel_rfl) (by kernel_rfl) (by intro c a d v w h; cases d <;> exact h) ((Below.refl _ _).drew) ?_
      simp only [pick, List.getElem?_cons_succ, List.getElem?_cons_zero]
      iterate 13 (first | refine wpHoldF_val (wanted_none rfl) (by intro K o d hK; go_simp; exact hK _ (Below.refl _ _)) ?_ | refine wpHoldF_late (wanted_none rfl) (fun w => by go_simp; rfl) ?_)
      refine wpHoldF_nil ?_
      intro W1 hb1
      have R1 := R0.grow hb1
      have s0 := run_storeMid R1 0 (rndA 4) (by decide) (rndA_one _)
      have R2 := R1.set (setL (rndsA (revP 0)) 0 (rndA 4).toList)
      have s3 := run_storeMid R2 6 (rndA 1) (by decide) (rndA_one _)
      have S3 := Lib.hid (show Sets w g (rndsA (revP 1)) ((W1.setRow g (setL (rndsA (revP 0)) 0 (rndA 4).toList)).setRow g (setL (setL (rndsA (revP 0)) 0 (rndA 4).toList) 6 (rndA 1).toList)) from ((hset.grow hb1).set H.out).set H.out)
      generalize W1.setRow g (setL (rndsA (revP 0)) 0 (rndA 4).toList) = W2 at *
      generalize W2.setRow g (setL (setL (rndsA (revP 0)) 0 (rndA 4).toList) 6 (rndA 1).toList) = W3 at *
      clear l0 l3 hb1 R0 R1 R2 hset
      go_wp2_with fail
      go_roundw
      case rel => exact ⟨1, 1, 2, by simp, rfl, rfl, S3.out⟩
      case measure => simp [intOf]
    · have l0 : ∀ os d, (loadRow 44 (.pointer (some ⟨g, 2, none⟩))).run Tryd.prog (wr.plus os d) = .ok (.agg (rndA 2)) (wr.plus os d) := fun os d => load_rnd (j := 1) (R0.grow (below_more (Below.refl _ _) os d)) rfl
      have l3 : ∀ os d, (loadRow 44 (.pointer (some ⟨g, 4, none⟩))).run Tryd.prog (wr.plus os d) = .ok (.agg (rndA 3)) (wr.plus os d) := fun os d => load_rnd (j := 2) (R0.grow (below_more (Below.refl _ _) os d)) rfl
      go_wp2_with fail
      refine wp_region_pickT wr [0, 1, 2, 3, 4, 5, 6, 7, 8, 9, 10, 11, 12] [false, false, true, true, false, false, false, false, false, false, false, false, false] [13, 14, 15] (by kernel_rfl) (by kernel_rfl) (by intro c a d v w h; cases d <;> exact h) ((Below.refl _ _).drew) ?_
      simp only [pick, List.getElem?_cons_succ, List.getElem?_cons_zero]
      iterate 13 (first | refine wpHoldF_val (wanted_none rfl) (by intro K o d hK; go_simp; exact hK _ (Below.refl _ _)) ?_ | refine wpHoldF_late (wanted_none rfl) (fun w => by go_simp; rfl) ?_)
      refine wpHoldF_nil ?_
      intro W1 hb1
      have R1 := R0.grow hb1
      have s0 := run_storeMid R1 2 (rndA 3) (by decide) (rndA_one _)
      have R2 := R1.set (setL (rndsA (revP 1)) 2 (rndA 3).toList)
      have s3 := run_storeMid R2 4 (rndA 2) (by decide) (rndA_one _)
      have S3 := Lib.hid (show Sets w g (rndsA (revP 2)) ((W1.setRow g (setL (rndsA (revP 1)) 2 (rndA 3).toList)).setRow g (setL (setL (rndsA (revP 1)) 2 (rndA 3).toList) 4 (rndA 2).toList)) from ((hset.grow hb1).set H.out).set H.out)
      generalize W1.setRow g (setL (rndsA (revP 1)) 2 (rndA 3).toList) = W2 at *
      generalize W2.setRow g (setL (setL (rndsA (revP 1)) 2 (rndA 3).toList) 4 (rndA 2).toList) = W3 at *
      clear l0 l3 hb1 R0 R1 R2 hset
      go_wp2_with fail
      go_roundw
      case rel => exact ⟨2, 2, 1, by simp, rfl, rfl, S3.out⟩
      case measure => simp [intOf]
    · have S3 := Lib.hid hset
      clear hset R0
      go_wp2_with fail
      go_end0
      exact ⟨rfl, S3.out⟩
end Go.Proofs.YtnkfiljmgbnbkaaDoor

/-
  Package lion: a block, mixed by rounds; locked, unlocked, refused.
-/
namespace Go.Proofs.YtnkfiljmgbnbkaaDoor
open Go.RowKit Go.Hold Go.Sh Go.Ch Go.Li

set_option maxHeartbeats 1000000 in
set_option maxRecDepth 100000 in
theorem mixed_c (k l : List Nat) (rs : List Nat) (g b o m n cap c2 : Nat) (hk : k.length = 32) (hkb : ∀ i, k.getD i 0 < 256) (hlb : ∀ i, l.getD i 0 < 256) (hm : m = l.length) (h33 : 33 ≤ m) (h4k : m ≤ 4096) (hmc : m ≤ cap)
    (hn : n = rs.length) (hn4 : n ≤ 4) (hrs : ∀ i ∈ rs, OkR i) (w : World) (hT : Tabs w) (hB : BytesAt w b o l) (hg : RowAt w g (rndsA rs)) :
    Calls Tryd.prog 15 #[.agg (bysA k), .slice (some ⟨b, o, none⟩) m cap, .slice (some ⟨g, 0, none⟩) n c2] w fun e w' => ∃ u, e = .returned (.tuple #[u, .int .i64 0]) ∧ OwnB w' w.heap.size u (mixL k rs l) ∧ Below w.heap.size w w' := by
  have hks := bysA_size' hk
  have hx0 : OkB (prt l) := prt_ok (by omega) hlb
  have hr0 : (prt l).2.length = m - 32 := by simp only [prt, List.length_drop]; omega
  have hlt : b < w.heap.size := hB.1
  have i1 : ¬ (m : Int) < 33 := by omega
  have i2 : ¬ (4096 : Int) < (m : Int) := by omega
  have HP := Lib.hid (fun (W : World) (hW : Below w.heap.size w W) => parted_c b o m cap l hm h33 hmc W (hB.grow hW))
  have HT := Lib.hid hT
  have HG := Lib.hid hg
  have Hx0 := Lib.hid hx0
  have Hr0 := Lib.hid hr0
  have Hn := Lib.hid hn
  have hni : (n : Int) ≤ 4 := by omega
  clear hT hB hg hm hlb hx0 hr0 hn
  go_enter Tryd.func15, Tryd.ntmps15
  go_wp2_with fail
  have B0 := Lib.hid (below_alloc (Below.refl w.heap.size w) (.cells (bysA k) 23))
  have K0 := Lib.hid (RowAt.of (block_new w (.cells (bysA k) 23)))
  refine (HP.out _ B0.out).mono ?_
  rintro e W1 ⟨v, rfl, hV, hb1⟩
  have hb33 : b < W1.heap.size := by obtain ⟨_, _, _, h, _⟩ := hV; exact h.1
  obtain ⟨c, rfl, hc, hone⟩ : ∃ c : Array Value, v = .agg c ∧ c.size = 33 ∧ oneAll c = true := by
    obtain ⟨o, cc, e, _, _⟩ := hV
    exact ⟨_, e, blkA_size Hx0.out.left, blkA_one _ _ _ _⟩
  have B1 := Lib.hid (B0.out.trans (hb1.mono B0.out.size))
  have K1 := Lib.hid (K0.out.grow hb1)
  have V1 := Lib.hid hV
  clear hb1 hV B0 K0 HP
  go_wp2_with fail
  have hA := below_alloc (Below.refl W1.heap.size W1) (.cells c 52)
  have X2 := Lib.hid (RowAt.of (block_new W1 (.cells c 52)))
  have V2 := Lib.hid (V1.out.grow hA)
  have K2 := Lib.hid (K1.out.grow hA)
  have B2 := Lib.hid (B1.out.trans (hA.mono B1.out.size))
  have hwX : w.heap.size < W1.heap.size := K1.out.2.2
  have hbX : b ≠ W1.heap.size := by omega
  clear hA V1 K1 B1
  generalize W1.alloc (.cells c 52) = W2 at *
  generalize W1.heap.size = X at *
  go_loopw [21] (fun i wr => ∃ j : Nat, j ≤ n ∧ i = .int .i64 j ∧ ∃ (c : Array Value) (b' : Nat), c.size = 33 ∧ oneAll c = true ∧ RowAt wr X c ∧ BlkV wr (.agg c) (rnds k (rs.take j) (prt l)) b' ∧ b' ≠ X ∧ RowAt wr w.heap.size (bysA k) ∧ Below w.heap.size w wr) (fun i _ => n - (intOf i).toNat)
  case atStart => exact ⟨0, by omega, rfl, c, b, hc, hone, X2.out, V2.out, hbX, K2.out, B2.out⟩
  case round =>
    obtain ⟨j, hj, rfl, c, b', hc, hone, hX, hV, hbX', hK, hbel⟩ := hrel
    by_cases hjn : j < n
    · have hj0 : (0 : Int) ≤ (j : Int) := by omega
      have hj1 : (j : Int) < (n : Int) := by omega
      obtain ⟨i, hi⟩ : ∃ i, rs[j]? = some i := ⟨_, List.getElem?_eq_getElem (by rw [← Hn.out]; exact hjn)⟩
      have hiR := hrs i (List.mem_of_getElem? hi)
      have hld := load_rnd (HG.out.grow hbel) hi
      rw [Nat.mul_comm] at hld
      have hr2 : (rndA i).size = 2 := rfl
      have Hb2 := Lib.hid (below_alloc hbel (.cells (rndA i) 44))
      have hA := below_alloc (Below.refl wr.heap.size wr) (.cells (rndA i) 44)
      obtain ⟨xj, ex⟩ : ∃ x, x = rnds k (rs.take j) (prt l) := ⟨_, rfl⟩
      rw [← ex] at hV
      have hoj : OkB xj := by rw [ex]; exact OkB.rnds _ Hx0.out
      have hrj : xj.2.length = m - 32 := by rw [ex, rnds_right]; exact Hr0.out
      have Hnx := Lib.hid (show rnds k (rs.take (j + 1)) (prt l) = rnd k i xj by rw [List.take_add_one, hi, ex]; exact rnds_snoc _ _ _ _)
      have HC := Lib.hid (by_c i hiR k xj hoj (by omega) (by omega) hk hkb (.agg c) b' (wr.alloc (.cells (rndA i) 44)) (HT.out.grow Hb2.out) (hV.grow hA))
      have HX2 := Lib.hid (hX.grow hA)
      have HK2 := Lib.hid (hK.grow hA)
      obtain ⟨k1, k2, k3⟩ := hK
      obtain ⟨x1, x2, x3⟩ := hX
      clear hbel hA ex hi hV hiR
      go_wp2_with fail
      refine HC.out.mono ?_
      rintro e W5 ⟨u, b5, rfl, hV5, hn5, hb5⟩
      have ho5 : OkB (rnd k i xj) := hoj.rd _ _
      obtain ⟨c5, rfl, hc5, hone5⟩ : ∃ c : Array Value, u = .agg c ∧ c.size = 33 ∧ oneAll c = true := by
        obtain ⟨o, cc, e, _, _⟩ := hV5
        exact ⟨_, e, blkA_size ho5.left, blkA_one _ _ _ _⟩
      have hb5X : b5 ≠ X := by
        rcases hn5 with rfl | h
        · exact hbX'
        · rw [World.size_alloc] at h; omega
      have X5 := HX2.out.grow hb5
      have HV6 := Lib.hid (show BlkV (W5.setRow X c5) (.agg c5) (rnd k i xj) b5 by
        obtain ⟨o5, d5, e5, h5, h5'⟩ := hV5
        exact ⟨o5, d5, e5, h5.other hb5X _, h5'⟩)
      have HX6 := Lib.hid (X5.set c5)
      have HK6 := Lib.hid ((HK2.out.grow hb5).other (show w.heap.size ≠ X by omega) c5)
      have HB6 := Lib.hid (below_setRow (Hb2.out.trans (hb5.mono Hb2.out.size)) (Nat.le_of_lt hwX) c5)
      obtain ⟨y1, y2, y3⟩ := X5
      clear k1 k2 k3 x1 x2 x3 hb5 hV5 hn5 HC Hb2 HX2 HK2 hld ho5 hoj
      generalize hW6 : W5.setRow X c5 = W6 at *
      go_wp2_with fail
      go_roundw
      case rel => exact ⟨j + 1, by omega, by go_num, c5, b5, hc5, hone5, HX6.out, by rw [Hnx.out]; exact HV6.out, hb5X, HK6.out, HB6.out⟩
      case measure => simp [intOf]; omega
    · obtain rfl : j = n := by omega
      rw [List.take_of_length_le (by rw [← Hn.out]; exact Nat.le_refl _)] at hV
      obtain ⟨xj, ex⟩ : ∃ x, x = rnds k rs (prt l) := ⟨_, rfl⟩
      have Hx := Lib.hid (show mixL k rs l = jn xj by rw [ex]; rfl)
      rw [← ex] at hV
      have hoj : OkB xj := by rw [ex]; exact OkB.rnds _ Hx0.out
      have hrj : xj.2.length = m - 32 := by rw [ex, rnds_right]; exact Hr0.out
      have HJ := Lib.hid (joined_c xj hoj (by omega) (.agg c) b' wr hV)
      obtain ⟨x1, x2, x3⟩ := hX
      have Hb := Lib.hid hbel
      clear hbel hV ex hK
      go_wp2_with fail
      refine HJ.out.mono ?_
      rintro e W7 ⟨u, rfl, hown, hb7⟩
      have O7 := Lib.hid (hown.base Hb.out.size)
      have B7 := Lib.hid (Hb.out.trans (hb7.mono Hb.out.size))
      clear hown hb7 HJ
      go_wp2_with fail
      refine bodyPost_ret (v := .tuple #[u, .int .i64 0]) (results_tmp2 Tryd.results15 _ _ _) rfl ⟨u, rfl, by rw [Hx.out]; exact O7.out, B7.out⟩
set_option maxHeartbeats 400000 in
set_option maxRecDepth 100000 in
/-- What is refused. -/
theorem mixed_bad (k : List Nat) (p s : Option Addr) (m cap n c2 : Nat) (er : Int) (h : m < 33 ∧ er = 4 ∨ 4096 < m ∧ er = 3) (w : World) :
    Calls Tryd.prog 15 #[.agg (bysA k), .slice p m cap, .slice s n c2] w fun e w' => e = .returned (.tuple #[.slice none 0 0, .int .i64 er]) ∧ Below w.heap.size w w' := by
  rcases h with ⟨h1, rfl⟩ | ⟨h1, rfl⟩
  · have i1 : (m : Int) < 33 := by omega
    go_enter Tryd.func15, Tryd.ntmps15
    go_wp2_with fail
    refine bodyPost_ret (v := .tuple #[.slice none 0 0, .int .i64 4]) (results_tmp2 Tryd.results15 _ _ _) rfl ⟨rfl, below_alloc (Below.refl _ _) _⟩
  · have i1 : ¬ (m : Int) < 33 := by omega
    have i2 : (4096 : Int) < (m : Int) := by omega
    go_enter Tryd.func15, Tryd.ntmps15
    go_wp2_with fail
    refine bodyPost_ret (v := .tuple #[.slice none 0 0, .int .i64 3]) (results_tmp2 Tryd.results15 _ _ _) rfl ⟨rfl, below_alloc (Below.refl _ _) _⟩
end Go.Proofs.YtnkfiljmgbnbkaaDoor

/-
  Package lion: Lock and Unlock.
-/
namespace Go.Proofs.YtnkfiljmgbnbkaaDoor
open Go.RowKit Go.Hold Go.Sh Go.Ch Go.Li

theorem okR_fwd : ∀ i ∈ fwd, OkR i := fun i hi => by simpa [fwd, OkR] using hi
theorem okR_bwd : ∀ i ∈ bwd, OkR i := fun i hi => by
  have : i = 4 ∨ i = 3 ∨ i = 2 ∨ i = 1 := by simpa [bwd] using hi
  unfold OkR; omega
set_option maxHeartbeats 600000 in
set_option maxRecDepth 100000 in
/-- Lock, of a way to mix that is given. -/
theorem lock_g (k : List Nat) (p : Option Addr) (m cap : Nat) (R : Value → World → Prop) (er : Int) (hR : ∀ v w w', R v w → Below w.heap.size w w' → R v w') (w : World) (hk : k.length = 32)
    (HM : ∀ W g, Below w.heap.size w W → RowAt W g (rndsA fwd) → Calls Tryd.prog 15 #[.agg (bysA k), .slice p m cap, .slice (some ⟨g, 0, none⟩) 4 4] W fun e w' => ∃ u, e = .returned (.tuple #[u, .int .i64 er]) ∧ R u w' ∧ Below W.heap.size W w') :
    Calls Tryd.prog 9 #[.agg (bysA k), .slice p m cap] w fun e w' => ∃ u, e = .returned (.tuple #[u, .int .i64 er]) ∧ R u w' ∧ Below w.heap.size w w' := by
  have hks := bysA_size' hk
  have HM := Lib.hid HM
  have HR := Lib.hid hR
  clear hk hR
  go_enter Tryd.func9, Tryd.ntmps9
  go_wp2_with fail
  have B0 := Lib.hid (below_alloc (Below.refl w.heap.size w) (.cells (bysA k) 23))
  have K0 := Lib.hid (RowAt.of (block_new w (.cells (bysA k) 23)))
  generalize w.alloc (.cells (bysA k) 23) = W0 at *
  obtain ⟨z, ez⟩ : ∃ z, z = w.heap.size := ⟨_, rfl⟩
  rw [← ez] at K0 ⊢
  clear ez
  refine wp_region_grows W0 6 (fun w w' => Below w.heap.size w w') (listR [fixV (.agg (bysA k)), fixV (.slice p m cap), rowV W0.heap.size (fun g => .slice (some ⟨g, 0, none⟩) 4 4) (rndsA fwd), (fun v w => ∃ u, v = .tuple #[u, .int .i64 er] ∧ R u w), R, fixV (.int .i64 er)]) [6, 7] [0, 1, 2, 3, 4, 5] [some 6, some 7, some 8, some 9, some 10, some 11] (by kernel_rfl) (by kernel_rfl) (by kernel_rfl) (by kernel_rfl) ((Below.refl _ _).drew) (fun w w' h h' => h.trans (h'.mono h.size)) (listR_mono ⟨stays_fix _, stays_fix _, stays_row _ _ _, fun v w w' ⟨u, e, h⟩ hb => ⟨u, e, HR.out _ _ _ h hb⟩, HR.out, stays_fix _, trivial⟩) ?_
  intro vals
  simp only [List.take_succ_cons, List.take_zero]
  refine ⟨grow_val [] [] (by kernel_rfl) rfl (fun K w hb hd hK => ⟨wanted_none rfl, ?_⟩), ?_⟩
  · obtain ⟨k1, k2, k3⟩ := K0.out.grow hb
    simp only [putZ]
    go_simp
    exact hK _ _ _ (Below.refl _ _) rfl
  refine ⟨grow_val [] [] (by kernel_rfl) rfl (fun K w hb hd hK => ⟨wanted_none rfl, ?_⟩), ?_⟩
  · simp only [putZ]
    go_simp
    exact hK _ _ _ (Below.refl _ _) rfl
  refine ⟨grow_call [] [] (by kernel_rfl) rfl (fun K w hb hd hK => ⟨wanted_none rfl, ?_⟩), ?_⟩
  · simp only [putZ]
    go_simp
    refine (rounds_c w).mono ?_
    rintro e w' ⟨g, rfl, hr, hg, hb'⟩
    exact ⟨_, rfl, hK _ _ hb' ⟨g, rfl, hr, Nat.le_trans hb.size hg⟩⟩
  refine ⟨grow_call [0, 1, 2] [some 6, some 7, some 8] (by kernel_rfl) (by kernel_rfl) (fun K w' hb hd hK => ⟨wanted_none rfl, ?_⟩), ?_⟩
  · have d0 : vals 0 = .agg (bysA k) := hd 0 (by simp)
    have d1 : vals 1 = .slice p m cap := hd 1 (by simp)
    obtain ⟨g, d2, hr2, hg2⟩ : ∃ g, vals 2 = .slice (some ⟨g, 0, none⟩) 4 4 ∧ RowAt w' g (rndsA fwd) ∧ W0.heap.size ≤ g := hd 2 (by simp)
    simp only [List.map_cons, List.map_nil, putZ, d0, d1, d2]
    go_simp
    refine (HM.out w' g (B0.out.trans (hb.mono B0.out.size)) hr2).mono ?_
    rintro e w2 ⟨u, rfl, hu, hb2⟩
    exact ⟨_, rfl, hK _ _ hb2 ⟨u, rfl, hu⟩⟩
  refine ⟨grow_val [3] [some 9] (by kernel_rfl) (by kernel_rfl) (fun K w' hb hd hK => ⟨wanted_none rfl, ?_⟩), ?_⟩
  · obtain ⟨u, d3, hu⟩ : ∃ u, vals 3 = .tuple #[u, .int .i64 er] ∧ R u w' := hd 3 (by simp)
    simp only [List.map_cons, List.map_nil, putZ, d3]
    go_simp
    exact hK _ _ _ (Below.refl _ _) hu
  refine ⟨grow_val [3] [some 9] (by kernel_rfl) (by kernel_rfl) (fun K w' hb hd hK => ⟨wanted_none rfl, ?_⟩), ?_⟩
  · obtain ⟨u, d3, hu⟩ : ∃ u, vals 3 = .tuple #[u, .int .i64 er] ∧ R u w' := hd 3 (by simp)
    simp only [List.map_cons, List.map_nil, putZ, d3]
    go_simp
    exact hK _ _ _ (Below.refl _ _) rfl
  intro W1 hbg hA
  have d4 : R (vals 4) W1 := hA 4 (by simp)
  have d5 : vals 5 = .int .i64 er := hA 5 (by simp)
  clear hA
  simp only [List.map_cons, List.map_nil, putZ, d5, pick, List.getElem?_cons_succ, List.getElem?_cons_zero]
  generalize vals 4 = u at *
  generalize vals 0 = e0
  generalize vals 1 = e1
  generalize vals 2 = e2
  generalize vals 3 = e3
  have B1 := Lib.hid (B0.out.trans (hbg.mono B0.out.size))
  have D4 := Lib.hid d4
  clear hbg d4 d5 HM HR B0 K0
  go_wp2_with fail
  refine bodyPost_ret (v := .tuple #[u, .int .i64 er]) (results_tmp2 Tryd.results9 _ _ _) rfl ⟨u, rfl, D4.out, B1.out⟩
set_option maxHeartbeats 600000 in
set_option maxRecDepth 100000 in
theorem unlock_g (k : List Nat) (p : Option Addr) (m cap : Nat) (R : Value → World → Prop) (er : Int) (w : World) (hk : k.length = 32)
    (HM : ∀ W g, Below w.heap.size w W → RowAt W g (rndsA bwd) → Calls Tryd.prog 15 #[.agg (bysA k), .slice p m cap, .slice (some ⟨g, 0, none⟩) 4 4] W fun e w' => ∃ u, e = .returned (.tuple #[u, .int .i64 er]) ∧ R u w' ∧ Below W.heap.size W w') :
    Calls Tryd.prog 11 #[.agg (bysA k), .slice p m cap] w fun e w' => ∃ u, e = .returned (.tuple #[u, .int .i64 er]) ∧ R u w' ∧ Below w.heap.size w w' := by
  have hks := bysA_size' hk
  have HM := Lib.hid HM
  clear hk
  go_enter Tryd.func11, Tryd.ntmps11
  go_wp2_with fail
  have B0 := Lib.hid (below_alloc (Below.refl w.heap.size w) (.cells (bysA k) 23))
  have K0 := Lib.hid (RowAt.of (block_new w (.cells (bysA k) 23)))
  generalize w.alloc (.cells (bysA k) 23) = W0 at *
  obtain ⟨z, ez⟩ : ∃ z, z = w.heap.size := ⟨_, rfl⟩
  rw [← ez] at K0 ⊢
  have Ez := Lib.hid ez
  clear ez
  refine (rounds_c W0).mono ?_
  rintro e W1 ⟨g, rfl, hr, hg, hb1⟩
  have hzg : z < g := Nat.lt_of_lt_of_le K0.out.2.2 hg
  have R1 := Lib.hid hr
  have K1 := Lib.hid (K0.out.grow hb1)
  have B1 := Lib.hid (B0.out.trans (hb1.mono B0.out.size))
  clear hb1 hr hg K0 B0
  go_wp2_with fail
  refine (reverse_c g W1 R1.out).mono ?_
  rintro e W2 ⟨rfl, hset⟩
  have R2 := hset.row R1.out
  have B2 := hset.below B1.out (by rw [← Ez.out]; omega) B1.out.size
  obtain ⟨k1, k2, k3⟩ := hset.old K1.out (by omega)
  have HC := Lib.hid (HM.out W2 g B2 R2)
  have B2' := Lib.hid B2
  clear hset R2 B2 HM R1 K1 B1
  go_wp2_with fail
  refine HC.out.mono ?_
  rintro e W3 ⟨u, rfl, hu, hb3⟩
  have B3 := Lib.hid (B2'.out.trans (hb3.mono B2'.out.size))
  have U3 := Lib.hid hu
  clear hb3 hu HC
  go_wp2_with fail
  refine bodyPost_ret (v := .tuple #[u, .int .i64 er]) (results_tmp2 Tryd.results11 _ _ _) rfl ⟨u, rfl, U3.out, B3.out⟩
/-- What is refused. -/
theorem lock_bad (k : List Nat) (p : Option Addr) (m cap : Nat) (er : Int) (h : m < 33 ∧ er = 4 ∨ 4096 < m ∧ er = 3) (hk : k.length = 32) (w : World) :
    Calls Tryd.prog 9 #[.agg (bysA k), .slice p m cap] w fun e w' => e = .returned (.tuple #[.slice none 0 0, .int .i64 er]) ∧ Below w.heap.size w w' := by
  refine (lock_g k p m cap (fun v _ => v = .slice none 0 0) er (fun _ _ _ h _ => h) w hk fun W g _ _ => (mixed_bad k p (some ⟨g, 0, none⟩) m cap 4 4 er h W).mono ?_).mono ?_
  · rintro e w' ⟨rfl, hb⟩; exact ⟨_, rfl, rfl, hb⟩
  · rintro e w' ⟨u, rfl, rfl, hb⟩; exact ⟨rfl, hb⟩
theorem unlock_bad (k : List Nat) (p : Option Addr) (m cap : Nat) (er : Int) (h : m < 33 ∧ er = 4 ∨ 4096 < m ∧ er = 3) (hk : k.length = 32) (w : World) :
    Calls Tryd.prog 11 #[.agg (bysA k), .slice p m cap] w fun e w' => e = .returned (.tuple #[.slice none 0 0, .int .i64 er]) ∧ Below w.heap.size w w' := by
  refine (unlock_g k p m cap (fun v _ => v = .slice none 0 0) er w hk fun W g _ _ => (mixed_bad k p (some ⟨g, 0, none⟩) m cap 4 4 er h W).mono ?_).mono ?_
  · rintro e w' ⟨rfl, hb⟩; exact ⟨_, rfl, rfl, hb⟩
  · rintro e w' ⟨u, rfl, rfl, hb⟩; exact ⟨rfl, hb⟩
/-- A block is locked, unlocked. -/
theorem lock_c (k l : List Nat) (p : Option Addr) (m cap : Nat) (hk : k.length = 32) (hkb : ∀ i, k.getD i 0 < 256) (hlb : ∀ i, l.getD i 0 < 256) (hm : m = l.length) (h33 : 33 ≤ m) (h4k : m ≤ 4096) (hmc : m ≤ cap) (w : World) (hT : Tabs w) (hB : Bs0 w p l) :
    Calls Tryd.prog 9 #[.agg (bysA k), .slice p m cap] w fun e w' => ∃ u, e = .returned (.tuple #[u, .int .i64 0]) ∧ OwnB w' w.heap.size u (lockL k l) ∧ Below w.heap.size w w' := by
  obtain ⟨b, o, rfl, hY⟩ : ∃ b o, p = some ⟨b, o, none⟩ ∧ BytesAt w b o l := by
    rcases hB with h | h
    · rw [h] at hm; simp at hm; omega
    · exact h
  exact lock_g k _ m cap (fun v W => OwnB W w.heap.size v (lockL k l)) 0 (fun _ _ _ h hb => h.below hb) w hk fun W g hW hg => (mixed_c k l fwd g b o m 4 cap 4 hk hkb hlb hm h33 h4k hmc rfl (by decide) okR_fwd W (hT.grow hW) (hY.grow hW) hg).mono fun e w' ⟨u, he, hu, hb⟩ => ⟨u, he, hu.base hW.size, hb⟩
theorem unlock_c (k l : List Nat) (p : Option Addr) (m cap : Nat) (hk : k.length = 32) (hkb : ∀ i, k.getD i 0 < 256) (hlb : ∀ i, l.getD i 0 < 256) (hm : m = l.length) (h33 : 33 ≤ m) (h4k : m ≤ 4096) (hmc : m ≤ cap) (w : World) (hT : Tabs w) (hB : Bs0 w p l) :
    Calls Tryd.prog 11 #[.agg (bysA k), .slice p m cap] w fun e w' => ∃ u, e = .returned (.tuple #[u, .int .i64 0]) ∧ OwnB w' w.heap.size u (unlockL k l) ∧ Below w.heap.size w w' := by
  obtain ⟨b, o, rfl, hY⟩ : ∃ b o, p = some ⟨b, o, none⟩ ∧ BytesAt w b o l := by
    rcases hB with h | h
    · rw [h] at hm; simp at hm; omega
    · exact h
  exact unlock_g k _ m cap (fun v W => OwnB W w.heap.size v (unlockL k l)) 0 w hk fun W g hW hg => (mixed_c k l bwd g b o m 4 cap 4 hk hkb hlb hm h33 h4k hmc rfl (by decide) okR_bwd W (hT.grow hW) (hY.grow hW) hg).mono fun e w' ⟨u, he, hu, hb⟩ => ⟨u, he, hu.base hW.size, hb⟩
end Go.Proofs.YtnkfiljmgbnbkaaDoor
