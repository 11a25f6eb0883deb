/-
  Part 3 of the texts behind the theorem.
-/
import Derived.Test.YtdeeecdpgmibnaaPart2
import Derived.Test.YtdeeecdpgmibnaaPart1
/-
  The reference of layer 9: a command's bytes.
-/
namespace Go.Proofs.Ytdeeecdpgmibnaa
open Go.RowKit Go.Hold Go.Sh Go.Cm

/-- Bytes of a command, so many of its id's laid. -/
def encP (k n d : Nat) (id : List Nat) (j : Nat) : List Nat := [k, n, 0, d] ++ id.take j ++ zs (12 - j)
theorem encP_length {k n d : Nat} {id : List Nat} {j : Nat} (hi : id.length = 8) (hj : j ≤ 8) : (encP k n d id j).length = 16 := by simp [encP, zs_length, hi]; omega
theorem encP_set {k n d : Nat} {id : List Nat} {j : Nat} (hi : id.length = 8) (hj : j < 8) : (encP k n d id j).set (4 + j) (id.getD j 0) = encP k n d id (j + 1) := by
  have ht : id.take (j + 1) = id.take j ++ [id.getD j 0] := by rw [List.take_add_one, List.getElem?_eq_getElem (by omega)]; simp [List.getD, show j < id.length by omega]
  have hz : zs (12 - j) = 0 :: zs (12 - (j + 1)) := by
    unfold zs
    rw [show 12 - j = (12 - (j + 1)) + 1 by omega, List.replicate_succ]
  unfold encP
  have hl : ([k, n, 0, d] ++ id.take j).length = 4 + j := by simp [hi]; omega
  rw [List.set_append_right _ _ (by omega), hl, Nat.sub_self, hz, List.set_cons_zero, ht]
  simp
theorem encP_all {k n d : Nat} {id : List Nat} (hi : id.length = 8) (hk : k < 256) (hn : n < 256) (hd : d < 256) : encP k n d id 8 = (Cmd.mk k n d id).enc := by
  unfold encP Cmd.enc
  rw [List.take_of_length_le (by omega)]
  simp
  omega

set_option maxHeartbeats 1000000 in
set_option maxRecDepth 100000 in
theorem rbytes_c (c : Cmd) (hid : c.id.length = 8) (hm : c.may = true) (w : World) :
    Calls Try.prog 21 #[.agg (cmdA c)] w fun e w' => e = .returned (.agg (bysA c.enc)) ∧ Below w.heap.size w w' := by
  have hcs := cmdA_size hid
  obtain ⟨⟨ha1, ha2⟩, ⟨hb1, hb2⟩, hc1, hc2⟩ := may_range hm
  obtain ⟨k, ek⟩ := Int.eq_ofNat_of_zero_le (show 0 ≤ c.k by omega)
  obtain ⟨n, en⟩ := Int.eq_ofNat_of_zero_le hb1
  obtain ⟨d, ed⟩ := Int.eq_ofNat_of_zero_le hc1
  have u1 : IntKind.u8.wrap (k : Int) = (k : Int) := IntWalk.u8_in _ (by omega)
  have u2 : IntKind.u8.wrap (n : Int) = (n : Int) := IntWalk.u8_in _ (by omega)
  have u3 : IntKind.u8.wrap (d : Int) = (d : Int) := IntWalk.u8_in _ (by omega)
  have q1 : (d : Int).tdiv 256 = 0 := by show ((d / 256 : Nat) : Int) = 0; omega
  have q2 : (d : Int).tmod 256 = (d : Int) := by show ((d % 256 : Nat) : Int) = d; omega
  have HX := Lib.hid (show encP k n d c.id 8 = c.enc by rw [encP_all hid (by omega) (by omega) (by omega), ← ek, ← en, ← ed])
  have HL := Lib.hid (enc_length hid)
  have HI := Lib.hid hid
  clear hm ha1 ha2 hb1 hb2 hc1 hc2
  go_enter Try.func21, Try.ntmps21
  go_wp2_with fail
  generalize hW : World.alloc _ _ = W0
  have R0 := Lib.hid (show RowAt W0 w.heap.size (cmdA c) by rw [← hW]; clear hW; exact ⟨by go_simp, by go_simp, by go_simp⟩)
  have T0 := Lib.hid (show RowAt W0 (w.heap.size + 1) (bysA (zs 16)) by rw [← hW]; clear hW; exact ⟨by go_simp, by go_simp; rfl, by go_simp⟩)
  have G0 := Lib.hid (show RowAt W0 (w.heap.size + 1 + 1) (bysA (encP k n d c.id 0)) by rw [← hW]; clear hW; exact ⟨by go_simp, by go_simp; rfl, by go_simp⟩)
  have B0 := Lib.hid (show Below w.heap.size w W0 by rw [← hW]; repeat (first | apply below_alloc | exact Below.refl _ _))
  have hne1 : w.heap.size ≠ w.heap.size + 1 + 1 := by omega
  have hne2 : w.heap.size + 1 ≠ w.heap.size + 1 + 1 := by omega
  have hle1 : w.heap.size ≤ w.heap.size + 1 + 1 := by omega
  have hle2 : w.heap.size ≤ w.heap.size + 1 := by omega
  clear hW ek en ed u1 u2 u3 q1 q2 hcs
  generalize w.heap.size + 1 + 1 = g at *
  generalize w.heap.size + 1 = t at *
  obtain ⟨z, ez⟩ : ∃ z, z = w.heap.size := ⟨_, rfl⟩
  rw [← ez] at R0 hne1 hle1 hle2 ⊢
  have Ez := Lib.hid ez
  clear ez
  go_loopw [4] (fun i wr => ∃ j : Nat, j ≤ 8 ∧ i = .int .i64 j ∧ Sets W0 g (bysA (encP k n d c.id j)) wr) (fun i _ => 8 - (intOf i).toNat)
  case atStart => exact ⟨0, by omega, rfl, Sets.refl G0.out⟩
  case round =>
    obtain ⟨j, hj, rfl, hset⟩ := hrel
    by_cases hj8 : j < 8
    · have hk0 : (0 : Int) ≤ (j : Int) := by omega
      have hk1 : (j : Int) < 8 := by omega
      have hrow := hset.row G0.out
      have hzr := hset.old R0.out hne1
      have hcz := hzr.cellAt (3 + j) (cmdA_get c j (by rw [HI.out]; exact hj8))
      have hcg := hrow.cellAt (4 + j) (bysA_get _ (4 + j) (by rw [encP_length HI.out hj]; omega))
      have hf := hrow.frozenAt (4 + j)
      have Hst := Lib.hid (encP_set (k := k) (n := n) (d := d) HI.out hj8)
      obtain ⟨x, ex⟩ : ∃ x, x = 4 + j := ⟨_, rfl⟩
      rw [← ex] at hcg hf Hst
      obtain ⟨v, ev⟩ : ∃ v, v = c.id.getD j 0 := ⟨_, rfl⟩
      rw [← ev] at hcz Hst
      have hx : IntKind.i64.wrap (4 + (j : Int)) = (x : Int) := by rw [IntWalk.i64_in _ (by omega)]; omega
      have hx0 : (0 : Int) ≤ (x : Int) := by omega
      have hx1 : (x : Int) < 16 := by omega
      have Hset := Lib.hid hset
      have hgl := hrow.2.2
      have hzl := hzr.2.2
      clear ex ev hset hrow hzr
      go_wp2_with fail
      go_roundw
      case rel =>
        refine ⟨j + 1, by omega, by go_num, ?_⟩
        rw [← Hst.out, ← bysA_set]; exact Hset.out.cell G0.out
      case measure => simp [intOf]; omega
    · obtain rfl : j = 8 := by omega
      have hrow := hset.row G0.out
      have htr := hset.old T0.out hne2
      rw [HX.out] at hrow
      have HS := Lib.hid (hset.below B0.out (by rw [← Ez.out]; exact hle1) B0.out.size)
      have hes : (bysA c.enc).size = 16 := by rw [bysA_size]; exact HL.out
      have hzs : (bysA (zs 16)).size = 16 := rfl
      obtain ⟨g1, g2, g3⟩ := hrow
      obtain ⟨t1, t2, t3⟩ := htr
      clear hset
      go_wp2_with fail
      refine bodyPost_ret (v := .agg (bysA c.enc)) (results_b16a Try.results21 c.enc HL.out _ _ t rfl (by go_simp) (by go_simp)) rfl ⟨rfl, ?_⟩
      exact below_setRow HS.out (by rw [← Ez.out]; exact hle2) _

set_option maxHeartbeats 1000000 in
set_option maxRecDepth 100000 in
theorem rencode_c (c : Cmd) (hid : c.id.length = 8) (w : World) :
    Calls Try.prog 10 #[.agg (cmdA c)] w fun e w' => e = .returned (.tuple #[.agg (bysA (encV c)), .int .i64 (encE c)]) ∧ Below w.heap.size w w' := by
  have hcs := cmdA_size hid
  have hzs : (bysA (zs 16)).size = 16 := rfl
  by_cases hm : c.may = false
  · have hV : encV c = zs 16 := by unfold encV; rw [hm]; rfl
    have hE : encE c = 2 := by unfold encE; rw [hm]; rfl
    rw [hV, hE]
    clear hV hE
    have KM := Lib.hid (fun (W : World) => rmay_c c hid W)
    rw [hm] at KM
    go_enter Try.func10, Try.ntmps10
    go_wp2_with fail
    generalize hW : World.alloc _ _ = W0
    have R0 := Lib.hid (show RowAt W0 w.heap.size (cmdA c) by rw [← hW]; clear hW; exact ⟨by go_simp, by go_simp, by go_simp⟩)
    have T0 := Lib.hid (show RowAt W0 (w.heap.size + 1) (bysA (zs 16)) by rw [← hW]; clear hW; exact ⟨by go_simp, by go_simp; rfl, by go_simp⟩)
    have B0 := Lib.hid (show Below w.heap.size w W0 by rw [← hW]; repeat (first | apply below_alloc | exact Below.refl _ _))
    have hz1 : w.heap.size ≤ w.heap.size + 1 := by omega
    generalize w.heap.size + 1 = t at *
    obtain ⟨z, ez⟩ : ∃ z, z = w.heap.size := ⟨_, rfl⟩
    rw [← ez] at R0 hz1 ⊢
    have Ez := Lib.hid ez
    clear ez
    refine (KM.out W0).mono ?_
    rintro e W1 ⟨rfl, hb1⟩
    have R1 := Lib.hid (R0.out.grow hb1)
    have T1 := Lib.hid (T0.out.grow hb1)
    have B1 := Lib.hid (B0.out.trans (hb1.mono B0.out.size))
    clear hb1 hW R0 T0 B0 hm
    obtain ⟨r1, r2, r3⟩ := R1.out
    obtain ⟨t1, t2, t3⟩ := T1.out
    go_wp2_with fail
    refine bodyPost_ret (v := .tuple #[.agg (bysA (zs 16)), .int .i64 2]) (results_b16 Try.results10 (zs 16) rfl _ _ _ t rfl (by go_simp) (by go_simp) rfl) rfl ⟨rfl, ?_⟩
    exact below_setRow B1.out (by rw [← Ez.out]; exact hz1) _
  have hm : c.may = true := by simpa using hm
  have hV : encV c = c.enc := by unfold encV; rw [hm]; rfl
  have hE : encE c = 0 := by unfold encE; rw [hm]; rfl
  rw [hV, hE]
  have KB := Lib.hid (fun (W : World) => rbytes_c c hid hm W)
  have HL := Lib.hid (enc_length hid)
  have hes : (bysA c.enc).size = 16 := by rw [bysA_size]; exact HL.out
  clear hV hE
  have KM := Lib.hid (fun (W : World) => rmay_c c hid W)
  rw [hm] at KM
  go_enter Try.func10, Try.ntmps10
  go_wp2_with fail
  generalize hW : World.alloc _ _ = W0
  have R0 := Lib.hid (show RowAt W0 w.heap.size (cmdA c) by rw [← hW]; clear hW; exact ⟨by go_simp, by go_simp, by go_simp⟩)
  have T0 := Lib.hid (show RowAt W0 (w.heap.size + 1) (bysA (zs 16)) by rw [← hW]; clear hW; exact ⟨by go_simp, by go_simp; rfl, by go_simp⟩)
  have B0 := Lib.hid (show Below w.heap.size w W0 by rw [← hW]; repeat (first | apply below_alloc | exact Below.refl _ _))
  have hz1 : w.heap.size ≤ w.heap.size + 1 := by omega
  generalize w.heap.size + 1 = t at *
  obtain ⟨z, ez⟩ : ∃ z, z = w.heap.size := ⟨_, rfl⟩
  rw [← ez] at R0 hz1 ⊢
  have Ez := Lib.hid ez
  clear ez
  refine (KM.out W0).mono ?_
  rintro e W1 ⟨rfl, hb1⟩
  have R1 := Lib.hid (R0.out.grow hb1)
  have T1 := Lib.hid (T0.out.grow hb1)
  have B1 := Lib.hid (B0.out.trans (hb1.mono B0.out.size))
  clear hb1 hW R0 T0 B0 hm
  obtain ⟨r1, r2, r3⟩ := R1.out
  obtain ⟨t1, t2, t3⟩ := T1.out
  go_wp2_with fail
  refine (KB.out W1).mono ?_
  rintro e W2 ⟨rfl, hb2⟩
  have T2 := Lib.hid (T1.out.grow hb2)
  have B2 := Lib.hid (B1.out.trans (hb2.mono B1.out.size))
  clear hb2 R1 T1 B1 r1 r2 r3 t1 t2 t3
  obtain ⟨t1, t2, t3⟩ := T2.out
  go_wp2_with fail
  refine bodyPost_ret (v := .tuple #[.agg (bysA (c.enc)), .int .i64 0]) (results_b16 Try.results10 (c.enc) HL.out _ _ _ t rfl (by go_simp) (by go_simp) rfl) rfl ⟨rfl, ?_⟩
  exact below_setRow B2.out (by rw [← Ez.out]; exact hz1) _
end Go.Proofs.Ytdeeecdpgmibnaa

/-
  The reference of layer 9: the command of bytes.
-/
namespace Go.Proofs.Ytdeeecdpgmibnaa
open Go.RowKit Go.Hold Go.Sh Go.Cm

theorem cmdA_set (c : Cmd) (hc : c.id.length = 8) (j v : Nat) (hj : j < 8) : (cmdA c).setIfInBounds (3 + j) (.int .u8 (v : Int)) = cmdA ⟨c.k, c.n, c.d, c.id.set j v⟩ := by
  apply Array.ext_getElem?
  intro i
  simp only [cmdA, bys, Array.getElem?_setIfInBounds, List.getElem?_toArray, List.size_toArray]
  by_cases h3 : i < 3
  · rw [if_neg (by omega), List.getElem?_append_left (by simpa using h3), List.getElem?_append_left (by simpa using h3)]
  · rw [List.getElem?_append_right (by simp; omega), List.getElem?_append_right (by simp; omega), List.map_set, List.getElem?_set]
    simp only [List.length_append, List.length_cons, List.length_nil, List.length_map, hc]
    by_cases e : 3 + j = i
    · subst e
      rw [if_pos rfl, if_pos (by omega), if_pos (by omega), if_pos (by omega)]
    · rw [if_neg e, if_neg (by omega)]
/-- An id, so many of its bytes laid. -/
def idP (m : List Nat) (j : Nat) : List Nat := m.take j ++ zs (8 - j)
theorem idP_length {m : List Nat} {j : Nat} (hm : m.length = 8) (hj : j ≤ 8) : (idP m j).length = 8 := by simp [idP, zs_length, hm]; omega
theorem idP_set {m : List Nat} {j : Nat} (hm : m.length = 8) (hj : j < 8) : (idP m j).set j (m.getD j 0) = idP m (j + 1) := by
  have ht : m.take (j + 1) = m.take j ++ [m.getD j 0] := by rw [List.take_add_one, List.getElem?_eq_getElem (by omega)]; simp [List.getD, show j < m.length by omega]
  have hz : zs (8 - j) = 0 :: zs (8 - (j + 1)) := by
    unfold zs
    rw [show 8 - j = (8 - (j + 1)) + 1 by omega, List.replicate_succ]
  unfold idP
  have hl : (m.take j).length = j := by simp [hm]; omega
  rw [List.set_append_right _ _ (by omega), hl, Nat.sub_self, hz, List.set_cons_zero, ht]
  simp
theorem idP_all {m : List Nat} (hm : m.length = 8) : idP m 8 = m := by
  unfold idP
  rw [List.take_of_length_le (by omega)]
  simp [zs]

set_option maxHeartbeats 2000000 in
set_option maxRecDepth 100000 in
theorem rdecode_c (b : List Nat) (hb : b.length = 16) (hbb : ∀ i, b.getD i 0 < 256) (w : World) :
    Calls Try.prog 14 #[.agg (bysA b)] w fun e w' => e = .returned (.tuple #[.agg (cmdA (decV b)), .int .i64 (decE b)]) ∧ Below w.heap.size w w' := by
  have hzs : (cmdA .zero).size = 11 := cmdA_size rfl
  obtain ⟨x0, e0⟩ : ∃ x, x = b.getD 0 0 := ⟨_, rfl⟩
  obtain ⟨x1, e1⟩ : ∃ x, x = b.getD 1 0 := ⟨_, rfl⟩
  obtain ⟨y2, e2⟩ : ∃ x, x = b.getD 2 0 := ⟨_, rfl⟩
  obtain ⟨y3, e3⟩ : ∃ x, x = b.getD 3 0 := ⟨_, rfl⟩
  obtain ⟨x2, e4⟩ : ∃ x, x = y2 * 256 + y3 := ⟨_, rfl⟩
  obtain ⟨y4, e5⟩ : ∃ x, x = 256 * y2 := ⟨_, rfl⟩
  obtain ⟨m, em⟩ : ∃ m, m = (b.drop 4).take 8 := ⟨_, rfl⟩
  obtain ⟨dn, ed⟩ : ∃ d, d = (b.drop 12).all (· == 0) := ⟨_, rfl⟩
  have hml : m.length = 8 := by rw [em]; simp [hb]
  have hC : ofB b = ⟨x0, x1, x2, m⟩ := by rw [e0, e1, e4, e2, e3, em]; rfl
  have hO : okB b = (dn && (Cmd.mk x0 x1 x2 m).may) := by unfold okB; rw [hC, ed]
  have l0 : x0 < 256 := by rw [e0]; exact hbb 0
  have l1 : x1 < 256 := by rw [e1]; exact hbb 1
  have l2 : y2 < 256 := by rw [e2]; exact hbb 2
  have l3 : y3 < 256 := by rw [e3]; exact hbb 3
  have g0 : ∀ h : 0 < (bysA b).size, (bysA b)[0]'h = .int .u8 (x0 : Int) := fun h => by rw [e0]; exact Array.getElem_eq_iff.2 (bysA_get b 0 (by omega))
  have g1 : ∀ h : 1 < (bysA b).size, (bysA b)[1]'h = .int .u8 (x1 : Int) := fun h => by rw [e1]; exact Array.getElem_eq_iff.2 (bysA_get b 1 (by omega))
  have g2 : ∀ h : 2 < (bysA b).size, (bysA b)[2]'h = .int .u8 (y2 : Int) := fun h => by rw [e2]; exact Array.getElem_eq_iff.2 (bysA_get b 2 (by omega))
  have g3 : ∀ h : 3 < (bysA b).size, (bysA b)[3]'h = .int .u8 (y3 : Int) := fun h => by rw [e3]; exact Array.getElem_eq_iff.2 (bysA_get b 3 (by omega))
  have u0 : IntKind.i64.wrap (x0 : Int) = (x0 : Int) := IntWalk.i64_in _ (by omega)
  have u1 : IntKind.i64.wrap (x1 : Int) = (x1 : Int) := IntWalk.i64_in _ (by omega)
  have u2 : IntKind.i64.wrap (y2 : Int) = (y2 : Int) := IntWalk.i64_in _ (by omega)
  have u3 : IntKind.i64.wrap (y3 : Int) = (y3 : Int) := IntWalk.i64_in _ (by omega)
  have u4 : IntKind.i64.wrap (256 * (y2 : Int)) = (y4 : Int) := by rw [IntWalk.i64_in _ (by omega)]; omega
  have u5 : IntKind.i64.wrap ((y4 : Int) + (y3 : Int)) = (x2 : Int) := by rw [IntWalk.i64_in _ (by omega)]; omega
  have Hb := Lib.hid hb
  have Hm := Lib.hid (fun (j : Nat) (hj : j < 8) => show b.getD (4 + j) 0 = m.getD j 0 by rw [em]; simp [List.getD, hj])
  have hbs : (bysA b).size = 16 := by rw [bysA_size]; exact hb
  have hcz : (cmdA ⟨x0, x1, x2, zs 8⟩).size = 11 := cmdA_size rfl
  have KM := Lib.hid (fun (W : World) => rmay_c ⟨x0, x1, x2, m⟩ hml W)
  have Hml := Lib.hid hml
  have HQ := Lib.hid (show decide ((Cmd.mk x0 x1 x2 m).enc = b) = dn by
    rw [← hC, ed, Bool.eq_iff_iff, decide_eq_true_iff]
    exact enc_ofB hb hbb)
  have KB := Lib.hid (fun (h : (Cmd.mk x0 x1 x2 m).may = true) (W : World) => rbytes_c ⟨x0, x1, x2, m⟩ hml h W)
  have HEl := Lib.hid (enc_length (c := ⟨x0, x1, x2, m⟩) hml)
  have HD := Lib.hid (show decV b = (if okB b then ⟨x0, x1, x2, m⟩ else .zero) by unfold decV; rw [hC])
  have HE := Lib.hid (show decE b = (if okB b then 0 else 5) from rfl)
  rw [hO] at HD HE
  obtain ⟨mb, emb⟩ : ∃ mb, mb = (Cmd.mk x0 x1 x2 m).may := ⟨_, rfl⟩
  rw [← emb] at HD HE KM KB
  generalize (Cmd.mk x0 x1 x2 m).enc = E at *
  generalize decV b = DV at *
  generalize decE b = DE at *
  clear hO hC emb e0 e1 e2 e3 e4 e5 em ed l0 l1 l2 l3 hml hb hbb
  go_enter Try.func14, Try.ntmps14
  go_wp2_with fail
  generalize hW : World.alloc _ _ = W0
  have R0 := Lib.hid (show RowAt W0 w.heap.size (bysA b) by rw [← hW]; clear hW; exact ⟨by go_simp, by go_simp, by go_simp⟩)
  have T0 := Lib.hid (show RowAt W0 (w.heap.size + 1) (cmdA .zero) by rw [← hW]; clear hW; exact ⟨by go_simp, by go_simp; rfl, by go_simp⟩)
  have G0 := Lib.hid (show RowAt W0 (w.heap.size + 1 + 1) (cmdA ⟨x0, x1, x2, idP m 0⟩) by rw [← hW]; clear hW; exact ⟨by go_simp, by go_simp; rfl, by go_simp⟩)
  have B0 := Lib.hid (show Below w.heap.size w W0 by rw [← hW]; repeat (first | apply below_alloc | exact Below.refl _ _))
  have hne1 : w.heap.size ≠ w.heap.size + 1 + 1 := by omega
  have hne2 : w.heap.size + 1 ≠ w.heap.size + 1 + 1 := by omega
  have hle1 : w.heap.size ≤ w.heap.size + 1 + 1 := by omega
  have hle2 : w.heap.size ≤ w.heap.size + 1 := by omega
  clear hW u0 u1 u2 u3 u4 u5 hcz g0 g1 g2 g3
  generalize w.heap.size + 1 + 1 = g at *
  generalize w.heap.size + 1 = t at *
  obtain ⟨z, ez⟩ : ∃ z, z = w.heap.size := ⟨_, rfl⟩
  rw [← ez] at R0 hne1 hle1 hle2 ⊢
  have Ez := Lib.hid ez
  clear ez
  go_loopw [5] (fun i wr => ∃ j : Nat, j ≤ 8 ∧ i = .int .i64 j ∧ Sets W0 g (cmdA ⟨x0, x1, x2, idP m j⟩) wr) (fun i _ => 8 - (intOf i).toNat)
  case atStart => exact ⟨0, by omega, rfl, Sets.refl G0.out⟩
  case round =>
    obtain ⟨j, hj, rfl, hset⟩ := hrel
    by_cases hj8 : j < 8
    · have hk0 : (0 : Int) ≤ (j : Int) := by omega
      have hk1 : (j : Int) < 8 := by omega
      have hrow := hset.row G0.out
      have hzr := hset.old R0.out hne1
      have hcg := hrow.cellAt (3 + j) (cmdA_get _ j (by rw [idP_length Hml.out hj]; exact hj8))
      have hcz := hzr.cellAt (4 + j) (bysA_get _ (4 + j) (by rw [Hb.out]; omega))
      have hf := hrow.frozenAt (3 + j)
      have Hst := Lib.hid (show (cmdA ⟨x0, x1, x2, idP m j⟩).setIfInBounds (3 + j) (.int .u8 ((m.getD j 0 : Nat) : Int)) = cmdA ⟨x0, x1, x2, idP m (j + 1)⟩ by
        rw [cmdA_set ⟨x0, x1, x2, idP m j⟩ (idP_length Hml.out hj) j _ hj8, idP_set Hml.out hj8])
      rw [Hm.out j hj8] at hcz
      obtain ⟨v, ev⟩ : ∃ v, v = m.getD j 0 := ⟨_, rfl⟩
      rw [← ev] at hcz Hst
      obtain ⟨x, ex⟩ : ∃ x, x = 4 + j := ⟨_, rfl⟩
      rw [← ex] at hcz
      have hx : IntKind.i64.wrap (4 + (j : Int)) = (x : Int) := by rw [IntWalk.i64_in _ (by omega)]; omega
      have hx0 : (0 : Int) ≤ (x : Int) := by omega
      have hx1 : (x : Int) < 16 := by omega
      have Hset := Lib.hid hset
      have hgl := hrow.2.2
      have hzl := hzr.2.2
      clear ex ev hset hrow hzr
      go_wp2_with fail
      go_roundw
      case rel =>
        refine ⟨j + 1, by omega, by go_num, ?_⟩
        rw [← Hst.out]; exact Hset.out.cell G0.out
      case measure => simp [intOf]; omega
    · obtain rfl : j = 8 := by omega
      have hrow := hset.row G0.out
      rw [idP_all Hml.out] at hrow
      have G1 := Lib.hid hrow
      have T1 := Lib.hid (hset.old T0.out hne2)
      have R1 := Lib.hid (hset.old R0.out hne1)
      have B1 := Lib.hid (hset.below B0.out (by rw [← Ez.out]; exact hle1) B0.out.size)
      have hcm : (cmdA ⟨x0, x1, x2, m⟩).size = 11 := cmdA_size Hml.out
      obtain ⟨g1, g2, g3⟩ := hrow
      obtain ⟨t1, t2, t3⟩ := T1.out
      obtain ⟨r1, r2, r3⟩ := R1.out
      have h16 := Hb.out
      have h16e := HEl.out
      clear hset R0 T0 G0 B0
      go_wp2_with fail
      cases mb
      · refine wp_region_fast (fun w' => ∃ o d, w' = wr.plus o d) (by kernel_rfl) (by kernel_rfl) ⟨#[], _, rfl⟩ ?_
        refine wpHold_val ⟨_, #[], 0, rfl⟩ (wanted_none rfl) (by rintro K _ ⟨o, d, rfl⟩ hK; go_simp; exact hK _ ⟨o, d, rfl⟩) ?_
        refine wpHold_call (v := .bool false) (wanted_none rfl) (by rintro K _ ⟨o, d, rfl⟩ hK; go_simp; refine (KM.out _).mono ?_; rintro e w' ⟨rfl, hbw⟩; obtain ⟨o', n', rfl⟩ := below_plus hbw; exact ⟨_, rfl, hK _ ⟨_, _, World.plus_plus _ _ _ _ _⟩⟩) ?_
        refine wpHold_val ⟨_, #[], 0, rfl⟩ (wanted_none rfl) (by rintro K _ ⟨o, d, rfl⟩ hK; go_simp; exact hK _ ⟨o, d, rfl⟩) ?_
        refine wpHold_val ⟨_, #[], 0, rfl⟩ (wanted_none rfl) (by rintro K _ ⟨o, d, rfl⟩ hK; go_simp; exact hK _ ⟨o, d, rfl⟩) ?_
        refine wpHold_skip (unwanted rfl rfl rfl) ?_
        refine wpHold_skip (unwanted rfl rfl rfl) ?_
        refine wpHold_skip (unwanted rfl rfl rfl) ?_
        refine wpHold_skip (unwanted rfl rfl rfl) ?_
        refine wpHold_val ⟨_, #[], 0, rfl⟩ (wanted_none rfl) (by rintro K _ ⟨o, d, rfl⟩ hK; go_simp; exact hK _ ⟨o, d, rfl⟩) ?_
        refine wpHold_nil ?_
        rintro _ ⟨o1, d1, rfl⟩
        have hbp := below_more (Below.refl wr.heap.size wr) o1 d1
        have B2 := Lib.hid (B1.out.trans (hbp.mono B1.out.size))
        have T2 := T1.out.grow hbp
        have G2 := G1.out.grow hbp
        clear hbp g1 g2 g3 t1 t2 t3 r1 r2 r3
        generalize wr.plus o1 d1 = W2 at *
        obtain ⟨t1, t2, t3⟩ := T2
        obtain ⟨g1, g2, g3⟩ := G2
        go_wp2_with fail
        refine bodyPost_ret (v := .tuple #[.agg (cmdA .zero), .int .i64 5]) (results_rcmd Try.results14 .zero rfl _ _ _ t rfl (by go_simp) (by go_simp) rfl) rfl ⟨by rw [HD.out, HE.out, Bool.and_false]; rfl, ?_⟩
        exact below_setRow B2.out (by rw [← Ez.out]; exact hle2) _
      have hq := HQ.out
      refine wp_region_fast (fun w' => ∃ o d, w' = wr.plus o d) (by kernel_rfl) (by kernel_rfl) ⟨#[], _, rfl⟩ ?_
      refine wpHold_val ⟨_, #[], 0, rfl⟩ (wanted_none rfl) (by rintro K _ ⟨o, d, rfl⟩ hK; go_simp; exact hK _ ⟨o, d, rfl⟩) ?_
      refine wpHold_call (v := .bool true) (wanted_none rfl) (by rintro K _ ⟨o, d, rfl⟩ hK; go_simp; refine (KM.out _).mono ?_; rintro e w' ⟨rfl, hbw⟩; obtain ⟨o', n', rfl⟩ := below_plus hbw; exact ⟨_, rfl, hK _ ⟨_, _, World.plus_plus _ _ _ _ _⟩⟩) ?_
      refine wpHold_val ⟨_, #[], 0, rfl⟩ (wanted_none rfl) (by rintro K _ ⟨o, d, rfl⟩ hK; go_simp; exact hK _ ⟨o, d, rfl⟩) ?_
      refine wpHold_val ⟨_, #[], 0, rfl⟩ (wanted_none rfl) (by rintro K _ ⟨o, d, rfl⟩ hK; go_simp; exact hK _ ⟨o, d, rfl⟩) ?_
      refine wpHold_val ⟨_, #[], 0, rfl⟩ (wanted_some rfl rfl rfl) (by rintro K _ ⟨o, d, rfl⟩ hK; go_simp; exact hK _ ⟨o, d, rfl⟩) ?_
      refine wpHold_call (v := .agg (bysA E)) (wanted_some rfl rfl rfl) (by rintro K _ ⟨o, d, rfl⟩ hK; go_simp; refine (KB.out rfl _).mono ?_; rintro e w' ⟨rfl, hbw⟩; obtain ⟨o', n', rfl⟩ := below_plus hbw; exact ⟨_, rfl, hK _ ⟨_, _, World.plus_plus _ _ _ _ _⟩⟩) ?_
      refine wpHold_val ⟨_, #[], 0, rfl⟩ (wanted_some rfl rfl rfl) (by rintro K _ ⟨o, d, rfl⟩ hK; go_simp; exact hK _ ⟨o, d, rfl⟩) ?_
      refine wpHold_val ⟨_, #[], 0, rfl⟩ (wanted_some rfl rfl rfl) (by rintro K _ ⟨o, d, rfl⟩ hK; go_simp; exact hK _ ⟨o, d, rfl⟩) ?_
      refine wpHold_val ⟨_, #[], 0, rfl⟩ (wanted_none rfl) (by rintro K _ ⟨o, d, rfl⟩ hK; go_simp; exact hK _ ⟨o, d, rfl⟩) ?_
      refine wpHold_nil ?_
      rintro _ ⟨o1, d1, rfl⟩
      have hbp := below_more (Below.refl wr.heap.size wr) o1 d1
      have B2 := Lib.hid (B1.out.trans (hbp.mono B1.out.size))
      have T2 := T1.out.grow hbp
      have G2 := G1.out.grow hbp
      clear hbp g1 g2 g3 t1 t2 t3 r1 r2 r3
      generalize wr.plus o1 d1 = W2 at *
      obtain ⟨t1, t2, t3⟩ := T2
      obtain ⟨g1, g2, g3⟩ := G2
      cases dn
      · go_wp2_with fail
        refine bodyPost_ret (v := .tuple #[.agg (cmdA .zero), .int .i64 5]) (results_rcmd Try.results14 .zero rfl _ _ _ t rfl (by go_simp) (by go_simp) rfl) rfl ⟨by rw [HD.out, HE.out]; rfl, ?_⟩
        exact below_setRow B2.out (by rw [← Ez.out]; exact hle2) _
      go_wp2_with fail
      refine bodyPost_ret (v := .tuple #[.agg (cmdA ⟨x0, x1, x2, m⟩), .int .i64 0]) (results_rcmd Try.results14 ⟨x0, x1, x2, m⟩ Hml.out _ _ _ t rfl (by go_simp) (by go_simp) rfl) rfl ⟨by rw [HD.out, HE.out]; rfl, ?_⟩
      exact below_setRow B2.out (by rw [← Ez.out]; exact hle2) _
end Go.Proofs.Ytdeeecdpgmibnaa

/-
  Commands come back from their bytes, and bytes from their commands.
-/
namespace Go.Proofs.Ytdeeecdpgmibnaa
open Go.RowKit Go.Hold Go.Sh Go.Cm

theorem cmd_round {b : List Nat} (hb : b.length = 16) (hbb : ∀ i, b.getD i 0 < 256) : (okB b = true ∧ decE b = 0 ∧ encE (decV b) = 0 ∧ encV (decV b) = b) ∨ decE b = 5 := by
  by_cases h : okB b = true
  · have h2 : (ofB b).may = true := by unfold okB at h; simp only [Bool.and_eq_true] at h; exact h.2
    have h3 : (b.drop 12).all (· == 0) = true := by unfold okB at h; simp only [Bool.and_eq_true] at h; exact h.1
    have h4 : decV b = ofB b := by unfold decV; rw [if_pos h]
    refine .inl ⟨h, by unfold decE; rw [if_pos h], by rw [h4]; unfold encE; rw [if_pos h2], ?_⟩
    rw [h4]
    unfold encV
    rw [if_pos h2]
    exact (enc_ofB hb hbb).2 h3
  · exact .inr (by unfold decE; rw [if_neg h])
set_option maxHeartbeats 4000000 in
set_option maxRecDepth 100000 in
theorem cback_any (c : Cmd) (hid : c.id.length = 8) (hidb : ∀ i, c.id.getD i 0 < 256) (b : List Nat) (hb : b.length = 16) (hbb : ∀ i, b.getD i 0 < 256) (w : World) :
    Calls Try.prog 5 #[.agg (cmdA c), .agg (bysA b)] w fun e w' => e = .returned (.bool true) ∧ Below w.heap.size w w' := by
  have hcs := cmdA_size hid
  have hbs : (bysA b).size = 16 := by rw [bysA_size]; exact hb
  have KT := Lib.hid (fun (W : World) => theirs_c c hid W)
  have KM := Lib.hid (fun (W : World) => may_c c hid W)
  have KE := Lib.hid (fun (W : World) => encode_c c hid W)
  have hX : (encV c).length = 16 := encV_length hid
  have hXs : (bysA (encV c)).size = 16 := by rw [bysA_size]; exact hX
  have KD := Lib.hid (fun (W : World) => decode_c (encV c) hX (encV_bts hidb) W)
  have hC : (decV (encV c)).id.length = 8 := decV_id hX
  have KO := Lib.hid (fun (W : World) => ours_c (decV (encV c)) hC W)
  have hCs := cmdA_size hC
  have KF := Lib.hid (fun (W : World) => decode_c b hb hbb W)
  have hD : (decV b).id.length = 8 := decV_id hb
  have hDs := cmdA_size hD
  have KG := Lib.hid (fun (W : World) => encode_c (decV b) hD W)
  have hZ : (encV (decV b)).length = 16 := encV_length hD
  have hZs : (bysA (encV (decV b))).size = 16 := by rw [bysA_size]; exact hZ
  have HR := Lib.hid (show (okB b = true ∧ decE b = 0 ∧ encE (decV b) = 0 ∧ encV (decV b) = b) ∨ decE b = 5 from cmd_round hb hbb)
  by_cases hm : c.may = true
  · have h1 : encE c = 0 := by unfold encE; rw [if_pos hm]
    have h2 : decE (encV c) = 0 := by unfold decE encV; rw [if_pos hm, if_pos (okB_enc hid hm)]
    have h3 : decV (encV c) = c := by unfold decV encV; rw [if_pos hm, if_pos (okB_enc hid hm), ofB_enc hid hm]
    rw [hm] at KM
    rw [h1] at KE
    rw [h2] at KD
    have hq : beqC (decV (encV c)) c = true := by rw [h3]; exact beqC_self c
    clear h1 h2 h3 hm
    generalize encV c = X at *
    generalize decV X = C at *
    rcases HR.out with ⟨_, h5, h6, h7⟩ | h5
    · rw [h5] at KF
      rw [h6, h7] at KG
      clear HR h5 h6 h7 hZ hZs
      generalize decV b = D at *
      go_enter Try.func5, Try.ntmps5
      go_wp2_with fail
      generalize hW : World.alloc _ _ = W0
      have R0x0 := Lib.hid (show RowAt W0 (w.heap.size) (cmdA c) by rw [← hW]; clear hW; exact ⟨by go_simp, by go_simp, by go_simp⟩)
      have R0x1 := Lib.hid (show RowAt W0 (w.heap.size + 1) (bysA b) by rw [← hW]; clear hW; exact ⟨by go_simp, by go_simp, by go_simp⟩)
      have B0 := Lib.hid (show Below w.heap.size w W0 by rw [← hW]; repeat (first | apply below_alloc | exact Below.refl _ _))
      clear hW
      generalize w.heap.size + 1 = y at *
      obtain ⟨z, ez⟩ : ∃ z, z = w.heap.size := ⟨_, rfl⟩
      rw [← ez] at R0x0 ⊢
      have Ez := Lib.hid ez
      clear ez
      refine (alive9_c W0).mono ?_
      rintro e W1 ⟨rfl, hb1⟩
      have R1x0 := Lib.hid (R0x0.out.grow hb1)
      have R1x1 := Lib.hid (R0x1.out.grow hb1)
      have B1 := Lib.hid (B0.out.trans (hb1.mono B0.out.size))
      clear hb1 B0 R0x0 R0x1
      obtain ⟨R1x0a, R1x0b, R1x0c⟩ := R1x0.out
      obtain ⟨R1x1a, R1x1b, R1x1c⟩ := R1x1.out
      go_wp2_with fail
      refine (KT.out W1).mono ?_
      rintro e W2 ⟨rfl, hb2⟩
      have R2x0 := Lib.hid (R1x0.out.grow hb2)
      have R2x1 := Lib.hid (R1x1.out.grow hb2)
      have B2 := Lib.hid (B1.out.trans (hb2.mono B1.out.size))
      clear hb2 B1 R1x0 R1x1 R1x0a R1x0b R1x0c R1x1a R1x1b R1x1c
      obtain ⟨R2x0a, R2x0b, R2x0c⟩ := R2x0.out
      obtain ⟨R2x1a, R2x1b, R2x1c⟩ := R2x1.out
      go_wp2_with fail
      refine (KE.out W2).mono ?_
      rintro e W3 ⟨rfl, hb3⟩
      have R3x0 := Lib.hid (R2x0.out.grow hb3)
      have R3x1 := Lib.hid (R2x1.out.grow hb3)
      have B3 := Lib.hid (B2.out.trans (hb3.mono B2.out.size))
      clear hb3 B2 R2x0 R2x1 R2x0a R2x0b R2x0c R2x1a R2x1b R2x1c
      obtain ⟨R3x0a, R3x0b, R3x0c⟩ := R3x0.out
      obtain ⟨R3x1a, R3x1b, R3x1c⟩ := R3x1.out
      go_wp2_with fail
      have hb4 := below_alloc (Below.refl W3.heap.size W3) (.cells (bysA X) 26)
      have N4 := Lib.hid (RowAt.of (block_new W3 (.cells (bysA X) 26)))
      have R4x0 := Lib.hid (R3x0.out.grow hb4)
      have R4x1 := Lib.hid (R3x1.out.grow hb4)
      have B4 := Lib.hid (B3.out.trans (hb4.mono B3.out.size))
      clear hb4 B3 R3x0 R3x1 R3x0a R3x0b R3x0c R3x1a R3x1b R3x1c
      generalize W3.heap.size = g1 at *
      generalize W3.alloc (.cells (bysA X) 26) = W4 at *
      refine (KD.out W4).mono ?_
      rintro e W5 ⟨rfl, hb5⟩
      have R5x0 := Lib.hid (R4x0.out.grow hb5)
      have R5x1 := Lib.hid (R4x1.out.grow hb5)
      have R5x2 := Lib.hid (N4.out.grow hb5)
      have B5 := Lib.hid (B4.out.trans (hb5.mono B4.out.size))
      clear hb5 B4 R4x0 R4x1 N4
      obtain ⟨R5x0a, R5x0b, R5x0c⟩ := R5x0.out
      obtain ⟨R5x1a, R5x1b, R5x1c⟩ := R5x1.out
      obtain ⟨R5x2a, R5x2b, R5x2c⟩ := R5x2.out
      go_wp2_with fail
      have hb6 := below_alloc (Below.refl W5.heap.size W5) (.cells (cmdA C) 32)
      have N6 := Lib.hid (RowAt.of (block_new W5 (.cells (cmdA C) 32)))
      have R6x0 := Lib.hid (R5x0.out.grow hb6)
      have R6x1 := Lib.hid (R5x1.out.grow hb6)
      have R6x2 := Lib.hid (R5x2.out.grow hb6)
      have B6 := Lib.hid (B5.out.trans (hb6.mono B5.out.size))
      clear hb6 B5 R5x0 R5x1 R5x2 R5x0a R5x0b R5x0c R5x1a R5x1b R5x1c R5x2a R5x2b R5x2c
      generalize W5.heap.size = g2 at *
      generalize W5.alloc (.cells (cmdA C) 32) = W6 at *
      obtain ⟨R6x0a, R6x0b, R6x0c⟩ := R6x0.out
      obtain ⟨R6x1a, R6x1b, R6x1c⟩ := R6x1.out
      obtain ⟨R6x2a, R6x2b, R6x2c⟩ := R6x2.out
      obtain ⟨N6a, N6b, N6c⟩ := N6.out
      refine wp_region_fast (fun w' => ∃ o d, w' = W6.plus o d) (by kernel_rfl) (by kernel_rfl) ⟨#[], _, rfl⟩ ?_
      refine wpHold_val ⟨_, #[], 0, rfl⟩ (wanted_none rfl) (by rintro K _ ⟨o, d, rfl⟩ hK; go_simp; exact hK _ ⟨o, d, rfl⟩) ?_
      refine wpHold_call (v := .agg (cmdA c)) (wanted_none rfl) (by rintro K _ ⟨o, d, rfl⟩ hK; go_simp; refine (KT.out _).mono ?_; rintro e w' ⟨rfl, hbw⟩; obtain ⟨o', n', rfl⟩ := below_plus hbw; exact ⟨_, rfl, hK _ ⟨_, _, World.plus_plus _ _ _ _ _⟩⟩) ?_
      refine wpHold_call (v := .bool true) (wanted_none rfl) (by rintro K _ ⟨o, d, rfl⟩ hK; go_simp; refine (KM.out _).mono ?_; rintro e w' ⟨rfl, hbw⟩; obtain ⟨o', n', rfl⟩ := below_plus hbw; exact ⟨_, rfl, hK _ ⟨_, _, World.plus_plus _ _ _ _ _⟩⟩) ?_
      refine wpHold_val ⟨_, #[], 0, rfl⟩ (wanted_none rfl) (by rintro K _ ⟨o, d, rfl⟩ hK; go_simp; exact hK _ ⟨o, d, rfl⟩) ?_
      refine wpHold_val ⟨_, #[], 0, rfl⟩ (wanted_none rfl) (by rintro K _ ⟨o, d, rfl⟩ hK; go_simp; exact hK _ ⟨o, d, rfl⟩) ?_
      refine wpHold_val ⟨_, #[], 0, rfl⟩ (wanted_none rfl) (by rintro K _ ⟨o, d, rfl⟩ hK; go_simp; exact hK _ ⟨o, d, rfl⟩) ?_
      refine wpHold_val ⟨_, #[], 0, rfl⟩ (wanted_none rfl) (by rintro K _ ⟨o, d, rfl⟩ hK; go_simp; exact hK _ ⟨o, d, rfl⟩) ?_
      refine wpHold_val ⟨_, #[], 0, rfl⟩ (wanted_some rfl rfl rfl) (by rintro K _ ⟨o, d, rfl⟩ hK; go_simp; exact hK _ ⟨o, d, rfl⟩) ?_
      refine wpHold_val ⟨_, #[], 0, rfl⟩ (wanted_some rfl rfl rfl) (by rintro K _ ⟨o, d, rfl⟩ hK; go_simp; exact hK _ ⟨o, d, rfl⟩) ?_
      refine wpHold_val ⟨_, #[], 0, rfl⟩ (wanted_some rfl rfl rfl) (by rintro K _ ⟨o, d, rfl⟩ hK; go_simp; exact hK _ ⟨o, d, rfl⟩) ?_
      refine wpHold_val ⟨_, #[], 0, rfl⟩ (wanted_some rfl rfl rfl) (by rintro K _ ⟨o, d, rfl⟩ hK; go_simp; exact hK _ ⟨o, d, rfl⟩) ?_
      refine wpHold_val ⟨_, #[], 0, rfl⟩ (wanted_some rfl rfl rfl) (by rintro K _ ⟨o, d, rfl⟩ hK; go_simp; exact hK _ ⟨o, d, rfl⟩) ?_
      refine wpHold_val ⟨_, #[], 0, rfl⟩ (wanted_some rfl rfl rfl) (by rintro K _ ⟨o, d, rfl⟩ hK; go_simp; exact hK _ ⟨o, d, rfl⟩) ?_
      refine wpHold_val ⟨_, #[], 0, rfl⟩ (wanted_some rfl rfl rfl) (by rintro K _ ⟨o, d, rfl⟩ hK; go_simp; exact hK _ ⟨o, d, rfl⟩) ?_
      refine wpHold_call (v := .agg (cmdA C)) (wanted_some rfl rfl rfl) (by rintro K _ ⟨o, d, rfl⟩ hK; go_simp; refine (KO.out _).mono ?_; rintro e w' ⟨rfl, hbw⟩; obtain ⟨o', n', rfl⟩ := below_plus hbw; exact ⟨_, rfl, hK _ ⟨_, _, World.plus_plus _ _ _ _ _⟩⟩) ?_
      refine wpHold_val ⟨_, #[], 0, rfl⟩ (wanted_some rfl rfl rfl) (by rintro K _ ⟨o, d, rfl⟩ hK; go_simp; exact hK _ ⟨o, d, rfl⟩) ?_
      refine wpHold_val ⟨_, #[], 0, rfl⟩ (wanted_some rfl rfl rfl) (by rintro K _ ⟨o, d, rfl⟩ hK; go_simp; exact hK _ ⟨o, d, rfl⟩) ?_
      refine wpHold_val ⟨_, #[], 0, rfl⟩ (wanted_some rfl rfl rfl) (by rintro K _ ⟨o, d, rfl⟩ hK; go_simp; exact hK _ ⟨o, d, rfl⟩) ?_
      refine wpHold_val ⟨_, #[], 0, rfl⟩ (wanted_some rfl rfl rfl) (by rintro K _ ⟨o, d, rfl⟩ hK; go_simp; exact hK _ ⟨o, d, rfl⟩) ?_
      refine wpHold_val ⟨_, #[], 0, rfl⟩ (wanted_none rfl) (by rintro K _ ⟨o, d, rfl⟩ hK; go_simp; exact hK _ ⟨o, d, rfl⟩) ?_
      refine wpHold_nil ?_
      rintro _ ⟨o7, d7, rfl⟩
      have hb7 := below_more (Below.refl W6.heap.size W6) o7 d7
      have R7x0 := Lib.hid (R6x0.out.grow hb7)
      have R7x1 := Lib.hid (R6x1.out.grow hb7)
      have R7x2 := Lib.hid (R6x2.out.grow hb7)
      have R7x3 := Lib.hid (N6.out.grow hb7)
      have B7 := Lib.hid (B6.out.trans (hb7.mono B6.out.size))
      clear hb7 B6 R6x0 R6x1 R6x2 N6 R6x0a R6x0b R6x0c R6x1a R6x1b R6x1c R6x2a R6x2b R6x2c N6a N6b N6c
      generalize W6.plus o7 d7 = W7 at *
      obtain ⟨R7x0a, R7x0b, R7x0c⟩ := R7x0.out
      obtain ⟨R7x1a, R7x1b, R7x1c⟩ := R7x1.out
      obtain ⟨R7x2a, R7x2b, R7x2c⟩ := R7x2.out
      obtain ⟨R7x3a, R7x3b, R7x3c⟩ := R7x3.out
      go_wp2_with fail
      refine (KF.out W7).mono ?_
      rintro e W8 ⟨rfl, hb8⟩
      have R8x0 := Lib.hid (R7x0.out.grow hb8)
      have R8x1 := Lib.hid (R7x1.out.grow hb8)
      have R8x2 := Lib.hid (R7x2.out.grow hb8)
      have R8x3 := Lib.hid (R7x3.out.grow hb8)
      have B8 := Lib.hid (B7.out.trans (hb8.mono B7.out.size))
      clear hb8 B7 R7x0 R7x1 R7x2 R7x3 R7x0a R7x0b R7x0c R7x1a R7x1b R7x1c R7x2a R7x2b R7x2c R7x3a R7x3b R7x3c
      obtain ⟨R8x0a, R8x0b, R8x0c⟩ := R8x0.out
      obtain ⟨R8x1a, R8x1b, R8x1c⟩ := R8x1.out
      obtain ⟨R8x2a, R8x2b, R8x2c⟩ := R8x2.out
      obtain ⟨R8x3a, R8x3b, R8x3c⟩ := R8x3.out
      go_wp2_with fail
      have hb9 := below_alloc (Below.refl W8.heap.size W8) (.cells (cmdA D) 32)
      have N9 := Lib.hid (RowAt.of (block_new W8 (.cells (cmdA D) 32)))
      have R9x0 := Lib.hid (R8x0.out.grow hb9)
      have R9x1 := Lib.hid (R8x1.out.grow hb9)
      have R9x2 := Lib.hid (R8x2.out.grow hb9)
      have R9x3 := Lib.hid (R8x3.out.grow hb9)
      have B9 := Lib.hid (B8.out.trans (hb9.mono B8.out.size))
      clear hb9 B8 R8x0 R8x1 R8x2 R8x3 R8x0a R8x0b R8x0c R8x1a R8x1b R8x1c R8x2a R8x2b R8x2c R8x3a R8x3b R8x3c
      generalize W8.heap.size = g3 at *
      generalize W8.alloc (.cells (cmdA D) 32) = W9 at *
      refine (KG.out W9).mono ?_
      rintro e W10 ⟨rfl, hb10⟩
      have R10x0 := Lib.hid (R9x0.out.grow hb10)
      have R10x1 := Lib.hid (R9x1.out.grow hb10)
      have R10x2 := Lib.hid (R9x2.out.grow hb10)
      have R10x3 := Lib.hid (R9x3.out.grow hb10)
      have R10x4 := Lib.hid (N9.out.grow hb10)
      have B10 := Lib.hid (B9.out.trans (hb10.mono B9.out.size))
      clear hb10 B9 R9x0 R9x1 R9x2 R9x3 N9
      obtain ⟨R10x0a, R10x0b, R10x0c⟩ := R10x0.out
      obtain ⟨R10x1a, R10x1b, R10x1c⟩ := R10x1.out
      obtain ⟨R10x2a, R10x2b, R10x2c⟩ := R10x2.out
      obtain ⟨R10x3a, R10x3b, R10x3c⟩ := R10x3.out
      obtain ⟨R10x4a, R10x4b, R10x4c⟩ := R10x4.out
      go_wp2_with fail
      go_ret
      exact ⟨rfl, by repeat (first | exact B10.out | apply below_alloc)⟩
    rw [h5] at KF
    clear HR h5
    generalize encE (decV b) = er at *
    generalize encV (decV b) = Z at *
    generalize decV b = D at *
    go_enter Try.func5, Try.ntmps5
    go_wp2_with fail
    generalize hW : World.alloc _ _ = W0
    have R0x0 := Lib.hid (show RowAt W0 (w.heap.size) (cmdA c) by rw [← hW]; clear hW; exact ⟨by go_simp, by go_simp, by go_simp⟩)
    have R0x1 := Lib.hid (show RowAt W0 (w.heap.size + 1) (bysA b) by rw [← hW]; clear hW; exact ⟨by go_simp, by go_simp, by go_simp⟩)
    have B0 := Lib.hid (show Below w.heap.size w W0 by rw [← hW]; repeat (first | apply below_alloc | exact Below.refl _ _))
    clear hW
    generalize w.heap.size + 1 = y at *
    obtain ⟨z, ez⟩ : ∃ z, z = w.heap.size := ⟨_, rfl⟩
    rw [← ez] at R0x0 ⊢
    have Ez := Lib.hid ez
    clear ez
    refine (alive9_c W0).mono ?_
    rintro e W1 ⟨rfl, hb1⟩
    have R1x0 := Lib.hid (R0x0.out.grow hb1)
    have R1x1 := Lib.hid (R0x1.out.grow hb1)
    have B1 := Lib.hid (B0.out.trans (hb1.mono B0.out.size))
    clear hb1 B0 R0x0 R0x1
    obtain ⟨R1x0a, R1x0b, R1x0c⟩ := R1x0.out
    obtain ⟨R1x1a, R1x1b, R1x1c⟩ := R1x1.out
    go_wp2_with fail
    refine (KT.out W1).mono ?_
    rintro e W2 ⟨rfl, hb2⟩
    have R2x0 := Lib.hid (R1x0.out.grow hb2)
    have R2x1 := Lib.hid (R1x1.out.grow hb2)
    have B2 := Lib.hid (B1.out.trans (hb2.mono B1.out.size))
    clear hb2 B1 R1x0 R1x1 R1x0a R1x0b R1x0c R1x1a R1x1b R1x1c
    obtain ⟨R2x0a, R2x0b, R2x0c⟩ := R2x0.out
    obtain ⟨R2x1a, R2x1b, R2x1c⟩ := R2x1.out
    go_wp2_with fail
    refine (KE.out W2).mono ?_
    rintro e W3 ⟨rfl, hb3⟩
    have R3x0 := Lib.hid (R2x0.out.grow hb3)
    have R3x1 := Lib.hid (R2x1.out.grow hb3)
    have B3 := Lib.hid (B2.out.trans (hb3.mono B2.out.size))
    clear hb3 B2 R2x0 R2x1 R2x0a R2x0b R2x0c R2x1a R2x1b R2x1c
    obtain ⟨R3x0a, R3x0b, R3x0c⟩ := R3x0.out
    obtain ⟨R3x1a, R3x1b, R3x1c⟩ := R3x1.out
    go_wp2_with fail
    have hb4 := below_alloc (Below.refl W3.heap.size W3) (.cells (bysA X) 26)
    have N4 := Lib.hid (RowAt.of (block_new W3 (.cells (bysA X) 26)))
    have R4x0 := Lib.hid (R3x0.out.grow hb4)
    have R4x1 := Lib.hid (R3x1.out.grow hb4)
    have B4 := Lib.hid (B3.out.trans (hb4.mono B3.out.size))
    clear hb4 B3 R3x0 R3x1 R3x0a R3x0b R3x0c R3x1a R3x1b R3x1c
    generalize W3.heap.size = g1 at *
    generalize W3.alloc (.cells (bysA X) 26) = W4 at *
    refine (KD.out W4).mono ?_
    rintro e W5 ⟨rfl, hb5⟩
    have R5x0 := Lib.hid (R4x0.out.grow hb5)
    have R5x1 := Lib.hid (R4x1.out.grow hb5)
    have R5x2 := Lib.hid (N4.out.grow hb5)
    have B5 := Lib.hid (B4.out.trans (hb5.mono B4.out.size))
    clear hb5 B4 R4x0 R4x1 N4
    obtain ⟨R5x0a, R5x0b, R5x0c⟩ := R5x0.out
    obtain ⟨R5x1a, R5x1b, R5x1c⟩ := R5x1.out
    obtain ⟨R5x2a, R5x2b, R5x2c⟩ := R5x2.out
    go_wp2_with fail
    have hb6 := below_alloc (Below.refl W5.heap.size W5) (.cells (cmdA C) 32)
    have N6 := Lib.hid (RowAt.of (block_new W5 (.cells (cmdA C) 32)))
    have R6x0 := Lib.hid (R5x0.out.grow hb6)
    have R6x1 := Lib.hid (R5x1.out.grow hb6)
    have R6x2 := Lib.hid (R5x2.out.grow hb6)
    have B6 := Lib.hid (B5.out.trans (hb6.mono B5.out.size))
    clear hb6 B5 R5x0 R5x1 R5x2 R5x0a R5x0b R5x0c R5x1a R5x1b R5x1c R5x2a R5x2b R5x2c
    generalize W5.heap.size = g2 at *
    generalize W5.alloc (.cells (cmdA C) 32) = W6 at *
    obtain ⟨R6x0a, R6x0b, R6x0c⟩ := R6x0.out
    obtain ⟨R6x1a, R6x1b, R6x1c⟩ := R6x1.out
    obtain ⟨R6x2a, R6x2b, R6x2c⟩ := R6x2.out
    obtain ⟨N6a, N6b, N6c⟩ := N6.out
    refine wp_region_fast (fun w' => ∃ o d, w' = W6.plus o d) (by kernel_rfl) (by kernel_rfl) ⟨#[], _, rfl⟩ ?_
    refine wpHold_val ⟨_, #[], 0, rfl⟩ (wanted_none rfl) (by rintro K _ ⟨o, d, rfl⟩ hK; go_simp; exact hK _ ⟨o, d, rfl⟩) ?_
    refine wpHold_call (v := .agg (cmdA c)) (wanted_none rfl) (by rintro K _ ⟨o, d, rfl⟩ hK; go_simp; refine (KT.out _).mono ?_; rintro e w' ⟨rfl, hbw⟩; obtain ⟨o', n', rfl⟩ := below_plus hbw; exact ⟨_, rfl, hK _ ⟨_, _, World.plus_plus _ _ _ _ _⟩⟩) ?_
    refine wpHold_call (v := .bool true) (wanted_none rfl) (by rintro K _ ⟨o, d, rfl⟩ hK; go_simp; refine (KM.out _).mono ?_; rintro e w' ⟨rfl, hbw⟩; obtain ⟨o', n', rfl⟩ := below_plus hbw; exact ⟨_, rfl, hK _ ⟨_, _, World.plus_plus _ _ _ _ _⟩⟩) ?_
    refine wpHold_val ⟨_, #[], 0, rfl⟩ (wanted_none rfl) (by rintro K _ ⟨o, d, rfl⟩ hK; go_simp; exact hK _ ⟨o, d, rfl⟩) ?_
    refine wpHold_val ⟨_, #[], 0, rfl⟩ (wanted_none rfl) (by rintro K _ ⟨o, d, rfl⟩ hK; go_simp; exact hK _ ⟨o, d, rfl⟩) ?_
    refine wpHold_val ⟨_, #[], 0, rfl⟩ (wanted_none rfl) (by rintro K _ ⟨o, d, rfl⟩ hK; go_simp; exact hK _ ⟨o, d, rfl⟩) ?_
    refine wpHold_val ⟨_, #[], 0, rfl⟩ (wanted_none rfl) (by rintro K _ ⟨o, d, rfl⟩ hK; go_simp; exact hK _ ⟨o, d, rfl⟩) ?_
    refine wpHold_val ⟨_, #[], 0, rfl⟩ (wanted_some rfl rfl rfl) (by rintro K _ ⟨o, d, rfl⟩ hK; go_simp; exact hK _ ⟨o, d, rfl⟩) ?_
    refine wpHold_val ⟨_, #[], 0, rfl⟩ (wanted_some rfl rfl rfl) (by rintro K _ ⟨o, d, rfl⟩ hK; go_simp; exact hK _ ⟨o, d, rfl⟩) ?_
    refine wpHold_val ⟨_, #[], 0, rfl⟩ (wanted_some rfl rfl rfl) (by rintro K _ ⟨o, d, rfl⟩ hK; go_simp; exact hK _ ⟨o, d, rfl⟩) ?_
    refine wpHold_val ⟨_, #[], 0, rfl⟩ (wanted_some rfl rfl rfl) (by rintro K _ ⟨o, d, rfl⟩ hK; go_simp; exact hK _ ⟨o, d, rfl⟩) ?_
    refine wpHold_val ⟨_, #[], 0, rfl⟩ (wanted_some rfl rfl rfl) (by rintro K _ ⟨o, d, rfl⟩ hK; go_simp; exact hK _ ⟨o, d, rfl⟩) ?_
    refine wpHold_val ⟨_, #[], 0, rfl⟩ (wanted_some rfl rfl rfl) (by rintro K _ ⟨o, d, rfl⟩ hK; go_simp; exact hK _ ⟨o, d, rfl⟩) ?_
    refine wpHold_val ⟨_, #[], 0, rfl⟩ (wanted_some rfl rfl rfl) (by rintro K _ ⟨o, d, rfl⟩ hK; go_simp; exact hK _ ⟨o, d, rfl⟩) ?_
    refine wpHold_call (v := .agg (cmdA C)) (wanted_some rfl rfl rfl) (by rintro K _ ⟨o, d, rfl⟩ hK; go_simp; refine (KO.out _).mono ?_; rintro e w' ⟨rfl, hbw⟩; obtain ⟨o', n', rfl⟩ := below_plus hbw; exact ⟨_, rfl, hK _ ⟨_, _, World.plus_plus _ _ _ _ _⟩⟩) ?_
    refine wpHold_val ⟨_, #[], 0, rfl⟩ (wanted_some rfl rfl rfl) (by rintro K _ ⟨o, d, rfl⟩ hK; go_simp; exact hK _ ⟨o, d, rfl⟩) ?_
    refine wpHold_val ⟨_, #[], 0, rfl⟩ (wanted_some rfl rfl rfl) (by rintro K _ ⟨o, d, rfl⟩ hK; go_simp; exact hK _ ⟨o, d, rfl⟩) ?_
    refine wpHold_val ⟨_, #[], 0, rfl⟩ (wanted_some rfl rfl rfl) (by rintro K _ ⟨o, d, rfl⟩ hK; go_simp; exact hK _ ⟨o, d, rfl⟩) ?_
    refine wpHold_val ⟨_, #[], 0, rfl⟩ (wanted_some rfl rfl rfl) (by rintro K _ ⟨o, d, rfl⟩ hK; go_simp; exact hK _ ⟨o, d, rfl⟩) ?_
    refine wpHold_val ⟨_, #[], 0, rfl⟩ (wanted_none rfl) (by rintro K _ ⟨o, d, rfl⟩ hK; go_simp; exact hK _ ⟨o, d, rfl⟩) ?_
    refine wpHold_nil ?_
    rintro _ ⟨o7, d7, rfl⟩
    have hb7 := below_more (Below.refl W6.heap.size W6) o7 d7
    have R7x0 := Lib.hid (R6x0.out.grow hb7)
    have R7x1 := Lib.hid (R6x1.out.grow hb7)
    have R7x2 := Lib.hid (R6x2.out.grow hb7)
    have R7x3 := Lib.hid (N6.out.grow hb7)
    have B7 := Lib.hid (B6.out.trans (hb7.mono B6.out.size))
    clear hb7 B6 R6x0 R6x1 R6x2 N6 R6x0a R6x0b R6x0c R6x1a R6x1b R6x1c R6x2a R6x2b R6x2c N6a N6b N6c
    generalize W6.plus o7 d7 = W7 at *
    obtain ⟨R7x0a, R7x0b, R7x0c⟩ := R7x0.out
    obtain ⟨R7x1a, R7x1b, R7x1c⟩ := R7x1.out
    obtain ⟨R7x2a, R7x2b, R7x2c⟩ := R7x2.out
    obtain ⟨R7x3a, R7x3b, R7x3c⟩ := R7x3.out
    go_wp2_with fail
    refine (KF.out W7).mono ?_
    rintro e W8 ⟨rfl, hb8⟩
    have R8x0 := Lib.hid (R7x0.out.grow hb8)
    have R8x1 := Lib.hid (R7x1.out.grow hb8)
    have R8x2 := Lib.hid (R7x2.out.grow hb8)
    have R8x3 := Lib.hid (R7x3.out.grow hb8)
    have B8 := Lib.hid (B7.out.trans (hb8.mono B7.out.size))
    clear hb8 B7 R7x0 R7x1 R7x2 R7x3 R7x0a R7x0b R7x0c R7x1a R7x1b R7x1c R7x2a R7x2b R7x2c R7x3a R7x3b R7x3c
    obtain ⟨R8x0a, R8x0b, R8x0c⟩ := R8x0.out
    obtain ⟨R8x1a, R8x1b, R8x1c⟩ := R8x1.out
    obtain ⟨R8x2a, R8x2b, R8x2c⟩ := R8x2.out
    obtain ⟨R8x3a, R8x3b, R8x3c⟩ := R8x3.out
    go_wp2_with fail
    have hb9 := below_alloc (Below.refl W8.heap.size W8) (.cells (cmdA D) 32)
    have N9 := Lib.hid (RowAt.of (block_new W8 (.cells (cmdA D) 32)))
    have R9x0 := Lib.hid (R8x0.out.grow hb9)
    have R9x1 := Lib.hid (R8x1.out.grow hb9)
    have R9x2 := Lib.hid (R8x2.out.grow hb9)
    have R9x3 := Lib.hid (R8x3.out.grow hb9)
    have B9 := Lib.hid (B8.out.trans (hb9.mono B8.out.size))
    clear hb9 B8 R8x0 R8x1 R8x2 R8x3 R8x0a R8x0b R8x0c R8x1a R8x1b R8x1c R8x2a R8x2b R8x2c R8x3a R8x3b R8x3c
    generalize W8.heap.size = g3 at *
    generalize W8.alloc (.cells (cmdA D) 32) = W9 at *
    refine (KG.out W9).mono ?_
    rintro e W10 ⟨rfl, hb10⟩
    have R10x0 := Lib.hid (R9x0.out.grow hb10)
    have R10x1 := Lib.hid (R9x1.out.grow hb10)
    have R10x2 := Lib.hid (R9x2.out.grow hb10)
    have R10x3 := Lib.hid (R9x3.out.grow hb10)
    have R10x4 := Lib.hid (N9.out.grow hb10)
    have B10 := Lib.hid (B9.out.trans (hb10.mono B9.out.size))
    clear hb10 B9 R9x0 R9x1 R9x2 R9x3 N9
    obtain ⟨R10x0a, R10x0b, R10x0c⟩ := R10x0.out
    obtain ⟨R10x1a, R10x1b, R10x1c⟩ := R10x1.out
    obtain ⟨R10x2a, R10x2b, R10x2c⟩ := R10x2.out
    obtain ⟨R10x3a, R10x3b, R10x3c⟩ := R10x3.out
    obtain ⟨R10x4a, R10x4b, R10x4c⟩ := R10x4.out
    go_wp2_with fail
    go_ret
    exact ⟨rfl, by repeat (first | exact B10.out | apply below_alloc)⟩
  have hm : c.may = false := by simpa using hm
  have h1 : encE c = 2 := by unfold encE; rw [hm]; rfl
  rw [hm] at KM
  rw [h1] at KE
  clear h1 hm
  generalize encV c = X at *
  generalize decE X = e1 at *
  generalize decV X = C at *
  rcases HR.out with ⟨_, h5, h6, h7⟩ | h5
  · rw [h5] at KF
    rw [h6, h7] at KG
    clear HR h5 h6 h7 hZ hZs
    generalize decV b = D at *
    go_enter Try.func5, Try.ntmps5
    go_wp2_with fail
    generalize hW : World.alloc _ _ = W0
    have R0x0 := Lib.hid (show RowAt W0 (w.heap.size) (cmdA c) by rw [← hW]; clear hW; exact ⟨by go_simp, by go_simp, by go_simp⟩)
    have R0x1 := Lib.hid (show RowAt W0 (w.heap.size + 1) (bysA b) by rw [← hW]; clear hW; exact ⟨by go_simp, by go_simp, by go_simp⟩)
    have B0 := Lib.hid (show Below w.heap.size w W0 by rw [← hW]; repeat (first | apply below_alloc | exact Below.refl _ _))
    clear hW
    generalize w.heap.size + 1 = y at *
    obtain ⟨z, ez⟩ : ∃ z, z = w.heap.size := ⟨_, rfl⟩
    rw [← ez] at R0x0 ⊢
    have Ez := Lib.hid ez
    clear ez
    refine (alive9_c W0).mono ?_
    rintro e W1 ⟨rfl, hb1⟩
    have R1x0 := Lib.hid (R0x0.out.grow hb1)
    have R1x1 := Lib.hid (R0x1.out.grow hb1)
    have B1 := Lib.hid (B0.out.trans (hb1.mono B0.out.size))
    clear hb1 B0 R0x0 R0x1
    obtain ⟨R1x0a, R1x0b, R1x0c⟩ := R1x0.out
    obtain ⟨R1x1a, R1x1b, R1x1c⟩ := R1x1.out
    go_wp2_with fail
    refine (KT.out W1).mono ?_
    rintro e W2 ⟨rfl, hb2⟩
    have R2x0 := Lib.hid (R1x0.out.grow hb2)
    have R2x1 := Lib.hid (R1x1.out.grow hb2)
    have B2 := Lib.hid (B1.out.trans (hb2.mono B1.out.size))
    clear hb2 B1 R1x0 R1x1 R1x0a R1x0b R1x0c R1x1a R1x1b R1x1c
    obtain ⟨R2x0a, R2x0b, R2x0c⟩ := R2x0.out
    obtain ⟨R2x1a, R2x1b, R2x1c⟩ := R2x1.out
    go_wp2_with fail
    refine (KE.out W2).mono ?_
    rintro e W3 ⟨rfl, hb3⟩
    have R3x0 := Lib.hid (R2x0.out.grow hb3)
    have R3x1 := Lib.hid (R2x1.out.grow hb3)
    have B3 := Lib.hid (B2.out.trans (hb3.mono B2.out.size))
    clear hb3 B2 R2x0 R2x1 R2x0a R2x0b R2x0c R2x1a R2x1b R2x1c
    obtain ⟨R3x0a, R3x0b, R3x0c⟩ := R3x0.out
    obtain ⟨R3x1a, R3x1b, R3x1c⟩ := R3x1.out
    go_wp2_with fail
    have hb4 := below_alloc (Below.refl W3.heap.size W3) (.cells (bysA X) 26)
    have N4 := Lib.hid (RowAt.of (block_new W3 (.cells (bysA X) 26)))
    have R4x0 := Lib.hid (R3x0.out.grow hb4)
    have R4x1 := Lib.hid (R3x1.out.grow hb4)
    have B4 := Lib.hid (B3.out.trans (hb4.mono B3.out.size))
    clear hb4 B3 R3x0 R3x1 R3x0a R3x0b R3x0c R3x1a R3x1b R3x1c
    generalize W3.heap.size = g1 at *
    generalize W3.alloc (.cells (bysA X) 26) = W4 at *
    refine (KD.out W4).mono ?_
    rintro e W5 ⟨rfl, hb5⟩
    have R5x0 := Lib.hid (R4x0.out.grow hb5)
    have R5x1 := Lib.hid (R4x1.out.grow hb5)
    have R5x2 := Lib.hid (N4.out.grow hb5)
    have B5 := Lib.hid (B4.out.trans (hb5.mono B4.out.size))
    clear hb5 B4 R4x0 R4x1 N4
    obtain ⟨R5x0a, R5x0b, R5x0c⟩ := R5x0.out
    obtain ⟨R5x1a, R5x1b, R5x1c⟩ := R5x1.out
    obtain ⟨R5x2a, R5x2b, R5x2c⟩ := R5x2.out
    go_wp2_with fail
    have hb6 := below_alloc (Below.refl W5.heap.size W5) (.cells (cmdA C) 32)
    have N6 := Lib.hid (RowAt.of (block_new W5 (.cells (cmdA C) 32)))
    have R6x0 := Lib.hid (R5x0.out.grow hb6)
    have R6x1 := Lib.hid (R5x1.out.grow hb6)
    have R6x2 := Lib.hid (R5x2.out.grow hb6)
    have B6 := Lib.hid (B5.out.trans (hb6.mono B5.out.size))
    clear hb6 B5 R5x0 R5x1 R5x2 R5x0a R5x0b R5x0c R5x1a R5x1b R5x1c R5x2a R5x2b R5x2c
    generalize W5.heap.size = g2 at *
    generalize W5.alloc (.cells (cmdA C) 32) = W6 at *
    obtain ⟨R6x0a, R6x0b, R6x0c⟩ := R6x0.out
    obtain ⟨R6x1a, R6x1b, R6x1c⟩ := R6x1.out
    obtain ⟨R6x2a, R6x2b, R6x2c⟩ := R6x2.out
    obtain ⟨N6a, N6b, N6c⟩ := N6.out
    refine wp_region_fast (fun w' => ∃ o d, w' = W6.plus o d) (by kernel_rfl) (by kernel_rfl) ⟨#[], _, rfl⟩ ?_
    refine wpHold_val ⟨_, #[], 0, rfl⟩ (wanted_none rfl) (by rintro K _ ⟨o, d, rfl⟩ hK; go_simp; exact hK _ ⟨o, d, rfl⟩) ?_
    refine wpHold_call (v := .agg (cmdA c)) (wanted_none rfl) (by rintro K _ ⟨o, d, rfl⟩ hK; go_simp; refine (KT.out _).mono ?_; rintro e w' ⟨rfl, hbw⟩; obtain ⟨o', n', rfl⟩ := below_plus hbw; exact ⟨_, rfl, hK _ ⟨_, _, World.plus_plus _ _ _ _ _⟩⟩) ?_
    refine wpHold_call (v := .bool false) (wanted_none rfl) (by rintro K _ ⟨o, d, rfl⟩ hK; go_simp; refine (KM.out _).mono ?_; rintro e w' ⟨rfl, hbw⟩; obtain ⟨o', n', rfl⟩ := below_plus hbw; exact ⟨_, rfl, hK _ ⟨_, _, World.plus_plus _ _ _ _ _⟩⟩) ?_
    refine wpHold_val ⟨_, #[], 0, rfl⟩ (wanted_none rfl) (by rintro K _ ⟨o, d, rfl⟩ hK; go_simp; exact hK _ ⟨o, d, rfl⟩) ?_
    refine wpHold_val ⟨_, #[], 0, rfl⟩ (wanted_none rfl) (by rintro K _ ⟨o, d, rfl⟩ hK; go_simp; exact hK _ ⟨o, d, rfl⟩) ?_
    refine wpHold_val ⟨_, #[], 0, rfl⟩ (wanted_none rfl) (by rintro K _ ⟨o, d, rfl⟩ hK; go_simp; exact hK _ ⟨o, d, rfl⟩) ?_
    refine wpHold_val ⟨_, #[], 0, rfl⟩ (wanted_none rfl) (by rintro K _ ⟨o, d, rfl⟩ hK; go_simp; exact hK _ ⟨o, d, rfl⟩) ?_
    refine wpHold_val ⟨_, #[], 0, rfl⟩ (wanted_some rfl rfl rfl) (by rintro K _ ⟨o, d, rfl⟩ hK; go_simp; exact hK _ ⟨o, d, rfl⟩) ?_
    refine wpHold_val ⟨_, #[], 0, rfl⟩ (wanted_some rfl rfl rfl) (by rintro K _ ⟨o, d, rfl⟩ hK; go_simp; exact hK _ ⟨o, d, rfl⟩) ?_
    refine wpHold_val ⟨_, #[], 0, rfl⟩ (wanted_some rfl rfl rfl) (by rintro K _ ⟨o, d, rfl⟩ hK; go_simp; exact hK _ ⟨o, d, rfl⟩) ?_
    refine wpHold_skipN (unwanted rfl rfl rfl) (fun K hK => by go_simp; exact hK) ?_
    refine wpHold_skipN (unwanted rfl rfl rfl) (fun K hK => by go_simp; exact hK) ?_
    refine wpHold_skipN (unwanted rfl rfl rfl) (fun K hK => by go_simp; exact hK) ?_
    refine wpHold_skipN (unwanted_none rfl rfl rfl) (fun K hK => by go_simp; exact hK) ?_
    refine wpHold_skipN (unwanted_none rfl rfl rfl) (fun K hK => by go_simp; exact hK) ?_
    refine wpHold_skipN (unwanted_none rfl rfl rfl) (fun K hK => by go_simp; exact hK) ?_
    refine wpHold_skipN (unwanted_none rfl rfl rfl) (fun K hK => by go_simp; exact hK) ?_
    refine wpHold_skipN (unwanted rfl rfl rfl) (fun K hK => by go_simp; exact hK) ?_
    refine wpHold_val ⟨_, #[], 0, rfl⟩ (wanted_some rfl rfl rfl) (by rintro K _ ⟨o, d, rfl⟩ hK; go_simp; exact hK _ ⟨o, d, rfl⟩) ?_
    refine wpHold_val ⟨_, #[], 0, rfl⟩ (wanted_none rfl) (by rintro K _ ⟨o, d, rfl⟩ hK; go_simp; exact hK _ ⟨o, d, rfl⟩) ?_
    refine wpHold_nil ?_
    rintro _ ⟨o7, d7, rfl⟩
    have hb7 := below_more (Below.refl W6.heap.size W6) o7 d7
    have R7x0 := Lib.hid (R6x0.out.grow hb7)
    have R7x1 := Lib.hid (R6x1.out.grow hb7)
    have R7x2 := Lib.hid (R6x2.out.grow hb7)
    have R7x3 := Lib.hid (N6.out.grow hb7)
    have B7 := Lib.hid (B6.out.trans (hb7.mono B6.out.size))
    clear hb7 B6 R6x0 R6x1 R6x2 N6 R6x0a R6x0b R6x0c R6x1a R6x1b R6x1c R6x2a R6x2b R6x2c N6a N6b N6c
    generalize W6.plus o7 d7 = W7 at *
    obtain ⟨R7x0a, R7x0b, R7x0c⟩ := R7x0.out
    obtain ⟨R7x1a, R7x1b, R7x1c⟩ := R7x1.out
    obtain ⟨R7x2a, R7x2b, R7x2c⟩ := R7x2.out
    obtain ⟨R7x3a, R7x3b, R7x3c⟩ := R7x3.out
    go_wp2_with fail
    refine (KF.out W7).mono ?_
    rintro e W8 ⟨rfl, hb8⟩
    have R8x0 := Lib.hid (R7x0.out.grow hb8)
    have R8x1 := Lib.hid (R7x1.out.grow hb8)
    have R8x2 := Lib.hid (R7x2.out.grow hb8)
    have R8x3 := Lib.hid (R7x3.out.grow hb8)
    have B8 := Lib.hid (B7.out.trans (hb8.mono B7.out.size))
    clear hb8 B7 R7x0 R7x1 R7x2 R7x3 R7x0a R7x0b R7x0c R7x1a R7x1b R7x1c R7x2a R7x2b R7x2c R7x3a R7x3b R7x3c
    obtain ⟨R8x0a, R8x0b, R8x0c⟩ := R8x0.out
    obtain ⟨R8x1a, R8x1b, R8x1c⟩ := R8x1.out
    obtain ⟨R8x2a, R8x2b, R8x2c⟩ := R8x2.out
    obtain ⟨R8x3a, R8x3b, R8x3c⟩ := R8x3.out
    go_wp2_with fail
    have hb9 := below_alloc (Below.refl W8.heap.size W8) (.cells (cmdA D) 32)
    have N9 := Lib.hid (RowAt.of (block_new W8 (.cells (cmdA D) 32)))
    have R9x0 := Lib.hid (R8x0.out.grow hb9)
    have R9x1 := Lib.hid (R8x1.out.grow hb9)
    have R9x2 := Lib.hid (R8x2.out.grow hb9)
    have R9x3 := Lib.hid (R8x3.out.grow hb9)
    have B9 := Lib.hid (B8.out.trans (hb9.mono B8.out.size))
    clear hb9 B8 R8x0 R8x1 R8x2 R8x3 R8x0a R8x0b R8x0c R8x1a R8x1b R8x1c R8x2a R8x2b R8x2c R8x3a R8x3b R8x3c
    generalize W8.heap.size = g3 at *
    generalize W8.alloc (.cells (cmdA D) 32) = W9 at *
    refine (KG.out W9).mono ?_
    rintro e W10 ⟨rfl, hb10⟩
    have R10x0 := Lib.hid (R9x0.out.grow hb10)
    have R10x1 := Lib.hid (R9x1.out.grow hb10)
    have R10x2 := Lib.hid (R9x2.out.grow hb10)
    have R10x3 := Lib.hid (R9x3.out.grow hb10)
    have R10x4 := Lib.hid (N9.out.grow hb10)
    have B10 := Lib.hid (B9.out.trans (hb10.mono B9.out.size))
    clear hb10 B9 R9x0 R9x1 R9x2 R9x3 N9
    obtain ⟨R10x0a, R10x0b, R10x0c⟩ := R10x0.out
    obtain ⟨R10x1a, R10x1b, R10x1c⟩ := R10x1.out
    obtain ⟨R10x2a, R10x2b, R10x2c⟩ := R10x2.out
    obtain ⟨R10x3a, R10x3b, R10x3c⟩ := R10x3.out
    obtain ⟨R10x4a, R10x4b, R10x4c⟩ := R10x4.out
    go_wp2_with fail
    go_ret
    exact ⟨rfl, by repeat (first | exact B10.out | apply below_alloc)⟩
  rw [h5] at KF
  clear HR h5
  generalize encE (decV b) = er at *
  generalize encV (decV b) = Z at *
  generalize decV b = D at *
  go_enter Try.func5, Try.ntmps5
  go_wp2_with fail
  generalize hW : World.alloc _ _ = W0
  have R0x0 := Lib.hid (show RowAt W0 (w.heap.size) (cmdA c) by rw [← hW]; clear hW; exact ⟨by go_simp, by go_simp, by go_simp⟩)
  have R0x1 := Lib.hid (show RowAt W0 (w.heap.size + 1) (bysA b) by rw [← hW]; clear hW; exact ⟨by go_simp, by go_simp, by go_simp⟩)
  have B0 := Lib.hid (show Below w.heap.size w W0 by rw [← hW]; repeat (first | apply below_alloc | exact Below.refl _ _))
  clear hW
  generalize w.heap.size + 1 = y at *
  obtain ⟨z, ez⟩ : ∃ z, z = w.heap.size := ⟨_, rfl⟩
  rw [← ez] at R0x0 ⊢
  have Ez := Lib.hid ez
  clear ez
  refine (alive9_c W0).mono ?_
  rintro e W1 ⟨rfl, hb1⟩
  have R1x0 := Lib.hid (R0x0.out.grow hb1)
  have R1x1 := Lib.hid (R0x1.out.grow hb1)
  have B1 := Lib.hid (B0.out.trans (hb1.mono B0.out.size))
  clear hb1 B0 R0x0 R0x1
  obtain ⟨R1x0a, R1x0b, R1x0c⟩ := R1x0.out
  obtain ⟨R1x1a, R1x1b, R1x1c⟩ := R1x1.out
  go_wp2_with fail
  refine (KT.out W1).mono ?_
  rintro e W2 ⟨rfl, hb2⟩
  have R2x0 := Lib.hid (R1x0.out.grow hb2)
  have R2x1 := Lib.hid (R1x1.out.grow hb2)
  have B2 := Lib.hid (B1.out.trans (hb2.mono B1.out.size))
  clear hb2 B1 R1x0 R1x1 R1x0a R1x0b R1x0c R1x1a R1x1b R1x1c
  obtain ⟨R2x0a, R2x0b, R2x0c⟩ := R2x0.out
  obtain ⟨R2x1a, R2x1b, R2x1c⟩ := R2x1.out
  go_wp2_with fail
  refine (KE.out W2).mono ?_
  rintro e W3 ⟨rfl, hb3⟩
  have R3x0 := Lib.hid (R2x0.out.grow hb3)
  have R3x1 := Lib.hid (R2x1.out.grow hb3)
  have B3 := Lib.hid (B2.out.trans (hb3.mono B2.out.size))
  clear hb3 B2 R2x0 R2x1 R2x0a R2x0b R2x0c R2x1a R2x1b R2x1c
  obtain ⟨R3x0a, R3x0b, R3x0c⟩ := R3x0.out
  obtain ⟨R3x1a, R3x1b, R3x1c⟩ := R3x1.out
  go_wp2_with fail
  have hb4 := below_alloc (Below.refl W3.heap.size W3) (.cells (bysA X) 26)
  have N4 := Lib.hid (RowAt.of (block_new W3 (.cells (bysA X) 26)))
  have R4x0 := Lib.hid (R3x0.out.grow hb4)
  have R4x1 := Lib.hid (R3x1.out.grow hb4)
  have B4 := Lib.hid (B3.out.trans (hb4.mono B3.out.size))
  clear hb4 B3 R3x0 R3x1 R3x0a R3x0b R3x0c R3x1a R3x1b R3x1c
  generalize W3.heap.size = g1 at *
  generalize W3.alloc (.cells (bysA X) 26) = W4 at *
  refine (KD.out W4).mono ?_
  rintro e W5 ⟨rfl, hb5⟩
  have R5x0 := Lib.hid (R4x0.out.grow hb5)
  have R5x1 := Lib.hid (R4x1.out.grow hb5)
  have R5x2 := Lib.hid (N4.out.grow hb5)
  have B5 := Lib.hid (B4.out.trans (hb5.mono B4.out.size))
  clear hb5 B4 R4x0 R4x1 N4
  obtain ⟨R5x0a, R5x0b, R5x0c⟩ := R5x0.out
  obtain ⟨R5x1a, R5x1b, R5x1c⟩ := R5x1.out
  obtain ⟨R5x2a, R5x2b, R5x2c⟩ := R5x2.out
  go_wp2_with fail
  have hb6 := below_alloc (Below.refl W5.heap.size W5) (.cells (cmdA C) 32)
  have N6 := Lib.hid (RowAt.of (block_new W5 (.cells (cmdA C) 32)))
  have R6x0 := Lib.hid (R5x0.out.grow hb6)
  have R6x1 := Lib.hid (R5x1.out.grow hb6)
  have R6x2 := Lib.hid (R5x2.out.grow hb6)
  have B6 := Lib.hid (B5.out.trans (hb6.mono B5.out.size))
  clear hb6 B5 R5x0 R5x1 R5x2 R5x0a R5x0b R5x0c R5x1a R5x1b R5x1c R5x2a R5x2b R5x2c
  generalize W5.heap.size = g2 at *
  generalize W5.alloc (.cells (cmdA C) 32) = W6 at *
  obtain ⟨R6x0a, R6x0b, R6x0c⟩ := R6x0.out
  obtain ⟨R6x1a, R6x1b, R6x1c⟩ := R6x1.out
  obtain ⟨R6x2a, R6x2b, R6x2c⟩ := R6x2.out
  obtain ⟨N6a, N6b, N6c⟩ := N6.out
  refine wp_region_fast (fun w' => ∃ o d, w' = W6.plus o d) (by kernel_rfl) (by kernel_rfl) ⟨#[], _, rfl⟩ ?_
  refine wpHold_val ⟨_, #[], 0, rfl⟩ (wanted_none rfl) (by rintro K _ ⟨o, d, rfl⟩ hK; go_simp; exact hK _ ⟨o, d, rfl⟩) ?_
  refine wpHold_call (v := .agg (cmdA c)) (wanted_none rfl) (by rintro K _ ⟨o, d, rfl⟩ hK; go_simp; refine (KT.out _).mono ?_; rintro e w' ⟨rfl, hbw⟩; obtain ⟨o', n', rfl⟩ := below_plus hbw; exact ⟨_, rfl, hK _ ⟨_, _, World.plus_plus _ _ _ _ _⟩⟩) ?_
  refine wpHold_call (v := .bool false) (wanted_none rfl) (by rintro K _ ⟨o, d, rfl⟩ hK; go_simp; refine (KM.out _).mono ?_; rintro e w' ⟨rfl, hbw⟩; obtain ⟨o', n', rfl⟩ := below_plus hbw; exact ⟨_, rfl, hK _ ⟨_, _, World.plus_plus _ _ _ _ _⟩⟩) ?_
  refine wpHold_val ⟨_, #[], 0, rfl⟩ (wanted_none rfl) (by rintro K _ ⟨o, d, rfl⟩ hK; go_simp; exact hK _ ⟨o, d, rfl⟩) ?_
  refine wpHold_val ⟨_, #[], 0, rfl⟩ (wanted_none rfl) (by rintro K _ ⟨o, d, rfl⟩ hK; go_simp; exact hK _ ⟨o, d, rfl⟩) ?_
  refine wpHold_val ⟨_, #[], 0, rfl⟩ (wanted_none rfl) (by rintro K _ ⟨o, d, rfl⟩ hK; go_simp; exact hK _ ⟨o, d, rfl⟩) ?_
  refine wpHold_val ⟨_, #[], 0, rfl⟩ (wanted_none rfl) (by rintro K _ ⟨o, d, rfl⟩ hK; go_simp; exact hK _ ⟨o, d, rfl⟩) ?_
  refine wpHold_val ⟨_, #[], 0, rfl⟩ (wanted_some rfl rfl rfl) (by rintro K _ ⟨o, d, rfl⟩ hK; go_simp; exact hK _ ⟨o, d, rfl⟩) ?_
  refine wpHold_val ⟨_, #[], 0, rfl⟩ (wanted_some rfl rfl rfl) (by rintro K _ ⟨o, d, rfl⟩ hK; go_simp; exact hK _ ⟨o, d, rfl⟩) ?_
  refine wpHold_val ⟨_, #[], 0, rfl⟩ (wanted_some rfl rfl rfl) (by rintro K _ ⟨o, d, rfl⟩ hK; go_simp; exact hK _ ⟨o, d, rfl⟩) ?_
  refine wpHold_skipN (unwanted rfl rfl rfl) (fun K hK => by go_simp; exact hK) ?_
  refine wpHold_skipN (unwanted rfl rfl rfl) (fun K hK => by go_simp; exact hK) ?_
  refine wpHold_skipN (unwanted rfl rfl rfl) (fun K hK => by go_simp; exact hK) ?_
  refine wpHold_skipN (unwanted_none rfl rfl rfl) (fun K hK => by go_simp; exact hK) ?_
  refine wpHold_skipN (unwanted_none rfl rfl rfl) (fun K hK => by go_simp; exact hK) ?_
  refine wpHold_skipN (unwanted_none rfl rfl rfl) (fun K hK => by go_simp; exact hK) ?_
  refine wpHold_skipN (unwanted_none rfl rfl rfl) (fun K hK => by go_simp; exact hK) ?_
  refine wpHold_skipN (unwanted rfl rfl rfl) (fun K hK => by go_simp; exact hK) ?_
  refine wpHold_val ⟨_, #[], 0, rfl⟩ (wanted_some rfl rfl rfl) (by rintro K _ ⟨o, d, rfl⟩ hK; go_simp; exact hK _ ⟨o, d, rfl⟩) ?_
  refine wpHold_val ⟨_, #[], 0, rfl⟩ (wanted_none rfl) (by rintro K _ ⟨o, d, rfl⟩ hK; go_simp; exact hK _ ⟨o, d, rfl⟩) ?_
  refine wpHold_nil ?_
  rintro _ ⟨o7, d7, rfl⟩
  have hb7 := below_more (Below.refl W6.heap.size W6) o7 d7
  have R7x0 := Lib.hid (R6x0.out.grow hb7)
  have R7x1 := Lib.hid (R6x1.out.grow hb7)
  have R7x2 := Lib.hid (R6x2.out.grow hb7)
  have R7x3 := Lib.hid (N6.out.grow hb7)
  have B7 := Lib.hid (B6.out.trans (hb7.mono B6.out.size))
  clear hb7 B6 R6x0 R6x1 R6x2 N6 R6x0a R6x0b R6x0c R6x1a R6x1b R6x1c R6x2a R6x2b R6x2c N6a N6b N6c
  generalize W6.plus o7 d7 = W7 at *
  obtain ⟨R7x0a, R7x0b, R7x0c⟩ := R7x0.out
  obtain ⟨R7x1a, R7x1b, R7x1c⟩ := R7x1.out
  obtain ⟨R7x2a, R7x2b, R7x2c⟩ := R7x2.out
  obtain ⟨R7x3a, R7x3b, R7x3c⟩ := R7x3.out
  go_wp2_with fail
  refine (KF.out W7).mono ?_
  rintro e W8 ⟨rfl, hb8⟩
  have R8x0 := Lib.hid (R7x0.out.grow hb8)
  have R8x1 := Lib.hid (R7x1.out.grow hb8)
  have R8x2 := Lib.hid (R7x2.out.grow hb8)
  have R8x3 := Lib.hid (R7x3.out.grow hb8)
  have B8 := Lib.hid (B7.out.trans (hb8.mono B7.out.size))
  clear hb8 B7 R7x0 R7x1 R7x2 R7x3 R7x0a R7x0b R7x0c R7x1a R7x1b R7x1c R7x2a R7x2b R7x2c R7x3a R7x3b R7x3c
  obtain ⟨R8x0a, R8x0b, R8x0c⟩ := R8x0.out
  obtain ⟨R8x1a, R8x1b, R8x1c⟩ := R8x1.out
  obtain ⟨R8x2a, R8x2b, R8x2c⟩ := R8x2.out
  obtain ⟨R8x3a, R8x3b, R8x3c⟩ := R8x3.out
  go_wp2_with fail
  have hb9 := below_alloc (Below.refl W8.heap.size W8) (.cells (cmdA D) 32)
  have N9 := Lib.hid (RowAt.of (block_new W8 (.cells (cmdA D) 32)))
  have R9x0 := Lib.hid (R8x0.out.grow hb9)
  have R9x1 := Lib.hid (R8x1.out.grow hb9)
  have R9x2 := Lib.hid (R8x2.out.grow hb9)
  have R9x3 := Lib.hid (R8x3.out.grow hb9)
  have B9 := Lib.hid (B8.out.trans (hb9.mono B8.out.size))
  clear hb9 B8 R8x0 R8x1 R8x2 R8x3 R8x0a R8x0b R8x0c R8x1a R8x1b R8x1c R8x2a R8x2b R8x2c R8x3a R8x3b R8x3c
  generalize W8.heap.size = g3 at *
  generalize W8.alloc (.cells (cmdA D) 32) = W9 at *
  refine (KG.out W9).mono ?_
  rintro e W10 ⟨rfl, hb10⟩
  have R10x0 := Lib.hid (R9x0.out.grow hb10)
  have R10x1 := Lib.hid (R9x1.out.grow hb10)
  have R10x2 := Lib.hid (R9x2.out.grow hb10)
  have R10x3 := Lib.hid (R9x3.out.grow hb10)
  have R10x4 := Lib.hid (N9.out.grow hb10)
  have B10 := Lib.hid (B9.out.trans (hb10.mono B9.out.size))
  clear hb10 B9 R9x0 R9x1 R9x2 R9x3 N9
  obtain ⟨R10x0a, R10x0b, R10x0c⟩ := R10x0.out
  obtain ⟨R10x1a, R10x1b, R10x1c⟩ := R10x1.out
  obtain ⟨R10x2a, R10x2b, R10x2c⟩ := R10x2.out
  obtain ⟨R10x3a, R10x3b, R10x3c⟩ := R10x3.out
  obtain ⟨R10x4a, R10x4b, R10x4c⟩ := R10x4.out
  go_wp2_with fail
  go_ret
  exact ⟨rfl, by repeat (first | exact B10.out | apply below_alloc)⟩
end Go.Proofs.Ytdeeecdpgmibnaa
