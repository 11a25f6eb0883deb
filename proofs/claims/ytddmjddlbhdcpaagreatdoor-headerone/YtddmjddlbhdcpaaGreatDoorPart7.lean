/-
  Part 7 of the texts behind the theorem.
-/
import Derived.Test.YtddmjddlbhdcpaaGreatDoorPart6
import Derived.Test.YtddmjddlbhdcpaaGreatDoorPart3
import Derived.Test.YtddmjddlbhdcpaaGreatDoorPart2
import Derived.Lib.AppendZeros
import Derived.Laws.BitsAllLaws
import Derived.Test.YtddmjddlbhdcpaaGreatDoorPart1
import Derived.Great.BuildSlice
/-
  Part 7 of the texts behind the theorem.
-/
/-
  Package command: a command's bytes.
-/
namespace Go.Cm
open Go Go.Sh Go.Oc
theorem enc_steps {k n d : Nat} {id : List Nat} (hk : k < 5) (hn : n < 16) (hi : id.length = 8) :
    (((([] ++ digN k 1) ++ digN n 1) ++ digN d 2) ++ id) ++ zs (16 - (((([] ++ digN k 1) ++ digN n 1) ++ digN d 2) ++ id).length) = (Cmd.mk k n d id).enc := by
  rw [dig_1 (by omega), dig_1 (by omega), dig_2]
  simp [Cmd.enc, hi]
  omega
end Go.Cm
namespace Go.Proofs.YtddmjddlbhdcpaaGreatDoor
open Go.RowKit Go.Hold Go.Sh Go.Oc Go.Cm

set_option maxHeartbeats 1000000 in
set_option maxRecDepth 100000 in
theorem encode_c (c : Cmd) (hid : c.id.length = 8) (w : World) :
    Calls Tryz.prog 102 #[.agg (cmdA c)] w fun e w' => e = .returned (.tuple #[.agg (bysA (encV c)), .int .i64 (encE c)]) ∧ Below w.heap.size w w' := by
  have hcs := cmdA_size hid
  have hzs : (bysA (zs 16)).size = 16 := rfl
  by_cases hm : c.may = false
  · have hV : encV c = zs 16 := by unfold encV; rw [hm]; rfl
    have hE : encE c = 2 := by unfold encE; rw [hm]; rfl
    rw [hV, hE]
    have KM := Lib.hid (fun (W : World) => may_c c hid W)
    rw [hm] at KM
    clear hm hV hE
    go_enter Tryz.func102, Tryz.ntmps102
    go_wp2_with fail
    generalize hW : World.alloc _ _ = W0
    have R0 := Lib.hid (show RowAt W0 w.heap.size (cmdA c) by rw [← hW]; clear hW; exact ⟨by go_simp, by go_simp, by go_simp⟩)
    have T0 := Lib.hid (show RowAt W0 (w.heap.size + 1) (bysA (zs 16)) by rw [← hW]; clear hW; exact ⟨by go_simp, by go_simp; rfl, by go_simp⟩)
    have B0 := Lib.hid (show Below w.heap.size w W0 by rw [← hW]; repeat (first | apply below_alloc | exact Below.refl _ _))
    have hz1 : w.heap.size ≤ w.heap.size + 1 := by omega
    have hz3 : w.heap.size ≠ w.heap.size + 1 := by omega
    generalize w.heap.size + 1 = t at *
    obtain ⟨z, ez⟩ : ∃ z, z = w.heap.size := ⟨_, rfl⟩
    rw [← ez] at R0 hz1 hz3 ⊢
    have Ez := Lib.hid ez
    clear ez
    refine (KM.out W0).mono ?_
    rintro e W1 ⟨rfl, hb1⟩
    have R1 := Lib.hid (R0.out.grow hb1)
    have T1 := Lib.hid (T0.out.grow hb1)
    have B1 := Lib.hid (B0.out.trans (hb1.mono B0.out.size))
    clear hb1 hW R0 T0 B0
    clear R1 hz3
    obtain ⟨t1, t2, t3⟩ := T1.out
    go_wp2_with fail
    refine bodyPost_ret (v := .tuple #[.agg (bysA (zs 16)), .int .i64 2]) (results_b16 Tryz.results102 (zs 16) rfl _ _ _ t rfl (by go_simp) (by go_simp) rfl) rfl ⟨rfl, ?_⟩
    exact below_setRow B1.out (by rw [← Ez.out]; exact hz1) _
  have hm : c.may = true := by simpa using hm
  have hV : encV c = c.enc := by unfold encV; rw [hm]; rfl
  have hE : encE c = 0 := by unfold encE; rw [hm]; rfl
  rw [hV, hE]
  have KM := Lib.hid (fun (W : World) => may_c c hid W)
  rw [hm] at KM
  obtain ⟨⟨ha1, ha2⟩, ⟨hb1, hb2⟩, hc1, hc2⟩ := may_range hm
  obtain ⟨k, ek⟩ := Int.eq_ofNat_of_zero_le (show 0 ≤ c.k by omega)
  obtain ⟨n, en⟩ := Int.eq_ofNat_of_zero_le hb1
  obtain ⟨d, ed⟩ := Int.eq_ofNat_of_zero_le hc1
  have HX := Lib.hid (show (((([] ++ digN k 1) ++ digN n 1) ++ digN d 2) ++ c.id) ++ zs (16 - (((([] ++ digN k 1) ++ digN n 1) ++ digN d 2) ++ c.id).length) = c.enc by
    rw [enc_steps (by omega) (by omega) hid, ← ek, ← en, ← ed])
  have HL := Lib.hid (enc_length hid)
  have HI := Lib.hid hid
  have u1 : IntKind.u64.wrap (k : Int) = (k : Int) := IntWalk.u64_in _ (by omega)
  have u2 : IntKind.u64.wrap (n : Int) = (n : Int) := IntWalk.u64_in _ (by omega)
  have u3 : IntKind.u64.wrap (d : Int) = (d : Int) := IntWalk.u64_in _ (by omega)
  have V1 := Lib.hid (show k < 2 ^ (8 * 1) by omega)
  have V2 := Lib.hid (show n < 2 ^ (8 * 1) by omega)
  have V3 := Lib.hid (show d < 2 ^ (8 * 2) by omega)
  clear hm hV hE ha1 ha2 hb1 hb2 hc1 hc2
  go_enter Tryz.func102, Tryz.ntmps102
  go_wp2_with fail
  generalize hW : World.alloc _ _ = W0
  have R0 := Lib.hid (show RowAt W0 w.heap.size (cmdA c) by rw [← hW]; clear hW; exact ⟨by go_simp, by go_simp, by go_simp⟩)
  have T0 := Lib.hid (show RowAt W0 (w.heap.size + 1) (bysA (zs 16)) by rw [← hW]; clear hW; exact ⟨by go_simp, by go_simp; rfl, by go_simp⟩)
  have B0 := Lib.hid (show Below w.heap.size w W0 by rw [← hW]; repeat (first | apply below_alloc | exact Below.refl _ _))
  have hz1 : w.heap.size ≤ w.heap.size + 1 := by omega
  have hz3 : w.heap.size ≠ w.heap.size + 1 := by omega
  generalize w.heap.size + 1 = t at *
  obtain ⟨z, ez⟩ : ∃ z, z = w.heap.size := ⟨_, rfl⟩
  rw [← ez] at R0 hz1 hz3 ⊢
  have Ez := Lib.hid ez
  clear ez
  refine (KM.out W0).mono ?_
  rintro e W1 ⟨rfl, hb1⟩
  have R1 := Lib.hid (R0.out.grow hb1)
  have T1 := Lib.hid (T0.out.grow hb1)
  have B1 := Lib.hid (B0.out.trans (hb1.mono B0.out.size))
  clear hb1 hW R0 T0 B0
  go_wp2_with fail
  refine (newWriter_c 16 (by decide) W1).mono ?_
  rintro e w2 ⟨g, rfl, hw2, hb2⟩
  have X2 := Lib.hid hw2
  have Y2 := Lib.hid hb2
  have hc0 : w2.cell? ⟨z, 0, none⟩ = some (.int .i64 (k : Int)) := by rw [← ek]; exact (R1.out.keep hb2 R1.out.2.2).cellAt 0 (cmdA_0 c)
  clear hw2 hb2
  go_wp2_with fail
  refine (wnum_ok X2.out Y2.out k 1 (by decide) (by decide) V1.out (by simp)).mono ?_
  rintro e w3 ⟨rfl, ob3, hw3, hb3⟩
  have X3 := Lib.hid hw3
  have Y3 := Lib.hid hb3
  have hc0 : w3.cell? ⟨z, 1, none⟩ = some (.int .i64 (n : Int)) := by rw [← en]; exact (R1.out.keep hb3 R1.out.2.2).cellAt 1 (cmdA_1 c)
  clear hw3 hb3 X2 Y2
  go_wp2_with fail
  refine (wnum_ok X3.out Y3.out n 1 (by decide) (by decide) V2.out (by simp [dig_length])).mono ?_
  rintro e w4 ⟨rfl, ob4, hw4, hb4⟩
  have X4 := Lib.hid hw4
  have Y4 := Lib.hid hb4
  have hc0 : w4.cell? ⟨z, 2, none⟩ = some (.int .i64 (d : Int)) := by rw [← ed]; exact (R1.out.keep hb4 R1.out.2.2).cellAt 2 (cmdA_2 c)
  clear hw4 hb4 X3 Y3
  go_wp2_with fail
  refine (wnum_ok X4.out Y4.out d 2 (by decide) (by decide) V3.out (by simp [dig_length])).mono ?_
  rintro e w5 ⟨rfl, ob5, hw5, hb5⟩
  have X5 := Lib.hid hw5
  have Y5 := Lib.hid hb5
  have HB5 := Lib.hid (Bs0.some (bytes_cmd (R1.out.keep hb5 R1.out.2.2)))
  clear hw5 hb5 X4 Y4
  go_wp2_with fail
  refine (wbytes_ok X5.out Y5.out c.id (some ⟨z, 3, none⟩) 8 8 HI.out.symm HB5.out (fun h => by cases h) (by simp [dig_length, HI.out])).mono ?_
  rintro e w6 ⟨rfl, ob6, hw6, hb6⟩
  have X6 := Lib.hid hw6
  have Y6 := Lib.hid hb6
  clear hw6 hb6 X5 Y5 HB5
  go_wp2_with fail
  refine (wfill_ok X6.out Y6.out 16 (by simp [dig_length, HI.out]) (by decide)).mono ?_
  rintro e w7 ⟨rfl, ob7, hw7, hb7⟩
  rw [HX.out] at hw7
  have X7 := Lib.hid hw7
  have Y7 := Lib.hid hb7
  clear hw7 hb7 X6 Y6
  go_wp2_with fail
  refine (wall_ok X7.out Y7.out).mono ?_
  rintro e w8 ⟨v, rfl, ho, hb8⟩
  obtain ⟨p, q, rfl, hs8, _, _⟩ := ho.bs
  rw [HL.out]
  have S8 := Lib.hid hs8
  have T8 := Lib.hid (T1.out.keep hb8 T1.out.2.2)
  have B8 := Lib.hid (B1.out.trans (hb8.mono B1.out.size))
  clear ho hs8 hb8 X7 Y7 R1 T1 B1
  go_wp2_with fail
  generalize hW : World.alloc _ _ = W9
  have hbA : Below w8.heap.size w8 W9 := by rw [← hW]; exact below_alloc (Below.refl _ _) _
  have N9 := Lib.hid (show RowAt W9 w8.heap.size (bysA (zs 16)) by rw [← hW]; clear hW; exact ⟨by go_simp, by go_simp; rfl, by go_simp⟩)
  have S9 := Lib.hid (S8.out.grow hbA)
  have T9 := Lib.hid (T8.out.grow hbA)
  have B9 := Lib.hid (B8.out.trans (hbA.mono B8.out.size))
  have hne : t ≠ w8.heap.size := by have := T8.out.2.2; omega
  have hle : w.heap.size ≤ w8.heap.size := B8.out.size
  clear hW hbA S8 T8 B8
  generalize w8.heap.size = g9 at *
  have hcp := copy_bytes (c2 := 16) (cap := q) (d := 16) (s := 16) (k := 16) N9.out (by rw [zs_length]) HL.out.symm (by rw [zs_length, HL.out]; decide) S9.out
  rw [show c.enc.take 16 ++ (zs 16).drop 16 = c.enc by rw [List.take_of_length_le (by rw [HL.out]; exact Nat.le_refl _)]; simp [zs]] at hcp
  have N10 := N9.out.set (bysA c.enc)
  have T10 := T9.out.other hne (bysA c.enc)
  have B10 := Lib.hid (below_setRow B9.out hle (bysA c.enc))
  have hes : (bysA c.enc).size = 16 := by rw [bysA_size]; exact HL.out
  generalize W9.setRow g9 (bysA c.enc) = W10 at *
  obtain ⟨n1, n2, n3⟩ := N10
  obtain ⟨t1, t2, t3⟩ := T10
  clear N9 S9 T9 B9
  rw [hcp]
  clear hcp
  go_simp
  go_wp2_with fail
  refine bodyPost_ret (v := .tuple #[.agg (bysA (c.enc)), .int .i64 0]) (results_b16 Tryz.results102 (c.enc) HL.out _ _ _ t rfl (by go_simp) (by go_simp) rfl) rfl ⟨rfl, ?_⟩
  exact below_setRow B10.out (by rw [← Ez.out]; exact hz1) _
end Go.Proofs.YtddmjddlbhdcpaaGreatDoor

/-
  Wide blocks as lists of numbers. Of no program.
-/
namespace Go.Li
open Go Go.Sh Go.Ch

theorem mixd_comm (a b : List Nat) (h : a.length = b.length) : mixd a b = mixd b a := by
  unfold mixd
  rw [h]
  apply List.map_congr_left
  intro i _
  exact Nat.xor_comm _ _
/-- A block: its left part, its right part. -/
abbrev Blk := List Nat × List Nat
/-- A stream round, a tag round. -/
def sRd (k : List Nat) (x : Blk) : Blk := (x.1, mixd (strm (mixd k x.1) (zs 12) 0 x.2.length) x.2)
def tRd (k : List Nat) (x : Blk) : Blk := (mixd (keyN (mac k x.2)) x.1, x.2)
def rd (t : Bool) (k : List Nat) (x : Blk) : Blk := if t then tRd k x else sRd k x
/-- What holds of a block. -/
structure OkB (x : Blk) : Prop where
  left : x.1.length = 32
  lb : ∀ i, x.1.getD i 0 < 256
  rb : ∀ i, x.2.getD i 0 < 256
theorem rd_left (t : Bool) (k : List Nat) (x : Blk) : (rd t k x).1.length = x.1.length := by
  cases t
  · rfl
  · exact mixd_length _ _
theorem OkB.rd {x : Blk} (h : OkB x) (t : Bool) (k : List Nat) : OkB (rd t k x) := by
  refine ⟨by rw [rd_left]; exact h.left, ?_, ?_⟩
  · cases t
    · exact h.lb
    · exact mixd_bts (keyN_bts _) h.lb
  · cases t
    · exact mixd_bts (strm_bts _ _ _ _) h.rb
    · exact h.rb
/-- A round's label, and its key. -/
def lab (i : Nat) : List Nat := [108, 105, 111, 110, 32, 48 + i]
def rkey (k : List Nat) (i : Nat) : List Nat := keyN (drv k (purp ++ lab i))
/-- The i-th round. -/
def rnd (k : List Nat) (i : Nat) (x : Blk) : Blk := rd (i % 2 == 0) (rkey k i) x
def rnds (k : List Nat) : List Nat → Blk → Blk
  | [], x => x
  | i :: l, x => rnds k l (rnd k i x)
theorem OkB.rnds {k : List Nat} : ∀ (l : List Nat) {x : Blk}, OkB x → OkB (rnds k l x)
  | [], _, h => h
  | _ :: l, _, h => OkB.rnds l (h.rd _ _)
/-- The parts of bytes, and the bytes of parts. -/
def prt (b : List Nat) : Blk := (b.take 32, b.drop 32)
def jn (x : Blk) : List Nat := x.1 ++ x.2
/-- A block, mixed by rounds. -/
def mixL (k : List Nat) (l : List Nat) (b : List Nat) : List Nat := jn (rnds k l (prt b))
/-- The four rounds, and the opposite order. -/
def fwd : List Nat := [1, 2, 3, 4]
def bwd : List Nat := [4, 3, 2, 1]
def lockL (k b : List Nat) : List Nat := mixL k fwd b
def unlockL (k b : List Nat) : List Nat := mixL k bwd b
end Go.Li

/-
  The reference of layer 9: a command as cells; two commands are compared.
-/
namespace Go.Cm
open Go
/-- Are two commands one? -/
def beqC (a b : Cmd) : Bool := (a.k == b.k) && ((a.n == b.n) && ((a.d == b.d) && decide (a.id = b.id)))
theorem beqC_iff {a b : Cmd} : beqC a b = true ↔ a = b := by
  obtain ⟨a1, a2, a3, a4⟩ := a
  obtain ⟨b1, b2, b3, b4⟩ := b
  simp [beqC]
theorem beqC_self (a : Cmd) : beqC a a = true := beqC_iff.2 rfl
end Go.Cm
namespace Go.Proofs.YtddmjddlbhdcpaaGreatDoor
open Go.RowKit Go.Hold Go.Sh Go.Cm

@[go_sem ↓] theorem loadAt_rcmd (v : Value) : Instr.loadAt 57 v = loadRow 57 v := rfl
@[go_sem] theorem run_loadRCmd (w : World) (n : Nat) (h1 : w.isRow n = true) (h2 : (w.rowOf n).size = 11) : (loadRow 57 (.pointer (some ⟨n, 0, none⟩))).run Tryz.prog w = .ok (.agg (w.rowOf n)) w := run_loadRow w Tryz.underlying57 rfl (by kernel_rfl) n h1 h2
@[go_sem ↓] theorem loadAt_b8 (v : Value) : Instr.loadAt 48 v = loadRow 48 v := rfl
@[go_sem] theorem run_loadB8 (w : World) (n : Nat) (h1 : w.isRow n = true) (h2 : (w.rowOf n).size = 11) : (loadRow 48 (.pointer (some ⟨n, 3, none⟩))).run Tryz.prog w = .ok (.agg ((w.rowOf n).extract 3 11)) w := run_loadMid (k := 8) Tryz.underlying48 rfl (by kernel_rfl) w n h1 (by omega)
@[go_sem ↓] theorem build_rcmd (ps : Array (Nat × Value)) : Instr.build 57 ps = bldA 57 ps := rfl
@[go_sem ↓] theorem build_b8 (ps : Array (Nat × Value)) : Instr.build 48 ps = bldA 48 ps := rfl
@[go_sem] theorem run_bldRCmd0 (w : World) : (bldA 57 #[]).run Tryz.prog w = .ok (.agg (cmdA .zero)) w := run_build w _ _ _ (by kernel_rfl)
@[go_sem] theorem run_bldRCmd3 (k n d : Int) (w : World) : (bldA 57 #[(0, .int .i64 k), (1, .int .i64 n), (2, .int .i64 d)]).run Tryz.prog w = .ok (.agg (cmdA ⟨k, n, d, zs 8⟩)) w := run_build w _ _ _ (by kernel_rfl)
@[go_sem] theorem run_bldB8 (w : World) : (bldA 48 #[]).run Tryz.prog w = .ok (.agg (bysA (zs 8))) w := run_build w _ _ _ (by kernel_rfl)
@[go_sem ↓ high] theorem fold_eq8 (a : Operand → Value) (d : Option Tmp) (op : BinOp) (x y : Operand) (u t : TypeId) (p : String) (af : Array Edge) (g : Option (Nat × Bool)) :
    execOp a ⟨d, .binOp op 48 x y u, t, p, af, g⟩ = (do pure (.value (← eqV op 48 x y (a x) (a y)))) := rfl
@[go_sem] theorem run_eq8 (x y : Operand) (l m : List Nat) (hl : l.length = 8) (hm : m.length = 8) (w : World) :
    (eqV .eql 48 x y (.agg (bysA l)) (.agg (bysA m))).run Tryz.prog w = .ok (.bool (decide (l = m))) w := run_eqV Tryz.underlying48 (by kernel_rfl) x y hl hm w
/-! ### Two commands -/
@[go_sem ↓ high] theorem fold_eqCmd (a : Operand → Value) (d : Option Tmp) (op : BinOp) (x y : Operand) (u t : TypeId) (p : String) (af : Array Edge) (g : Option (Nat × Bool)) :
    execOp a ⟨d, .binOp op 57 x y u, t, p, af, g⟩ = (do pure (.value (← eqV op 57 x y (a x) (a y)))) := rfl
set_option maxRecDepth 100000 in
theorem part_int {c : Cmd} {i : Nat} {v : Int} (h : (cmdA c)[i]? = some (.int .i64 v)) (w : World) : (part 3 (cmdA c) i).run Tryz.prog w = .ok (.int .i64 v) w := by
  have hag : (isAgg 3).run Tryz.prog w = .ok false w := by unfold isAgg; rw [Sem.run_bind, run_underlying Tryz.underlying3 w]; simp
  unfold part
  rw [Sem.run_bind, hag]
  simp [h]
set_option maxRecDepth 100000 in
theorem part_id {c : Cmd} (hc : c.id.length = 8) (w : World) : (part 48 (cmdA c) 3).run Tryz.prog w = .ok (.agg (bysA c.id)) w := by
  have hag : (isAgg 48).run Tryz.prog w = .ok true w := by unfold isAgg; rw [Sem.run_bind, run_underlying Tryz.underlying48 w]; simp
  unfold part
  rw [Sem.run_bind, hag]
  simp [cmdA_ext c hc]
set_option maxRecDepth 100000 in
theorem equalIn_cmd (d : Nat) {a b : Cmd} (ha : a.id.length = 8) (hb : b.id.length = 8) (w : World) :
    (Op.equalIn (d + 4) 57 (.agg (cmdA a)) (.agg (cmdA b))).run Tryz.prog w = .ok (beqC a b) w := by
  rw [run_equalIn_struct w (d + 3) 57 (cmdA a) (cmdA b) (by kernel_rfl) (by kernel_rfl)]
  obtain ⟨f0, f1, f2, f3, hf, n0, n1, n2, n3, t0, t1, t2, t3, o0, o1, o2, o3⟩ : ∃ f0 f1 f2 f3 : Field, (Tryz.prog.fieldsOf 57).toList = [f0, f1, f2, f3] ∧ f0.name ≠ "_" ∧ f1.name ≠ "_" ∧ f2.name ≠ "_" ∧ f3.name ≠ "_" ∧ f0.type = 3 ∧ f1.type = 3 ∧ f2.type = 3 ∧ f3.type = 48 ∧ f0.offset = 0 ∧ f1.offset = 1 ∧ f2.offset = 2 ∧ f3.offset = 3 :=
    ⟨_, _, _, _, rfl, by decide +kernel, by decide +kernel, by decide +kernel, by decide +kernel, by kernel_rfl, by kernel_rfl, by kernel_rfl, by kernel_rfl, by kernel_rfl, by kernel_rfl, by kernel_rfl, by kernel_rfl⟩
  rw [hf]
  simp only [Op.eqFields, n0, n1, n2, n3, t0, t1, t2, t3, o0, o1, o2, o3, ne_eq, not_false_eq_true, if_true, Sem.run_bind, part_int (cmdA_0 a), part_int (cmdA_0 b), Result.andThen_ok]
  rw [run_equalIn_int w (d + 2) 3 .i64 .i64 a.k b.k Tryz.underlying3]
  unfold beqC
  cases h0 : (a.k == b.k)
  · simp
  · simp only [Result.andThen_ok, Bool.not_true, Bool.false_eq_true, if_false, Bool.true_and, Sem.run_bind, part_int (cmdA_1 a), part_int (cmdA_1 b)]
    rw [run_equalIn_int w (d + 2) 3 .i64 .i64 a.n b.n Tryz.underlying3]
    cases h1 : (a.n == b.n)
    · simp
    · simp only [Result.andThen_ok, Bool.not_true, Bool.false_eq_true, if_false, Bool.true_and, Sem.run_bind, part_int (cmdA_2 a), part_int (cmdA_2 b)]
      rw [run_equalIn_int w (d + 2) 3 .i64 .i64 a.d b.d Tryz.underlying3]
      cases h2 : (a.d == b.d)
      · simp
      · simp only [Result.andThen_ok, Bool.not_true, Bool.false_eq_true, if_false, Bool.true_and, Sem.run_bind, part_id ha, part_id hb]
        rw [equalIn_bytes Tryz.underlying48 d ha hb]
        cases decide (a.id = b.id) <;> simp
set_option maxRecDepth 100000 in
@[go_sem] theorem run_eqCmd (x y : Operand) (a b : Cmd) (ha : a.id.length = 8) (hb : b.id.length = 8) (w : World) :
    (eqV .eql 57 x y (.agg (cmdA a)) (.agg (cmdA b))).run Tryz.prog w = .ok (.bool (beqC a b)) w := by
  unfold eqV
  rw [Sem.run_bind, run_eqGuard_agg w .eql 57 x y _ _ (by kernel_rfl), Result.andThen_ok, run_eql_struct, show (10000 : Nat) = 9996 + 4 from rfl, equalIn_cmd 9996 ha hb]
  rfl
set_option maxRecDepth 100000 in
@[go_sem] theorem run_neCmd (x y : Operand) (a b : Cmd) (ha : a.id.length = 8) (hb : b.id.length = 8) (w : World) :
    (eqV .neq 57 x y (.agg (cmdA a)) (.agg (cmdA b))).run Tryz.prog w = .ok (.bool (!beqC a b)) w := by
  unfold eqV
  rw [Sem.run_bind, run_eqGuard_agg w .neq 57 x y _ _ (by kernel_rfl), Result.andThen_ok, run_neq_struct, show (10000 : Nat) = 9996 + 4 from rfl, equalIn_cmd 9996 ha hb]
  rfl
theorem results_b16a {fn : Func} {p : Tmp} (h : fn.results = #[.cell p 28]) (l : List Nat) (hl : l.length = 16) (w : World) (tmps : Array Value) (n : Nat) (hp : tmps.getD p undef = .pointer (some ⟨n, 0, none⟩)) (h1 : w.isRow n = true) (h2 : w.rowOf n = bysA l) : (results fn tmps).run Tryz.prog w = .ok (.agg (bysA l)) w :=
  results_row w h Tryz.underlying28 rfl (by rw [bysA_size, hl]; kernel_rfl) tmps n hp h1 h2
end Go.Proofs.YtddmjddlbhdcpaaGreatDoor

/-
  Package header: what is wide: turned, laid, its parts; the proof of a beta.
-/
namespace Go.Proofs.YtddmjddlbhdcpaaGreatDoor
open Go.RowKit Go.Hold Go.Sh Go.Ch Go.Cm Go.Hd

set_option maxHeartbeats 1000000 in
set_option maxRecDepth 100000 in
theorem hproof_c (s b : List Nat) (hs : s.length = 32) (hsb : ∀ i, s.getD i 0 < 256) (hb : b.length = 160) (hbb : ∀ i, b.getD i 0 < 256) (w : World) (hT : Tabs w) :
    Calls Tryz.prog 24 #[.agg (bysA s), .agg (bysA b)] w fun e w' => e = .returned (.agg (bysA (prf s b))) ∧ Below w.heap.size w w' := by
  have hss := bysA_size' hs
  have hbs := bysA_size' hb
  have ht := bysA_size' (prf_length s b)
  have HD := Lib.hid (fun (W : World) (h : Tabs W) => drv_mu s hs hsb W h)
  have hds := bysA_size' (keyN_length (drv s muL))
  have HM := Lib.hid (fun (W : World) (h : Tabs W) {p q : Option Addr} (hp : Bs0 W p (keyN (drv s muL))) (hq : Bs0 W q b) (hqc : q = none → 160 = 0) => mac_at (kc := 32) (bc := 160) (m := 32) (nb := 160) (keyN_length _).symm hb.symm (rfl : mac (keyN (drv s muL)) b = mac (keyN (drv s muL)) b) h (by rw [keyN_length]; decide) (keyN_bts _) hp (by rw [keyN_length]; decide) (by omega) hbb hq hqc)
  rw [keA_bys] at HM
  have HMl := Lib.hid (keyN_length (mac (keyN (drv s muL)) b))
  unfold prf at *
  have HT := Lib.hid hT
  clear hs hsb hT hb hbb
  generalize keyN (mac (keyN (drv s muL)) b) = M at *
  generalize keyN (drv s muL) = D at *
  go_enter Tryz.func24, Tryz.ntmps24
  go_wp2_with fail
  generalize hW : World.alloc _ _ = W0
  have R0x0 := Lib.hid (show RowAt W0 (w.heap.size) (bysA s) by rw [← hW]; clear hW; exact ⟨by go_simp, by first | (go_simp; done) | (go_simp; rfl), by go_simp⟩)
  have R0x1 := Lib.hid (show RowAt W0 (w.heap.size + 1) (bysA b) by rw [← hW]; clear hW; exact ⟨by go_simp, by first | (go_simp; done) | (go_simp; rfl), by go_simp⟩)
  have R0x2 := Lib.hid (show RowAt W0 (w.heap.size + 1 + 1) (bysA (zs 16)) by rw [← hW]; clear hW; exact ⟨by go_simp, by first | (go_simp; done) | (go_simp; rfl), by go_simp⟩)
  have B0 := Lib.hid (show Below w.heap.size w W0 by rw [← hW]; repeat (first | apply below_alloc | exact Below.refl _ _))
  clear hW
  have hzs16 := bysA_size' (zs_length 16)
  have l_z : w.heap.size ≤ w.heap.size := by omega
  have l_y : w.heap.size ≤ w.heap.size + 1 := by omega
  have n_z_y : w.heap.size ≠ w.heap.size + 1 := by omega
  have l_r : w.heap.size ≤ w.heap.size + 1 + 1 := by omega
  have n_z_r : w.heap.size ≠ w.heap.size + 1 + 1 := by omega
  have n_y_r : w.heap.size + 1 ≠ w.heap.size + 1 + 1 := by omega
  generalize w.heap.size + 1 + 1 = r at *
  generalize w.heap.size + 1 = y at *
  obtain ⟨z, ez⟩ : ∃ z, z = w.heap.size := ⟨_, rfl⟩
  rw [← ez] at R0x0 n_z_y n_z_r ⊢
  have l_z : w.heap.size ≤ z := by rw [ez]; exact Nat.le_refl _
  clear ez
  refine (HD.out _ (HT.out.grow B0.out)).mono ?_
  rintro e W1 ⟨rfl, hb1⟩
  have R1x0 := Lib.hid (R0x0.out.grow hb1)
  have R1x1 := Lib.hid (R0x1.out.grow hb1)
  have R1x2 := Lib.hid (R0x2.out.grow hb1)
  have B1 := Lib.hid (B0.out.trans (hb1.mono B0.out.size))
  clear hb1 B0 R0x0 R0x1 R0x2
  obtain ⟨R1x0a, R1x0b, R1x0c⟩ := R1x0.out
  obtain ⟨R1x1a, R1x1b, R1x1c⟩ := R1x1.out
  obtain ⟨R1x2a, R1x2b, R1x2c⟩ := R1x2.out
  go_wp2_with fail
  have n_z_p : z ≠ W1.heap.size := Nat.ne_of_lt R1x0.out.2.2
  have n_y_p : y ≠ W1.heap.size := Nat.ne_of_lt R1x1.out.2.2
  have n_r_p : r ≠ W1.heap.size := Nat.ne_of_lt R1x2.out.2.2
  have l_p : w.heap.size ≤ W1.heap.size := B1.out.size
  have hb2 := below_alloc (Below.refl W1.heap.size W1) (.cells (bysA D) 23)
  have N2 := Lib.hid (RowAt.of (block_new W1 (.cells (bysA D) 23)))
  have R2x0 := Lib.hid (R1x0.out.grow hb2)
  have R2x1 := Lib.hid (R1x1.out.grow hb2)
  have R2x2 := Lib.hid (R1x2.out.grow hb2)
  have B2 := Lib.hid (B1.out.trans (hb2.mono B1.out.size))
  clear hb2 B1 R1x0 R1x1 R1x2 R1x0a R1x0b R1x0c R1x1a R1x1b R1x1c R1x2a R1x2b R1x2c
  generalize W1.heap.size = p at *
  generalize W1.alloc (.cells (bysA D) 23) = W2 at *
  refine wp_region_pickT W2 [0, 1] [true, true] [2, 3, 4] (by kernel_rfl) (by kernel_rfl) (by intro c a d v w h; cases d <;> exact h) (by first | exact (Below.refl _ _).drew | exact Below.refl _ _) ?_
  simp only [pick, List.getElem?_cons_succ, List.getElem?_cons_zero]
  iterate 2 (refine wpHoldF_late (wanted_none rfl) (fun w => by go_simp; rfl) ?_)
  refine wpHoldF_nil ?_
  intro W3 hb3
  have R3x0 := Lib.hid (R2x0.out.grow hb3)
  have R3x1 := Lib.hid (R2x1.out.grow hb3)
  have R3x2 := Lib.hid (R2x2.out.grow hb3)
  have R3x3 := Lib.hid (N2.out.grow hb3)
  have B3 := Lib.hid (B2.out.trans (hb3.mono B2.out.size))
  clear hb3 B2 R2x0 R2x1 R2x2 N2
  go_wp2_with fail
  refine (HM.out _ (HT.out.grow B3.out) (Bs0.some (bytes_row R3x3.out)) (Bs0.some (bytes_row R3x1.out)) (fun h => by cases h)).mono ?_
  rintro e W4 ⟨rfl, hb4⟩
  have R4x0 := Lib.hid (R3x0.out.grow hb4)
  have R4x1 := Lib.hid (R3x1.out.grow hb4)
  have R4x2 := Lib.hid (R3x2.out.grow hb4)
  have R4x3 := Lib.hid (R3x3.out.grow hb4)
  have B4 := Lib.hid (B3.out.trans (hb4.mono B3.out.size))
  clear hb4 B3 R3x0 R3x1 R3x2 R3x3
  obtain ⟨R4x0a, R4x0b, R4x0c⟩ := R4x0.out
  obtain ⟨R4x1a, R4x1b, R4x1c⟩ := R4x1.out
  obtain ⟨R4x2a, R4x2b, R4x2c⟩ := R4x2.out
  obtain ⟨R4x3a, R4x3b, R4x3c⟩ := R4x3.out
  go_wp2_with fail
  refine (short_c M HMl.out _).mono ?_
  rintro e W5 ⟨rfl, hb5⟩
  clear R4x0a R4x0b R4x0c R4x1a R4x1b R4x1c R4x2a R4x2b R4x2c R4x3a R4x3b R4x3c
  have R5x0 := Lib.hid (R4x0.out.grow hb5)
  have R5x1 := Lib.hid (R4x1.out.grow hb5)
  have R5x2 := Lib.hid (R4x2.out.grow hb5)
  have R5x3 := Lib.hid (R4x3.out.grow hb5)
  have B5 := Lib.hid (B4.out.trans (hb5.mono B4.out.size))
  clear hb5 B4 R4x0 R4x1 R4x2 R4x3
  obtain ⟨R5x0a, R5x0b, R5x0c⟩ := R5x0.out
  obtain ⟨R5x1a, R5x1b, R5x1c⟩ := R5x1.out
  obtain ⟨R5x2a, R5x2b, R5x2c⟩ := R5x2.out
  obtain ⟨R5x3a, R5x3b, R5x3c⟩ := R5x3.out
  go_wp2_with fail
  refine bodyPost_ret (v := .agg (bysA (M.take 16))) (results_tag Tryz.results24 ht _ _ _ rfl (by go_simp) (by go_simp)) rfl ⟨rfl, ?_⟩
  exact below_setRow (B5.out) l_r _
set_option maxHeartbeats 1000000 in
set_option maxRecDepth 100000 in
theorem widened_c (b : List Nat) (hb : b.length = 160) (w : World) :
    Calls Tryz.prog 45 #[.agg (bysA b)] w fun e w' => e = .returned (.agg (bysA (b ++ zs 32))) ∧ Below w.heap.size w w' := by
  have hbs := bysA_size' hb
  have hw := bysA_size' (show (b ++ zs 32).length = 192 by rw [List.length_append, hb, zs_length])
  have Hcp := Lib.hid (show b.take 160 ++ (zs 192).drop 160 = b ++ zs 32 by rw [List.take_of_length_le (by omega), zs_drop])
  have Hb := Lib.hid hb
  clear hb
  go_enter Tryz.func45, Tryz.ntmps45
  go_wp2_with fail
  generalize hW : World.alloc _ _ = W0
  have R0x0 := Lib.hid (show RowAt W0 (w.heap.size) (bysA b) by rw [← hW]; clear hW; exact ⟨by go_simp, by first | (go_simp; done) | (go_simp; rfl), by go_simp⟩)
  have R0x1 := Lib.hid (show RowAt W0 (w.heap.size + 1) (bysA (zs 192)) by rw [← hW]; clear hW; exact ⟨by go_simp, by first | (go_simp; done) | (go_simp; rfl), by go_simp⟩)
  have R0x2 := Lib.hid (show RowAt W0 (w.heap.size + 1 + 1) (bysA (zs 192)) by rw [← hW]; clear hW; exact ⟨by go_simp, by first | (go_simp; done) | (go_simp; rfl), by go_simp⟩)
  have B0 := Lib.hid (show Below w.heap.size w W0 by rw [← hW]; repeat (first | apply below_alloc | exact Below.refl _ _))
  clear hW
  have hzs192 := bysA_size' (zs_length 192)
  have l_y : w.heap.size ≤ w.heap.size := by omega
  have l_r : w.heap.size ≤ w.heap.size + 1 := by omega
  have n_y_r : w.heap.size ≠ w.heap.size + 1 := by omega
  have l_v : w.heap.size ≤ w.heap.size + 1 + 1 := by omega
  have n_y_v : w.heap.size ≠ w.heap.size + 1 + 1 := by omega
  have n_r_v : w.heap.size + 1 ≠ w.heap.size + 1 + 1 := by omega
  generalize w.heap.size + 1 + 1 = v at *
  generalize w.heap.size + 1 = r at *
  obtain ⟨y, ey⟩ : ∃ z, z = w.heap.size := ⟨_, rfl⟩
  rw [← ey] at R0x0 n_y_r n_y_v ⊢
  have l_y : w.heap.size ≤ y := by rw [ey]; exact Nat.le_refl _
  clear ey
  refine wp_region_pickT W0 [0, 1] [true, true] [2] (by kernel_rfl) (by kernel_rfl) (by intro c a d v w h; cases d <;> exact h) (by first | exact (Below.refl _ _).drew | exact Below.refl _ _) ?_
  simp only [pick, List.getElem?_cons_succ, List.getElem?_cons_zero]
  iterate 2 (refine wpHoldF_late (wanted_none rfl) (fun w => by go_simp; rfl) ?_)
  refine wpHoldF_nil ?_
  intro W1 hb1
  have R1x0 := Lib.hid (R0x0.out.grow hb1)
  have R1x1 := Lib.hid (R0x1.out.grow hb1)
  have R1x2 := Lib.hid (R0x2.out.grow hb1)
  have B1 := Lib.hid (B0.out.trans (hb1.mono B0.out.size))
  clear hb1 B0 R0x0 R0x1 R0x2
  have hcp := copy_bytes (c2 := 192) (cap := 160) (d := 192) (s := 160) (k := 160) R1x2.out (by rw [zs_length]) Hb.out.symm (by rw [zs_length, Hb.out]; decide) (Bs0.some (bytes_row R1x0.out))
  rw [Hcp.out] at hcp
  obtain ⟨R1x0a, R1x0b, R1x0c⟩ := R1x0.out
  obtain ⟨R1x1a, R1x1b, R1x1c⟩ := R1x1.out
  obtain ⟨R1x2a, R1x2b, R1x2c⟩ := R1x2.out
  go_wp2_with fail
  refine bodyPost_ret (v := .agg (bysA (b ++ zs 32))) (results_wide Tryz.results45 hw _ _ _ rfl (by go_simp) (by go_simp)) rfl ⟨rfl, ?_⟩
  exact below_setRow (below_setRow (B1.out) l_v _) l_r _
set_option maxHeartbeats 1000000 in
set_option maxRecDepth 100000 in
theorem turned_c (l s : List Nat) (hl : l.length = 192) (hlb : ∀ i, l.getD i 0 < 256) (hs : s.length = 32) (hsb : ∀ i, s.getD i 0 < 256) (w : World) (hT : Tabs w) :
    Calls Tryz.prog 46 #[.agg (bysA l), .agg (bysA s)] w fun e w' => e = .returned (.agg (bysA (mixd (hst s) l))) ∧ Below w.heap.size w w' := by
  have hss := bysA_size' hs
  have hls := bysA_size' hl
  have hhs := bysA_size' (hst_length s)
  have HS := Lib.hid (fun (W : World) (h : Tabs W) => hstream_c s hs hsb W h)
  have Hx := Lib.hid (show xorC (bysA l) l (hst s) l.length = bysA (mixd (hst s) l) by rw [xorC_all l (hst s) (by rw [hst_length, hl]), Go.Li.mixd_comm _ _ (by rw [hst_length, hl])])
  have hx := bysA_size' (show (mixd (hst s) l).length = 192 by rw [mixd_length, hl])
  have Hl := Lib.hid hl
  have Hlb := Lib.hid hlb
  have Hh := Lib.hid (hst_length s)
  have Hhb := Lib.hid (hst_bts s)
  have HT := Lib.hid hT
  clear hl hlb hs hsb hT
  generalize mixd (hst s) l = X at *
  generalize hst s = H at *
  go_enter Tryz.func46, Tryz.ntmps46
  go_wp2_with fail
  generalize hW : World.alloc _ _ = W0
  have R0x0 := Lib.hid (show RowAt W0 (w.heap.size) (bysA l) by rw [← hW]; clear hW; exact ⟨by go_simp, by first | (go_simp; done) | (go_simp; rfl), by go_simp⟩)
  have R0x1 := Lib.hid (show RowAt W0 (w.heap.size + 1) (bysA s) by rw [← hW]; clear hW; exact ⟨by go_simp, by first | (go_simp; done) | (go_simp; rfl), by go_simp⟩)
  have R0x2 := Lib.hid (show RowAt W0 (w.heap.size + 1 + 1) (bysA (zs 192)) by rw [← hW]; clear hW; exact ⟨by go_simp, by first | (go_simp; done) | (go_simp; rfl), by go_simp⟩)
  have B0 := Lib.hid (show Below w.heap.size w W0 by rw [← hW]; repeat (first | apply below_alloc | exact Below.refl _ _))
  clear hW
  have hzs192 := bysA_size' (zs_length 192)
  have l_y : w.heap.size ≤ w.heap.size := by omega
  have l_z : w.heap.size ≤ w.heap.size + 1 := by omega
  have n_y_z : w.heap.size ≠ w.heap.size + 1 := by omega
  have l_r : w.heap.size ≤ w.heap.size + 1 + 1 := by omega
  have n_y_r : w.heap.size ≠ w.heap.size + 1 + 1 := by omega
  have n_z_r : w.heap.size + 1 ≠ w.heap.size + 1 + 1 := by omega
  generalize w.heap.size + 1 + 1 = r at *
  generalize w.heap.size + 1 = z at *
  obtain ⟨y, ey⟩ : ∃ z, z = w.heap.size := ⟨_, rfl⟩
  rw [← ey] at R0x0 n_y_z n_y_r ⊢
  have l_y : w.heap.size ≤ y := by rw [ey]; exact Nat.le_refl _
  clear ey
  refine (HS.out _ (HT.out.grow B0.out)).mono ?_
  rintro e W1 ⟨rfl, hb1⟩
  have R1x0 := Lib.hid (R0x0.out.grow hb1)
  have R1x1 := Lib.hid (R0x1.out.grow hb1)
  have R1x2 := Lib.hid (R0x2.out.grow hb1)
  have B1 := Lib.hid (B0.out.trans (hb1.mono B0.out.size))
  clear hb1 B0 R0x0 R0x1 R0x2
  obtain ⟨R1x0a, R1x0b, R1x0c⟩ := R1x0.out
  obtain ⟨R1x1a, R1x1b, R1x1c⟩ := R1x1.out
  obtain ⟨R1x2a, R1x2b, R1x2c⟩ := R1x2.out
  go_wp2_with fail
  have n_y_v : y ≠ W1.heap.size := Nat.ne_of_lt R1x0.out.2.2
  have n_z_v : z ≠ W1.heap.size := Nat.ne_of_lt R1x1.out.2.2
  have n_r_v : r ≠ W1.heap.size := Nat.ne_of_lt R1x2.out.2.2
  have l_v : w.heap.size ≤ W1.heap.size := B1.out.size
  have hb2 := below_alloc (Below.refl W1.heap.size W1) (.cells (bysA H) 99)
  have N2 := Lib.hid (RowAt.of (block_new W1 (.cells (bysA H) 99)))
  have R2x0 := Lib.hid (R1x0.out.grow hb2)
  have R2x1 := Lib.hid (R1x1.out.grow hb2)
  have R2x2 := Lib.hid (R1x2.out.grow hb2)
  have B2 := Lib.hid (B1.out.trans (hb2.mono B1.out.size))
  clear hb2 B1 R1x0 R1x1 R1x2 R1x0a R1x0b R1x0c R1x1a R1x1b R1x1c R1x2a R1x2b R1x2c
  generalize W1.heap.size = v at *
  generalize W1.alloc (.cells (bysA H) 99) = W2 at *
  refine wp_region_pickT W2 [0, 1] [true, true] [2] (by kernel_rfl) (by kernel_rfl) (by intro c a d v w h; cases d <;> exact h) (by first | exact (Below.refl _ _).drew | exact Below.refl _ _) ?_
  simp only [pick, List.getElem?_cons_succ, List.getElem?_cons_zero]
  iterate 2 (refine wpHoldF_late (wanted_none rfl) (fun w => by go_simp; rfl) ?_)
  refine wpHoldF_nil ?_
  intro W3 hb3
  have R3x0 := Lib.hid (R2x0.out.grow hb3)
  have R3x1 := Lib.hid (R2x1.out.grow hb3)
  have R3x2 := Lib.hid (R2x2.out.grow hb3)
  have R3x3 := Lib.hid (N2.out.grow hb3)
  have B3 := Lib.hid (B2.out.trans (hb3.mono B2.out.size))
  clear hb3 B2 R2x0 R2x1 R2x2 N2
  go_wp2_with fail
  refine (hxor_c y 192 192 192 192 (some ⟨v, 0, none⟩) (bysA l) l H W3 R3x0.out (FrontB.all l) Hl.out.symm Hl.out.symm (by rw [Hh.out, Hl.out]) (by rw [Hl.out]; decide) Hlb.out Hhb.out (.inr ⟨v, 0, rfl, bytes_row R3x3.out, Ne.symm n_y_v⟩)).mono ?_
  rintro e W4 ⟨rfl, hset⟩
  rw [Hx.out] at hset
  have R4x0 := Lib.hid (hset.row R3x0.out)
  have R4x1 := Lib.hid (hset.old R3x1.out (Ne.symm n_y_z))
  have R4x2 := Lib.hid (hset.old R3x2.out (Ne.symm n_y_r))
  have R4x3 := Lib.hid (hset.old R3x3.out (Ne.symm n_y_v))
  have B4 := Lib.hid (hset.below B3.out l_y B3.out.size)
  clear hset B3 R3x0 R3x1 R3x2 R3x3
  obtain ⟨R4x0a, R4x0b, R4x0c⟩ := R4x0.out
  obtain ⟨R4x1a, R4x1b, R4x1c⟩ := R4x1.out
  obtain ⟨R4x2a, R4x2b, R4x2c⟩ := R4x2.out
  obtain ⟨R4x3a, R4x3b, R4x3c⟩ := R4x3.out
  go_wp2_with fail
  refine bodyPost_ret (v := .agg (bysA X)) (results_wide Tryz.results46 hx _ _ _ rfl (by go_simp) (by go_simp)) rfl ⟨rfl, ?_⟩
  exact below_setRow (B4.out) l_r _
set_option maxHeartbeats 1000000 in
set_option maxRecDepth 100000 in
theorem wbeta_c (l : List Nat) (hl : l.length = 192) (w : World) :
    Calls Tryz.prog 72 #[.agg (bysA l)] w fun e w' => e = .returned (.agg (bysA (l.take 160))) ∧ Below w.heap.size w w' := by
  have hls := bysA_size' hl
  have hXl : (l.take 160).length = 160 := by simp [hl]
  have hX := bysA_size' hXl
  have hz := bysA_size' (zs_length 160)
  obtain ⟨X, eX⟩ : ∃ X, X = l.take 160 := ⟨_, rfl⟩
  have hE : l.take 160 = X := by rw [eX]
  rw [← eX] at hXl hX ⊢
  clear eX hl
  go_enter Tryz.func72, Tryz.ntmps72
  go_wp2_with fail
  refine bodyPost_ret (v := .agg (bysA X)) (results_beta Tryz.results72 hX _ _ _ rfl (by go_simp) (by go_simp)) rfl ⟨rfl, ?_⟩
  repeat (first | apply below_alloc | exact Below.refl _ _)
set_option maxHeartbeats 1000000 in
set_option maxRecDepth 100000 in
theorem wcmd_c (l : List Nat) (hl : l.length = 192) (w : World) :
    Calls Tryz.prog 48 #[.agg (bysA l)] w fun e w' => e = .returned (.agg (bysA (l.take 16))) ∧ Below w.heap.size w w' := by
  have hls := bysA_size' hl
  have hXl : (l.take 16).length = 16 := by simp [hl]
  have hX := bysA_size' hXl
  have hz := bysA_size' (zs_length 16)
  obtain ⟨X, eX⟩ : ∃ X, X = l.take 16 := ⟨_, rfl⟩
  have hE : l.take 16 = X := by rw [eX]
  rw [← eX] at hXl hX ⊢
  clear eX hl
  go_enter Tryz.func48, Tryz.ntmps48
  go_wp2_with fail
  refine bodyPost_ret (v := .agg (bysA X)) (results_b16a Tryz.results48 X hXl _ _ _ rfl (by go_simp) (by go_simp)) rfl ⟨rfl, ?_⟩
  repeat (first | apply below_alloc | exact Below.refl _ _)
set_option maxHeartbeats 1000000 in
set_option maxRecDepth 100000 in
theorem wnxb_c (l : List Nat) (hl : l.length = 192) (w : World) :
    Calls Tryz.prog 50 #[.agg (bysA l)] w fun e w' => e = .returned (.agg (bysA (l.drop 32))) ∧ Below w.heap.size w w' := by
  have hls := bysA_size' hl
  have hXl : (l.drop 32).length = 160 := by simp [hl]
  have hX := bysA_size' hXl
  have hz := bysA_size' (zs_length 160)
  obtain ⟨X, eX⟩ : ∃ X, X = l.drop 32 := ⟨_, rfl⟩
  have hE : (l.drop 32).take 160 = X := by rw [eX]; rw [List.take_of_length_le (by simp [hl])]
  rw [← eX] at hXl hX ⊢
  clear eX hl
  go_enter Tryz.func50, Tryz.ntmps50
  go_wp2_with fail
  refine bodyPost_ret (v := .agg (bysA X)) (results_beta Tryz.results50 hX _ _ _ rfl (by go_simp) (by go_simp)) rfl ⟨rfl, ?_⟩
  repeat (first | apply below_alloc | exact Below.refl _ _)
set_option maxHeartbeats 1000000 in
set_option maxRecDepth 100000 in
theorem wnxg_c (l : List Nat) (hl : l.length = 192) (w : World) :
    Calls Tryz.prog 51 #[.agg (bysA l)] w fun e w' => e = .returned (.agg (bysA ((l.drop 16).take 16))) ∧ Below w.heap.size w w' := by
  have hls := bysA_size' hl
  have hXl : ((l.drop 16).take 16).length = 16 := by simp [hl]
  have hX := bysA_size' hXl
  have hz := bysA_size' (zs_length 16)
  obtain ⟨X, eX⟩ : ∃ X, X = (l.drop 16).take 16 := ⟨_, rfl⟩
  have hE : (l.drop 16).take 16 = X := by rw [eX]
  rw [← eX] at hXl hX ⊢
  clear eX hl
  go_enter Tryz.func51, Tryz.ntmps51
  go_wp2_with fail
  refine bodyPost_ret (v := .agg (bysA X)) (results_tag Tryz.results51 hX _ _ _ rfl (by go_simp) (by go_simp)) rfl ⟨rfl, ?_⟩
  repeat (first | apply below_alloc | exact Below.refl _ _)
set_option maxHeartbeats 1000000 in
set_option maxRecDepth 100000 in
theorem laid_c (c : Cmd) (hid : c.id.length = 8) (g b : List Nat) (hg : g.length = 16) (hb : b.length = 160) (w : World) :
    Calls Tryz.prog 71 #[.agg (cmdA c), .agg (bysA g), .agg (bysA b)] w fun e w' => e = .returned (.agg (bysA (encV c ++ g ++ b))) ∧ Below w.heap.size w w' := by
  have hcs := cmdA_size hid
  have hgs := bysA_size' hg
  have hbs := bysA_size' hb
  have HE := Lib.hid (fun (W : World) => encode_c c hid W)
  have hC := encV_length hid
  have hCs := bysA_size' hC
  have hz16 := bysA_size' (zs_length 16)
  have hws := bysA_size' (show (encV c ++ zs 176).length = 192 by rw [List.length_append, hC, zs_length])
  have hws2 := bysA_size' (show (encV c ++ g ++ zs 160).length = 192 by rw [List.length_append, List.length_append, hC, hg, zs_length])
  have hw := bysA_size' (show (encV c ++ g ++ b).length = 192 by rw [List.length_append, List.length_append, hC, hg, hb])
  have H1 := Lib.hid (show (zs 192).take 0 ++ (encV c).take 16 ++ (zs 192).drop (0 + 16) = encV c ++ zs 176 by rw [List.take_zero, List.nil_append, List.take_of_length_le (by omega), zs_drop])
  have H2 := Lib.hid (show (encV c ++ zs 176).take 16 ++ g.take 16 ++ (encV c ++ zs 176).drop (16 + 16) = encV c ++ g ++ zs 160 by rw [List.take_append_of_le_length (by omega), List.take_of_length_le (by omega), List.take_of_length_le (l := g) (by omega), List.drop_append, List.drop_of_length_le (by omega), List.nil_append, hC, zs_drop])
  have H3 := Lib.hid (show (encV c ++ g ++ zs 160).take 32 ++ b.take 160 ++ (encV c ++ g ++ zs 160).drop (32 + 160) = encV c ++ g ++ b by rw [List.take_append_of_le_length (by rw [List.length_append]; omega), List.take_of_length_le (by rw [List.length_append]; omega), List.take_of_length_le (l := b) (by omega), List.drop_of_length_le (by rw [List.length_append, List.length_append, zs_length]; omega), List.append_nil])
  have H1l := zs_length 192
  have H2l := show (encV c ++ zs 176).length = 192 by rw [List.length_append, hC, zs_length]
  have H3l := show (encV c ++ g ++ zs 160).length = 192 by rw [List.length_append, List.length_append, hC, hg, zs_length]
  have L1 := Lib.hid (And.intro H1l (And.intro H2l H3l))
  have L2 := Lib.hid (And.intro hC (And.intro hg hb))
  clear hid hC hg hb H1l H2l H3l
  generalize encV c ++ zs 176 = X1 at *
  generalize encV c ++ g ++ zs 160 = X2 at *
  generalize encV c ++ g ++ b = X3 at *
  generalize encV c = C at *
  generalize encE c = er at *
  go_enter Tryz.func71, Tryz.ntmps71
  go_wp2_with fail
  generalize hW : World.alloc _ _ = W0
  have R0x0 := Lib.hid (show RowAt W0 (w.heap.size) (cmdA c) by rw [← hW]; clear hW; exact ⟨by go_simp, by first | (go_simp; done) | (go_simp; rfl), by go_simp⟩)
  have R0x1 := Lib.hid (show RowAt W0 (w.heap.size + 1) (bysA g) by rw [← hW]; clear hW; exact ⟨by go_simp, by first | (go_simp; done) | (go_simp; rfl), by go_simp⟩)
  have R0x2 := Lib.hid (show RowAt W0 (w.heap.size + 1 + 1) (bysA b) by rw [← hW]; clear hW; exact ⟨by go_simp, by first | (go_simp; done) | (go_simp; rfl), by go_simp⟩)
  have R0x3 := Lib.hid (show RowAt W0 (w.heap.size + 1 + 1 + 1) (bysA (zs 192)) by rw [← hW]; clear hW; exact ⟨by go_simp, by first | (go_simp; done) | (go_simp; rfl), by go_simp⟩)
  have R0x4 := Lib.hid (show RowAt W0 (w.heap.size + 1 + 1 + 1 + 1) (bysA (zs 192)) by rw [← hW]; clear hW; exact ⟨by go_simp, by first | (go_simp; done) | (go_simp; rfl), by go_simp⟩)
  have B0 := Lib.hid (show Below w.heap.size w W0 by rw [← hW]; repeat (first | apply below_alloc | exact Below.refl _ _))
  clear hW
  have hzs192 := bysA_size' (zs_length 192)
  have l_x : w.heap.size ≤ w.heap.size := by omega
  have l_y : w.heap.size ≤ w.heap.size + 1 := by omega
  have n_x_y : w.heap.size ≠ w.heap.size + 1 := by omega
  have l_b0 : w.heap.size ≤ w.heap.size + 1 + 1 := by omega
  have n_x_b0 : w.heap.size ≠ w.heap.size + 1 + 1 := by omega
  have n_y_b0 : w.heap.size + 1 ≠ w.heap.size + 1 + 1 := by omega
  have l_r : w.heap.size ≤ w.heap.size + 1 + 1 + 1 := by omega
  have n_x_r : w.heap.size ≠ w.heap.size + 1 + 1 + 1 := by omega
  have n_y_r : w.heap.size + 1 ≠ w.heap.size + 1 + 1 + 1 := by omega
  have n_b0_r : w.heap.size + 1 + 1 ≠ w.heap.size + 1 + 1 + 1 := by omega
  have l_v : w.heap.size ≤ w.heap.size + 1 + 1 + 1 + 1 := by omega
  have n_x_v : w.heap.size ≠ w.heap.size + 1 + 1 + 1 + 1 := by omega
  have n_y_v : w.heap.size + 1 ≠ w.heap.size + 1 + 1 + 1 + 1 := by omega
  have n_b0_v : w.heap.size + 1 + 1 ≠ w.heap.size + 1 + 1 + 1 + 1 := by omega
  have n_r_v : w.heap.size + 1 + 1 + 1 ≠ w.heap.size + 1 + 1 + 1 + 1 := by omega
  generalize w.heap.size + 1 + 1 + 1 + 1 = v at *
  generalize w.heap.size + 1 + 1 + 1 = r at *
  generalize w.heap.size + 1 + 1 = b0 at *
  generalize w.heap.size + 1 = y at *
  obtain ⟨x, ex⟩ : ∃ z, z = w.heap.size := ⟨_, rfl⟩
  rw [← ex] at R0x0 n_x_y n_x_b0 n_x_r n_x_v ⊢
  have l_x : w.heap.size ≤ x := by rw [ex]; exact Nat.le_refl _
  clear ex
  refine (HE.out _).mono ?_
  rintro e W1 ⟨rfl, hb1⟩
  have R1x0 := Lib.hid (R0x0.out.grow hb1)
  have R1x1 := Lib.hid (R0x1.out.grow hb1)
  have R1x2 := Lib.hid (R0x2.out.grow hb1)
  have R1x3 := Lib.hid (R0x3.out.grow hb1)
  have R1x4 := Lib.hid (R0x4.out.grow hb1)
  have B1 := Lib.hid (B0.out.trans (hb1.mono B0.out.size))
  clear hb1 B0 R0x0 R0x1 R0x2 R0x3 R0x4
  obtain ⟨R1x0a, R1x0b, R1x0c⟩ := R1x0.out
  obtain ⟨R1x1a, R1x1b, R1x1c⟩ := R1x1.out
  obtain ⟨R1x2a, R1x2b, R1x2c⟩ := R1x2.out
  obtain ⟨R1x3a, R1x3b, R1x3c⟩ := R1x3.out
  obtain ⟨R1x4a, R1x4b, R1x4c⟩ := R1x4.out
  go_wp2_with fail
  have n_x_p : x ≠ W1.heap.size := Nat.ne_of_lt R1x0.out.2.2
  have n_y_p : y ≠ W1.heap.size := Nat.ne_of_lt R1x1.out.2.2
  have n_b0_p : b0 ≠ W1.heap.size := Nat.ne_of_lt R1x2.out.2.2
  have n_r_p : r ≠ W1.heap.size := Nat.ne_of_lt R1x3.out.2.2
  have n_v_p : v ≠ W1.heap.size := Nat.ne_of_lt R1x4.out.2.2
  have l_p : w.heap.size ≤ W1.heap.size := B1.out.size
  have hb2 := below_alloc (Below.refl W1.heap.size W1) (.cells (bysA C) 28)
  have N2 := Lib.hid (RowAt.of (block_new W1 (.cells (bysA C) 28)))
  have R2x0 := Lib.hid (R1x0.out.grow hb2)
  have R2x1 := Lib.hid (R1x1.out.grow hb2)
  have R2x2 := Lib.hid (R1x2.out.grow hb2)
  have R2x3 := Lib.hid (R1x3.out.grow hb2)
  have R2x4 := Lib.hid (R1x4.out.grow hb2)
  have B2 := Lib.hid (B1.out.trans (hb2.mono B1.out.size))
  clear hb2 B1 R1x0 R1x1 R1x2 R1x3 R1x4 R1x0a R1x0b R1x0c R1x1a R1x1b R1x1c R1x2a R1x2b R1x2c R1x3a R1x3b R1x3c R1x4a R1x4b R1x4c
  generalize W1.heap.size = p at *
  generalize W1.alloc (.cells (bysA C) 28) = W2 at *
  refine wp_region_pickT W2 [0, 1] [true, true] [2] (by kernel_rfl) (by kernel_rfl) (by intro c a d v w h; cases d <;> exact h) (by first | exact (Below.refl _ _).drew | exact Below.refl _ _) ?_
  simp only [pick, List.getElem?_cons_succ, List.getElem?_cons_zero]
  iterate 2 (refine wpHoldF_late (wanted_none rfl) (fun w => by go_simp; rfl) ?_)
  refine wpHoldF_nil ?_
  intro W3 hb3
  have R3x0 := Lib.hid (R2x0.out.grow hb3)
  have R3x1 := Lib.hid (R2x1.out.grow hb3)
  have R3x2 := Lib.hid (R2x2.out.grow hb3)
  have R3x3 := Lib.hid (R2x3.out.grow hb3)
  have R3x4 := Lib.hid (R2x4.out.grow hb3)
  have R3x5 := Lib.hid (N2.out.grow hb3)
  have B3 := Lib.hid (B2.out.trans (hb3.mono B2.out.size))
  clear hb3 B2 R2x0 R2x1 R2x2 R2x3 R2x4 N2
  have hcp := copy_at (u := 0) (c2 := 192) (cap := 16) (d := 192) (s := 16) (k := 16) R3x4.out (by rw [L1.out.1]; decide) (by rw [L1.out.1]) L2.out.1.symm (by rw [L1.out.1, L2.out.1]; decide) (Bs0.some (bytes_row R3x5.out))
  rw [H1.out] at hcp
  obtain ⟨R3x0a, R3x0b, R3x0c⟩ := R3x0.out
  obtain ⟨R3x1a, R3x1b, R3x1c⟩ := R3x1.out
  obtain ⟨R3x2a, R3x2b, R3x2c⟩ := R3x2.out
  obtain ⟨R3x3a, R3x3b, R3x3c⟩ := R3x3.out
  obtain ⟨R3x4a, R3x4b, R3x4c⟩ := R3x4.out
  obtain ⟨R3x5a, R3x5b, R3x5c⟩ := R3x5.out
  go_wp2_with fail
  have R4x0 := Lib.hid (R3x0.out.other n_x_v (bysA X1))
  have R4x1 := Lib.hid (R3x1.out.other n_y_v (bysA X1))
  have R4x2 := Lib.hid (R3x2.out.other n_b0_v (bysA X1))
  have R4x3 := Lib.hid (R3x3.out.other n_r_v (bysA X1))
  have R4x4 := Lib.hid (R3x4.out.set (bysA X1))
  have R4x5 := Lib.hid (R3x5.out.other (Ne.symm n_v_p) (bysA X1))
  have B4 := Lib.hid (below_setRow B3.out l_v (bysA X1))
  clear B3 R3x0 R3x1 R3x2 R3x3 R3x4 R3x5 R3x0a R3x0b R3x0c R3x1a R3x1b R3x1c R3x2a R3x2b R3x2c R3x3a R3x3b R3x3c R3x4a R3x4b R3x4c R3x5a R3x5b R3x5c
  generalize W3.setRow v (bysA X1) = W4 at *
  refine wp_region_pickT W4 [0, 1] [true, true] [2] (by kernel_rfl) (by kernel_rfl) (by intro c a d v w h; cases d <;> exact h) (by first | exact (Below.refl _ _).drew | exact Below.refl _ _) ?_
  simp only [pick, List.getElem?_cons_succ, List.getElem?_cons_zero]
  iterate 2 (refine wpHoldF_late (wanted_none rfl) (fun w => by go_simp; rfl) ?_)
  refine wpHoldF_nil ?_
  intro W5 hb5
  have R5x0 := Lib.hid (R4x0.out.grow hb5)
  have R5x1 := Lib.hid (R4x1.out.grow hb5)
  have R5x2 := Lib.hid (R4x2.out.grow hb5)
  have R5x3 := Lib.hid (R4x3.out.grow hb5)
  have R5x4 := Lib.hid (R4x4.out.grow hb5)
  have R5x5 := Lib.hid (R4x5.out.grow hb5)
  have B5 := Lib.hid (B4.out.trans (hb5.mono B4.out.size))
  clear hb5 B4 R4x0 R4x1 R4x2 R4x3 R4x4 R4x5
  have hcp := copy_at (u := 16) (c2 := 176) (cap := 16) (d := 176) (s := 16) (k := 16) R5x4.out (by rw [L1.out.2.1]; decide) (by rw [L1.out.2.1]) L2.out.2.1.symm (by rw [L1.out.2.1, L2.out.2.1]; decide) (Bs0.some (bytes_row R5x1.out))
  rw [H2.out] at hcp
  obtain ⟨R5x0a, R5x0b, R5x0c⟩ := R5x0.out
  obtain ⟨R5x1a, R5x1b, R5x1c⟩ := R5x1.out
  obtain ⟨R5x2a, R5x2b, R5x2c⟩ := R5x2.out
  obtain ⟨R5x3a, R5x3b, R5x3c⟩ := R5x3.out
  obtain ⟨R5x4a, R5x4b, R5x4c⟩ := R5x4.out
  obtain ⟨R5x5a, R5x5b, R5x5c⟩ := R5x5.out
  go_wp2_with fail
  have R6x0 := Lib.hid (R5x0.out.other n_x_v (bysA X2))
  have R6x1 := Lib.hid (R5x1.out.other n_y_v (bysA X2))
  have R6x2 := Lib.hid (R5x2.out.other n_b0_v (bysA X2))
  have R6x3 := Lib.hid (R5x3.out.other n_r_v (bysA X2))
  have R6x4 := Lib.hid (R5x4.out.set (bysA X2))
  have R6x5 := Lib.hid (R5x5.out.other (Ne.symm n_v_p) (bysA X2))
  have B6 := Lib.hid (below_setRow B5.out l_v (bysA X2))
  clear B5 R5x0 R5x1 R5x2 R5x3 R5x4 R5x5 R5x0a R5x0b R5x0c R5x1a R5x1b R5x1c R5x2a R5x2b R5x2c R5x3a R5x3b R5x3c R5x4a R5x4b R5x4c R5x5a R5x5b R5x5c
  generalize W5.setRow v (bysA X2) = W6 at *
  refine wp_region_pickT W6 [0, 1] [true, true] [2] (by kernel_rfl) (by kernel_rfl) (by intro c a d v w h; cases d <;> exact h) (by first | exact (Below.refl _ _).drew | exact Below.refl _ _) ?_
  simp only [pick, List.getElem?_cons_succ, List.getElem?_cons_zero]
  iterate 2 (refine wpHoldF_late (wanted_none rfl) (fun w => by go_simp; rfl) ?_)
  refine wpHoldF_nil ?_
  intro W7 hb7
  have R7x0 := Lib.hid (R6x0.out.grow hb7)
  have R7x1 := Lib.hid (R6x1.out.grow hb7)
  have R7x2 := Lib.hid (R6x2.out.grow hb7)
  have R7x3 := Lib.hid (R6x3.out.grow hb7)
  have R7x4 := Lib.hid (R6x4.out.grow hb7)
  have R7x5 := Lib.hid (R6x5.out.grow hb7)
  have B7 := Lib.hid (B6.out.trans (hb7.mono B6.out.size))
  clear hb7 B6 R6x0 R6x1 R6x2 R6x3 R6x4 R6x5
  have hcp := copy_at (u := 32) (c2 := 160) (cap := 160) (d := 160) (s := 160) (k := 160) R7x4.out (by rw [L1.out.2.2]; decide) (by rw [L1.out.2.2]) L2.out.2.2.symm (by rw [L1.out.2.2, L2.out.2.2]; decide) (Bs0.some (bytes_row R7x2.out))
  rw [H3.out] at hcp
  obtain ⟨R7x0a, R7x0b, R7x0c⟩ := R7x0.out
  obtain ⟨R7x1a, R7x1b, R7x1c⟩ := R7x1.out
  obtain ⟨R7x2a, R7x2b, R7x2c⟩ := R7x2.out
  obtain ⟨R7x3a, R7x3b, R7x3c⟩ := R7x3.out
  obtain ⟨R7x4a, R7x4b, R7x4c⟩ := R7x4.out
  obtain ⟨R7x5a, R7x5b, R7x5c⟩ := R7x5.out
  go_wp2_with fail
  have R8x0 := Lib.hid (R7x0.out.other n_x_v (bysA X3))
  have R8x1 := Lib.hid (R7x1.out.other n_y_v (bysA X3))
  have R8x2 := Lib.hid (R7x2.out.other n_b0_v (bysA X3))
  have R8x3 := Lib.hid (R7x3.out.other n_r_v (bysA X3))
  have R8x4 := Lib.hid (R7x4.out.set (bysA X3))
  have R8x5 := Lib.hid (R7x5.out.other (Ne.symm n_v_p) (bysA X3))
  have B8 := Lib.hid (below_setRow B7.out l_v (bysA X3))
  clear B7 R7x0 R7x1 R7x2 R7x3 R7x4 R7x5 R7x0a R7x0b R7x0c R7x1a R7x1b R7x1c R7x2a R7x2b R7x2c R7x3a R7x3b R7x3c R7x4a R7x4b R7x4c R7x5a R7x5b R7x5c
  generalize W7.setRow v (bysA X3) = W8 at *
  obtain ⟨R8x0a, R8x0b, R8x0c⟩ := R8x0.out
  obtain ⟨R8x1a, R8x1b, R8x1c⟩ := R8x1.out
  obtain ⟨R8x2a, R8x2b, R8x2c⟩ := R8x2.out
  obtain ⟨R8x3a, R8x3b, R8x3c⟩ := R8x3.out
  obtain ⟨R8x4a, R8x4b, R8x4c⟩ := R8x4.out
  obtain ⟨R8x5a, R8x5b, R8x5c⟩ := R8x5.out
  go_wp2_with fail
  refine bodyPost_ret (v := .agg (bysA X3)) (results_wide Tryz.results71 hw _ _ _ rfl (by go_simp) (by go_simp)) rfl ⟨rfl, ?_⟩
  exact below_setRow (B8.out) l_r _
end Go.Proofs.YtddmjddlbhdcpaaGreatDoor

/-
  Noughts are laid behind bytes of one's own: append(f, make([]byte, k)...).
-/
namespace Go
theorem run_append_room_zeros {P : Program} (w : World) (t tn ty e : TypeId) (i : TypeInfo) (z : Value) (kq kn : IntKind) (ht : P.underlying t = some (.slice e)) (htn : P.underlying tn = some (.int kn)) (hi : P.info? e = some i) (hz : i.zero = some z)
    (g sLen sCap : Nat) (cur : Array Value) (hg : w.heap[g]? = some (.cells cur e (0, 0))) (k : Nat) (h0 : 0 < k) (hs : 0 < i.size) (h63 : (k : Int) ≤ 9223372036854775807) (h48 : k * i.bytes ≤ 281474976710656)
    (h1 : ∀ u ∈ (Builtin.zeroCells z.cells k).toList, u.oneCell' = true) (hroom : sLen + k ≤ sCap) (hfit : sLen * i.size + (Builtin.zeroCells z.cells k).toList.length ≤ cur.size) :
    (Builtin.append_ #[t, tn] ty #[.slice (some ⟨g, 0, none⟩) sLen sCap, .int kq k]).run P w =
      .ok (.slice (some ⟨g, 0, none⟩) (sLen + k) sCap) (w.setRow g (cur.toList.take (sLen * i.size) ++ (Builtin.zeroCells z.cells k).toList ++ cur.toList.drop (sLen * i.size + (Builtin.zeroCells z.cells k).toList.length)).toArray) := by
  have hk : k ≠ 0 := by omega
  have hw : IntKind.i64.wrap (k : Int) = k := by rw [IntKind.wrap_i64]; omega
  have h48i : ¬ (281474976710656 < (k : Int) * (i.bytes : Int)) := by
    rw [← Int.natCast_mul]
    omega
  have hneg : ¬ ((k : Int) < 0) := by omega
  have hns : ¬ (k * i.size = 0) := Nat.mul_ne_zero hk (by omega)
  have hst := run_storeCells_at P g (sLen * i.size) e (Builtin.zeroCells z.cells k).toList 0 cur w hg (by simpa using hfit) h1
  simp only [Nat.add_zero] at hst
  simp [Builtin.append_, run_underlying ht, run_underlying htn, sizeOf, typeInfo, zeroValue, hi, hz, asInt, asIntOf, hw, hroom, hneg, hns, h48i, Addr.add_lit, hst]
end Go
namespace Go.Proofs.YtddmjddlbhdcpaaGreatDoor
open Go.RowKit Go.Hold Go.Sh

theorem zeroCells_u8 (k : Nat) : Builtin.zeroCells (Value.int IntKind.u8 0).cells k = bysA (zs k) := by
  apply Array.ext_getElem?
  intro i
  by_cases h : i < k
  · rw [bysA_get _ _ (by rw [zs_length]; exact h)]
    simp [Builtin.zeroCells, Value.cells, h, zs, List.getD, Nat.mod_one]
  · rw [Array.getElem?_eq_none (by simp [Builtin.zeroCells, Value.cells]; omega), Array.getElem?_eq_none (by rw [bysA_size, zs_length]; omega)]
theorem app_zeros {w : World} {B k : Nat} {v : Value} {l : List Nat} (h : OwnB w B v l) (h0 : 0 < k) (hBw : B ≤ w.heap.size) (hlen : l.length + k ≤ 16777216) :
    ∃ v' w', (Builtin.append_ #[38, 3] 38 #[v, .int .i64 (k : Int)]).run Tryz.prog w = .ok v' w' ∧ OwnB w' B v' (l ++ zs k) ∧ w.grownBy w' v.ownBlock := by
  obtain ⟨i0, hi, hz0, hz1, hz2⟩ := info_parts info_u8
  have hbz : (bys (zs k)).length = k := by rw [bys_length, zs_length]
  have hzc := zeroCells_u8 k
  have hzl : (Builtin.zeroCells (Value.int IntKind.u8 0).cells k).toList = bys (zs k) := by rw [hzc]; rfl
  rcases h.2 with ⟨rfl, hn0⟩ | ⟨g, cap, cur, rfl, hb, hg, hcap, hm, hs, htk⟩
  · obtain rfl := List.eq_nil_of_length_eq_zero hn0
    have hr := Lib.run_append_nil_zeros (P := Tryz.prog) w 38 3 38 5 i0 _ .i64 .i64 Tryz.underlying38 Tryz.underlying3 hi hz0 k h0 (by rw [hz1]; decide) (by omega) (by rw [hz2]; omega)
    have hge := grownCap_ge w k 0 5
    have hle := grownCap_le_maxLen w k 0 5 (maxLen_small (by simpa using hlen))
    generalize grownCap w k 0 5 = c at *
    refine ⟨_, _, hr, ?_, ?_⟩
    · refine ⟨by simp [zs_length, bys_length], .inr ⟨w.heap.size, c, _, by rw [List.nil_append, zs_length], hBw, heap_alloc_new w.drew _, by rw [List.nil_append, zs_length]; exact hge, hle, ?_, ?_⟩⟩
      · rw [hzc, zeroCells_u8]; simp [bysA_size, zs_length]; omega
      · rw [hzc, zeroCells_u8, List.nil_append, zs_length, Array.toList_append, Nat.mul_one]
        show ((bys (zs k)) ++ _).take k = _
        rw [List.take_append_of_le_length (by omega), List.take_of_length_le (by omega)]
    · have hb := below_alloc ((Below.refl w.heap.size w).drew) (.cells (Builtin.zeroCells (Value.int IntKind.u8 0).cells k ++ Builtin.zeroCells (Value.int IntKind.u8 0).cells (c - k)) 5)
      exact ⟨hb.os, hb.tape, hb.output, hb.size, fun q hq _ => hb.block q hq⟩
  · have hlt := (Array.getElem?_eq_some_iff.1 hg).1
    by_cases hroom : l.length + k ≤ cap
    · have hr := run_append_room_zeros (P := Tryz.prog) w 38 3 38 5 i0 _ .i64 .i64 Tryz.underlying38 Tryz.underlying3 hi hz0 g l.length cap cur hg k h0 (by rw [hz1]; decide) (by omega) (by rw [hz2]; omega)
        (by rw [hzl]; exact bys_one _) hroom (by rw [hzl, hbz, hz1, hs]; omega)
      rw [hzl, hbz, hz1, Nat.mul_one] at hr
      have hcl : cur.toList.length = cap * 1 := by rw [Array.length_toList, hs]
      have hl1 : (cur.toList.take l.length).length = l.length := by rw [List.length_take, hcl]; omega
      refine ⟨_, _, hr, ?_, ?_⟩
      · refine ⟨by simp [bys_length], .inr ⟨g, cap, (cur.toList.take l.length ++ bys (zs k) ++ cur.toList.drop (l.length + k)).toArray, by rw [List.length_append, zs_length], hb, ?_, by rw [List.length_append, zs_length]; exact hroom, hm, ?_, ?_⟩⟩
        · simp only [World.setRow, Array.getElem?_modify, if_pos, hg]; rfl
        · rw [List.size_toArray, List.length_append, List.length_append, hl1, hbz, List.length_drop, hcl]; omega
        · rw [Nat.mul_one] at htk
          rw [Nat.mul_one, List.length_append, zs_length, List.take_append_of_le_length (by rw [List.length_append, hl1, hbz]; exact Nat.le_refl _), List.take_of_length_le (by rw [List.length_append, hl1, hbz]; exact Nat.le_refl _), htk, bys, bys, bys, List.map_append]
      · exact ⟨rfl, rfl, rfl, by rw [size_setRow]; exact Nat.le_refl _, fun q _ hne => setRow_other w g q _ (fun e => hne (by rw [e]; rfl))⟩
    · have hold := run_firstCells_some (P := Tryz.prog) w.drew i0.size l.length ⟨g, 0, none⟩ l.length cap (bys l) (by rw [hz1, bys_length, Nat.mul_one]) (by simpa using bys_at (h.bytes hlt))
      have hr := Lib.run_append_grow_zeros (P := Tryz.prog) w 38 3 38 5 i0 _ .i64 .i64 Tryz.underlying38 Tryz.underlying3 hi hz0 (some ⟨g, 0, none⟩) l.length cap (bys l) hold k h0 (by rw [hz1]; decide) (by omega) (by omega) (by rw [hz2]; omega) (by rw [hz2]; exact growslice_fits (by omega) (by omega))
      have hge := grownCap_ge w (l.length + k) cap 5
      have hle := grownCap_le_maxLen w (l.length + k) cap 5 (maxLen_small hlen)
      generalize grownCap w (l.length + k) cap 5 = c at *
      refine ⟨_, _, hr, ?_, ?_⟩
      · refine ⟨by simp [bys_length], .inr ⟨w.heap.size, c, _, by rw [List.length_append, zs_length], hBw, heap_alloc_new w.drew _, by rw [List.length_append, zs_length]; exact hge, hle, ?_, ?_⟩⟩
        · rw [hzc, zeroCells_u8]; simp [bysA_size, zs_length, bys_length]; omega
        · rw [hzc, zeroCells_u8, List.length_append, zs_length, Nat.mul_one]
          simp only [Array.toList_append, bysA]
          rw [List.take_append_of_le_length (by rw [List.length_append, bys_length, hbz]; exact Nat.le_refl _), List.take_of_length_le (by rw [List.length_append, bys_length, hbz]; exact Nat.le_refl _), bys, bys, bys, List.map_append]
      · have hb := below_alloc ((Below.refl w.heap.size w).drew) (.cells ((bys l).toArray ++ Builtin.zeroCells (Value.int IntKind.u8 0).cells k ++ Builtin.zeroCells (Value.int IntKind.u8 0).cells (c - (l.length + k))) 5)
        exact ⟨hb.os, hb.tape, hb.output, hb.size, fun q hq _ => hb.block q hq⟩
end Go.Proofs.YtddmjddlbhdcpaaGreatDoor

/-
  Slices of rows of one size: rows that are read; slices of one's own to which rows are appended. Of no one type.
-/
namespace Go.Proofs.YtddmjddlbhdcpaaGreatDoor
open Go.RowKit Go.Hold Go.Sh

/-- Rows of C cells that lie in a slice. -/
def RowsAt (C : Nat) (w : World) (p : Option Addr) (ls : List (Array Value)) : Prop := ∀ i x, ls[i]? = some x → ∃ g o, p = some ⟨g, o, none⟩ ∧ g < w.heap.size ∧ w.rangeAt g (o + i * C) x.toList
theorem RowsAt.grow {C : Nat} {w w' : World} {p : Option Addr} {ls : List (Array Value)} (h : RowsAt C w p ls) (hb : Below w.heap.size w w') : RowsAt C w' p ls := fun i x hx => by
  obtain ⟨g, o, hp, hg, hr⟩ := h i x hx
  refine ⟨g, o, hp, Nat.lt_of_lt_of_le hg hb.size, fun j v hv => ?_⟩
  have := hr j v hv
  rw [World.cell?_of_block (hb.block g hg)]
  exact this
theorem RowsAt.nil (C : Nat) (w : World) (p : Option Addr) : RowsAt C w p [] := fun i x hx => by simp at hx
theorem RowsAt.take {C : Nat} {w : World} {p : Option Addr} {ls : List (Array Value)} (h : RowsAt C w p ls) (n : Nat) : RowsAt C w p (ls.take n) := fun i x hx => h i x (by
  rw [List.getElem?_take] at hx
  split at hx
  · exact hx
  · cases hx)
/-- One of them, by value. -/
theorem RowsAt.load {C : Nat} {t : TypeId} {d : TypeDesc} (hu : Tryz.prog.underlying t = some d) (hd : d.isRow = true) (hi : (Tryz.prog.info? t).map (·.size) = some C) {w : World} {p : Option Addr} {ls : List (Array Value)} (h : RowsAt C w p ls) {i : Nat} {x : Array Value} (hx : ls[i]? = some x) (hxs : x.size = C) :
    ∃ g o, p = some ⟨g, o, none⟩ ∧ g < w.heap.size ∧ (loadRow t (.pointer (some ⟨g, o + i * C, none⟩))).run Tryz.prog w = .ok (.agg x) w := by
  obtain ⟨g, o, hp, hg, hr⟩ := h i x hx
  refine ⟨g, o, hp, hg, ?_⟩
  have := run_loadAt_mid (P := Tryz.prog) w g (o + i * C) t _ _ hr hu hd (by rw [hi]; simp [hxs])
  rw [Array.toArray_toList] at this
  exact this
/-- A part of one of them, by value. -/
theorem RowsAt.part {C k K : Nat} {t : TypeId} {d : TypeDesc} (hu : Tryz.prog.underlying t = some d) (hd : d.isRow = true) (hi : (Tryz.prog.info? t).map (·.size) = some K) {w : World} {p : Option Addr} {ls : List (Array Value)} (h : RowsAt C w p ls) {i : Nat} {x : Array Value} (hx : ls[i]? = some x) (hxs : k + K ≤ x.size) :
    ∃ g o, p = some ⟨g, o, none⟩ ∧ g < w.heap.size ∧ (loadRow t (.pointer (some ⟨g, o + i * C + k, none⟩))).run Tryz.prog w = .ok (.agg (x.extract k (k + K))) w := by
  obtain ⟨g, o, hp, hg, hr⟩ := h i x hx
  refine ⟨g, o, hp, hg, ?_⟩
  have hr' : w.rangeAt g (o + i * C + k) (x.extract k (k + K)).toList := fun j v hv => by
    rw [Array.getElem?_toList, Array.getElem?_extract] at hv
    split at hv
    · have := hr (k + j) v (by rw [Array.getElem?_toList]; exact hv)
      rw [← Nat.add_assoc] at this
      exact this
    · cases hv
  have := run_loadAt_mid (P := Tryz.prog) w g (o + i * C + k) t _ _ hr' hu hd (by rw [hi]; simp; omega)
  rw [Array.toArray_toList] at this
  exact this
/-- All their cells. -/
def flatR (ls : List (Array Value)) : List Value := ls.flatMap Array.toList
theorem flatR_length {C : Nat} : ∀ {ls : List (Array Value)}, (∀ x ∈ ls, x.size = C) → (flatR ls).length = ls.length * C
  | [], _ => by simp [flatR]
  | a :: ls, h => by
    show (a.toList ++ flatR ls).length = _
    rw [List.length_append, flatR_length fun x hx => h x (List.mem_cons_of_mem _ hx), List.length_cons, Array.length_toList, h a List.mem_cons_self, Nat.add_mul]; omega
theorem flatR_get {C : Nat} : ∀ {ls : List (Array Value)} (_ : ∀ x ∈ ls, x.size = C) (q j : Nat) (a : Array Value), ls[q]? = some a → j < C → (flatR ls)[q * C + j]? = a[j]?
  | [], _, q, j, a, h, _ => by simp at h
  | b :: ls, hs, 0, j, a, h, hj => by
    simp at h; subst h
    show (b.toList ++ flatR ls)[0 * C + j]? = _
    rw [Nat.zero_mul, Nat.zero_add, List.getElem?_append_left (by rw [Array.length_toList, hs b List.mem_cons_self]; exact hj), Array.getElem?_toList]
  | b :: ls, hs, q + 1, j, a, h, hj => by
    have := flatR_get (ls := ls) (fun x hx => hs x (List.mem_cons_of_mem _ hx)) q j a (by simpa using h) hj
    show (b.toList ++ flatR ls)[(q + 1) * C + j]? = _
    have hb : b.toList.length = C := by rw [Array.length_toList, hs b List.mem_cons_self]
    rw [List.getElem?_append_right (by rw [hb, Nat.add_mul]; omega), hb, ← this]
    congr 1
    rw [Nat.add_mul]; omega
theorem flatR_snoc (ls : List (Array Value)) (a : Array Value) : flatR (ls ++ [a]) = flatR ls ++ a.toList := by simp [flatR]
/-- A slice of rows of one's own. -/
structure OwnR (w : World) (B : Nat) (e : TypeId) (C : Nat) (v : Value) (ls : List (Array Value)) : Prop where
  own : w.ownsRow B e C v ls.length (flatR ls)
  sizes : ∀ x ∈ ls, x.size = C
theorem OwnR.nil (w : World) (B : Nat) (e : TypeId) (C : Nat) : OwnR w B e C (.slice none 0 0) [] := ⟨World.ownsRow_nil w B _ _, fun x hx => by simp at hx⟩
theorem OwnR.moves {w w' : World} {B g C : Nat} {e : TypeId} {a : Option Nat} {v : Value} {ls : List (Array Value)} (h : OwnR w B e C v ls) (m : Moves w g a w') (hg : v.ownBlock ≠ some g) (ha : ∀ k, v.ownBlock = some k → a ≠ some k) : OwnR w' B e C v ls := by
  refine ⟨⟨h.own.1, ?_⟩, h.sizes⟩
  rcases h.own.2 with hn | ⟨g0, cap, cur, rfl, hb, hx, rest⟩
  · exact .inl hn
  · exact .inr ⟨g0, cap, cur, rfl, hb, by
      rw [m.block g0 (Array.getElem?_eq_some_iff.1 hx).1 (fun e => hg (by rw [e]; rfl)) (fun e => ha g0 rfl e.symm)]; exact hx, rest⟩
theorem OwnR.grow {w w' : World} {B C : Nat} {e : TypeId} {v : Value} {ls : List (Array Value)} (h : OwnR w B e C v ls) (hb : Below w.heap.size w w') : OwnR w' B e C v ls := by
  have hl := World.ownsRow.lt h.own
  exact h.moves (g := w.heap.size) (a := none) (Moves.of _ _ hb) (fun e => by have := (hl _ e).2; omega) (fun _ _ e => by cases e)
theorem OwnR.kept {w w' : World} {B C : Nat} {e : TypeId} {v : Value} {ls : List (Array Value)} {row : Option Nat} (h : OwnR w B e C v ls) (hg : w.grownBy w' row) (hne : v.ownBlock = none ∨ v.ownBlock ≠ row) : OwnR w' B e C v ls := ⟨World.ownsRow.kept h.own hg hne, h.sizes⟩
theorem OwnR.ltb {w : World} {B C : Nat} {e : TypeId} {v : Value} {ls : List (Array Value)} (h : OwnR w B e C v ls) (k : Nat) (hk : v.ownBlock = some k) : B ≤ k ∧ k < w.heap.size := World.ownsRow.lt h.own k hk
theorem OwnR.form {w : World} {B C : Nat} {e : TypeId} {v : Value} {ls : List (Array Value)} (h : OwnR w B e C v ls) : ∃ p c, v = .slice p ls.length c ∧ RowsAt C w p ls ∧ ls.length ≤ c ∧ (p = none → c = 0) ∧ (0 < ls.length → ∃ g, p = some ⟨g, 0, none⟩ ∧ g < w.heap.size) := by
  rcases h.own.2 with ⟨rfl, h0⟩ | ⟨g, cap, cur, rfl, hb, hg, hcap, _⟩
  · obtain rfl := List.eq_nil_of_length_eq_zero h0
    exact ⟨none, 0, rfl, RowsAt.nil _ _ _, Nat.le_refl _, fun _ => rfl, fun h => by simp at h⟩
  · have hlt := (Array.getElem?_eq_some_iff.1 hg).1
    refine ⟨some ⟨g, 0, none⟩, cap, rfl, fun i x hx => ⟨g, 0, rfl, hlt, fun j v hv => ?_⟩, hcap, fun h => by (cases h), fun _ => ⟨g, rfl, hlt⟩⟩
    obtain ⟨hi, hix⟩ := List.getElem?_eq_some_iff.1 hx
    have hxs : x.size = C := h.sizes x (by rw [← hix]; exact List.getElem_mem hi)
    have hj : j < C := by
      have := (List.getElem?_eq_some_iff.1 hv).1
      simpa [hxs] using this
    have hlen : i * C + j < ls.length * C := by
      have : (i + 1) * C ≤ ls.length * C := Nat.mul_le_mul_right _ hi
      rw [Nat.add_mul] at this; omega
    rw [Nat.zero_add, World.ownsRow.cellAt h.own (i * C + j) (by omega), flatR_get h.sizes i j x hx hj, ← hv, Array.getElem?_toList]
/-- One row more. -/
theorem app_row {C Y : Nat} {t e : TypeId} {z : Value} (ht : Tryz.prog.underlying t = some (.slice e)) (hinfo : (Tryz.prog.info? e).map (fun i => (i.zero, i.size, i.bytes)) = some (some z, C, Y)) (hz : z.cells.size = C) (hC : 0 < C) (hY : Y ≤ 1000)
    {w : World} {B gn o : Nat} {v : Value} {ls : List (Array Value)} {x : Array Value} (h : OwnR w B e C v ls) (hn : w.rangeAt gn o x.toList) (hx : x.size = C) (h1 : oneAll x = true) (hBw : B ≤ w.heap.size) (hlen : ls.length ≤ 1000) :
    ∃ v' w', (Builtin.append_ #[t, t] t #[v, .slice (some ⟨gn, o, none⟩) 1 1]).run Tryz.prog w = .ok v' w' ∧ OwnR w' B e C v' (ls ++ [x]) ∧ w.grownBy w' v.ownBlock ∧ NewB w v.ownBlock v'.ownBlock := by
  obtain ⟨i0, hi, hz0, hz1, hz2⟩ := info_parts hinfo
  have hnews : ∀ j u, x.toList[j]? = some u → w.cell? ((⟨gn, o, none⟩ : Addr).add j) = some u := fun j u hu => by
    rw [Addr.add_mid]
    exact hn j u hu
  have hone : ∀ u ∈ x.toList, u.oneCell' = true := fun u hu => (Array.all_eq_true_iff_forall_mem.1 h1) u (by simpa using hu)
  have hYn : ∀ n, n ≤ 1001 → n * Y ≤ 1001000 := fun n hn => Nat.le_trans (Nat.mul_le_mul hn hY) (by decide)
  obtain ⟨v', w', g1, g2, g3, g4⟩ := run_append_own (P := Tryz.prog) w B t t e i0 z C Y ht hi hz0 hz1 hz2 hz hC v ls.length (flatR ls) h.own ⟨gn, o, none⟩ 1 1 x.toList (by rw [Array.length_toList, hx, Nat.one_mul]) hnews hone (maxLen_small (by omega)) (Nat.le_trans (hYn _ (by omega)) (by decide)) hBw
  have g2' : OwnR w' B e C v' (ls ++ [x]) := ⟨by rw [List.length_append, flatR_snoc]; exact g2, fun y hy => by
    rcases List.mem_append.1 hy with hy | hy
    · exact h.sizes y hy
    · rw [List.mem_singleton.1 hy, hx]⟩
  refine ⟨v', w', g1, g2', g3, ?_⟩
  rcases h.own.2 with ⟨rfl, h0⟩ | ⟨g0, cap0, cur, rfl, hb, hgg, hc, hm, hs, htk⟩
  · have hr := run_append_nil (P := Tryz.prog) w t t e i0 _ ht hi hz0 ⟨gn, o, none⟩ 1 1 x.toList (by rw [hz1, Array.length_toList, hx, Nat.one_mul]) hnews (by decide) (by decide) (by rw [hz2]; exact Nat.le_trans (hYn 1 (by decide)) (by decide))
    rw [g1] at hr
    cases hr
    intro k hk
    simp only [Value.ownBlock, Option.some.injEq] at hk
    exact .inr (by omega)
  · by_cases hroom : ls.length + 1 ≤ cap0
    · have hfit : ls.length * i0.size + x.toList.length ≤ cur.size := by
        have hxl : x.toList.length = C := by rw [Array.length_toList, hx]
        have : (ls.length + 1) * C ≤ cap0 * C := Nat.mul_le_mul_right _ hroom
        rw [Nat.add_mul] at this
        rw [hz1, hs, hxl]; omega
      have hr := run_append_room (P := Tryz.prog) w t t e i0 ht hi g0 ls.length cap0 cur hgg ⟨gn, o, none⟩ 1 1 x.toList (by rw [hz1, Array.length_toList, hx, Nat.one_mul]) hnews hone hroom hfit
      rw [g1] at hr
      cases hr
      exact NewB.refl _ _
    · have hr := run_append_grow (P := Tryz.prog) w t t e i0 _ ht hi hz0 ⟨g0, 0, none⟩ ls.length cap0 (flatR ls) (by rw [hz1]; exact flatR_length h.sizes) (World.ownsRow.cells h.own (g := g0) rfl) ⟨gn, o, none⟩ 1 1 x.toList (by rw [hz1, Array.length_toList, hx, Nat.one_mul]) hnews (by omega) (by omega) (by rw [hz2]; exact growslice_fits (by omega) (Nat.le_trans (hYn _ (by omega)) (by decide)))
      rw [g1] at hr
      cases hr
      intro k hk
      simp only [Value.ownBlock, Option.some.injEq] at hk
      exact .inr (by omega)
theorem range_of_row {w : World} {n : Nat} {c : Array Value} (h : RowAt w n c) : w.rangeAt n 0 c.toList := by
  have := range_row h 0 c.size
  rwa [Nat.zero_add, Array.extract_size] at this
end Go.Proofs.YtddmjddlbhdcpaaGreatDoor

/-
  The reference of layer 5: a word that is turned, a word out of bytes, a quarter.
-/
namespace Go.Proofs.YtddmjddlbhdcpaaGreatDoor
open Go.RowKit Go.Hold Go.Sh Go.Ch

/-! ### A word out of bytes -/
/-! ### A quarter -/
end Go.Proofs.YtddmjddlbhdcpaaGreatDoor

/-
  The reference of layer 5: a block's first words.
-/
namespace Go.Proofs.YtddmjddlbhdcpaaGreatDoor
open Go.RowKit Go.Hold Go.Sh Go.Ch

set_option maxRecDepth 100000 in
@[go_sem] theorem run_bldB4 (w : World) (a b c d : Nat) : (bldB 4 #[(0, .int .u8 (a : Int)), (1, .int .u8 (b : Int)), (2, .int .u8 (c : Int)), (3, .int .u8 (d : Int))]).run Tryz.prog w = .ok (.slice (some ⟨w.heap.size, 0, none⟩) 4 4) (w.alloc (.cells (bysA [a, b, c, d]) 5)) := by
  obtain ⟨ie, h1, h2, h3, _⟩ := info_parts info_u8
  refine run_buildSlice w _ _ 4 _ (bysA [a, b, c, d]) ie _ Tryz.underlying38 h1 h2 (by rw [h3]; decide) (by rw [h3]; decide) ?_
  rw [h3]; kernel_rfl
@[go_sem ↓] theorem fold_bldC (ps : Array (Nat × Value)) : Instr.buildSlice 179 4 ps = bldS 179 4 ps := rfl
set_option maxRecDepth 100000 in
@[go_sem] theorem run_bldC (w : World) : (bldS 179 4 #[(0, .int .u32 1634760805), (1, .int .u32 857760878), (2, .int .u32 2036477234), (3, .int .u32 1797285236)]).run Tryz.prog w = .ok (.slice (some ⟨w.heap.size, 0, none⟩) 4 4) (w.alloc (.cells (wosA cst) 129)) := by
  obtain ⟨ie, h1, h2, h3, _⟩ := info_parts info_u32
  refine run_buildSlice w _ _ 4 _ (wosA cst) ie _ Tryz.underlying179 h1 h2 (by rw [h3]; decide) (by rw [h3]; decide) ?_
  rw [h3]; kernel_rfl
end Go.Proofs.YtddmjddlbhdcpaaGreatDoor

/-
  The reference of layer 5: a block.
-/
namespace Go.Proofs.YtddmjddlbhdcpaaGreatDoor
open Go.RowKit Go.Hold Go.Sh Go.Ch

theorem Sets.words {w w' : World} {g b : Nat} {c : Array Value} {l : List Int} (s : Sets w g c w') (h : WordsAt w b l) (hn : b ≠ g) : WordsAt w' b l := by
  obtain ⟨os, d, rfl⟩ := s
  have h1 : WordsAt (w.setRow g c) b l := ⟨by rw [size_setRow]; exact h.1, fun i hi => by rw [World.cell?_of_block (w := w) (setRow_other w g b c hn)]; exact h.2 i hi⟩
  exact h1.grow (below_more (Below.refl _ _) os d)
end Go.Proofs.YtddmjddlbhdcpaaGreatDoor

/-
  The reference of layer 5: so many bytes of a stream; bytes that are turned.
-/
namespace Go.Ch
open Go Go.Sh
end Go.Ch
namespace Go.Proofs.YtddmjddlbhdcpaaGreatDoor
open Go.RowKit Go.Hold Go.Sh Go.Ch

theorem rowAt_grown {w w' : World} {g : Nat} {c : Array Value} {r : Option Nat} (h : RowAt w g c) (hg : w.grownBy w' r) (hn : r ≠ some g) : RowAt w' g c := by
  obtain ⟨t, ht⟩ := h.block
  exact RowAt.of (t := t) (by rw [hg.block g h.2.2 (by intro e; exact hn (by rw [e]))]; exact ht)
end Go.Proofs.YtddmjddlbhdcpaaGreatDoor

/-
  Package header: the filler.
-/
namespace Go.Proofs.YtddmjddlbhdcpaaGreatDoor
open Go.RowKit Go.Hold Go.Sh Go.Ch Go.Cm Go.Hd

/-- A key of a slice, by value. -/
theorem loadKeyAt {w : World} {p : Option Addr} {ss : List (List Nat)} (hR : RowsAt 32 w p (ss.map bysA)) {j : Nat} {s : List Nat} (hj : ss[j]? = some s) (hs : s.length = 32) :
    ∃ g o, p = some ⟨g, o, none⟩ ∧ g < w.heap.size ∧ (loadRow 23 (.pointer (some ⟨g, o + j * 32, none⟩))).run Tryz.prog w = .ok (.agg (bysA s)) w :=
  hR.load Tryz.underlying23 rfl (by kernel_rfl) (by rw [List.getElem?_map, hj]; rfl) (by rw [bysA_size, hs])
theorem app_zeros32 {w : World} {B : Nat} {v : Value} {l : List Nat} (h : OwnB w B v l) (hBw : B ≤ w.heap.size) (hlen : l.length + 32 ≤ 16777216) :
    ∃ v' w', (Builtin.append_ #[38, 3] 38 #[v, .int .i64 32]).run Tryz.prog w = .ok v' w' ∧ OwnB w' B v' (l ++ zs 32) ∧ w.grownBy w' v.ownBlock := app_zeros (k := 32) h (by decide) hBw hlen
theorem BytesAt.from {w : World} {b o : Nat} {l : List Nat} (h : BytesAt w b o l) (n : Nat) : BytesAt w b (o + n) (l.drop n) :=
  ⟨h.1, fun i hi => by
    rw [List.length_drop] at hi
    rw [Nat.add_assoc, h.2 (n + i) (by omega)]
    simp [List.getD, List.getElem?_drop]⟩
/-- What is wide, or a beta, from a place on. -/
theorem sl_wide (b u : Nat) (hu : u < 192) (W : World) : (Instr.sliceAt 99 (.pointer (some ⟨b, 0, none⟩)) (some (.int .i64 (u : Int))) none none).run Tryz.prog W = .ok (.slice (some ⟨b, u, none⟩) (192 - u) (192 - u)) W := by
  have hl : Tryz.prog.arrayLen 99 = 192 := by kernel_rfl
  have hs : (sizeOf (Tryz.prog.elem 99)).run Tryz.prog W = .ok 1 W := by kernel_rfl
  have h1 := run_sliceAt_array_l (P := Tryz.prog) W 99 ⟨b, 0, none⟩ (by kernel_rfl) .i64 (u : Int) (by omega) (by rw [hl]; omega)
  rw [h1, hs, hl]
  simp only [Result.andThen_ok, slicedAt, Int.toNat_natCast, Nat.mul_one, Addr.add_mid, Nat.zero_add]
  rw [if_neg (by omega)]
theorem sl_beta (b u : Nat) (hu : u ≤ 160) (W : World) : (Instr.sliceAt 27 (.pointer (some ⟨b, 0, none⟩)) (some (.int .i64 (u : Int))) none none).run Tryz.prog W = .ok (.slice (some ⟨b, if u = 160 then 0 else u, none⟩) (160 - u) (160 - u)) W := by
  have hl : Tryz.prog.arrayLen 27 = 160 := by kernel_rfl
  have hs : (sizeOf (Tryz.prog.elem 27)).run Tryz.prog W = .ok 1 W := by kernel_rfl
  have h1 := run_sliceAt_array_l (P := Tryz.prog) W 27 ⟨b, 0, none⟩ (by kernel_rfl) .i64 (u : Int) (by omega) (by rw [hl]; omega)
  rw [h1, hs, hl]
  simp only [Result.andThen_ok, slicedAt, Int.toNat_natCast, Nat.mul_one, Addr.add_mid, Nat.zero_add]
  by_cases e : u = 160
  · rw [if_pos e.symm, if_pos e]
  · rw [if_neg (fun h => e h.symm), if_neg e]
/-- Bytes of one's own that are turned where they lie. -/
theorem OwnB.xored {w : World} {B g m c : Nat} {l : List Nat} (h : OwnB w B (.slice (some ⟨g, 0, none⟩) m c) l) (x : List Nat) (hx : x.length = l.length) :
    ∃ cur, RowAt w g cur ∧ FrontB cur l ∧ ∀ w', Sets w g (xorC cur l x l.length) w' → OwnB w' B (.slice (some ⟨g, 0, none⟩) m c) (mixd l x) := by
  rcases h.2 with ⟨h0, _⟩ | ⟨g', cap, cur, e, hb, hg, hcap, hm, hs, htk⟩
  · cases h0
  · cases e
    rw [Nat.mul_one] at hs htk
    have hf : FrontB cur l := ⟨by rw [hs]; exact hcap, fun i hi => by
      have h1 : (bys l)[i]? = some (.int .u8 ((l.getD i 0 : Nat) : Int)) := by simp [bys, hi]
      rw [← htk, List.getElem?_take, if_pos hi, Array.getElem?_toList] at h1
      exact h1⟩
    refine ⟨cur, RowAt.of hg, hf, fun w' hset => ?_⟩
    have hlt := (Array.getElem?_eq_some_iff.1 hg).1
    have hml : (mixd l x).length = l.length := by rw [mixd_length, hx]
    have hbk : w'.heap[g]? = some (.cells (xorC cur l x l.length) 5 (0, 0)) := by
      obtain ⟨os, d, rfl⟩ := hset
      rw [World.plus_block _ _ _ _ (by rw [size_setRow]; exact hlt)]
      simp only [World.setRow, Array.getElem?_modify, if_pos, hg]; rfl
    refine ⟨by rw [hml]; simp [bys_length, mixd_length, hx], .inr ⟨g, c, _, by rw [hml], hb, hbk, by rw [hml]; exact hcap, hm, ?_, ?_⟩⟩
    · unfold xorC; rw [setL_size, Nat.mul_one]; exact hs
    · unfold xorC
      have h1 := setL_front cur 0 (bys ((mixd l x).take l.length)) (by rw [bys_length, List.length_take, hml]; omega)
      rw [Nat.zero_add, bys_length, List.length_take, hml, Nat.min_self, List.take_zero, List.nil_append] at h1
      rw [hml, Nat.mul_one, h1, List.take_of_length_le (by omega)]
set_option maxHeartbeats 1000000 in
set_option maxRecDepth 100000 in
theorem hfiller_c (ss : List (List Nat)) (p : Option Addr) (n cap : Nat) (hs : ∀ s ∈ ss, s.length = 32) (hsb : ∀ s ∈ ss, ∀ i, s.getD i 0 < 256) (hn : n = ss.length) (h5 : n ≤ 5) (w : World) (hT : Tabs w) (hR : RowsAt 32 w p (ss.map bysA)) :
    Calls Tryz.prog 101 #[.slice p n cap] w fun e w' => ∃ v, e = .returned v ∧ OwnB w' w.heap.size v (fil ss) ∧ Below w.heap.size w w' := by
  have HT := Lib.hid hT
  have HR := Lib.hid hR
  have Hn := Lib.hid hn
  have H5 := Lib.hid h5
  have i5 : ¬ (5 : Int) < (n : Int) := by omega
  have hhs : ∀ s : List Nat, (bysA (hst s)).size = 192 := fun s => bysA_size' (hst_length s)
  have hz192 := bysA_size' (zs_length 192)
  have Hs := Lib.hid hs
  have Hsb := Lib.hid hsb
  clear hT hR hn h5 hs hsb
  go_enter Tryz.func101, Tryz.ntmps101
  go_wp2_with fail
  go_loopw [3, 9] (fun f i wr => ∃ (v : Value) (k : Nat), v = f ∧ k ≤ n ∧ i = .int .i64 k ∧ OwnB wr w.heap.size v (fil (ss.take k)) ∧ Below w.heap.size w wr) (fun _ i _ => n - (intOf i).toNat)
  case atStart => exact ⟨_, 0, rfl, Nat.zero_le _, rfl, own_nil w _, Below.refl _ _⟩
  case round =>
    obtain ⟨v, k, rfl, hk, rfl, hown, hbel⟩ := hrel
    by_cases hkn : k < n
    · have hk1 : (k : Int) < (n : Int) := by omega
      obtain ⟨s, hj⟩ : ∃ s, ss[k]? = some s := ⟨_, List.getElem?_eq_getElem (by rw [← Hn.out]; exact hkn)⟩
      have hm := List.mem_of_getElem? hj
      have hs32 := Hs.out s hm
      obtain ⟨g, o, ep, hg, hld⟩ := loadKeyAt (HR.out.grow hbel) hj hs32
      subst ep
      have hss := bysA_size' hs32
      have HS := Lib.hid (fun (W : World) (h : Tabs W) => hstream_c s hs32 (Hsb.out s hm) W h)
      have Hf := Lib.hid (show fil (ss.take (k + 1)) = mixd ((hst s).drop (192 - ((fil (ss.take k)).length + 32))) (fil (ss.take k) ++ zs 32) by rw [List.take_add_one, hj]; exact fil_snoc _ _)
      have hfl : (fil (ss.take k)).length = 32 * k := by rw [fil_length, List.length_take, ← Hn.out]; omega
      have Hfl := Lib.hid hfl
      have Hfb := Lib.hid (fil_bts (ss.take k))
      rw [hfl] at Hf
      obtain ⟨m, em⟩ : ∃ m, m = 32 * k + 32 := ⟨_, rfl⟩
      have hm5 : m ≤ 160 := by have := H5.out; omega
      rw [← em] at Hf
      generalize fil (ss.take k) = F at *
      have Em := Lib.hid em
      have HO := Lib.hid hown
      have Hbel := Lib.hid hbel
      have BA := below_alloc (Below.refl wr.heap.size wr) (.cells (bysA s) 23)
      have R1 := RowAt.of (block_new wr (.cells (bysA s) 23))
      have B1 := hbel.trans (BA.mono hbel.size)
      obtain ⟨v2, W2, hr, ho2, hg2⟩ := app_zeros32 (hown.below BA) B1.size (by rw [hfl]; omega)
      have B2 := Lib.hid (own_below B1 (hown.below BA) B1.size hg2)
      have S2 := Lib.hid (rowAt_grown R1 hg2 (fun e => by have := (hown.ltb _ e).2; omega))
      have O2 := Lib.hid ho2
      have L2 := Lib.hid (show wr.heap.size < W2.heap.size from Nat.lt_of_lt_of_le R1.2.2 hg2.size)
      clear hown hbel hj hm hfl hs32 em BA R1 B1 ho2 hg2
      obtain ⟨s1, s2, s3⟩ := S2.out
      go_wp2_with (at_builtin; refine Lib.wpList_append_run _ rfl _ _ _ _ rfl _ _ rfl rfl _ _ hr ?_)
      clear hr hld
      generalize wr.heap.size = b at *
      go_wp2_with fail
      refine (HS.out _ (HT.out.grow B2.out)).mono ?_
      rintro e W3 ⟨rfl, hb3⟩
      have O3 := Lib.hid (O2.out.below hb3)
      have B3 := Lib.hid (B2.out.trans (hb3.mono B2.out.size))
      clear hb3 s1 s2 s3 S2
      have hm0 : 0 < m := by have := Em.out; omega
      have hlm : (F ++ zs 32).length = m := by rw [List.length_append, zs_length, Hfl.out, Em.out]
      obtain ⟨gf, cf, rfl, hgB, hgl, hcf⟩ := O3.out.addr hlm hm0
      obtain ⟨u, eu⟩ : ∃ u, u = 192 - m := ⟨_, rfl⟩
      have hw1 : wrap64 (192 - (m : Int)) = (u : Int) := by rw [show (192 : Int) - (m : Int) = (u : Int) by omega]; exact IntWalk.wrap64_in _ (by omega)
      have hsl := fun (bb : Nat) (W : World) => sl_wide bb u (by omega) W
      rw [show 192 - u = m by omega] at hsl
      rw [← eu] at Hf
      have Hu := Lib.hid (And.intro hm5 eu)
      clear hm5 eu
      go_wp2_with fail
      have BA := below_alloc (Below.refl W3.heap.size W3) (.cells (bysA (hst s)) 99)
      have R4 := RowAt.of (block_new W3 (.cells (bysA (hst s)) 99))
      have hxl : ((hst s).drop u).length = (F ++ zs 32).length := by rw [List.length_drop, hst_length, hlm, Hu.out.2]; have := Hu.out.1; omega
      obtain ⟨cur, hcur, hfr, hown⟩ := (O3.out.below BA).xored ((hst s).drop u) hxl
      have hB4 : Bs (W3.alloc (.cells (bysA (hst s)) 99)) (some ⟨W3.heap.size, u, none⟩) ((hst s).drop u) gf := .inr ⟨W3.heap.size, u, rfl, by
        have := (bytes_row R4).from u
        rwa [Nat.zero_add] at this, by omega⟩
      have B4 := B3.out.trans (BA.mono B3.out.size)
      refine (hxor_c gf m m cf m (some ⟨W3.heap.size, u, none⟩) cur (F ++ zs 32) ((hst s).drop u) _ hcur hfr hlm.symm hlm.symm hxl (by rw [hlm]; have := Hu.out.1; omega) (bts_app Hfb.out (bts_zs _)) (bts_drop (hst_bts s) _) hB4).mono ?_
      rintro e W5 ⟨rfl, hset⟩
      have O5 := Lib.hid (hown W5 hset)
      rw [Go.Li.mixd_comm _ _ hxl.symm, ← Hf.out] at O5
      have B5 := Lib.hid (hset.below B4 hgB B4.size)
      clear hset hown hcur hfr hB4 B4 BA R4 hxl hlm
      go_wp2_with fail
      go_roundw
      case rel => exact ⟨_, k + 1, rfl, by omega, by go_num, O5.out, B5.out⟩
      case measure => simp [intOf]; omega
    · obtain rfl : k = n := by omega
      rw [List.take_of_length_le (by rw [← Hn.out]; exact Nat.le_refl _)] at hown
      have HO := Lib.hid hown
      have Hbel := Lib.hid hbel
      clear hbel hown
      go_wp2_with fail
      go_ret
      exact ⟨v, rfl, HO.out, Hbel.out⟩
end Go.Proofs.YtddmjddlbhdcpaaGreatDoor

/-
  Package header: the last hop's beta.
-/
namespace Go.Proofs.YtddmjddlbhdcpaaGreatDoor
open Go.RowKit Go.Hold Go.Sh Go.Ch Go.Cm Go.Hd

theorem lays_beta (o : Oper) (h : o.op = .alloc 27) (hg : o.guard = none) : Lays Tryz.prog o 27 (bysA (zs 160)) := by
  refine ⟨hg, fun a w => ?_⟩
  obtain ⟨dst, op, ty, pos, after, guard⟩ := o
  simp only at h hg
  subst h; subst hg
  go_simp
/-- The first keys of a slice. -/
theorem sl_keys (a : Option Addr) (len cap n : Nat) (h : n ≤ cap) (w : World) : (Instr.sliceAt 32 (.slice a len cap) none (some (.int .i64 (n : Int))) none).run Tryz.prog w = .ok (.slice a n cap) w := by
  have hu : Tryz.prog.underlying 32 = some (.slice (Tryz.prog.elem 32)) := by kernel_rfl
  have hs : (sizeOf (Tryz.prog.elem 32)).run Tryz.prog w = .ok 32 w := by kernel_rfl
  rw [run_sliceAt_slice _ _ _ _ _ _ hu, run_slice_h _ _ _ _ _ hu _ _ (by omega) (by omega), hs]
  cases a <;> simp [sliced, Result.andThen, Addr.add]
set_option maxHeartbeats 1000000 in
set_option maxRecDepth 100000 in
theorem lastBeta_c (done : List (List Nat)) (s : List Nat) (c : Cmd) (p : Option Addr) (n cap : Nat) (hs : ∀ t ∈ done ++ [s], t.length = 32) (hsb : ∀ t ∈ done ++ [s], ∀ i, t.getD i 0 < 256) (hid : c.id.length = 8) (hidb : ∀ i, c.id.getD i 0 < 256) (hn : n = done.length + 1) (h5 : n ≤ 5) (hnc : n ≤ cap) (w : World) (hT : Tabs w) (hR : RowsAt 32 w p ((done ++ [s]).map bysA)) :
    Calls Tryz.prog 70 #[.slice p n cap, .agg (cmdA c)] w fun e w' => e = .returned (.agg (bysA (betaL done s (encV c)))) ∧ Below w.heap.size w w' := by
  obtain ⟨d, ed⟩ : ∃ d, d = done.length := ⟨_, rfl⟩
  have hnd : (n : Int) - 1 = (d : Int) := by omega
  have hd5 : ¬ (5 : Int) < (n : Int) := by omega
  have hdn : (d : Int) < (n : Int) := by omega
  have hcs := cmdA_size hid
  have hsm := hs s (by simp)
  have hsbm := hsb s (by simp)
  have hj : (done ++ [s])[d]? = some s := by rw [ed]; simp
  have HLd := Lib.hid (fun (W : World) (hb : Below w.heap.size w W) => loadKeyAt (hR.grow hb) hj hsm)
  obtain ⟨g, o, ep, hx1, hx2⟩ := loadKeyAt hR hj hsm
  clear hx1 hx2
  subst ep
  have HLK := Lib.hid (fun (W : World) (hb : Below w.heap.size w W) => show (loadRow 23 (.pointer (some ⟨g, o + d * 32, none⟩))).run Tryz.prog W = .ok (.agg (bysA s)) W by
    obtain ⟨g', o', e, _, h⟩ := HLd.out W hb
    cases e; exact h)
  clear HLd
  have HRd := Lib.hid (show RowsAt 32 w (some ⟨g, o, none⟩) (done.map bysA) by
    have := hR.take d
    rwa [← List.map_take, ed, List.take_left] at this)
  have HF := Lib.hid (fun (W : World) (h : Tabs W) (hb : Below w.heap.size w W) => hfiller_c done (some ⟨g, o, none⟩) d cap (fun t ht => hs t (by simp [ht])) (fun t ht => hsb t (by simp [ht])) ed (by omega) W h (HRd.out.grow hb))
  have HLa := Lib.hid (fun (W : World) => laid_c c hid (zs 16) (zs 160) (zs_length 16) (zs_length 160) W)
  have hel := encV_length hid
  have HTu := Lib.hid (fun (W : World) (h : Tabs W) => turned_c (encV c ++ zs 16 ++ zs 160) s (by rw [List.length_append, List.length_append, hel, zs_length, zs_length]) (bts_app (bts_app (encV_bts hidb) (bts_zs _)) (bts_zs _)) hsm hsbm W h)
  have hwl := wid_length (s := s) hel (zs_length 16) (zs_length 160)
  have HWb := Lib.hid (fun (W : World) => wbeta_c (wid s (encV c) (zs 16) (zs 160)) hwl W)
  have HE := Lib.hid (show betaL done s (encV c) = (wid s (encV c) (zs 16) (zs 160)).take (160 - 32 * d) ++ fil done by rw [ed]; rfl)
  have hb0 : ((wid s (encV c) (zs 16) (zs 160)).take 160).length = 160 := by rw [List.length_take, hwl]; rfl
  obtain ⟨k, ek⟩ : ∃ k, k = 32 * d := ⟨_, rfl⟩
  have Hfl := Lib.hid (show (fil done).length = k by rw [fil_length, ← ed, ek])
  obtain ⟨u, eu⟩ : ∃ u, u = 160 - k := ⟨_, rfl⟩
  have hu1 : u ≤ 160 := by omega
  have hu2 : 160 - u = k := by omega
  rw [← ek, ← eu] at HE
  have hbl : (betaL done s (encV c)).length = 160 := by rw [HE.out, List.length_append, List.length_take, hwl, Hfl.out]; omega
  have hbs := bysA_size' hbl
  change Hid (∀ (W : World), Tabs W → Calls Tryz.prog 46 #[.agg (bysA (encV c ++ zs 16 ++ zs 160)), .agg (bysA s)] W fun e w' => e = .returned (.agg (bysA (wid s (encV c) (zs 16) (zs 160)))) ∧ Below W.heap.size W w') at HTu
  have hE2 := Lib.hid (show ((wid s (encV c) (zs 16) (zs 160)).take 160).take u = (wid s (encV c) (zs 16) (zs 160)).take u by rw [List.take_take, Nat.min_eq_left hu1])
  generalize betaL done s (encV c) = R at *
  generalize fil done = F at *
  generalize wid s (encV c) (zs 16) (zs 160) = V at *
  generalize encV c ++ zs 16 ++ zs 160 = Y at *
  have hb0s := bysA_size' hb0
  obtain ⟨Z, eZ⟩ : ∃ Z, Z = V.take 160 := ⟨_, rfl⟩
  rw [← eZ] at hb0 hb0s HWb hE2
  have hsl := fun (bb : Nat) (W : World) => sl_beta bb u hu1 W
  have hslk := fun (W : World) => sl_keys (some ⟨g, o, none⟩) n cap d (by omega) W
  rw [hu2] at hsl
  have hw1 : wrap64 (160 - (k : Int)) = (u : Int) := by rw [show (160 : Int) - (k : Int) = (u : Int) by omega]; exact IntWalk.wrap64_in _ (by omega)
  have HCp := Lib.hid (fun (W : World) (gb cf : Nat) (pf : Option Addr) (hg : RowAt W gb (bysA Z)) (hB : Bs0 W pf F) => show (Builtin.copy_ #[38, 38] 3 #[.slice (some ⟨gb, if u = 160 then 0 else u, none⟩) k k, .slice pf k cf]).run Tryz.prog W = .ok (.int .i64 (k : Int)) (W.setRow gb (bysA R)) by
    by_cases e : u = 160
    · have hd0 : k = 0 := by omega
      have hF0 : F = [] := List.eq_nil_of_length_eq_zero (by rw [Hfl.out, hd0])
      have hRZ : R = Z := by rw [HE.out, hF0, List.append_nil, e, ← eZ]
      rw [if_pos e, hd0, hRZ, setRow_self hg]
      exact copy_none W _ _ _ _ _
    · rw [if_neg e]
      have := copy_at (u := u) (c2 := k) (cap := cf) (d := k) (s := k) (k := k) hg (by rw [hb0]; exact hu1) (by rw [hb0, hu2]) Hfl.out.symm (by rw [hb0, Hfl.out]; omega) hB
      rwa [hE2.out, List.take_of_length_le (l := F) (by rw [Hfl.out]; exact Nat.le_refl _), List.drop_of_length_le (l := Z) (by rw [hb0]; omega), List.append_nil, ← HE.out] at this)
  generalize (if u = 160 then 0 else u) = q at *
  have HT := Lib.hid hT
  have hz160 := bysA_size' (zs_length 160)
  clear hT hR hs hsb hid hidb hn hnc hj hsm hsbm hel hwl hE2 eZ hb0 hu1 hu2 eu ek ed hbl h5
  go_enter Tryz.func70, Tryz.ntmps70
  go_wp2_with fail
  generalize hW : World.alloc _ _ = W0
  have R0x0 := Lib.hid (show RowAt W0 (w.heap.size) (cmdA c) by rw [← hW]; clear hW; exact ⟨by go_simp, by first | (go_simp; done) | (go_simp; rfl), by go_simp⟩)
  have R0x1 := Lib.hid (show RowAt W0 (w.heap.size + 1) (bysA (zs 160)) by rw [← hW]; clear hW; exact ⟨by go_simp, by first | (go_simp; done) | (go_simp; rfl), by go_simp⟩)
  have B0 := Lib.hid (show Below w.heap.size w W0 by rw [← hW]; repeat (first | apply below_alloc | exact Below.refl _ _))
  clear hW
  have hzs160 := bysA_size' (zs_length 160)
  have l_x : w.heap.size ≤ w.heap.size := by omega
  have l_r : w.heap.size ≤ w.heap.size + 1 := by omega
  have n_x_r : w.heap.size ≠ w.heap.size + 1 := by omega
  generalize w.heap.size + 1 = r at *
  obtain ⟨x, ex⟩ : ∃ z, z = w.heap.size := ⟨_, rfl⟩
  rw [← ex] at R0x0 n_x_r ⊢
  have l_x : w.heap.size ≤ x := by rw [ex]; exact Nat.le_refl _
  clear ex
  obtain ⟨R0x0a, R0x0b, R0x0c⟩ := R0x0.out
  obtain ⟨R0x1a, R0x1b, R0x1c⟩ := R0x1.out
  have hlk : ∀ (o' : Array Obj) (d' : Nat), (loadRow 23 (.pointer (some ⟨g, o + d * 32, none⟩))).run Tryz.prog (W0.plus o' d') = .ok (.agg (bysA s)) (W0.plus o' d') := fun o' d' => HLK.out _ (below_plus_of _ _ _ B0.out B0.out.size)
  refine wp_region_pick W0 [0, 1, 2, 3, 4, 5, 6, 7, 8, 9] [false, false, false, false, false, false, false, false, false, false] [10] [(27, bysA (zs 160))] 11 (by kernel_rfl) rfl (by kernel_rfl) (by intro c a d v w h; cases d <;> exact h) (by first | exact (Below.refl _ _).drew | exact Below.refl _ _) ?_
  simp only [pick, List.getElem?_cons_succ, List.getElem?_cons_zero, List.drop_succ_cons, List.drop_zero]
  refine wpHoldF_val (wanted_none rfl) (by intro K o d hK; go_simp; exact hK _ (Below.refl _ _)) ?_
  refine wpHoldF_val (wanted_none rfl) (by intro K o d hK; go_simp; exact hK _ (Below.refl _ _)) ?_
  refine wpHoldF_val (wanted_none rfl) (by intro K o d hK; go_simp; exact hK _ (Below.refl _ _)) ?_
  refine wpHoldF_call (v := .agg (bysA Y)) (wanted_none rfl) (by intro K o d hK; go_simp; refine (HLa.out _).mono ?_; rintro e w' ⟨rfl, hbw⟩; exact ⟨_, rfl, hK _ hbw⟩) ?_
  refine wpHoldF_val (wanted_none rfl) (by intro K o d hK; go_simp; exact hK _ (Below.refl _ _)) ?_
  refine wpHoldF_val (wanted_none rfl) (by intro K o d hK; go_simp; exact hK _ (Below.refl _ _)) ?_
  refine wpHoldF_val (wanted_none rfl) (by intro K o d hK; go_simp; exact hK _ (Below.refl _ _)) ?_
  refine wpHoldF_val (wanted_none rfl) (by intro K o d hK; go_simp; exact hK _ (Below.refl _ _)) ?_
  refine wpHoldF_call (v := .agg (bysA V)) (wanted_none rfl) (by intro K o d hK; go_simp; refine (HTu.out _ (HT.out.grow (below_plus_of _ _ _ B0.out B0.out.size))).mono ?_; rintro e w' ⟨rfl, hbw⟩; exact ⟨_, rfl, hK _ hbw⟩) ?_
  refine wpHoldF_call (v := .agg (bysA Z)) (wanted_none rfl) (by intro K o d hK; go_simp; refine (HWb.out _).mono ?_; rintro e w' ⟨rfl, hbw⟩; exact ⟨_, rfl, hK _ hbw⟩) ?_
  refine wpHoldF_nil ?_
  refine ⟨lays_beta _ rfl rfl, fun b hg0 hn0 => ?_⟩
  intro W1 hb1 hblk
  have n_x_b : x ≠ b := by have := R0x0.out.2.2; omega
  have n_r_b : r ≠ b := by have := R0x1.out.2.2; omega
  have l_b : w.heap.size ≤ b := Nat.le_trans B0.out.size hg0
  have V1x0 := Lib.hid (RowAt.of (hblk 0 b _ _ rfl rfl))
  clear hblk
  clear R0x0a R0x0b R0x0c R0x1a R0x1b R0x1c
  have R1x0 := Lib.hid (R0x0.out.grow hb1)
  have R1x1 := Lib.hid (R0x1.out.grow hb1)
  have B1 := Lib.hid (B0.out.trans (hb1.mono B0.out.size))
  clear hb1 B0 R0x0 R0x1
  obtain ⟨R1x0a, R1x0b, R1x0c⟩ := R1x0.out
  obtain ⟨R1x1a, R1x1b, R1x1c⟩ := R1x1.out
  obtain ⟨V1x0a, V1x0b, V1x0c⟩ := V1x0.out
  go_wp2_with fail
  have R2x0 := Lib.hid (R1x0.out.other n_x_b (bysA Z))
  have R2x1 := Lib.hid (R1x1.out.other n_r_b (bysA Z))
  have R2x2 := Lib.hid (V1x0.out.set (bysA Z))
  have B2 := Lib.hid (below_setRow B1.out l_b (bysA Z))
  clear B1 R1x0 R1x1 V1x0 R1x0a R1x0b R1x0c R1x1a R1x1b R1x1c V1x0a V1x0b V1x0c
  generalize W1.setRow b (bysA Z) = W2 at *
  refine (HF.out _ (HT.out.grow B2.out) B2.out).mono ?_
  rintro e W3 ⟨v, rfl, hown, hb3⟩
  have R3x0 := Lib.hid (R2x0.out.grow hb3)
  have R3x1 := Lib.hid (R2x1.out.grow hb3)
  have R3x2 := Lib.hid (R2x2.out.grow hb3)
  have B3 := Lib.hid (B2.out.trans (hb3.mono B2.out.size))
  clear hb3 B2 R2x0 R2x1 R2x2
  obtain ⟨pf, cf, rfl, hBs, hx1, hx2⟩ := hown.bs
  clear hx1 hx2 hown
  rw [Hfl.out]
  have hcp := HCp.out _ b cf pf R3x2.out hBs
  clear hBs
  obtain ⟨R3x0a, R3x0b, R3x0c⟩ := R3x0.out
  obtain ⟨R3x1a, R3x1b, R3x1c⟩ := R3x1.out
  obtain ⟨R3x2a, R3x2b, R3x2c⟩ := R3x2.out
  go_wp2_with fail
  refine bodyPost_ret (v := .agg (bysA R)) (results_beta Tryz.results70 hbs _ _ _ rfl (by go_simp) (by go_simp)) rfl ⟨rfl, ?_⟩
  exact below_setRow (below_setRow (B3.out) l_b _) l_r _
end Go.Proofs.YtddmjddlbhdcpaaGreatDoor

/-
  Package curve, by bytes: points, secrets, chains.
-/
namespace Go.Proofs.YtddmjddlbhdcpaaGreatDoor
open Go.RowKit Go.Hold Go.Sh Go.Ch Go.Cm Go.Hd

theorem kvB {l : List Nat} (hl : l.length = 32) (hb : ∀ i, l.getD i 0 < 256) : F.kv (numB l) = .agg (bysA l) := by
  unfold F.kv; rw [bysA_keyA hl hb]
theorem kvN (n : Nat) : F.kv n = .agg (bysA (keyB n)) := by unfold F.kv; rw [keyA_bysA]
theorem bpublic_c (k : List Nat) (hk : k.length = 32) (hkb : ∀ i, k.getD i 0 < 256) (w : World) :
    Calls Tryz.prog 27 #[.agg (bysA k)] w fun e w' => e = .returned (.agg (bysA (puB k))) ∧ Below w.heap.size w w' := by
  have := F.public_K (numB k) _ rfl w
  rwa [kvB hk hkb, kvN] at this
theorem bclamp_c (k : List Nat) (hk : k.length = 32) (hkb : ∀ i, k.getD i 0 < 256) (w : World) :
    Calls Tryz.prog 31 #[.agg (bysA k)] w fun e w' => e = .returned (.agg (bysA (keyB (F.Cv.clampN (numB k))))) ∧ Below w.heap.size w w' := by
  have := F.clamp_K (numB k) _ rfl w
  rwa [kvB hk hkb, kvN] at this
theorem bshared_c (k u : List Nat) (hk : k.length = 32) (hkb : ∀ i, k.getD i 0 < 256) (hu : u.length = 32) (hub : ∀ i, u.getD i 0 < 256) (w : World) :
    Calls Tryz.prog 29 #[.agg (bysA k), .agg (bysA u)] w fun e w' => e = .returned (.tuple #[.agg (bysA (keyB (shB k u))), .int .i64 (F.errOf (shB k u))]) ∧ Below w.heap.size w w' := by
  have := F.shared_K (numB k) (numB u) _ _ rfl rfl w
  rwa [kvB hk hkb, kvB hu hub, kvN] at this
/-- Keys in a row, as rows. -/
theorem keysAt_rows {w : World} {p : Option Addr} {fs : List (List Nat)} (hl : ∀ f ∈ fs, f.length = 32) (hb : ∀ f ∈ fs, ∀ i, f.getD i 0 < 256) (h : RowsAt 32 w p (fs.map bysA)) : F.KeysAt w p (fs.map numB) := fun i x hx => by
  rw [List.getElem?_map] at hx
  cases hf : fs[i]? with
  | none => rw [hf] at hx; cases hx
  | some f =>
    rw [hf] at hx
    cases hx
    have hm : f ∈ fs := List.mem_of_getElem? hf
    obtain ⟨g, o, hp, hg, hr⟩ := h i (bysA f) (by rw [List.getElem?_map, hf]; rfl)
    exact ⟨g, o, hp, hg, by rw [← bysA_keyA (hl f hm) (hb f hm)]; exact hr⟩
theorem bchain_c (k : List Nat) (fs : List (List Nat)) (n cap : Nat) (p : Option Addr) (hk : k.length = 32) (hkb : ∀ i, k.getD i 0 < 256) (hl : ∀ f ∈ fs, f.length = 32) (hb : ∀ f ∈ fs, ∀ i, f.getD i 0 < 256) (hn : n = fs.length) (h8 : n ≤ 8) (w : World) (h : RowsAt 32 w p (fs.map bysA)) :
    Calls Tryz.prog 69 #[.agg (bysA k), .slice p n cap] w fun e w' => e = .returned (.tuple #[.agg (bysA (keyB (chB k fs))), .int .i64 (F.errOf (chB k fs))]) ∧ Below w.heap.size w w' := by
  have := F.chain_small (numB k) _ (fs.map numB) cap p rfl (by rw [List.length_map]; omega) w (keysAt_rows hl hb h)
  rw [kvB hk hkb, kvN, List.length_map, ← hn] at this
  exact this
end Go.Proofs.YtddmjddlbhdcpaaGreatDoor

/-
  Package header: may a header lead along hops?
-/
namespace Go.Proofs.YtddmjddlbhdcpaaGreatDoor
open Go.RowKit Go.Hold Go.Sh Go.Ch Go.Cm Go.Hd

theorem hopA_32 (k : List Nat) (c : Cmd) (hk : k.length = 32) : (hopA k c)[32]? = some (.int .i64 c.k) := by
  unfold hopA
  have h1 : (bysA k).size = 32 := by rw [bysA_size, hk]
  rw [Array.getElem?_append_right (by omega), h1]
  exact cmdA_0 c
/-- Hops as rows. -/
def hopR (L : List Hop) : List (Array Value) := L.map fun h => hopA h.k h.c
structure HopOk (h : Hop) : Prop where
  k : h.k.length = 32
  kb : ∀ i, h.k.getD i 0 < 256
  i : h.c.id.length = 8
  ib : ∀ i, h.c.id.getD i 0 < 256
theorem hopR_get {L : List Hop} {j : Nat} {h : Hop} (hj : L[j]? = some h) : (hopR L)[j]? = some (hopA h.k h.c) := by unfold hopR; rw [List.getElem?_map, hj]; rfl
theorem loadHop {w : World} {p : Option Addr} {L : List Hop} (hR : RowsAt 43 w p (hopR L)) {j : Nat} {h : Hop} (hj : L[j]? = some h) (ho : HopOk h) :
    ∃ g o, p = some ⟨g, o, none⟩ ∧ g < w.heap.size ∧ (loadRow 77 (.pointer (some ⟨g, o + j * 43, none⟩))).run Tryz.prog w = .ok (.agg (hopA h.k h.c)) w :=
  hR.load Tryz.underlying77 rfl (by kernel_rfl) (hopR_get hj) (hopA_size ho.k ho.i)
set_option maxHeartbeats 1000000 in
set_option maxRecDepth 100000 in
theorem isRoute_c (L : List Hop) (p : Option Addr) (cap : Nat) (hok : ∀ h ∈ L, HopOk h) (w : World) (hR : RowsAt 43 w p (hopR L)) :
    Calls Tryz.prog 32 #[.slice p L.length cap] w fun e w' => e = .returned (.bool (isRt L)) ∧ Below w.heap.size w w' := by
  by_cases hn : 1 ≤ L.length ∧ L.length ≤ 5
  · obtain ⟨h1, h5⟩ := hn
    obtain ⟨n, en⟩ : ∃ n, n = L.length := ⟨_, rfl⟩
    have HE := Lib.hid (show isRt L = rtF n 0 (L.drop 0) by unfold isRt; rw [decide_eq_true ⟨h1, h5⟩, Bool.true_and, en]; rfl)
    generalize isRt L = R at *
    rw [← en] at h1 h5 ⊢
    have En := Lib.hid en
    have HR := Lib.hid hR
    have i1 : ¬ (n : Int) < 1 := by omega
    have i2 : ¬ (5 : Int) < (n : Int) := by omega
    have Hn := Lib.hid (And.intro h1 h5)
    clear hR h1 h5 en
    go_enter Tryz.func32, Tryz.ntmps32
    go_wp2_with fail
    go_loopw [16] (fun i wr => ∃ k : Nat, k ≤ n ∧ i = .int .i64 k ∧ R = rtF n k (L.drop k) ∧ Below w.heap.size w wr) (fun i _ => n - (intOf i).toNat)
    case atStart => exact ⟨0, Nat.zero_le _, rfl, HE.out, Below.refl _ _⟩
    case round =>
      obtain ⟨k, hk, rfl, hE, hbel⟩ := hrel
      by_cases hkn : k < n
      · have hk1 : (k : Int) < (n : Int) := by omega
        obtain ⟨h, hj⟩ : ∃ h, L[k]? = some h := ⟨_, List.getElem?_eq_getElem (by rw [← En.out]; exact hkn)⟩
        have ho := hok h (List.mem_of_getElem? hj)
        obtain ⟨g, o, ep, hg, hld⟩ := loadHop (HR.out.grow hbel) hj ho
        subst ep
        rw [rtF_drop hj] at hE
        have HE' := Lib.hid hE
        have Hbel := Lib.hid hbel
        have hks := ho.k
        have his := ho.i
        have hsz := hopA_size hks his
        have KM := Lib.hid (fun (W : World) => may_c h.c his W)
        have hcell := hopA_32 h.k h.c hks
        have BA := below_alloc (Below.refl wr.heap.size wr) (.cells (hopA h.k h.c) 77)
        have R1 := RowAt.of (block_new wr (.cells (hopA h.k h.c) 77))
        clear hE hbel hj ho
        rcases hm : h.c.may with _ | _
        · have hR : R = false := by rw [HE'.out, okAt, hm]; rfl
          subst hR
          rw [hm] at KM
          go_wp2_with fail
          refine (KM.out _).mono ?_
          rintro e W2 ⟨rfl, hb2⟩
          have B2 := Lib.hid (Hbel.out.trans ((BA.trans (hb2.mono BA.size)).mono Hbel.out.size))
          clear hb2 BA R1
          go_wp2_with fail
          go_ret
          exact ⟨rfl, B2.out⟩
        · rw [hm] at KM
          obtain ⟨b1, hb1⟩ : ∃ b : Bool, ((h.c.k : Int) == 1) = b := ⟨_, rfl⟩
          obtain ⟨b2, hb2⟩ : ∃ b : Bool, ((k : Int) == (n : Int) - 1) = b := ⟨_, rfl⟩
          have hok' : okAt n k h.c = (b1 == !b2) := by
            have e1 : decide (h.c.k = 1) = b1 := by rw [← hb1]; exact (Bool.beq_eq_decide_eq _ _).symm
            have e2 : decide (k + 1 < n) = !b2 := by
              rw [← hb2, Bool.beq_eq_decide_eq]
              by_cases e : (k : Int) = (n : Int) - 1
              · rw [decide_eq_true e, decide_eq_false (by omega)]; rfl
              · rw [decide_eq_false e, decide_eq_true (by omega)]; rfl
            unfold okAt
            rw [hm, e1, e2, Bool.true_and]
          rw [hok'] at HE'
          clear hok' hm
          go_wp2_with fail
          refine (KM.out _).mono ?_
          rintro e W2 ⟨rfl, hbb⟩
          have B2 := Lib.hid (Hbel.out.trans ((BA.trans (hbb.mono BA.size)).mono Hbel.out.size))
          have R2 := R1.grow hbb
          have hck := R2.cellAt 32 hcell
          clear hbb BA R1
          rcases b1 with _ | _ <;> rcases b2 with _ | _
          · have hR : R = false := by rw [HE'.out]; rfl
            subst hR
            go_wp2_with fail
            go_ret
            exact ⟨rfl, B2.out⟩
          · have hR := Lib.hid (show R = rtF n (k + 1) (L.drop (k + 1)) from HE'.out)
            go_wp2_with fail
            go_roundw
            case rel => exact ⟨k + 1, by omega, by go_num, hR.out, B2.out⟩
            case measure => simp [intOf]; omega
          · have hR := Lib.hid (show R = rtF n (k + 1) (L.drop (k + 1)) from HE'.out)
            go_wp2_with fail
            go_roundw
            case rel => exact ⟨k + 1, by omega, by go_num, hR.out, B2.out⟩
            case measure => simp [intOf]; omega
          · have hR : R = false := by rw [HE'.out]; rfl
            subst hR
            go_wp2_with fail
            go_ret
            exact ⟨rfl, B2.out⟩
      · obtain rfl : k = n := by omega
        have hR : R = true := by rw [hE, List.drop_of_length_le (by rw [← En.out]; exact Nat.le_refl _)]; rfl
        subst hR
        have Hbel := Lib.hid hbel
        clear hbel hE
        go_wp2_with fail
        go_ret
        exact ⟨rfl, Hbel.out⟩
  · have hF : isRt L = false := by unfold isRt; rw [decide_eq_false hn]; rfl
    rw [hF]
    clear hF hok hR
    generalize L.length = n at *
    by_cases h0 : n < 1
    · have i1 : (n : Int) < 1 := by omega
      go_enter Tryz.func32, Tryz.ntmps32
      go_wp2_with fail
      go_ret
      exact ⟨rfl, Below.refl _ _⟩
    · have i1 : ¬ (n : Int) < 1 := by omega
      have i2 : (5 : Int) < (n : Int) := by omega
      go_enter Tryz.func32, Tryz.ntmps32
      go_wp2_with fail
      go_ret
      exact ⟨rfl, Below.refl _ _⟩
end Go.Proofs.YtddmjddlbhdcpaaGreatDoor

/-
  Package header: the first hop's beta.
-/
namespace Go.Proofs.YtddmjddlbhdcpaaGreatDoor
open Go.RowKit Go.Hold Go.Sh Go.Ch Go.Cm Go.Hd

/-- One beta more, ahead of the others. -/
theorem betas_step {ss cs : List (List Nat)} {i : Nat} {s t c : List Nat} (hl : cs.length = ss.length) (hs : ss[i]? = some s) (ht : ss[i + 1]? = some t) (hc : cs[i]? = some c) :
    betas (ss.take i) ((ss.zip cs).drop i) = (wid s c (prf t (betas (ss.take (i + 1)) ((ss.zip cs).drop (i + 1)))) (betas (ss.take (i + 1)) ((ss.zip cs).drop (i + 1)))).take 160 := by
  obtain ⟨h1, rfl⟩ := List.getElem?_eq_some_iff.1 hs
  obtain ⟨h2, rfl⟩ := List.getElem?_eq_some_iff.1 ht
  obtain ⟨h3, rfl⟩ := List.getElem?_eq_some_iff.1 hc
  have hz : (ss.zip cs).length = ss.length := by rw [List.length_zip, hl, Nat.min_self]
  have hz2 : (ss.zip cs).drop (i + 1) = (ss[i + 1], cs[i + 1]'(by omega)) :: (ss.zip cs).drop (i + 1 + 1) := by
    rw [List.drop_eq_getElem_cons (by omega)]; simp
  rw [List.drop_eq_getElem_cons (show i < (ss.zip cs).length by omega), List.getElem_zip]
  have e : ss.take (i + 1) = ss.take i ++ [ss[i]] := by rw [List.take_add_one, hs]; rfl
  rw [e, hz2, betas_more]
theorem betas_end {ss cs : List (List Nat)} {i : Nat} {s c : List Nat} (hl : cs.length = ss.length) (hi : ss.length = i + 1) (hs : ss[i]? = some s) (hc : cs[i]? = some c) : betas (ss.take i) ((ss.zip cs).drop i) = betaL (ss.take i) s c := by
  obtain ⟨h1, rfl⟩ := List.getElem?_eq_some_iff.1 hs
  obtain ⟨h3, rfl⟩ := List.getElem?_eq_some_iff.1 hc
  rw [List.drop_eq_getElem_cons (by rw [List.length_zip]; omega), List.getElem_zip, List.drop_of_length_le (by rw [List.length_zip]; omega)]
  rfl
/-- A hop's command, and its key, out of a slice. -/
theorem loadHopCmd {w : World} {p : Option Addr} {L : List Hop} (hR : RowsAt 43 w p (hopR L)) {j : Nat} {h : Hop} (hj : L[j]? = some h) (ho : HopOk h) :
    ∃ g o, p = some ⟨g, o, none⟩ ∧ g < w.heap.size ∧ (loadRow 51 (.pointer (some ⟨g, o + j * 43 + 32, none⟩))).run Tryz.prog w = .ok (.agg (cmdA h.c)) w := by
  have hsz := hopA_size ho.k ho.i
  have := hR.part (k := 32) (K := 11) Tryz.underlying51 rfl (by kernel_rfl) (hopR_get hj) (by omega)
  rwa [hopA_cmd h.k h.c ho.k ho.i] at this
def cmdsE (L : List Hop) : List (List Nat) := L.map fun h => encV h.c
theorem betas_ok {ss cs : List (List Nat)} (hl : cs.length = ss.length) (hc : ∀ c ∈ cs, c.length = 16) (hcb : ∀ c ∈ cs, ∀ i, c.getD i 0 < 256) (j : Nat) (hj : j < ss.length) (h5 : ss.length ≤ 5) :
    (betas (ss.take j) ((ss.zip cs).drop j)).length = 160 ∧ ∀ i, (betas (ss.take j) ((ss.zip cs).drop j)).getD i 0 < 256 := by
  have hm : ∀ x ∈ (ss.zip cs).drop j, x.2 ∈ cs := fun x hx => (List.of_mem_zip (List.mem_of_mem_drop hx)).2
  have hz : ((ss.zip cs).drop j).length = ss.length - j := by rw [List.length_drop, List.length_zip, hl, Nat.min_self]
  refine ⟨betas_length _ _ (fun e => ?_) (fun x hx => hc _ (hm x hx)) ?_, betas_bts _ _ fun x hx => hcb _ (hm x hx)⟩
  · rw [e] at hz; simp at hz; omega
  · rw [hz, List.length_take]; omega
set_option maxHeartbeats 1500000 in
set_option maxRecDepth 100000 in
theorem firstBeta_c (ss : List (List Nat)) (L : List Hop) (p q : Option Addr) (n cap capL : Nat) (hs : ∀ t ∈ ss, t.length = 32) (hsb : ∀ t ∈ ss, ∀ i, t.getD i 0 < 256) (hok : ∀ h ∈ L, HopOk h) (hn : n = ss.length) (hL : L.length = ss.length) (h1 : 1 ≤ n) (h5 : n ≤ 5) (hnc : n ≤ cap) (w : World) (hT : Tabs w) (hR : RowsAt 32 w p (ss.map bysA)) (hQ : RowsAt 43 w q (hopR L)) :
    Calls Tryz.prog 34 #[.slice p n cap, .slice q n capL] w fun e w' => e = .returned (.agg (bysA (betas [] (ss.zip (cmdsE L))))) ∧ Below w.heap.size w w' := by
  obtain ⟨d, ed⟩ : ∃ d, d + 1 = n := ⟨n - 1, by omega⟩
  have hnd : (n : Int) - 1 = (d : Int) := by omega
  have hd5 : ¬ (5 : Int) < (n : Int) := by omega
  have hdn : (d : Int) < (n : Int) := by omega
  have hcl : (cmdsE L).length = ss.length := by unfold cmdsE; rw [List.length_map, hL]
  have hce : ∀ c ∈ cmdsE L, c.length = 16 := fun c hc => by
    obtain ⟨h, hh, rfl⟩ := List.mem_map.1 hc
    exact encV_length (hok h hh).i
  have hcb : ∀ c ∈ cmdsE L, ∀ i, c.getD i 0 < 256 := fun c hc => by
    obtain ⟨h, hh, rfl⟩ := List.mem_map.1 hc
    exact encV_bts (hok h hh).ib
  have hcg : ∀ {j : Nat} {h : Hop}, L[j]? = some h → (cmdsE L)[j]? = some (encV h.c) := fun {j h} hj => by unfold cmdsE; rw [List.getElem?_map, hj]; rfl
  obtain ⟨B, eB⟩ : ∃ B : Nat → List Nat, B = fun j => betas (ss.take j) ((ss.zip (cmdsE L)).drop j) := ⟨_, rfl⟩
  have HBl := Lib.hid (fun j (hj : j < n) => show (B j).length = 160 from by rw [eB]; exact (betas_ok hcl hce hcb j (by omega) (by omega)).1)
  have HBb := Lib.hid (fun j (hj : j < n) => show ∀ i, (B j).getD i 0 < 256 from by rw [eB]; exact (betas_ok hcl hce hcb j (by omega) (by omega)).2)
  have HB0 := Lib.hid (show betas [] (ss.zip (cmdsE L)) = B 0 by rw [eB]; rfl)
  rw [HB0.out]
  obtain ⟨sd, hsd⟩ : ∃ s, ss[d]? = some s := ⟨_, List.getElem?_eq_getElem (by omega)⟩
  obtain ⟨hd, hhd⟩ : ∃ h, L[d]? = some h := ⟨_, List.getElem?_eq_getElem (by omega)⟩
  have hod := hok hd (List.mem_of_getElem? hhd)
  have hss : ss = ss.take d ++ [sd] := by
    have : ss.take (d + 1) = ss.take d ++ [sd] := by rw [List.take_add_one, hsd]; rfl
    rw [← this, List.take_of_length_le (by omega)]
  have hBd : B d = betaL (ss.take d) sd (encV hd.c) := by rw [eB]; exact betas_end hcl (by omega) hsd (hcg hhd)
  have HLa := Lib.hid (fun (W : World) (h : Tabs W) (hb : Below w.heap.size w W) => lastBeta_c (ss.take d) sd hd.c p n cap (by rw [← hss]; exact hs) (by rw [← hss]; exact hsb) hod.i hod.ib (by rw [List.length_take]; omega) h5 hnc W h (by rw [← hss]; exact hR.grow hb))
  rw [← hBd] at HLa
  obtain ⟨g, o, ep, hx1, hx2⟩ := loadKeyAt hR hsd (hs sd (List.mem_of_getElem? hsd))
  clear hx1 hx2
  obtain ⟨gq, oq, eq, hx1, hx2⟩ := loadHopCmd hQ hhd hod
  clear hx1 hx2
  subst ep eq
  have HK := Lib.hid (fun (j : Nat) (s : List Nat) (hj : ss[j]? = some s) (W : World) (hb : Below w.heap.size w W) => show (loadRow 23 (.pointer (some ⟨g, o + j * 32, none⟩))).run Tryz.prog W = .ok (.agg (bysA s)) W by
    obtain ⟨g', o', e, _, h⟩ := loadKeyAt (hR.grow hb) hj (hs s (List.mem_of_getElem? hj))
    cases e; exact h)
  have HC := Lib.hid (fun (j : Nat) (h : Hop) (hj : L[j]? = some h) (W : World) (hb : Below w.heap.size w W) => show (loadRow 51 (.pointer (some ⟨gq, oq + j * 43 + 32, none⟩))).run Tryz.prog W = .ok (.agg (cmdA h.c)) W by
    obtain ⟨g', o', e, _, h⟩ := loadHopCmd (hQ.grow hb) hj (hok h (List.mem_of_getElem? hj))
    cases e; exact h)
  have HSt := Lib.hid (fun (i : Nat) (s t : List Nat) (h : Hop) (hs : ss[i]? = some s) (ht : ss[i + 1]? = some t) (hh : L[i]? = some h) => show B i = (wid s (encV h.c) (prf t (B (i + 1))) (B (i + 1))).take 160 from by rw [eB]; exact betas_step hcl hs ht (hcg hh))
  have Hsl := Lib.hid (And.intro hs hsb)
  have Hok := Lib.hid hok
  have Hn := Lib.hid (And.intro hn (And.intro hL (And.intro h5 ed)))
  have hld0 := HC.out d hd hhd (w.alloc (.cells (bysA (zs 160)) 27)) (below_alloc (Below.refl _ _) _)
  have hBds := bysA_size' (HBl.out d (by omega))
  have hcs := cmdA_size hod.i
  have HT := Lib.hid hT
  have hz160 := bysA_size' (zs_length 160)
  clear hT hR hQ hs hsb hok hn hL h1 h5 hnc hcl hce hcb hcg hss hBd hod hhd hsd eB ed
  go_enter Tryz.func34, Tryz.ntmps34
  go_wp2_with fail
  generalize hW : World.alloc _ _ = W0
  have R0x0 := Lib.hid (show RowAt W0 (w.heap.size) (bysA (zs 160)) by rw [← hW]; clear hW; exact ⟨by go_simp, by first | (go_simp; done) | (go_simp; rfl), by go_simp⟩)
  have B0 := Lib.hid (show Below w.heap.size w W0 by rw [← hW]; repeat (first | apply below_alloc | exact Below.refl _ _))
  clear hW
  have hzs160 := bysA_size' (zs_length 160)
  have l_r : w.heap.size ≤ w.heap.size := by omega
  obtain ⟨r, er⟩ : ∃ z, z = w.heap.size := ⟨_, rfl⟩
  rw [← er] at R0x0  ⊢
  have l_r : w.heap.size ≤ r := by rw [er]; exact Nat.le_refl _
  clear er
  obtain ⟨R0x0a, R0x0b, R0x0c⟩ := R0x0.out
  clear hld0
  refine (HLa.out _ (HT.out.grow B0.out) B0.out).mono ?_
  rintro e W1 ⟨rfl, hb1⟩
  clear R0x0a R0x0b R0x0c
  have R1x0 := Lib.hid (R0x0.out.grow hb1)
  have B1 := Lib.hid (B0.out.trans (hb1.mono B0.out.size))
  clear hb1 B0 R0x0
  obtain ⟨R1x0a, R1x0b, R1x0c⟩ := R1x0.out
  go_wp2_with fail
  have n_r_b : r ≠ W1.heap.size := Nat.ne_of_lt R1x0.out.2.2
  have l_b : w.heap.size ≤ W1.heap.size := B1.out.size
  have hb2 := below_alloc (Below.refl W1.heap.size W1) (.cells (bysA (B d)) 27)
  have N2 := Lib.hid (RowAt.of (block_new W1 (.cells (bysA (B d)) 27)))
  have R2x0 := Lib.hid (R1x0.out.grow hb2)
  have B2 := Lib.hid (B1.out.trans (hb2.mono B1.out.size))
  clear hb2 B1 R1x0 R1x0a R1x0b R1x0c
  generalize W1.heap.size = b at *
  generalize W1.alloc (.cells (bysA (B d)) 27) = W2 at *
  obtain ⟨R2x0a, R2x0b, R2x0c⟩ := R2x0.out
  obtain ⟨N2a, N2b, N2c⟩ := N2.out
  go_wp2_with fail
  go_loopw [7] (fun i wr => ∃ j : Nat, j ≤ d ∧ i = .int .i64 ((j : Int) - 1) ∧ RowAt wr b (bysA (B j)) ∧ RowAt wr r (bysA (zs 160)) ∧ Below w.heap.size w wr) (fun i _ => (intOf i + 1).toNat)
  case atStart => exact ⟨d, Nat.le_refl _, rfl, N2.out, R2x0.out, B2.out⟩
  case round =>
    obtain ⟨j, hj, rfl, hb, hr, hbel⟩ := hrel
    rcases j with _ | i
    · rw [show ((0 : Nat) : Int) - 1 = -1 from rfl]
      obtain ⟨b1, b2, b3⟩ := hb
      obtain ⟨r1, r2, r3⟩ := hr
      have hB0s := bysA_size' (HBl.out 0 (by have := Hn.out.2.2.2; omega))
      have Hbel := Lib.hid hbel
      clear hbel
      go_wp2_with fail
      refine bodyPost_ret (v := .agg (bysA (B 0))) (results_beta Tryz.results34 hB0s _ _ _ rfl (by go_simp) (by go_simp)) rfl ⟨rfl, ?_⟩
      exact below_setRow Hbel.out l_r _
    · obtain ⟨s, hs⟩ : ∃ s, ss[i]? = some s := ⟨_, List.getElem?_eq_getElem (by have := Hn.out.1; have := Hn.out.2.2.2; omega)⟩
      obtain ⟨t, ht⟩ : ∃ s, ss[i + 1]? = some s := ⟨_, List.getElem?_eq_getElem (by have := Hn.out.1; have := Hn.out.2.2.2; omega)⟩
      obtain ⟨h, hh⟩ : ∃ h, L[i]? = some h := ⟨_, List.getElem?_eq_getElem (by have := Hn.out.1; have := Hn.out.2.1; have := Hn.out.2.2.2; omega)⟩
      have ho := Hok.out h (List.mem_of_getElem? hh)
      have hsl := Hsl.out.1 s (List.mem_of_getElem? hs)
      have hsb := Hsl.out.2 s (List.mem_of_getElem? hs)
      have htl := Hsl.out.1 t (List.mem_of_getElem? ht)
      have htb := Hsl.out.2 t (List.mem_of_getElem? ht)
      have HBi := Lib.hid (HSt.out i s t h hs ht hh)
      obtain ⟨i1, ei1⟩ : ∃ x, x = i + 1 := ⟨_, rfl⟩
      rw [← ei1] at ht HBi hb
      have hBl := HBl.out i1 (by have := Hn.out.2.2.2; omega)
      have hBb := HBb.out i1 (by have := Hn.out.2.2.2; omega)
      have hBl0 := HBl.out i (by have := Hn.out.2.2.2; omega)
      have hBs := bysA_size' hBl0
      have hBs1 := bysA_size' hBl
      have KP := Lib.hid (fun (W : World) (hT : Tabs W) => hproof_c t (B i1) htl htb hBl hBb W hT)
      have KL := Lib.hid (fun (W : World) => laid_c h.c ho.i (prf t (B i1)) (B i1) (prf_length _ _) hBl W)
      have hel := encV_length ho.i
      have KT := Lib.hid (fun (W : World) (hT : Tabs W) => show Calls Tryz.prog 46 #[.agg (bysA (encV h.c ++ prf t (B i1) ++ B i1)), .agg (bysA s)] W fun e w' => e = .returned (.agg (bysA (wid s (encV h.c) (prf t (B i1)) (B i1)))) ∧ Below W.heap.size W w' from turned_c (encV h.c ++ prf t (B i1) ++ B i1) s (by rw [List.length_append, List.length_append, hel, prf_length, hBl]) (bts_app (bts_app (encV_bts ho.ib) (prf_bts _ _)) hBb) hsl hsb W hT)
      have KW := Lib.hid (fun (W : World) => wbeta_c (wid s (encV h.c) (prf t (B i1)) (B i1)) (wid_length hel (prf_length _ _) hBl) W)
      rw [← HBi.out] at KW
      have hpl := bysA_size' (prf_length t (B i1))
      generalize encV h.c ++ prf t (B i1) ++ B i1 = Y at *
      generalize wid s (encV h.c) (prf t (B i1)) (B i1) = V at *
      generalize prf t (B i1) = P at *
      have hks : ∀ (o' : Array Obj) (d' : Nat), (loadRow 23 (.pointer (some ⟨g, o + i * 32, none⟩))).run Tryz.prog (wr.plus o' d') = .ok (.agg (bysA s)) (wr.plus o' d') := fun o' d' => HK.out i s hs _ (below_plus_of _ _ _ hbel hbel.size)
      have hkt : ∀ (o' : Array Obj) (d' : Nat), (loadRow 23 (.pointer (some ⟨g, o + i1 * 32, none⟩))).run Tryz.prog (wr.plus o' d') = .ok (.agg (bysA t)) (wr.plus o' d') := fun o' d' => HK.out i1 t ht _ (below_plus_of _ _ _ hbel hbel.size)
      have hkc : ∀ (o' : Array Obj) (d' : Nat), (loadRow 51 (.pointer (some ⟨gq, oq + i * 43 + 32, none⟩))).run Tryz.prog (wr.plus o' d') = .ok (.agg (cmdA h.c)) (wr.plus o' d') := fun o' d' => HC.out i h hh _ (below_plus_of _ _ _ hbel hbel.size)
      have hi0 : (0 : Int) ≤ (i : Int) := by omega
      have hin : (i : Int) < (n : Int) := by have := Hn.out.2.2.2; omega
      have hi1n : (i1 : Int) < (n : Int) := by have := Hn.out.2.2.2; omega
      have hii : (i : Int) + 1 = (i1 : Int) := by omega
      have hwi : IntKind.i64.wrap (i1 : Int) = (i1 : Int) := IntWalk.i64_in _ (by omega)
      have hcs' := cmdA_size ho.i
      have Hi1 := Lib.hid (And.intro ei1 hj)
      have Hb := Lib.hid hb
      have Hr := Lib.hid hr
      have Hbel := Lib.hid hbel
      rw [show (((i + 1 : Nat) : Int) - 1) = (i : Int) by omega]
      obtain ⟨b1, b2, b3⟩ := hb
      clear hs ht hh ho hsl hsb htl htb hBl hBb hBl0 hel hr hbel ei1 hj
      go_wp2_with fail
      refine wp_region_pick wr [0, 1, 2, 3, 4, 5, 6, 7, 8, 9, 10, 11, 12, 13, 14, 15, 16, 17, 18, 19] [false, false, false, false, false, false, false, false, false, false, false, false, false, false, false, false, false, false, false, false] [] [] 20 (by kernel_rfl) rfl (by kernel_rfl) (by intro c a d v w h; cases d <;> exact h) (by first | exact (Below.refl _ _).drew | exact Below.refl _ _) ?_
      simp only [pick, List.getElem?_cons_succ, List.getElem?_cons_zero, List.drop_succ_cons, List.drop_zero]
      refine wpHoldF_val (wanted_none rfl) (by intro K o d hK; go_simp; exact hK _ (Below.refl _ _)) ?_
      refine wpHoldF_val (wanted_none rfl) (by intro K o d hK; go_simp; exact hK _ (Below.refl _ _)) ?_
      refine wpHoldF_val (wanted_none rfl) (by intro K o d hK; go_simp; exact hK _ (Below.refl _ _)) ?_
      refine wpHoldF_val (wanted_none rfl) (by intro K o d hK; go_simp; exact hK _ (Below.refl _ _)) ?_
      refine wpHoldF_val (wanted_none rfl) (by intro K o d hK; go_simp; exact hK _ (Below.refl _ _)) ?_
      refine wpHoldF_val (wanted_none rfl) (by intro K o d hK; go_simp; exact hK _ (Below.refl _ _)) ?_
      refine wpHoldF_val (wanted_none rfl) (by intro K o d hK; go_simp; exact hK _ (Below.refl _ _)) ?_
      refine wpHoldF_val (wanted_none rfl) (by intro K o d hK; go_simp; exact hK _ (Below.refl _ _)) ?_
      refine wpHoldF_val (wanted_none rfl) (by intro K o d hK; go_simp; exact hK _ (Below.refl _ _)) ?_
      refine wpHoldF_val (wanted_none rfl) (by intro K o d hK; go_simp; exact hK _ (Below.refl _ _)) ?_
      refine wpHoldF_val (wanted_none rfl) (by intro K o d hK; go_simp; exact hK _ (Below.refl _ _)) ?_
      refine wpHoldF_call (v := .agg (bysA P)) (wanted_none rfl) (by intro K o d hK; go_simp; refine (KP.out _ (HT.out.grow (below_plus_of _ _ _ Hbel.out Hbel.out.size))).mono ?_; rintro e w' ⟨rfl, hbw⟩; exact ⟨_, rfl, hK _ hbw⟩) ?_
      refine wpHoldF_val (wanted_none rfl) (by intro K o d hK; go_simp; exact hK _ (Below.refl _ _)) ?_
      refine wpHoldF_call (v := .agg (bysA Y)) (wanted_none rfl) (by intro K o d hK; go_simp; refine (KL.out _).mono ?_; rintro e w' ⟨rfl, hbw⟩; exact ⟨_, rfl, hK _ hbw⟩) ?_
      refine wpHoldF_val (wanted_none rfl) (by intro K o d hK; go_simp; exact hK _ (Below.refl _ _)) ?_
      refine wpHoldF_val (wanted_none rfl) (by intro K o d hK; go_simp; exact hK _ (Below.refl _ _)) ?_
      refine wpHoldF_val (wanted_none rfl) (by intro K o d hK; go_simp; exact hK _ (Below.refl _ _)) ?_
      refine wpHoldF_val (wanted_none rfl) (by intro K o d hK; go_simp; exact hK _ (Below.refl _ _)) ?_
      refine wpHoldF_call (v := .agg (bysA V)) (wanted_none rfl) (by intro K o d hK; go_simp; refine (KT.out _ (HT.out.grow (below_plus_of _ _ _ Hbel.out Hbel.out.size))).mono ?_; rintro e w' ⟨rfl, hbw⟩; exact ⟨_, rfl, hK _ hbw⟩) ?_
      refine wpHoldF_call (v := .agg (bysA (B i))) (wanted_none rfl) (by intro K o d hK; go_simp; refine (KW.out _).mono ?_; rintro e w' ⟨rfl, hbw⟩; exact ⟨_, rfl, hK _ hbw⟩) ?_
      refine wpHoldF_nil ?_
      intro W11 hb11 hblk
      clear hblk
      clear b1 b2 b3
      have R11x0 := Lib.hid (Hb.out.grow hb11)
      have R11x1 := Lib.hid (Hr.out.grow hb11)
      have B11 := Lib.hid (Hbel.out.trans (hb11.mono Hbel.out.size))
      clear hb11 Hbel Hb Hr
      obtain ⟨R11x0a, R11x0b, R11x0c⟩ := R11x0.out
      obtain ⟨R11x1a, R11x1b, R11x1c⟩ := R11x1.out
      go_wp2_with fail
      go_roundw
      case rel => exact ⟨i, by have := Hi1.out.2; omega, rfl, R11x0.out.set _, R11x1.out.other n_r_b _, below_setRow B11.out l_b _⟩
      case measure => simp [intOf]
end Go.Proofs.YtddmjddlbhdcpaaGreatDoor

/-
  Slices that are built of rows of one size. Of no one type.
-/
namespace Go.Proofs.YtddmjddlbhdcpaaGreatDoor
open Go.RowKit Go.Hold Go.Sh

theorem offs_const {C : Nat} : ∀ (vs : List Value) (o j : Nat) (x : Nat × Nat), (∀ v ∈ vs, v.cells.size = C) → (offs o vs)[j]? = some x → x = (o + j * C, C)
  | [], o, j, x, _, h => by simp [offs] at h
  | v :: vs, o, 0, x, hv, h => by
    simp only [offs, List.getElem?_cons_zero, Option.some.injEq] at h
    rw [← h, hv v List.mem_cons_self, Nat.zero_mul, Nat.add_zero]
  | v :: vs, o, j + 1, x, hv, h => by
    simp only [offs, List.getElem?_cons_succ] at h
    have := offs_const vs _ j x (fun u hu => hv u (List.mem_cons_of_mem _ hu)) h
    rw [this, hv v List.mem_cons_self, Nat.add_mul, Nat.one_mul]
    congr 1; omega
theorem cellsAll_const {C : Nat} : ∀ (vs : List Value), (∀ v ∈ vs, v.cells.size = C) → (cellsAll vs).length = vs.length * C
  | [], _ => by simp [cellsAll]
  | v :: vs, hv => by
    show (v.cells.toList ++ cellsAll vs).length = _
    rw [List.length_append, Array.length_toList, hv v List.mem_cons_self, cellsAll_const vs (fun u hu => hv u (List.mem_cons_of_mem _ hu)), List.length_cons, Nat.add_mul]; omega
theorem run_bldRows {P : Program} {t e : TypeId} {C Y len : Nat} {z : Value} (hu : P.underlying t = some (.slice e)) (hinfo : (P.info? e).map (fun i => (i.zero, i.size, i.bytes)) = some (some z, C, Y)) (vs : List Value) (hv : ∀ v ∈ vs, v.cells.size = C) (hl : vs.length = len) (h0 : ¬ len * C = 0) (hm : ¬ len * C > 2 ^ 24)
    (parts : Array (Nat × Value)) (hp : parts.toList = vs.zipIdx.map fun p => (p.2, p.1)) (w : World) :
    (Instr.buildSlice t len parts).run P w = .ok (.slice (some ⟨w.heap.size, 0, none⟩) len len) (w.alloc (.cells (cellsAll vs).toArray e)) := by
  obtain ⟨ie, h1, h2, h3, _⟩ := info_parts hinfo
  refine run_buildSlice w _ _ len _ _ ie _ hu h1 h2 (by rw [h3]; exact hm) (by rw [h3]; exact h0) ?_
  rw [h3, hp]
  have hca := cellsAll_const vs hv
  rw [hl] at hca
  obtain ⟨r, g1, g2, g3⟩ := fill_all (fun i => some (i * C, C)) vs 0 0 ((Array.range (len * C)).map (z.cells[· % z.cells.size]!)) (fun j x hx => by
    rw [offs_const vs 0 j x hv hx, Nat.zero_add, Nat.zero_add]) (by rw [hca]; simp)
  rw [g1]
  congr 1
  have h5 : r.toList.length = (cellsAll vs).length := by rw [Array.length_toList, g2, hca]; simp
  rw [Nat.zero_add, List.take_zero, List.nil_append, ← h5, List.take_length] at g3
  rw [← g3, Array.toArray_toList]
end Go.Proofs.YtddmjddlbhdcpaaGreatDoor

/-
  Package header: the secrets that a builder shares with the hops.
-/
namespace Go.Proofs.YtddmjddlbhdcpaaGreatDoor
open Go.RowKit Go.Hold Go.Sh Go.Ch Go.Cm Go.Hd

/-! ### Slices of keys -/
def bldKs (n : Nat) (ps : Array (Nat × Value)) : Sem Value := Instr.buildSlice 32 n ps
@[go_sem ↓ high] theorem fold_bldKs (n : Nat) (ps : Array (Nat × Value)) : Instr.buildSlice 32 n ps = bldKs n ps := rfl
theorem info_key : (Tryz.prog.info? 23).map (fun i => (i.zero, i.size, i.bytes)) = some (some (.agg (bysA (zs 32))), 32, 32) := by kernel_rfl
theorem run_bldKs1 {s : List Nat} (hs : s.length = 32) (w : World) : (bldKs 1 #[(0, .agg (bysA s))]).run Tryz.prog w = .ok (.slice (some ⟨w.heap.size, 0, none⟩) 1 1) (w.alloc (.cells (bysA s) 23)) := by
  have := run_bldRows (P := Tryz.prog) Tryz.underlying32 info_key [.agg (bysA s)] (fun v hv => by rw [List.mem_singleton.1 hv]; show (bysA s).size = 32; rw [bysA_size, hs]) (rfl : _ = 1) (by decide) (by decide) #[(0, .agg (bysA s))] rfl w
  rwa [show (cellsAll [.agg (bysA s)]).toArray = bysA s by simp [cellsAll, Value.cells]] at this
theorem app_key {w : World} {B gn o : Nat} {v : Value} {ls : List (List Nat)} {x : List Nat} (h : OwnR w B 23 32 v (ls.map bysA)) (hn : w.rangeAt gn o (bysA x).toList) (hx : x.length = 32) (hBw : B ≤ w.heap.size) (hlen : ls.length ≤ 1000) :
    ∃ v' w', (Builtin.append_ #[32, 32] 32 #[v, .slice (some ⟨gn, o, none⟩) 1 1]).run Tryz.prog w = .ok v' w' ∧ OwnR w' B 23 32 v' ((ls ++ [x]).map bysA) ∧ w.grownBy w' v.ownBlock ∧ NewB w v.ownBlock v'.ownBlock := by
  have := app_row (C := 32) (Y := 32) (z := .agg (bysA (zs 32))) Tryz.underlying32 info_key (by show (bysA (zs 32)).size = 32; rw [bysA_size, zs_length]) (by decide) (by decide) h hn (by rw [bysA_size, hx]) (bysA_one x) hBw (by rw [List.length_map]; exact hlen)
  rwa [show (ls ++ [x]).map bysA = ls.map bysA ++ [bysA x] by simp]
theorem own_one {w : World} {s : List Nat} (hs : s.length = 32) (B : Nat) (hB : B ≤ w.heap.size) : OwnR (w.alloc (.cells (bysA s) 23)) B 23 32 (.slice (some ⟨w.heap.size, 0, none⟩) 1 1) ([s].map bysA) := by
  have hz : (bysA s).size = 32 := by rw [bysA_size, hs]
  refine ⟨⟨by simp [flatR, hz], .inr ⟨w.heap.size, 1, bysA s, rfl, hB, block_new w _, Nat.le_refl _, by unfold maxLen; omega, by rw [hz], ?_⟩⟩, fun x hx => by
    obtain rfl : x = bysA s := by simpa using hx
    exact hz⟩
  show (bysA s).toList.take 32 = _
  rw [List.take_of_length_le (by rw [Array.length_toList, hz]; exact Nat.le_refl _)]
  simp [flatR]
theorem OwnR.setRow {w : World} {B C y : Nat} {e : TypeId} {v : Value} {ls : List (Array Value)} (h : OwnR w B e C v ls) (hy : v.ownBlock ≠ some y) (c : Array Value) : OwnR (w.setRow y c) B e C v ls :=
  h.moves ((Moves.refl w y none).setRow c) hy (fun _ _ e => by cases e)
theorem own_belowR {B C : Nat} {w w1 w2 : World} {e : TypeId} {v : Value} {ls : List (Array Value)} (hb : Below B w w1) (ho : OwnR w1 B e C v ls) (hB : B ≤ w1.heap.size) (hg : w1.grownBy w2 v.ownBlock) : Below B w w2 :=
  ⟨hg.os.trans hb.os, hg.tape.trans hb.tape, hg.output.trans hb.output, Nat.le_trans hb.size hg.size, fun k hk => by
    rw [hg.block k (by omega) (fun e => by have := (ho.ltb k e.symm).1; omega), hb.block k hk]⟩
/-- What is told of a route's secrets: behind some hops. -/
def secT (T : Option (List (List Nat))) (w' : World) (B : Nat) (v : Value) : Prop := OwnR w' B 23 32 v ((T.getD []).map bysA)
def secE (T : Option (List (List Nat))) : Int := if T.isSome then 0 else 7
theorem errOf_zero {n : Nat} (h : n = 0) : F.errOf n = 7 := by unfold F.errOf; rw [if_pos h]
theorem errOf_ne {n : Nat} (h : ¬ n = 0) : F.errOf n = 0 := by unfold F.errOf; rw [if_neg h]
theorem secF_drop {fs : List (List Nat)} {a : List Nat} {L : List Hop} {k : Nat} {h : Hop} (hk : L[k]? = some h) :
    secF fs a (L.drop k) = (if chB h.k fs = 0 then none else if nxA (keyB (chB h.k fs)) a = 0 then none else (secF (fs ++ [bli (keyB (chB h.k fs)) a]) (keyB (nxA (keyB (chB h.k fs)) a)) (L.drop (k + 1))).map (keyB (chB h.k fs) :: ·)) := by
  obtain ⟨hq, rfl⟩ := List.getElem?_eq_some_iff.1 hk
  rw [List.drop_eq_getElem_cons hq]; rfl
/-- What is known in a round. -/
structure SInv (w : World) (y : Nat) (T : Option (List (List Nat))) (L : List Hop) (k : Nat) (vf va : Value) (fs acc : List (List Nat)) (a : List Nat) (wr : World) : Prop where
  hy : RowAt wr y (bysA a)
  of : OwnR wr w.heap.size 23 32 vf (fs.map bysA)
  oa : OwnR wr w.heap.size 23 32 va (acc.map bysA)
  nf : vf.ownBlock ≠ some y
  na : va.ownBlock ≠ some y
  nn : vf.ownBlock ≠ va.ownBlock
  bel : Below w.heap.size w wr
  fl : fs.length = k + 1
  al : acc.length = k
  f32 : ∀ f ∈ fs, f.length = 32
  fb : ∀ f ∈ fs, ∀ i, f.getD i 0 < 256
  a32 : a.length = 32
  ab : ∀ i, a.getD i 0 < 256
  eq : T = (secF fs a (L.drop k)).map (acc ++ ·)
theorem OwnR.rows {w : World} {B C n c : Nat} {e : TypeId} {p : Option Addr} {ls : List (Array Value)} (h : OwnR w B e C (.slice p n c) ls) : RowsAt C w p ls := by
  obtain ⟨p', c', e, hr, _⟩ := h.form
  cases e; exact hr
theorem NewB.neB {w : World} {a b : Option Nat} {o : Option Nat} (h : NewB w a b) (ha : o ≠ a) (ho : ∀ k, o = some k → k < w.heap.size) (hb : b ≠ none) : o ≠ b := fun e => by
  cases hbb : b with
  | none => exact hb hbb
  | some k =>
    rw [hbb] at e
    rcases h k hbb with h1 | h1
    · exact ha (by rw [e, h1])
    · have := ho k e; omega
theorem OwnR.some_block {w : World} {B C : Nat} {e : TypeId} {v : Value} {ls : List (Array Value)} (h : OwnR w B e C v ls) (h0 : 0 < ls.length) : v.ownBlock ≠ none := by
  obtain ⟨p, c, rfl, _, _, _, hp⟩ := h.form
  obtain ⟨g, rfl, _⟩ := hp h0
  simp [Value.ownBlock]
set_option maxHeartbeats 2000000 in
set_option maxRecDepth 100000 in
theorem secrets_c (x a0 : List Nat) (L : List Hop) (p : Option Addr) (n cap : Nat) (hx : x.length = 32) (hxb : ∀ i, x.getD i 0 < 256) (ha : a0.length = 32) (hab : ∀ i, a0.getD i 0 < 256) (hok : ∀ h ∈ L, HopOk h) (hn : n = L.length) (h5 : n ≤ 5) (w : World) (hT : Tabs w) (hR : RowsAt 43 w p (hopR L)) :
    Calls Tryz.prog 33 #[.agg (bysA x), .agg (bysA a0), .slice p n cap] w fun e w' => ∃ v, e = .returned (.tuple #[v, .int .i64 (secE (secF [x] a0 L))]) ∧ secT (secF [x] a0 L) w' w.heap.size v ∧ Below w.heap.size w w' := by
  have hxs := bysA_size' hx
  have has := bysA_size' ha
  have hd5 : ¬ (5 : Int) < (n : Int) := by omega
  have hbx := fun W => run_bldKs1 hx W
  have HT := Lib.hid hT
  have HR := Lib.hid hR
  have Hx := Lib.hid (And.intro hx hxb)
  have Ha := Lib.hid (And.intro ha hab)
  have Hn := Lib.hid (And.intro hn h5)
  have Hok := Lib.hid hok
  obtain ⟨T, eT⟩ : ∃ T, T = secF [x] a0 L := ⟨_, rfl⟩
  have HE := Lib.hid eT
  rw [← eT]
  clear hT hR hx hxb ha hab hn h5 hok eT
  go_enter Tryz.func33, Tryz.ntmps33
  go_wp2_with fail
  have LX := below_alloc (below_alloc (Below.refl w.heap.size w) (.cells (bysA x) 23)) (.cells (bysA a0) 23)
  have Y0 : RowAt (((w.alloc (.cells (bysA x) 23)).alloc (.cells (bysA a0) 23)).alloc (.cells (bysA x) 23)) (w.heap.size + 1) (bysA a0) := ⟨by go_simp, by go_simp, by go_simp⟩
  have F0 := own_one Hx.out.1 (w := (w.alloc (.cells (bysA x) 23)).alloc (.cells (bysA a0) 23)) w.heap.size LX.size
  have I0 : SInv w (w.heap.size + 1) T L 0 (.slice (some ⟨((w.alloc (.cells (bysA x) 23)).alloc (.cells (bysA a0) 23)).heap.size, 0, none⟩) 1 1) (.slice none 0 0) [x] [] a0 (((w.alloc (.cells (bysA x) 23)).alloc (.cells (bysA a0) 23)).alloc (.cells (bysA x) 23)) :=
    ⟨Y0, F0, OwnR.nil _ _ _ _, by simp [Value.ownBlock], by simp [Value.ownBlock], by simp [Value.ownBlock], below_alloc LX _, rfl, rfl, fun f hf => by rw [List.mem_singleton.1 hf]; exact Hx.out.1, fun f hf => by rw [List.mem_singleton.1 hf]; exact Hx.out.2, Ha.out.1, Ha.out.2, by rw [HE.out]; simp⟩
  rw [show ((w.alloc (.cells (bysA x) 23)).alloc (.cells (bysA a0) 23)).heap.size = w.heap.size + 1 + 1 by go_simp] at I0
  have HI0 := Lib.hid I0
  clear I0 F0 Y0 LX hbx
  have l_y : w.heap.size ≤ w.heap.size + 1 := by omega
  generalize w.heap.size + 1 + 1 = g0 at *
  generalize w.heap.size + 1 = y at *
  go_loopw [8, 9, 19] (fun fv av i wr => ∃ (vf va : Value) (k : Nat) (fs acc : List (List Nat)) (a : List Nat), vf = fv ∧ va = av ∧ k ≤ n ∧ i = .int .i64 k ∧ SInv w y T L k vf va fs acc a wr) (fun _ _ i _ => n - (intOf i).toNat)
  case atStart => exact ⟨_, _, 0, [x], [], a0, rfl, rfl, Nat.zero_le _, rfl, HI0.out⟩
  case round =>
    obtain ⟨vf, va, k, fs, acc, a, rfl, rfl, hk, rfl, I⟩ := hrel
    clear HI0
    by_cases hkn : k < n
    · have hk1 : (k : Int) < (n : Int) := by omega
      obtain ⟨h, hj⟩ : ∃ h, L[k]? = some h := ⟨_, List.getElem?_eq_getElem (by rw [← Hn.out.1]; exact hkn)⟩
      have ho := Hok.out h (List.mem_of_getElem? hj)
      obtain ⟨g, o, ep, hg, hld⟩ := loadHop (HR.out.grow I.bel) hj ho
      subst ep
      have hks := ho.k
      have his := ho.i
      have hsz := hopA_size hks his
      have hkey := bysA_size' hks
      have has' := bysA_size' I.a32
      obtain ⟨pf, cf, rfl, _, _, _, _⟩ := I.of.form
      rw [List.length_map, I.fl] at I ⊢
      have HEq := Lib.hid I.eq
      rw [secF_drop hj] at HEq
      obtain ⟨m, em⟩ : ∃ m, m = k + 1 := ⟨_, rfl⟩
      rw [← em] at I ⊢
      have KC := Lib.hid (fun (W : World) (hW : RowsAt 32 W pf (fs.map bysA)) => bchain_c h.k fs m cf pf hks ho.kb I.f32 I.fb (by rw [I.fl, em]) (by have := Hn.out.2; omega) W hW)
      obtain ⟨s, es⟩ : ∃ s, s = keyB (chB h.k fs) := ⟨_, rfl⟩
      have hs32 : s.length = 32 := by rw [es]; exact keyB_length _
      have hsb : ∀ i, s.getD i 0 < 256 := by rw [es]; exact keyB_bts _
      have hss := bysA_size' hs32
      rw [← es] at KC HEq
      obtain ⟨cn, ecn⟩ : ∃ c, c = chB h.k fs := ⟨_, rfl⟩
      rw [← ecn] at KC HEq
      have Hof := Lib.hid I.of
      have Hoa := Lib.hid I.oa
      have Hy := Lib.hid I.hy
      have Hbel := Lib.hid I.bel
      have HI := Lib.hid I
      have Em := Lib.hid em
      obtain ⟨y1, y2, y3⟩ := I.hy
      clear hj ho es ecn I em
      by_cases hz : cn = 0
      · rw [if_pos hz] at HEq
        obtain rfl : T = none := HEq.out
        rw [errOf_zero hz] at KC
        clear hz HEq
        go_wp2_with fail
        have m0_hb : (Value.slice pf m cf).ownBlock ≠ some wr.heap.size := fun e => by have := (Hof.out.ltb _ e).2; omega
        have m1_hb : va.ownBlock ≠ some wr.heap.size := fun e => by have := (Hoa.out.ltb _ e).2; omega
        have n_y_hb : y ≠ wr.heap.size := Nat.ne_of_lt Hy.out.2.2
        have l_hb : w.heap.size ≤ wr.heap.size := Hbel.out.size
        have hb11 := below_alloc (Below.refl wr.heap.size wr) (.cells (hopA h.k h.c) 77)
        have N11 := Lib.hid (RowAt.of (block_new wr (.cells (hopA h.k h.c) 77)))
        have O11x0 := Lib.hid (Hof.out.grow hb11)
        clear Hof
        have O11x1 := Lib.hid (Hoa.out.grow hb11)
        clear Hoa
        have R11x0 := Lib.hid (Hy.out.grow hb11)
        have B11 := Lib.hid (Hbel.out.trans (hb11.mono Hbel.out.size))
        clear hb11 Hbel Hy y1 y2 y3 hld hg
        generalize wr.heap.size = hb at *
        generalize wr.alloc (.cells (hopA h.k h.c) 77) = W11 at *
        refine (KC.out _ (OwnR.rows O11x0.out)).mono ?_
        rintro e W12 ⟨rfl, hb12⟩
        have O12x0 := Lib.hid (O11x0.out.grow hb12)
        clear O11x0
        have O12x1 := Lib.hid (O11x1.out.grow hb12)
        clear O11x1
        have R12x0 := Lib.hid (R11x0.out.grow hb12)
        have R12x1 := Lib.hid (N11.out.grow hb12)
        have B12 := Lib.hid (B11.out.trans (hb12.mono B11.out.size))
        clear hb12 B11 R11x0 N11
        obtain ⟨R12x0a, R12x0b, R12x0c⟩ := R12x0.out
        obtain ⟨R12x1a, R12x1b, R12x1c⟩ := R12x1.out
        go_wp2_with fail
        refine bodyPost_ret (v := .tuple #[.slice none 0 0, .int .i64 7]) (results_tmp2 Tryz.results33 _ _ _) rfl ⟨_, rfl, OwnR.nil _ _ _ _, ?_⟩
        exact B12.out.alloc B12.out.size _
      · rw [if_neg hz] at HEq
        rw [errOf_ne hz] at KC
        clear hz
        have hKB := Lib.hid (fun (W : World) (h : Tabs W) => blinding_c s a hs32 hsb HI.out.a32 HI.out.ab W h)
        obtain ⟨b, eb⟩ : ∃ b, b = bli s a := ⟨_, rfl⟩
        have hb32 : b.length = 32 := by rw [eb]; exact bli_length _ _
        have hbb : ∀ i, b.getD i 0 < 256 := by rw [eb]; exact bli_bts _ _
        have hbs := bysA_size' hb32
        have KS := Lib.hid (fun (W : World) => show Calls Tryz.prog 29 #[.agg (bysA b), .agg (bysA a)] W fun e w' => e = .returned (.tuple #[.agg (bysA (keyB (nxA s a))), .int .i64 (F.errOf (nxA s a))]) ∧ Below W.heap.size W w' from by
          have := bshared_c b a hb32 hbb HI.out.a32 HI.out.ab W
          unfold nxA; rwa [← eb])
        obtain ⟨a', ea'⟩ : ∃ a', a' = keyB (nxA s a) := ⟨_, rfl⟩
        have ha32 : a'.length = 32 := by rw [ea']; exact keyB_length _
        have hab : ∀ i, a'.getD i 0 < 256 := by rw [ea']; exact keyB_bts _
        have has2 := bysA_size' ha32
        rw [← eb] at hKB HEq
        rw [← ea'] at KS HEq
        obtain ⟨dn, edn⟩ : ∃ d, d = nxA s a := ⟨_, rfl⟩
        rw [← edn] at KS HEq
        clear eb ea' edn
        by_cases hz : dn = 0
        · rw [if_pos hz] at HEq
          obtain rfl : T = none := HEq.out
          rw [errOf_zero hz] at KS
          clear hz HEq
          go_wp2_with fail
          have m0_hb : (Value.slice pf m cf).ownBlock ≠ some wr.heap.size := fun e => by have := (Hof.out.ltb _ e).2; omega
          have m1_hb : va.ownBlock ≠ some wr.heap.size := fun e => by have := (Hoa.out.ltb _ e).2; omega
          have n_y_hb : y ≠ wr.heap.size := Nat.ne_of_lt Hy.out.2.2
          have l_hb : w.heap.size ≤ wr.heap.size := Hbel.out.size
          have hb11 := below_alloc (Below.refl wr.heap.size wr) (.cells (hopA h.k h.c) 77)
          have N11 := Lib.hid (RowAt.of (block_new wr (.cells (hopA h.k h.c) 77)))
          have O11x0 := Lib.hid (Hof.out.grow hb11)
          clear Hof
          have O11x1 := Lib.hid (Hoa.out.grow hb11)
          clear Hoa
          have R11x0 := Lib.hid (Hy.out.grow hb11)
          have B11 := Lib.hid (Hbel.out.trans (hb11.mono Hbel.out.size))
          clear hb11 Hbel Hy y1 y2 y3 hld hg
          generalize wr.heap.size = hb at *
          generalize wr.alloc (.cells (hopA h.k h.c) 77) = W11 at *
          refine (KC.out _ (OwnR.rows O11x0.out)).mono ?_
          rintro e W12 ⟨rfl, hb12⟩
          have O12x0 := Lib.hid (O11x0.out.grow hb12)
          clear O11x0
          have O12x1 := Lib.hid (O11x1.out.grow hb12)
          clear O11x1
          have R12x0 := Lib.hid (R11x0.out.grow hb12)
          have R12x1 := Lib.hid (N11.out.grow hb12)
          have B12 := Lib.hid (B11.out.trans (hb12.mono B11.out.size))
          clear hb12 B11 R11x0 N11
          obtain ⟨R12x0a, R12x0b, R12x0c⟩ := R12x0.out
          obtain ⟨R12x1a, R12x1b, R12x1c⟩ := R12x1.out
          go_wp2_with fail
          have m0_sb : (Value.slice pf m cf).ownBlock ≠ some W12.heap.size := fun e => by have := (O12x0.out.ltb _ e).2; omega
          have m1_sb : va.ownBlock ≠ some W12.heap.size := fun e => by have := (O12x1.out.ltb _ e).2; omega
          have n_y_sb : y ≠ W12.heap.size := Nat.ne_of_lt R12x0.out.2.2
          have n_hb_sb : hb ≠ W12.heap.size := Nat.ne_of_lt R12x1.out.2.2
          have l_sb : w.heap.size ≤ W12.heap.size := B12.out.size
          have hb13 := below_alloc (Below.refl W12.heap.size W12) (.cells (bysA s) 23)
          have N13 := Lib.hid (RowAt.of (block_new W12 (.cells (bysA s) 23)))
          have O13x0 := Lib.hid (O12x0.out.grow hb13)
          clear O12x0
          have O13x1 := Lib.hid (O12x1.out.grow hb13)
          clear O12x1
          have R13x0 := Lib.hid (R12x0.out.grow hb13)
          have R13x1 := Lib.hid (R12x1.out.grow hb13)
          have B13 := Lib.hid (B12.out.trans (hb13.mono B12.out.size))
          clear hb13 B12 R12x0 R12x1 R12x0a R12x0b R12x0c R12x1a R12x1b R12x1c
          generalize W12.heap.size = sb at *
          generalize W12.alloc (.cells (bysA s) 23) = W13 at *
          refine (hKB.out _ (HT.out.grow B13.out)).mono ?_
          rintro e W14 ⟨rfl, hb14⟩
          have O14x0 := Lib.hid (O13x0.out.grow hb14)
          clear O13x0
          have O14x1 := Lib.hid (O13x1.out.grow hb14)
          clear O13x1
          have R14x0 := Lib.hid (R13x0.out.grow hb14)
          have R14x1 := Lib.hid (R13x1.out.grow hb14)
          have R14x2 := Lib.hid (N13.out.grow hb14)
          have B14 := Lib.hid (B13.out.trans (hb14.mono B13.out.size))
          clear hb14 B13 R13x0 R13x1 N13
          obtain ⟨R14x0a, R14x0b, R14x0c⟩ := R14x0.out
          obtain ⟨R14x1a, R14x1b, R14x1c⟩ := R14x1.out
          obtain ⟨R14x2a, R14x2b, R14x2c⟩ := R14x2.out
          go_wp2_with fail
          have m0_bb : (Value.slice pf m cf).ownBlock ≠ some W14.heap.size := fun e => by have := (O14x0.out.ltb _ e).2; omega
          have m1_bb : va.ownBlock ≠ some W14.heap.size := fun e => by have := (O14x1.out.ltb _ e).2; omega
          have n_y_bb : y ≠ W14.heap.size := Nat.ne_of_lt R14x0.out.2.2
          have n_hb_bb : hb ≠ W14.heap.size := Nat.ne_of_lt R14x1.out.2.2
          have n_sb_bb : sb ≠ W14.heap.size := Nat.ne_of_lt R14x2.out.2.2
          have l_bb : w.heap.size ≤ W14.heap.size := B14.out.size
          have hb15 := below_alloc (Below.refl W14.heap.size W14) (.cells (bysA b) 23)
          have N15 := Lib.hid (RowAt.of (block_new W14 (.cells (bysA b) 23)))
          have O15x0 := Lib.hid (O14x0.out.grow hb15)
          clear O14x0
          have O15x1 := Lib.hid (O14x1.out.grow hb15)
          clear O14x1
          have R15x0 := Lib.hid (R14x0.out.grow hb15)
          have R15x1 := Lib.hid (R14x1.out.grow hb15)
          have R15x2 := Lib.hid (R14x2.out.grow hb15)
          have B15 := Lib.hid (B14.out.trans (hb15.mono B14.out.size))
          clear hb15 B14 R14x0 R14x1 R14x2 R14x0a R14x0b R14x0c R14x1a R14x1b R14x1c R14x2a R14x2b R14x2c
          generalize W14.heap.size = bb at *
          generalize W14.alloc (.cells (bysA b) 23) = W15 at *
          refine (KS.out _).mono ?_
          rintro e W16 ⟨rfl, hb16⟩
          have O16x0 := Lib.hid (O15x0.out.grow hb16)
          clear O15x0
          have O16x1 := Lib.hid (O15x1.out.grow hb16)
          clear O15x1
          have R16x0 := Lib.hid (R15x0.out.grow hb16)
          have R16x1 := Lib.hid (R15x1.out.grow hb16)
          have R16x2 := Lib.hid (R15x2.out.grow hb16)
          have R16x3 := Lib.hid (N15.out.grow hb16)
          have B16 := Lib.hid (B15.out.trans (hb16.mono B15.out.size))
          clear hb16 B15 R15x0 R15x1 R15x2 N15
          obtain ⟨R16x0a, R16x0b, R16x0c⟩ := R16x0.out
          obtain ⟨R16x1a, R16x1b, R16x1c⟩ := R16x1.out
          obtain ⟨R16x2a, R16x2b, R16x2c⟩ := R16x2.out
          obtain ⟨R16x3a, R16x3b, R16x3c⟩ := R16x3.out
          go_wp2_with fail
          refine bodyPost_ret (v := .tuple #[.slice none 0 0, .int .i64 7]) (results_tmp2 Tryz.results33 _ _ _) rfl ⟨_, rfl, OwnR.nil _ _ _ _, ?_⟩
          exact below_setRow B16.out l_y _
        · rw [if_neg hz] at HEq
          rw [errOf_ne hz] at KS
          clear hz
          go_wp2_with fail
          have m0_hb : (Value.slice pf m cf).ownBlock ≠ some wr.heap.size := fun e => by have := (Hof.out.ltb _ e).2; omega
          have m1_hb : va.ownBlock ≠ some wr.heap.size := fun e => by have := (Hoa.out.ltb _ e).2; omega
          have n_y_hb : y ≠ wr.heap.size := Nat.ne_of_lt Hy.out.2.2
          have l_hb : w.heap.size ≤ wr.heap.size := Hbel.out.size
          have hb11 := below_alloc (Below.refl wr.heap.size wr) (.cells (hopA h.k h.c) 77)
          have N11 := Lib.hid (RowAt.of (block_new wr (.cells (hopA h.k h.c) 77)))
          have O11x0 := Lib.hid (Hof.out.grow hb11)
          clear Hof
          have O11x1 := Lib.hid (Hoa.out.grow hb11)
          clear Hoa
          have R11x0 := Lib.hid (Hy.out.grow hb11)
          have B11 := Lib.hid (Hbel.out.trans (hb11.mono Hbel.out.size))
          clear hb11 Hbel Hy y1 y2 y3 hld hg
          generalize wr.heap.size = hb at *
          generalize wr.alloc (.cells (hopA h.k h.c) 77) = W11 at *
          refine (KC.out _ (OwnR.rows O11x0.out)).mono ?_
          rintro e W12 ⟨rfl, hb12⟩
          have O12x0 := Lib.hid (O11x0.out.grow hb12)
          clear O11x0
          have O12x1 := Lib.hid (O11x1.out.grow hb12)
          clear O11x1
          have R12x0 := Lib.hid (R11x0.out.grow hb12)
          have R12x1 := Lib.hid (N11.out.grow hb12)
          have B12 := Lib.hid (B11.out.trans (hb12.mono B11.out.size))
          clear hb12 B11 R11x0 N11
          obtain ⟨R12x0a, R12x0b, R12x0c⟩ := R12x0.out
          obtain ⟨R12x1a, R12x1b, R12x1c⟩ := R12x1.out
          go_wp2_with fail
          have m0_sb : (Value.slice pf m cf).ownBlock ≠ some W12.heap.size := fun e => by have := (O12x0.out.ltb _ e).2; omega
          have m1_sb : va.ownBlock ≠ some W12.heap.size := fun e => by have := (O12x1.out.ltb _ e).2; omega
          have n_y_sb : y ≠ W12.heap.size := Nat.ne_of_lt R12x0.out.2.2
          have n_hb_sb : hb ≠ W12.heap.size := Nat.ne_of_lt R12x1.out.2.2
          have l_sb : w.heap.size ≤ W12.heap.size := B12.out.size
          have hb13 := below_alloc (Below.refl W12.heap.size W12) (.cells (bysA s) 23)
          have N13 := Lib.hid (RowAt.of (block_new W12 (.cells (bysA s) 23)))
          have O13x0 := Lib.hid (O12x0.out.grow hb13)
          clear O12x0
          have O13x1 := Lib.hid (O12x1.out.grow hb13)
          clear O12x1
          have R13x0 := Lib.hid (R12x0.out.grow hb13)
          have R13x1 := Lib.hid (R12x1.out.grow hb13)
          have B13 := Lib.hid (B12.out.trans (hb13.mono B12.out.size))
          clear hb13 B12 R12x0 R12x1 R12x0a R12x0b R12x0c R12x1a R12x1b R12x1c
          generalize W12.heap.size = sb at *
          generalize W12.alloc (.cells (bysA s) 23) = W13 at *
          refine (hKB.out _ (HT.out.grow B13.out)).mono ?_
          rintro e W14 ⟨rfl, hb14⟩
          have O14x0 := Lib.hid (O13x0.out.grow hb14)
          clear O13x0
          have O14x1 := Lib.hid (O13x1.out.grow hb14)
          clear O13x1
          have R14x0 := Lib.hid (R13x0.out.grow hb14)
          have R14x1 := Lib.hid (R13x1.out.grow hb14)
          have R14x2 := Lib.hid (N13.out.grow hb14)
          have B14 := Lib.hid (B13.out.trans (hb14.mono B13.out.size))
          clear hb14 B13 R13x0 R13x1 N13
          obtain ⟨R14x0a, R14x0b, R14x0c⟩ := R14x0.out
          obtain ⟨R14x1a, R14x1b, R14x1c⟩ := R14x1.out
          obtain ⟨R14x2a, R14x2b, R14x2c⟩ := R14x2.out
          go_wp2_with fail
          have m0_bb : (Value.slice pf m cf).ownBlock ≠ some W14.heap.size := fun e => by have := (O14x0.out.ltb _ e).2; omega
          have m1_bb : va.ownBlock ≠ some W14.heap.size := fun e => by have := (O14x1.out.ltb _ e).2; omega
          have n_y_bb : y ≠ W14.heap.size := Nat.ne_of_lt R14x0.out.2.2
          have n_hb_bb : hb ≠ W14.heap.size := Nat.ne_of_lt R14x1.out.2.2
          have n_sb_bb : sb ≠ W14.heap.size := Nat.ne_of_lt R14x2.out.2.2
          have l_bb : w.heap.size ≤ W14.heap.size := B14.out.size
          have hb15 := below_alloc (Below.refl W14.heap.size W14) (.cells (bysA b) 23)
          have N15 := Lib.hid (RowAt.of (block_new W14 (.cells (bysA b) 23)))
          have O15x0 := Lib.hid (O14x0.out.grow hb15)
          clear O14x0
          have O15x1 := Lib.hid (O14x1.out.grow hb15)
          clear O14x1
          have R15x0 := Lib.hid (R14x0.out.grow hb15)
          have R15x1 := Lib.hid (R14x1.out.grow hb15)
          have R15x2 := Lib.hid (R14x2.out.grow hb15)
          have B15 := Lib.hid (B14.out.trans (hb15.mono B14.out.size))
          clear hb15 B14 R14x0 R14x1 R14x2 R14x0a R14x0b R14x0c R14x1a R14x1b R14x1c R14x2a R14x2b R14x2c
          generalize W14.heap.size = bb at *
          generalize W14.alloc (.cells (bysA b) 23) = W15 at *
          refine (KS.out _).mono ?_
          rintro e W16 ⟨rfl, hb16⟩
          have O16x0 := Lib.hid (O15x0.out.grow hb16)
          clear O15x0
          have O16x1 := Lib.hid (O15x1.out.grow hb16)
          clear O15x1
          have R16x0 := Lib.hid (R15x0.out.grow hb16)
          have R16x1 := Lib.hid (R15x1.out.grow hb16)
          have R16x2 := Lib.hid (R15x2.out.grow hb16)
          have R16x3 := Lib.hid (N15.out.grow hb16)
          have B16 := Lib.hid (B15.out.trans (hb16.mono B15.out.size))
          clear hb16 B15 R15x0 R15x1 R15x2 N15
          have hbk := fun W => run_bldKs1 hs32 W
          have hbk2 := fun W => run_bldKs1 hb32 W
          have O18x0 := Lib.hid (O16x0.out.setRow HI.out.nf (bysA a'))
          have O18x1 := Lib.hid (O16x1.out.setRow HI.out.na (bysA a'))
          have R18x0 := Lib.hid (R16x0.out.set (bysA a'))
          have R18x1 := Lib.hid (R16x2.out.other (Ne.symm n_y_sb) (bysA a'))
          have R18x2 := Lib.hid (R16x3.out.other (Ne.symm n_y_bb) (bysA a'))
          have B18 := Lib.hid (below_setRow B16.out l_y (bysA a'))
          obtain ⟨W18, eW18⟩ : ∃ W, W = W16.setRow y (bysA a') := ⟨_, rfl⟩
          rw [← eW18] at R18x0 R18x1 R18x2 O18x0 O18x1 B18
          have hW18 := eW18.symm
          clear eW18
          have hb19 := below_alloc (Below.refl W18.heap.size W18) (.cells (bysA s) 23)
          have O19x0 := Lib.hid (O18x0.out.grow hb19)
          have O19x1 := Lib.hid (O18x1.out.grow hb19)
          have n_y_tb : y ≠ W18.heap.size := Nat.ne_of_lt R18x0.out.2.2
          have R19x0 := Lib.hid (R18x0.out.grow hb19)
          have n_sb_tb : sb ≠ W18.heap.size := Nat.ne_of_lt R18x1.out.2.2
          have R19x1 := Lib.hid (R18x1.out.grow hb19)
          have n_bb_tb : bb ≠ W18.heap.size := Nat.ne_of_lt R18x2.out.2.2
          have R19x2 := Lib.hid (R18x2.out.grow hb19)
          have m0_tb : (Value.slice pf m cf).ownBlock ≠ some W18.heap.size := fun e => by have := (O18x0.out.ltb _ e).2; omega
          have m1_tb : va.ownBlock ≠ some W18.heap.size := fun e => by have := (O18x1.out.ltb _ e).2; omega
          have R19n := Lib.hid (RowAt.of (block_new W18 (.cells (bysA s) 23)))
          have l_tb : w.heap.size ≤ W18.heap.size := B18.out.size
          have B19 := Lib.hid (B18.out.trans (hb19.mono B18.out.size))
          clear hb19
          obtain ⟨tb, etb⟩ : ∃ z, z = W18.heap.size := ⟨_, rfl⟩
          obtain ⟨W19, eW19⟩ : ∃ z, z = W18.alloc (.cells (bysA s) 23) := ⟨_, rfl⟩
          rw [← etb] at R19n l_tb n_y_tb n_sb_tb n_bb_tb m0_tb m1_tb
          rw [← eW19] at R19x0 R19x1 R19x2 R19n O19x0 O19x1 B19
          have hW19 := eW19.symm
          have htb := etb.symm
          clear eW19 etb
          obtain ⟨va2, W20, hr20, ho20, hg20, hn20⟩ := app_key O19x1.out (range_of_row R19n.out) hs32 B19.out.size (by rw [HI.out.al]; have := Hn.out.2; omega)
          have P20 := Lib.hid ho20
          have A20 := Lib.hid (own_belowR B19.out O19x1.out B19.out.size hg20)
          have N20 := Lib.hid hn20
          have Q20x0 := Lib.hid (rowAt_grown R19x0.out hg20 HI.out.na)
          have Q20x1 := Lib.hid (rowAt_grown R19x1.out hg20 m1_sb)
          have Q20x2 := Lib.hid (rowAt_grown R19x2.out hg20 m1_bb)
          have Q20x3 := Lib.hid (rowAt_grown R19n.out hg20 m1_tb)
          have U20x0 := Lib.hid (O19x0.out.kept hg20 (.inr HI.out.nn))
          have G20 := Lib.hid hg20.size
          clear ho20 hg20 hn20
          have Hnn := Lib.hid (NewB.neB N20.out HI.out.nn (fun k e => by have := (O19x0.out.ltb k e).2; exact this) (P20.out.some_block (by simp)))
          have HnaY := Lib.hid (show va2.ownBlock ≠ some y from N20.out.ne HI.out.na (R19x0.out.2.2))
          have hb21 := below_alloc (Below.refl W20.heap.size W20) (.cells (bysA b) 23)
          have O21x0 := Lib.hid (U20x0.out.grow hb21)
          have O21x1 := Lib.hid (P20.out.grow hb21)
          have n_y_ub : y ≠ W20.heap.size := Nat.ne_of_lt Q20x0.out.2.2
          have R21x0 := Lib.hid (Q20x0.out.grow hb21)
          have n_sb_ub : sb ≠ W20.heap.size := Nat.ne_of_lt Q20x1.out.2.2
          have R21x1 := Lib.hid (Q20x1.out.grow hb21)
          have n_bb_ub : bb ≠ W20.heap.size := Nat.ne_of_lt Q20x2.out.2.2
          have R21x2 := Lib.hid (Q20x2.out.grow hb21)
          have n_tb_ub : tb ≠ W20.heap.size := Nat.ne_of_lt Q20x3.out.2.2
          have R21x3 := Lib.hid (Q20x3.out.grow hb21)
          have m0_ub : (Value.slice pf m cf).ownBlock ≠ some W20.heap.size := fun e => by have := (U20x0.out.ltb _ e).2; omega
          have m1_ub : va2.ownBlock ≠ some W20.heap.size := fun e => by have := (P20.out.ltb _ e).2; omega
          have R21n := Lib.hid (RowAt.of (block_new W20 (.cells (bysA b) 23)))
          have l_ub : w.heap.size ≤ W20.heap.size := A20.out.size
          have B21 := Lib.hid (A20.out.trans (hb21.mono A20.out.size))
          clear hb21
          obtain ⟨ub, eub⟩ : ∃ z, z = W20.heap.size := ⟨_, rfl⟩
          obtain ⟨W21, eW21⟩ : ∃ z, z = W20.alloc (.cells (bysA b) 23) := ⟨_, rfl⟩
          rw [← eub] at R21n l_ub n_y_ub n_sb_ub n_bb_ub n_tb_ub m0_ub m1_ub
          rw [← eW21] at R21x0 R21x1 R21x2 R21x3 R21n O21x0 O21x1 B21
          have hW21 := eW21.symm
          have hub := eub.symm
          clear eW21 eub
          obtain ⟨vf2, W22, hr22, ho22, hg22, hn22⟩ := app_key O21x0.out (range_of_row R21n.out) hb32 B21.out.size (by rw [HI.out.fl]; have := Hn.out.2; omega)
          have P22 := Lib.hid ho22
          have A22 := Lib.hid (own_belowR B21.out O21x0.out B21.out.size hg22)
          have N22 := Lib.hid hn22
          have Q22x0 := Lib.hid (rowAt_grown R21x0.out hg22 HI.out.nf)
          have Q22x1 := Lib.hid (rowAt_grown R21x1.out hg22 m0_sb)
          have Q22x2 := Lib.hid (rowAt_grown R21x2.out hg22 m0_bb)
          have Q22x3 := Lib.hid (rowAt_grown R21x3.out hg22 m0_tb)
          have Q22x4 := Lib.hid (rowAt_grown R21n.out hg22 m0_ub)
          have U22x1 := Lib.hid (O21x1.out.kept hg22 (.inr (fun e => Hnn.out e.symm)))
          have G22 := Lib.hid hg22.size
          clear ho22 hg22 hn22
          have Hnn2 := Lib.hid (show vf2.ownBlock ≠ va2.ownBlock from fun e => NewB.neB N22.out (fun e => Hnn.out e.symm) (fun k e => by have := (O21x1.out.ltb k e).2; exact this) (P22.out.some_block (by simp)) e.symm)
          have HnfY := Lib.hid (show vf2.ownBlock ≠ some y from N22.out.ne HI.out.nf (R21x0.out.2.2))
          have hI2 : SInv w y T L m vf2 va2 (fs ++ [b]) (acc ++ [s]) a' W22 := by
            obtain rfl := Em.out
            exact ⟨Q22x0.out, P22.out, U22x1.out, HnfY.out, HnaY.out, Hnn2.out, A22.out, by rw [List.length_append, HI.out.fl]; rfl, by rw [List.length_append, HI.out.al]; rfl, fun f hf => by
              rcases List.mem_append.1 hf with hf | hf
              · exact HI.out.f32 f hf
              · rw [List.mem_singleton.1 hf]; exact hb32, fun f hf => by
              rcases List.mem_append.1 hf with hf | hf
              · exact HI.out.fb f hf
              · rw [List.mem_singleton.1 hf]; exact hbb, ha32, hab, by
              rw [HEq.out, Option.map_map]
              congr 1
              funext l
              simp⟩
          have HI2 := Lib.hid hI2
          clear hI2
          obtain ⟨sy1, sy2, sy3⟩ := R16x0.out
          obtain ⟨sx1, sx2, sx3⟩ := R18x1.out
          obtain ⟨bx1, bx2, bx3⟩ := Q20x2.out
          go_wp2_with (at_builtin; first | refine Lib.wpList_append_run _ rfl _ _ _ _ rfl _ _ rfl rfl _ _ hr20 ?_ | refine Lib.wpList_append_run _ rfl _ _ _ _ rfl _ _ rfl rfl _ _ hr22 ?_)
          go_roundw
          case rel => exact ⟨vf2, va2, m, _, _, a', rfl, rfl, by have := Em.out; omega, by rw [Em.out]; go_num, HI2.out⟩
          case measure => simp [intOf]; omega
    · obtain rfl : k = n := by omega
      have hT : T = some acc := by
        rw [I.eq, List.drop_of_length_le (by rw [← Hn.out.1]; exact Nat.le_refl _)]; simp [secF]
      subst hT
      have HI := Lib.hid I
      clear I
      go_wp2_with fail
      refine bodyPost_ret (v := .tuple #[va, .int .i64 0]) (results_tmp2 Tryz.results33 _ _ _) rfl ⟨va, rfl, HI.out.oa, HI.out.bel⟩
end Go.Proofs.YtddmjddlbhdcpaaGreatDoor
