/-
  Part 3 of the texts behind the theorem.
-/
import Derived.Test.YtddmjddlbhdcpaaGreatDoorPart2
import Derived.Test.YtddmjddlbhdcpaaGreatDoorPart1
import Derived.Deep.MidRow
import Derived.Laws.BitsAllLaws
import Derived.Test.YtddmjddlbhdcpaaGreatDoorRows
import Derived.WalkKit
import Derived.WalkSpells
import Derived.WalkLawsBesides
import Derived.Laws.Bits64b
import Derived.Lib.Hide
import Derived.Shelf.Bits.Mul64
import Derived.Shelf.Spec.BitsCarry
/-
  Part 3 of the texts behind the theorem.
-/
/-
  Rows of bytes are compared: the whole comparison under a name of its own, so that the kernel does not open it in a walk.
-/
namespace Go.Proofs.YtddmjddlbhdcpaaGreatDoor
open Go.RowKit Go.Hold Go.Sh

/-- The test ahead of a comparison, and the comparison. -/
def eqV (op : BinOp) (t : TypeId) (x y : Operand) (v v' : Value) : Sem Value := do eqGuard op t x y v v'; Go.binOp op t v v'
theorem eq_all {n : Nat} {l m : List Nat} (hl : l.length = n) (hm : m.length = n) : ((List.range n).all fun i => ((l.getD i 0 : Nat) : Int) == ((m.getD i 0 : Nat) : Int)) = decide (l = m) := by
  rw [Bool.eq_iff_iff]
  simp only [List.all_eq_true, List.mem_range, beq_iff_eq, decide_eq_true_iff]
  constructor
  · intro h
    refine List.ext_getElem (by omega) fun i h1 h2 => ?_
    have := h i (by omega)
    simp only [List.getD, List.getElem?_eq_getElem h1, List.getElem?_eq_getElem h2, Option.getD_some] at this
    omega
  · rintro rfl i _; rfl
/-- Two arrays of bytes. -/
theorem equalIn_bytes {t : TypeId} {n : Nat} (hu : Tryz.prog.underlying t = some (.array n 5)) (d : Nat) {l m : List Nat} (hl : l.length = n) (hm : m.length = n) (w : World) :
    (Op.equalIn (d + 3) t (.agg (bysA l)) (.agg (bysA m))).run Tryz.prog w = .ok (decide (l = m)) w := by
  obtain ⟨i, hi⟩ : ∃ i, Tryz.prog.info? 5 = some i := Option.isSome_iff_exists.1 (by kernel_rfl)
  rw [run_equalIn_array w (d + 2) (bysA l) (bysA m) hu hi, show Tryz.prog.cellsOf 5 = 1 from by kernel_rfl, ← eq_all hl hm]
  exact run_eqItems_int (P := Tryz.prog) (k := .u8) (d + 1) Tryz.underlying5 (bysA l) (bysA m) (fun i => ((l.getD i 0 : Nat) : Int)) (fun i => ((m.getD i 0 : Nat) : Int)) w (List.range n) fun j hj => ⟨bysA_get l j (by have := List.mem_range.1 hj; omega), bysA_get m j (by have := List.mem_range.1 hj; omega)⟩
theorem run_eqV {t : TypeId} {n : Nat} (hu : Tryz.prog.underlying t = some (.array n 5)) (hg : Tryz.prog.eqGuardType Tryz.prog.depth t = false) (x y : Operand) {l m : List Nat} (hl : l.length = n) (hm : m.length = n) (w : World) :
    (eqV .eql t x y (.agg (bysA l)) (.agg (bysA m))).run Tryz.prog w = .ok (.bool (decide (l = m))) w := by
  unfold eqV
  rw [Sem.run_bind, run_eqGuard_agg w .eql t x y _ _ hg, Result.andThen_ok, run_eql_struct, show (10000 : Nat) = 9997 + 3 from rfl, equalIn_bytes hu 9997 hl hm]
  rfl
theorem run_neV {t : TypeId} {n : Nat} (hu : Tryz.prog.underlying t = some (.array n 5)) (hg : Tryz.prog.eqGuardType Tryz.prog.depth t = false) (x y : Operand) {l m : List Nat} (hl : l.length = n) (hm : m.length = n) (w : World) :
    (eqV .neq t x y (.agg (bysA l)) (.agg (bysA m))).run Tryz.prog w = .ok (.bool (!decide (l = m))) w := by
  unfold eqV
  rw [Sem.run_bind, run_eqGuard_agg w .neq t x y _ _ hg, Result.andThen_ok, run_neq_struct, show (10000 : Nat) = 9997 + 3 from rfl, equalIn_bytes hu 9997 hl hm]
  rfl
/-- A comparison at the type of 16 bytes, as the walk meets it. -/
@[go_sem ↓ high] theorem fold_eq16 (a : Operand → Value) (d : Option Tmp) (op : BinOp) (x y : Operand) (u t : TypeId) (p : String) (af : Array Edge) (g : Option (Nat × Bool)) :
    execOp a ⟨d, .binOp op 28 x y u, t, p, af, g⟩ = (do pure (.value (← eqV op 28 x y (a x) (a y)))) := rfl
@[go_sem] theorem run_eq16 (x y : Operand) (l m : List Nat) (hl : l.length = 16) (hm : m.length = 16) (w : World) :
    (eqV .eql 28 x y (.agg (bysA l)) (.agg (bysA m))).run Tryz.prog w = .ok (.bool (decide (l = m))) w := run_eqV Tryz.underlying28 (by kernel_rfl) x y hl hm w
@[go_sem] theorem run_ne16 (x y : Operand) (l m : List Nat) (hl : l.length = 16) (hm : m.length = 16) (w : World) :
    (eqV .neq 28 x y (.agg (bysA l)) (.agg (bysA m))).run Tryz.prog w = .ok (.bool (!decide (l = m))) w := run_neV Tryz.underlying28 (by kernel_rfl) x y hl hm w
end Go.Proofs.YtddmjddlbhdcpaaGreatDoor

/-
  What a function answers: two whole rows, or a row and a plain value.
-/
namespace Go.Proofs.YtddmjddlbhdcpaaGreatDoor
open Go.RowKit

/-- Two results that are whole rows. -/
theorem results_row2 {P : Program} {fn : Func} {p p' : Tmp} {t t' : TypeId} {d d' : TypeDesc} {cs cs' : Array Value} (w : World) (h : fn.results = #[.cell p t, .cell p' t'])
    (hu : P.underlying t = some d) (hd : (match d with | .struct _ | .array _ _ => true | _ => false) = true) (hi : (P.info? t).map (·.size) = some cs.size)
    (hu' : P.underlying t' = some d') (hd' : (match d' with | .struct _ | .array _ _ => true | _ => false) = true) (hi' : (P.info? t').map (·.size) = some cs'.size)
    (tmps : Array Value) (n n' : Nat) (hp : tmps.getD p undef = .pointer (some ⟨n, 0, none⟩)) (h1 : w.isRow n = true) (h2 : w.rowOf n = cs)
    (hp' : tmps.getD p' undef = .pointer (some ⟨n', 0, none⟩)) (h1' : w.isRow n' = true) (h2' : w.rowOf n' = cs') : (results fn tmps).run P w = .ok (.tuple #[.agg cs, .agg cs']) w := by
  obtain ⟨s, hs⟩ := World.isRow_spec h1
  obtain ⟨s', hs'⟩ := World.isRow_spec h1'
  rw [h2] at hs; rw [h2'] at hs'
  have e : tmps[p]?.getD undef = .pointer (some ⟨n, 0, none⟩) := by simpa using hp
  have e' : tmps[p']?.getD undef = .pointer (some ⟨n', 0, none⟩) := by simpa using hp'
  simp [results, h, e, e', asAddr, run_loadVar_row w n s t cs (0, 0) d hs hu hd hi, run_loadVar_row w n' s' t' cs' (0, 0) d' hs' hu' hd' hi']
/-- A whole row, and a plain value. -/
theorem results_row_slot {P : Program} {fn : Func} {p p' : Tmp} {t : TypeId} {d : TypeDesc} {cs : Array Value} {v : Value} (w : World) (h : fn.results = #[.cell p t, .tmp p'])
    (hu : P.underlying t = some d) (hd : (match d with | .struct _ | .array _ _ => true | _ => false) = true) (hi : (P.info? t).map (·.size) = some cs.size)
    (tmps : Array Value) (n : Nat) (hp : tmps.getD p undef = .pointer (some ⟨n, 0, none⟩)) (h1 : w.isRow n = true) (h2 : w.rowOf n = cs)
    (hp' : tmps.getD p' undef = v) : (results fn tmps).run P w = .ok (.tuple #[.agg cs, v]) w := by
  obtain ⟨s, hs⟩ := World.isRow_spec h1
  rw [h2] at hs
  have e : tmps[p]?.getD undef = .pointer (some ⟨n, 0, none⟩) := by simpa using hp
  have e' : tmps[p']?.getD undef = v := by simpa using hp'
  simp [results, h, e, e', asAddr, run_loadVar_row w n s t cs (0, 0) d hs hu hd hi]
end Go.Proofs.YtddmjddlbhdcpaaGreatDoor

/-
  Bytes that are laid down, and taken, as lists of numbers. Of no program.
-/
namespace Go.Oc
open Go Go.Sh

/-! ### Numbers in bytes -/
/-- The i-th byte of a number in so many bytes. -/
def dgt (n size i : Nat) : Nat := n / 2 ^ (8 * (size - 1 - i)) % 256
def digN (n size : Nat) : List Nat := (List.range size).map (dgt n size)
def joinN (l : List Nat) : Nat := l.foldl (fun a x => a * 256 + x) 0
theorem dig_length (n size : Nat) : (digN n size).length = size := by simp [digN]
theorem join_snoc (l : List Nat) (x : Nat) : joinN (l ++ [x]) = joinN l * 256 + x := by simp [joinN]
theorem fold_lt : ∀ (l : List Nat) (a : Nat), (∀ x ∈ l, x < 256) → l.foldl (fun a x => a * 256 + x) a < (a + 1) * 2 ^ (8 * l.length)
  | [], a, _ => by simp
  | x :: l, a, h => by
    have h1 := fold_lt l (a * 256 + x) fun y hy => h y (by simp [hy])
    have h2 : x < 256 := h x (by simp)
    rw [List.foldl_cons, List.length_cons, Nat.mul_add, Nat.mul_one, Nat.add_comm (8 * l.length) 8, Nat.pow_add, ← Nat.mul_assoc]
    refine Nat.lt_of_lt_of_le h1 (Nat.mul_le_mul_right _ ?_)
    show a * 256 + x + 1 ≤ (a + 1) * 256
    omega
theorem join_lt (l : List Nat) (h : ∀ i, l.getD i 0 < 256) : joinN l < 2 ^ (8 * l.length) := by
  have := fold_lt l 0 (mem_lt h)
  simpa [joinN] using this
/-- Has a number room in some bytes? -/
def Fits (n : Nat) (sz : Int) : Prop := 1 ≤ sz ∧ sz ≤ 8 ∧ n < 2 ^ (8 * sz.toNat)
instance (n : Nat) (sz : Int) : Decidable (Fits n sz) := by unfold Fits; infer_instance

/-! ### A writer: its first error, and its bytes -/
abbrev Ws := Int × List Nat
def layS (room : Nat) (l m : List Nat) : Ws := if room < l.length + m.length then (8, l) else (0, l ++ m)
def numS (room : Nat) (s : Ws) (n : Nat) (sz : Int) : Ws := if s.1 ≠ 0 then s else if ¬ Fits n sz then (2, s.2) else layS room s.2 (digN n sz.toNat)
def bytS (room : Nat) (s : Ws) (m : List Nat) : Ws := if s.1 ≠ 0 then s else layS room s.2 m
def filS (room : Nat) (s : Ws) (to : Int) : Ws := if s.1 ≠ 0 then s else if to < (s.2.length : Int) then (2, s.2) else if (room : Int) < to then (8, s.2) else layS room s.2 (zs (to.toNat - s.2.length))
/-- What all of it is. -/
def allL (s : Ws) : List Nat := if s.1 ≠ 0 then [] else s.2
/-! ### A reader: its first error, and the bytes that are left -/
def takS (s : Ws) (n : Nat) : Ws := if s.2.length < n then (4, s.2) else (0, s.2.drop n)
def rnumS (s : Ws) (sz : Int) : Ws := if s.1 ≠ 0 then s else if ¬ (1 ≤ sz ∧ sz ≤ 8) then (2, s.2) else takS s sz.toNat
def rnumV (s : Ws) (sz : Int) : Nat := if s.1 = 0 ∧ (1 ≤ sz ∧ sz ≤ 8) ∧ sz.toNat ≤ s.2.length then joinN (s.2.take sz.toNat) else 0
def rbytS (s : Ws) (n : Int) : Ws := if s.1 ≠ 0 then s else if n < 0 then (2, s.2) else takS s n.toNat
def rbytV (s : Ws) (n : Int) : List Nat := if s.1 = 0 ∧ 0 ≤ n ∧ n.toNat ≤ s.2.length then s.2.take n.toNat else []
def leftS (s : Ws) : Nat := if s.1 ≠ 0 then 0 else s.2.length
def doneS (s : Ws) : Bool := decide (s.1 = 0) && s.2.all (· == 0)
end Go.Oc

/-
  Commands, and their bytes, as numbers and lists. Of no program.
-/
namespace Go.Cm
open Go Go.Sh Go.Oc

/-- A command: its kind, the next one, a delay, an id. -/
structure Cmd where
  k : Int
  n : Int
  d : Int
  id : List Nat
/-- May there be such a command? -/
def Cmd.may (c : Cmd) : Bool :=
  if c.k = 1 then decide (0 ≤ c.n ∧ c.n < 16) && decide (0 ≤ c.d ∧ c.d < 65) && decide (c.id = zs 8)
  else if c.k = 2 then decide (0 ≤ c.n ∧ c.n < 8) && decide (c.d = 0) && decide (c.id = zs 8)
  else if c.k = 3 then decide (0 ≤ c.n ∧ c.n < 8) && decide (c.d = 0)
  else if c.k = 4 then decide (c.n = 0) && decide (c.d = 0) && decide (c.id = zs 8)
  else false
/-- Its bytes. -/
def Cmd.enc (c : Cmd) : List Nat := [c.k.toNat % 256, c.n.toNat % 256, c.d.toNat / 256 % 256, c.d.toNat % 256] ++ c.id ++ zs 4
/-- The command that bytes would say. -/
def ofB (b : List Nat) : Cmd := ⟨(b.getD 0 0 : Nat), (b.getD 1 0 : Nat), ((b.getD 2 0 * 256 + b.getD 3 0 : Nat) : Int), (b.drop 4).take 8⟩
/-- Are bytes a command's? -/
def okB (b : List Nat) : Bool := (b.drop 12).all (· == 0) && (ofB b).may
def Cmd.zero : Cmd := ⟨0, 0, 0, zs 8⟩
/-- What is answered: the bytes, or noughts; the error. -/
def encV (c : Cmd) : List Nat := if c.may then c.enc else zs 16
def encE (c : Cmd) : Int := if c.may then 0 else 2
def decV (b : List Nat) : Cmd := if okB b then ofB b else .zero
def decE (b : List Nat) : Int := if okB b then 0 else 5

theorem may_range {c : Cmd} (h : c.may = true) : (1 ≤ c.k ∧ c.k < 5) ∧ (0 ≤ c.n ∧ c.n < 16) ∧ (0 ≤ c.d ∧ c.d < 65) := by
  unfold Cmd.may at h
  split at h
  · simp at h; omega
  split at h
  · simp at h; omega
  split at h
  · simp at h; omega
  split at h
  · simp at h; omega
  · cases h
theorem enc_length {c : Cmd} (h : c.id.length = 8) : c.enc.length = 16 := by simp [Cmd.enc, h, zs]
theorem enc_bts {c : Cmd} (h : ∀ i, c.id.getD i 0 < 256) : ∀ i, c.enc.getD i 0 < 256 := by
  refine getD_lt fun x hx => ?_
  simp only [Cmd.enc, List.mem_append, List.mem_cons, List.not_mem_nil, or_false] at hx
  rcases hx with ((rfl | rfl | rfl | rfl) | hx) | hx
  · exact Nat.mod_lt _ (by decide)
  · exact Nat.mod_lt _ (by decide)
  · exact Nat.mod_lt _ (by decide)
  · exact Nat.mod_lt _ (by decide)
  · exact mem_lt h x hx
  · simp [zs] at hx; omega
theorem ofB_enc {c : Cmd} (hi : c.id.length = 8) (h : c.may = true) : ofB c.enc = c := by
  obtain ⟨h1, h2, h3⟩ := may_range h
  obtain ⟨k, n, d, id⟩ := c
  simp only at h1 h2 h3 hi
  simp only [ofB, Cmd.enc, List.cons_append, List.nil_append, List.getD_cons_zero, List.getD_cons_succ, List.drop_succ_cons, List.drop_zero, Cmd.mk.injEq]
  refine ⟨by omega, by omega, by omega, ?_⟩
  rw [← hi, List.take_left]
theorem okB_enc {c : Cmd} (hi : c.id.length = 8) (h : c.may = true) : okB c.enc = true := by
  unfold okB
  rw [ofB_enc hi h, h, Bool.and_true]
  have : c.enc.drop 12 = zs 4 := by
    simp only [Cmd.enc, List.cons_append, List.nil_append, List.drop_succ_cons]
    rw [← hi, List.drop_left]
  rw [this]; decide
theorem ofB_id (b : List Nat) (hb : b.length = 16) : (ofB b).id.length = 8 := by simp [ofB, hb]
theorem encV_length {c : Cmd} (h : c.id.length = 8) : (encV c).length = 16 := by
  unfold encV; split
  · exact enc_length h
  · simp [zs]
theorem encV_bts {c : Cmd} (h : ∀ i, c.id.getD i 0 < 256) : ∀ i, (encV c).getD i 0 < 256 := by
  unfold encV; split
  · exact enc_bts h
  · exact bts_zs _
theorem decV_id {b : List Nat} (hb : b.length = 16) : (decV b).id.length = 8 := by
  unfold decV; split
  · exact ofB_id b hb
  · simp [Cmd.zero, zs]
end Go.Cm

/-
  Package command: a command as cells; an id among them.
-/
namespace Go.Proofs.YtddmjddlbhdcpaaGreatDoor
open Go.RowKit Go.Hold Go.Sh Go.Cm

/-- A command's cells. -/
def cmdA (c : Cmd) : Array Value := (([.int .i64 c.k, .int .i64 c.n, .int .i64 c.d] : List Value) ++ bys c.id).toArray
theorem cmdA_size {c : Cmd} (h : c.id.length = 8) : (cmdA c).size = 11 := by simp [cmdA, bys, h]
@[go_sem] theorem cmdA_0 (c : Cmd) : (cmdA c)[0]? = some (.int .i64 c.k) := by simp [cmdA]
@[go_sem] theorem cmdA_1 (c : Cmd) : (cmdA c)[1]? = some (.int .i64 c.n) := by simp [cmdA]
@[go_sem] theorem cmdA_2 (c : Cmd) : (cmdA c)[2]? = some (.int .i64 c.d) := by simp [cmdA]
@[go_sem] theorem cmdA_g0 (c : Cmd) (h : 0 < (cmdA c).size) : (cmdA c)[0]'h = .int .i64 c.k := by simp [cmdA]
@[go_sem] theorem cmdA_g1 (c : Cmd) (h : 1 < (cmdA c).size) : (cmdA c)[1]'h = .int .i64 c.n := by simp [cmdA]
@[go_sem] theorem cmdA_g2 (c : Cmd) (h : 2 < (cmdA c).size) : (cmdA c)[2]'h = .int .i64 c.d := by simp [cmdA]
@[go_sem] theorem cmdA_one (c : Cmd) : oneAll (cmdA c) = true := by simp [oneAll, cmdA, bys, Value.oneCell']
theorem cmdA_get (c : Cmd) (i : Nat) (h : i < c.id.length) : (cmdA c)[3 + i]? = some (.int .u8 ((c.id.getD i 0 : Nat) : Int)) := by
  simp only [cmdA, List.getElem?_toArray]
  rw [List.getElem?_append_right (by simp)]
  simp [bys, h]
@[go_sem] theorem cmdA_ext (c : Cmd) (h : c.id.length = 8) : (cmdA c).extract 3 11 = bysA c.id := by
  apply Array.ext_getElem?
  intro i
  rw [Array.getElem?_extract, cmdA_size h]
  by_cases hi : i < 8
  · rw [if_pos (by omega), cmdA_get c i (by omega), bysA_get _ i (by omega)]
  · rw [if_neg (by omega), Array.getElem?_eq_none (by rw [bysA_size]; omega)]
theorem bytes_cmd {w : World} {g : Nat} {c : Cmd} (h : RowAt w g (cmdA c)) : BytesAt w g 3 c.id :=
  ⟨h.2.2, fun i hi => h.cellAt (3 + i) (cmdA_get c i hi)⟩
/-- The middle of a row, as a value. -/
theorem run_loadMid {t : TypeId} {d : TypeDesc} {o k : Nat} (hu : Tryz.prog.underlying t = some d) (hd : d.isRow = true) (hi : (Tryz.prog.info? t).map (·.size) = some k) (w : World) (n : Nat) (h1 : w.isRow n = true) (h2 : o + k ≤ (w.rowOf n).size) :
    (loadRow t (.pointer (some ⟨n, o, none⟩))).run Tryz.prog w = .ok (.agg ((w.rowOf n).extract o (o + k))) w := by
  obtain ⟨s, hs⟩ := World.isRow_spec h1
  have := run_loadAt_mid (P := Tryz.prog) w n o t ((w.rowOf n).extract o (o + k)).toList d (World.rangeAt_of_block hs o k) hu hd (by rw [hi]; simp; omega)
  rw [Array.toArray_toList] at this
  exact this
@[go_sem ↓] theorem loadAt_cmd (v : Value) : Instr.loadAt 51 v = loadRow 51 v := rfl
@[go_sem] theorem run_loadCmd (w : World) (n : Nat) (h1 : w.isRow n = true) (h2 : (w.rowOf n).size = 11) : (loadRow 51 (.pointer (some ⟨n, 0, none⟩))).run Tryz.prog w = .ok (.agg (w.rowOf n)) w := run_loadRow w Tryz.underlying51 rfl (by kernel_rfl) n h1 h2
@[go_sem ↓] theorem loadAt_id (v : Value) : Instr.loadAt 49 v = loadRow 49 v := rfl
@[go_sem] theorem run_loadId (w : World) (n : Nat) (h1 : w.isRow n = true) (h2 : (w.rowOf n).size = 11) : (loadRow 49 (.pointer (some ⟨n, 3, none⟩))).run Tryz.prog w = .ok (.agg ((w.rowOf n).extract 3 11)) w := run_loadMid (k := 8) Tryz.underlying49 rfl (by kernel_rfl) w n h1 (by omega)
@[go_sem ↓] theorem loadAt_b16 (v : Value) : Instr.loadAt 28 v = loadRow 28 v := rfl
@[go_sem] theorem run_loadB16 (w : World) (n : Nat) (h1 : w.isRow n = true) (h2 : (w.rowOf n).size = 16) : (loadRow 28 (.pointer (some ⟨n, 0, none⟩))).run Tryz.prog w = .ok (.agg (w.rowOf n)) w := run_loadRow w Tryz.underlying28 rfl (by kernel_rfl) n h1 h2
@[go_sem ↓] theorem build_cmd (ps : Array (Nat × Value)) : Instr.build 51 ps = bldA 51 ps := rfl
@[go_sem ↓] theorem build_id (ps : Array (Nat × Value)) : Instr.build 49 ps = bldA 49 ps := rfl
@[go_sem ↓] theorem build_b16 (ps : Array (Nat × Value)) : Instr.build 28 ps = bldA 28 ps := rfl
@[go_sem] theorem run_bldCmd0 (w : World) : (bldA 51 #[]).run Tryz.prog w = .ok (.agg (cmdA .zero)) w := run_build w _ _ _ (by kernel_rfl)
@[go_sem] theorem run_bldCmd3 (k n d : Int) (w : World) : (bldA 51 #[(0, .int .i64 k), (1, .int .i64 n), (2, .int .i64 d)]).run Tryz.prog w = .ok (.agg (cmdA ⟨k, n, d, zs 8⟩)) w := run_build w _ _ _ (by kernel_rfl)
@[go_sem] theorem run_bldId0 (w : World) : (bldA 49 #[]).run Tryz.prog w = .ok (.agg (bysA (zs 8))) w := run_build w _ _ _ (by kernel_rfl)
@[go_sem] theorem run_bldB16 (w : World) : (bldA 28 #[]).run Tryz.prog w = .ok (.agg (bysA (zs 16))) w := run_build w _ _ _ (by kernel_rfl)
/-- A comparison of ids, as the walk meets it. -/
@[go_sem ↓ high] theorem fold_eqId (a : Operand → Value) (d : Option Tmp) (op : BinOp) (x y : Operand) (u t : TypeId) (p : String) (af : Array Edge) (g : Option (Nat × Bool)) :
    execOp a ⟨d, .binOp op 49 x y u, t, p, af, g⟩ = (do pure (.value (← eqV op 49 x y (a x) (a y)))) := rfl
@[go_sem] theorem run_eqId (x y : Operand) (l m : List Nat) (hl : l.length = 8) (hm : m.length = 8) (w : World) :
    (eqV .eql 49 x y (.agg (bysA l)) (.agg (bysA m))).run Tryz.prog w = .ok (.bool (decide (l = m))) w := run_eqV Tryz.underlying49 (by kernel_rfl) x y hl hm w
/-- What a function answers: a command, or 16 bytes, and a number. -/
theorem results_cmd {fn : Func} {p p' : Tmp} (h : fn.results = #[.cell p 51, .tmp p']) (c : Cmd) (hc : c.id.length = 8) (x : Value) (w : World) (tmps : Array Value) (n : Nat) (hp : tmps.getD p undef = .pointer (some ⟨n, 0, none⟩)) (h1 : w.isRow n = true) (h2 : w.rowOf n = cmdA c) (hx : tmps.getD p' undef = x) :
    (results fn tmps).run Tryz.prog w = .ok (.tuple #[.agg (cmdA c), x]) w :=
  results_row_slot w h Tryz.underlying51 rfl (by rw [cmdA_size hc]; kernel_rfl) tmps n hp h1 h2 hx
theorem results_b16 {fn : Func} {p p' : Tmp} (h : fn.results = #[.cell p 28, .tmp p']) (l : List Nat) (hl : l.length = 16) (x : Value) (w : World) (tmps : Array Value) (n : Nat) (hp : tmps.getD p undef = .pointer (some ⟨n, 0, none⟩)) (h1 : w.isRow n = true) (h2 : w.rowOf n = bysA l) (hx : tmps.getD p' undef = x) :
    (results fn tmps).run Tryz.prog w = .ok (.tuple #[.agg (bysA l), x]) w :=
  results_row_slot w h Tryz.underlying28 rfl (by rw [bysA_size, hl]; kernel_rfl) tmps n hp h1 h2 hx
end Go.Proofs.YtddmjddlbhdcpaaGreatDoor

/-
  Slices of words that a call made.
-/
namespace Go.Proofs.YtddmjddlbhdcpaaGreatDoor
open Go.RowKit Go.Hold Go.Sh

theorem info_u32 : (Tryz.prog.info? 129).map (fun i => (i.zero, i.size, i.bytes)) = some (some (.int .u32 0), 1, 4) := by kernel_rfl
def OwnW (w : World) (B : Nat) (v : Value) (l : List Int) : Prop := w.ownsRow B 129 1 v l.length (wos l)
def WordsAt (w : World) (g : Nat) (l : List Int) : Prop := g < w.heap.size ∧ ∀ i, i < l.length → w.cell? ⟨g, i, none⟩ = some (.int .u32 (l.getD i 0))
theorem WordsAt.grow {w w' : World} {g : Nat} {l : List Int} (h : WordsAt w g l) (hb : Below w.heap.size w w') : WordsAt w' g l :=
  ⟨Nat.lt_of_lt_of_le h.1 hb.size, fun i hi => by rw [hb.cell h.1]; exact h.2 i hi⟩
theorem OwnW.below {w w' : World} {B : Nat} {v : Value} {l : List Int} (h : OwnW w B v l) (hb : Below w.heap.size w w') : OwnW w' B v l := owns_below h hb
theorem OwnW.snoc {w : World} {B : Nat} {v : Value} {l : List Int} {x : Int} (h : w.ownsRow B 129 1 v (l.length + 1) (wos l ++ [.int .u32 x])) : OwnW w B v (l ++ [x]) := by
  unfold OwnW
  rw [List.length_append, show wos (l ++ [x]) = wos l ++ [.int .u32 x] by simp [wos]]; exact h
theorem OwnW.addr {w : World} {B : Nat} {v : Value} {l : List Int} {k : Nat} (h : OwnW w B v l) (hk : l.length = k) (h0 : 0 < k) : ∃ g cap, v = .slice (some ⟨g, 0, none⟩) k cap ∧ B ≤ g ∧ g < w.heap.size ∧ k ≤ cap := by
  subst hk
  rcases h.2 with ⟨_, h1⟩ | ⟨g, cap, cur, rfl, hb, hg, hc, _⟩
  · omega
  · exact ⟨g, cap, rfl, hb, (Array.getElem?_eq_some_iff.1 hg).1, hc⟩
theorem OwnW.words {w : World} {B g cap k : Nat} {l : List Int} (h : OwnW w B (.slice (some ⟨g, 0, none⟩) k cap) l) (hg : g < w.heap.size) : WordsAt w g l := by
  refine ⟨hg, fun i hi => ?_⟩
  have hk : k = l.length := by
    rcases h.2 with ⟨h1, _⟩ | ⟨g', cap', cur, he, _⟩
    · cases h1
    · cases he; rfl
  subst hk
  rw [World.ownsRow.cellAt h i (by omega)]
  simp [wos, hi]
theorem words_row {w : World} {g : Nat} {l : List Int} (h : RowAt w g (wosA l)) : WordsAt w g l := ⟨h.2.2, fun i hi => h.cellAt i (wosA_get l i hi)⟩
theorem or_add (a b i : Nat) (h : b < 2 ^ i) : a * 2 ^ i ||| b = a * 2 ^ i + b := by
  have := Nat.shiftLeft_add_eq_or_of_lt h a
  rw [Nat.shiftLeft_eq] at this
  exact this.symm
def bldS (t : TypeId) (n : Nat) (ps : Array (Nat × Value)) : Sem Value := Instr.buildSlice t n ps
/-- Words that may be written. -/
def SlW (w : World) (g : Nat) (l : List Int) : Prop := WordsAt w g l ∧ ∀ i, i < l.length → w.frozen? ⟨g, i, none⟩ = false
theorem SlW.grow {w w' : World} {g : Nat} {l : List Int} (h : SlW w g l) (hb : Below w.heap.size w w') : SlW w' g l :=
  ⟨h.1.grow hb, fun i hi => by rw [World.frozen?_of_block (hb.block g h.1.1)]; exact h.2 i hi⟩
theorem SlW.set {w : World} {g i : Nat} {l : List Int} {x : Int} (h : SlW w g l) (hi : i < l.length) : SlW (w.setCell ⟨g, i, none⟩ (.int .u32 x)) g (l.set i x) := by
  refine ⟨⟨by rw [World.size_setCell]; exact h.1.1, fun j hj => ?_⟩, fun j hj => ?_⟩
  · rw [List.length_set] at hj
    by_cases e : i = j
    · subst e
      rw [World.cell?_setCell_same _ _ _ (h.1.2 i hi)]
      simp [List.getD, hi]
    · rw [World.cell?_setCell_other _ _ _ _ (by simp), h.1.2 j hj]
      simp [List.getD, e]
  · rw [List.length_set] at hj
    rw [World.frozen?_setCell]; exact h.2 j hj
end Go.Proofs.YtddmjddlbhdcpaaGreatDoor

/-
  The reference of layer 3: slices of bytes and of words that a call makes itself; the padding.
-/
namespace Go.Proofs.YtddmjddlbhdcpaaGreatDoor
open Go.RowKit Go.Hold Go.Sh

/-! ### Slices that a call made -/
end Go.Proofs.YtddmjddlbhdcpaaGreatDoor

/-
  Slices of bytes: those that a call made, with bytes laid behind them; copies; new ones.
-/
namespace Go.Proofs.YtddmjddlbhdcpaaGreatDoor
open Go.RowKit Go.Hold Go.Sh

theorem keA_bys (s : St) : keA s = bysA (keyN s) := by
  unfold keA byI keyL bysA bys keyN
  simp only [List.map_map]
  congr 1
  apply List.map_congr_left
  intro i _
  exact congrArg (Value.int .u8) (sByte_nat s i).symm
theorem keyN_row {w : World} {g : Nat} {s : St} (h : RowAt w g (keA s)) : BytesAt w g 0 (keyN s) := bytes_row (by rw [← keA_bys]; exact h)
/-! ### Parts of slices -/
/-! ### A new slice of noughts -/
/-! ### Copies -/
end Go.Proofs.YtddmjddlbhdcpaaGreatDoor

/-
  Package hmac: a key in a block, a block with a mask.
-/
namespace Go.Proofs.YtddmjddlbhdcpaaGreatDoor
open Go.RowKit Go.Hold Go.Sh

set_option maxHeartbeats 400000 in
set_option maxRecDepth 100000 in
theorem filled_c (cap : Nat) (p : Option Addr) (l : List Nat) (w : World) (hT : Tabs w) (hl : l.length ≤ 1000000) (hlb : ∀ i, l.getD i 0 < 256) (hB : Bs0 w p l) (hc : l.length ≤ cap) :
    Calls Tryz.prog 90 #[.slice p l.length cap] w fun e w' => ∃ g, e = .returned (.slice (some ⟨g, 0, none⟩) 64 64) ∧ RowAt w' g (bysA (fillK l)) ∧ w.heap.size ≤ g ∧ Below w.heap.size w w' := by
  have HT := Lib.hid hT
  have HB := Lib.hid hB
  obtain ⟨n, en⟩ : ∃ n, n = l.length := ⟨_, rfl⟩
  have En := Lib.hid en
  have hR0 : RowAt (w.alloc (.cells (bysA (zs 64)) 5)) w.heap.size (bysA (zs 64)) := RowAt.of (block_new w _)
  by_cases h64 : 64 < n
  · have h64' : (64 : Int) < (n : Int) := by omega
    have HS := Lib.hid (sum_c cap p l (w.alloc (.cells (bysA (zs 64)) 5)) (hT.grow (below_alloc (Below.refl _ _) _)) (by omega) hlb (hB.grow (below_alloc (Below.refl _ _) _)) hc)
    have HF := Lib.hid (show fillK l = (keyN (dig l)).take 32 ++ (zs 64).drop 32 by
      unfold fillK
      rw [if_pos (by omega), List.take_of_length_le (by rw [keyN_length]; exact Nat.le_refl _), zs_drop])
    have HR := Lib.hid hR0
    rw [← en] at HS ⊢
    clear hT hB en hc hR0 hl
    generalize dig l = D at *
    go_enter Tryz.func90, Tryz.ntmps90
    go_wp2_with fail
    refine HS.out.mono ?_
    rintro e w1 ⟨rfl, hb1⟩
    have R1 := Lib.hid (HR.out.grow hb1)
    have B1 := Lib.hid ((below_alloc (Below.refl w.heap.size w) (.cells (bysA (zs 64)) 5)).trans (hb1.mono (by simp)))
    clear hb1 HS
    have hcp := copy_bytes (W := w1.alloc (.cells (keA D) 23)) (c2 := 64) (cap := 32) (d := 64) (s := 32) (k := 32) (R1.out.grow (below_alloc (Below.refl _ _) _)) (by rw [zs_length]) (keyN_length D).symm (by rw [zs_length, keyN_length]; decide) (Bs0.some (keyN_row (RowAt.of (block_new w1 _))))
    rw [← HF.out] at hcp
    have R2 := Lib.hid ((R1.out.grow (below_alloc (Below.refl _ _) (.cells (keA D) 23))).set (bysA (fillK l)))
    have B2 := Lib.hid (below_setRow (below_alloc B1.out (.cells (keA D) 23)) (Nat.le_refl _) (bysA (fillK l)))
    generalize (w1.alloc (.cells (keA D) 23)).setRow w.heap.size (bysA (fillK l)) = W3 at *
    go_wp2_with fail
    go_ret
    exact ⟨_, rfl, R2.out, Nat.le_refl _, B2.out⟩
  · have h64' : ¬ (64 : Int) < (n : Int) := by omega
    have hcp := copy_bytes (c2 := 64) (cap := cap) (d := 64) (s := n) (k := n) hR0 (by rw [zs_length]) en (by rw [zs_length]; omega) (hB.grow (below_alloc (Below.refl _ _) _))
    have HF := Lib.hid (show fillK l = l.take n ++ (zs 64).drop n by
      unfold fillK
      rw [if_neg (by omega), List.take_of_length_le (by omega), zs_drop, en])
    rw [← en]
    rw [← HF.out] at hcp
    clear hT hB en hc hR0 hl
    go_enter Tryz.func90, Tryz.ntmps90
    go_wp2_with fail
    go_ret
    refine ⟨_, rfl, ?_, Nat.le_refl _, ?_⟩
    · exact RowAt.of (block_new w _)
    · exact below_alloc (Below.refl _ _) _

theorem xor_set (m : Nat) (l : List Nat) (i : Nat) (h : i < l.length) : ((xorL m l).take i ++ zs (l.length - i)).set i (l.getD i 0 ^^^ m) = (xorL m l).take (i + 1) ++ zs (l.length - (i + 1)) := by
  have hx : i < (xorL m l).length := by rw [xorL_length]; exact h
  have e : zs (l.length - i) = 0 :: zs (l.length - (i + 1)) := by
    obtain ⟨k, hk⟩ : ∃ k, l.length - i = k + 1 := ⟨l.length - i - 1, by omega⟩
    rw [hk, show l.length - (i + 1) = k by omega]; rfl
  have hlen : ((xorL m l).take i).length = i := by rw [List.length_take]; omega
  rw [List.set_append, if_neg (by omega), hlen, Nat.sub_self, e, List.set_cons_zero, List.take_add_one, List.getElem?_eq_getElem hx, List.append_assoc]
  congr 2
  simp [xorL, List.getD, h]
set_option maxHeartbeats 400000 in
set_option maxRecDepth 100000 in
theorem masked_c (g cap m : Nat) (l : List Nat) (w : World) (hl : l.length = 64) (hlb : ∀ i, l.getD i 0 < 256) (hm : m < 256) (hB : BytesAt w g 0 l) :
    Calls Tryz.prog 92 #[.slice (some ⟨g, 0, none⟩) 64 cap, .int .u8 (m : Int)] w fun e w' => ∃ x, e = .returned (.slice (some ⟨x, 0, none⟩) 64 64) ∧ RowAt w' x (bysA (xorL m l)) ∧ w.heap.size ≤ x ∧ Below w.heap.size w w' := by
  have HB := Lib.hid hB
  have R0 := Lib.hid (show RowAt (w.alloc (.cells (bysA (zs 64)) 5)) w.heap.size (bysA ((xorL m l).take 0 ++ zs (l.length - 0))) by rw [hl]; exact RowAt.of (block_new w _))
  have HL := Lib.hid hl
  clear hB hl
  go_enter Tryz.func92, Tryz.ntmps92
  go_wp2_with fail
  obtain ⟨x, ex⟩ : ∃ x, x = w.heap.size := ⟨_, rfl⟩
  have B0 := Lib.hid (show Below w.heap.size w (w.alloc (.cells (bysA (zs 64)) 5)) from below_alloc (Below.refl _ _) _)
  go_loopw [13] (fun i wr => ∃ k : Nat, k ≤ 64 ∧ i = .int .i64 k ∧ RowAt wr w.heap.size (bysA ((xorL m l).take k ++ zs (l.length - k))) ∧ Below w.heap.size w wr) (fun i _ => 64 - (intOf i).toNat)
  case atStart => exact ⟨0, by decide, rfl, R0.out, B0.out⟩
  case round =>
    obtain ⟨k, hk, rfl, hrow, hbel⟩ := hrel
    by_cases hk64 : k < 64
    · have hk0 : (0 : Int) ≤ (k : Int) := by omega
      have hk1 : (k : Int) < 64 := by omega
      have hkl : k < l.length := by rw [HL.out]; exact hk64
      have hck := (HB.out.grow hbel).2 k hkl
      rw [Nat.zero_add] at hck
      have hx := u8_xor_nat (l.getD k 0) m (hlb k) hm
      have hset := Lib.hid (xor_set m l k hkl)
      generalize l.getD k 0 = y at *
      generalize y ^^^ m = z at *
      have hlx : k < ((xorL m l).take k ++ zs (l.length - k)).length := by rw [List.length_append, List.length_take, xorL_length, zs_length]; omega
      have hcx := hrow.cellAt k (bysA_get _ k hlx)
      have hfx := hrow.frozenAt k
      have Hrow := Lib.hid hrow
      have Hbel := Lib.hid hbel
      clear hrow hbel hlx hkl
      go_wp2_with fail
      go_roundw
      case rel =>
        refine ⟨k + 1, by omega, by go_num, ?_, ?_⟩
        · rw [← hset.out, ← bysA_set]; exact Hrow.out.setCell _ _
        · exact Hbel.out.setCell (p := ⟨_, _, none⟩) (Nat.le_refl _) _
      case measure => simp [intOf]; omega
    · obtain rfl : k = 64 := by omega
      have HR := Lib.hid hrow
      have Hbel := Lib.hid hbel
      clear hrow hbel
      go_wp2_with fail
      go_ret
      refine ⟨_, rfl, ?_, Nat.le_refl _, Hbel.out⟩
      have := HR.out
      rw [HL.out, List.take_of_length_le (by rw [xorL_length, HL.out]; exact Nat.le_refl _), show zs (64 - 64) = [] from rfl, List.append_nil] at this
      exact this
end Go.Proofs.YtddmjddlbhdcpaaGreatDoor

/-
  slices.Grow and slices.Concat, of bytes.
-/
namespace Go.Proofs.YtddmjddlbhdcpaaGreatDoor
open Go.RowKit Go.Hold Go.Sh

set_option maxHeartbeats 400000 in
set_option maxRecDepth 100000 in
theorem grow_c (n : Nat) (w : World) (hn : n ≤ 16777216) :
    Calls Tryz.prog 88 #[.slice none 0 0, .int .i64 (n : Int)] w fun e w' => ∃ v, e = .returned v ∧ OwnB w' w.heap.size v [] ∧ Below w.heap.size w w' := by
  have h0 : ¬ (n : Int) < 0 := by omega
  have h1 : IntKind.i64.wrap (n : Int) = (n : Int) := by rw [IntWalk.i64_in _ (by omega)]
  by_cases hz : 0 < n
  · have h2 : (0 : Int) < (n : Int) := by omega
    obtain ⟨i0, hi, hz0, hz1, hz2⟩ := info_parts info_u8
    have hr := Lib.run_append_nil_zeros (P := Tryz.prog) w 38 3 38 5 i0 (.int .u8 0) .i64 .i64 Tryz.underlying38 Tryz.underlying3 hi hz0 n hz (by rw [hz1]; decide) (by omega) (by rw [hz2]; omega)
    have hge := grownCap_ge w n 0 5
    have hle := grownCap_le_maxLen w n 0 5 (maxLen_small hn)
    generalize grownCap w n 0 5 = c at *
    have HO := Lib.hid (show OwnB (w.drew.alloc (.cells (Builtin.zeroCells (Value.int .u8 0).cells n ++ Builtin.zeroCells (Value.int .u8 0).cells (c - n)) 5)) w.heap.size (.slice (some ⟨w.heap.size, 0, none⟩) 0 c) [] from
      World.ownsRow_made w.drew _ c (Nat.le_refl _) hle (by simp [size_zeroCells, Value.cells]; omega))
    have HB := Lib.hid (show Below w.heap.size w (w.drew.alloc (.cells (Builtin.zeroCells (Value.int .u8 0).cells n ++ Builtin.zeroCells (Value.int .u8 0).cells (c - n)) 5)) from (Below.refl w.heap.size w).drew.alloc (Nat.le_refl _) _)
    generalize w.drew.alloc (.cells (Builtin.zeroCells (Value.int .u8 0).cells n ++ Builtin.zeroCells (Value.int .u8 0).cells (c - n)) 5) = W2 at *
    have hc63 : c ≤ 9223372036854775807 := by unfold maxLen at hle; omega
    clear hle hge hn
    go_enter Tryz.func88, Tryz.ntmps88
    go_wp2_with (at_builtin; refine Lib.wpList_append_run _ rfl _ _ _ _ rfl _ _ rfl rfl _ _ hr ?_)
    go_wp2_with fail
    go_ret
    exact ⟨_, rfl, HO.out, HB.out⟩
  · obtain rfl : n = 0 := by omega
    go_enter Tryz.func88, Tryz.ntmps88
    go_wp2_with fail
    go_ret
    exact ⟨_, rfl, own_nil w _, Below.refl _ _⟩

/-! ### Concat -/
/-- A slice of bytes, as it is handed over: where, which bytes, how far. -/
abbrev Bsl := Option Addr × List Nat × Nat
def bsV (s : Bsl) : Value := .slice s.1 s.2.1.length s.2.2
def flat (ss : List Bsl) : List Nat := ss.flatMap fun s => s.2.1
theorem flat_take (ss : List Bsl) (i : Nat) (s : Bsl) (h : ss[i]? = some s) : flat (ss.take (i + 1)) = flat (ss.take i) ++ s.2.1 := by
  rw [List.take_add_one, h]
  simp [flat]
def BslAt (w : World) (ss : List Bsl) : Prop := ∀ s ∈ ss, Bs0 w s.1 s.2.1 ∧ (s.1 = none → s.2.2 = 0)
theorem BslAt.grow {w w' : World} {ss : List Bsl} (h : BslAt w ss) (hb : Below w.heap.size w w') : BslAt w' ss := fun s hs => ⟨(h s hs).1.grow hb, (h s hs).2⟩
theorem flat_le (ss : List Bsl) (i : Nat) : (flat (ss.take i)).length ≤ (flat ss).length := by
  conv => rhs; rw [← List.take_append_drop i ss]
  simp only [flat, List.flatMap_append, List.length_append]
  omega
set_option maxHeartbeats 400000 in
set_option maxRecDepth 100000 in
theorem concat_c (g k cap : Nat) (ss : List Bsl) (w : World) (hk : k = ss.length) (hg : RowAt w g (ss.map bsV).toArray) (hS : BslAt w ss) (hn : (flat ss).length ≤ 16000000) (hk8 : k ≤ 1000) :
    Calls Tryz.prog 57 #[.slice (some ⟨g, 0, none⟩) k cap] w fun e w' => ∃ v, e = .returned v ∧ OwnB w' w.heap.size v (flat ss) ∧ Below w.heap.size w w' := by
  have HG := Lib.hid hg
  have HS := Lib.hid hS
  have HN := Lib.hid hn
  have HK := Lib.hid hk
  have hcell : ∀ (i : Nat) (s : Bsl), ss[i]? = some s → (ss.map bsV).toArray[i]? = some (bsV s) := fun i s h => by simp [h]
  have HC := Lib.hid hcell
  clear hg hS hn hk hcell
  go_enter Tryz.func57, Tryz.ntmps57
  go_wp2_with fail
  go_loopw [3, 11] (fun z i wr => ∃ j : Nat, j ≤ k ∧ i = .int .i64 j ∧ z = .int .i64 ((flat (ss.take j)).length : Int) ∧ w = wr) (fun _ i _ => k - (intOf i).toNat)
  case atStart => exact ⟨0, by omega, rfl, rfl, rfl⟩
  case round =>
    obtain ⟨j, hj, rfl, rfl, rfl⟩ := hrel
    by_cases hjk : j < k
    · have hj0 : (0 : Int) ≤ (j : Int) := by omega
      have hj1 : (j : Int) < (k : Int) := by omega
      obtain ⟨s, hs⟩ : ∃ s, ss[j]? = some s := ⟨_, List.getElem?_eq_getElem (by rw [← HK.out]; exact hjk)⟩
      have hcj := HG.out.cellAt j (HC.out j s hs)
      obtain ⟨p, l, c⟩ := s
      simp only [bsV] at hcj
      have hft := flat_take ss j _ hs
      have hle := flat_le ss (j + 1)
      obtain ⟨m, em⟩ : ∃ m, m = l.length := ⟨_, rfl⟩
      obtain ⟨t, et⟩ : ∃ t, t = (flat (ss.take j)).length := ⟨_, rfl⟩
      obtain ⟨t2, et2⟩ : ∃ t, t = (flat (ss.take (j + 1))).length := ⟨_, rfl⟩
      have htm : t2 = t + m := by rw [et2, hft, List.length_append, et, em]
      have hN := HN.out
      have hw1 : IntKind.i64.wrap ((t : Int) + (m : Int)) = (t2 : Int) := by rw [IntWalk.i64_in _ (by omega)]; omega
      have hw0 : ¬ (t2 : Int) < 0 := by omega
      rw [← em] at hcj
      rw [← et]
      have Et2 := Lib.hid et2
      clear em et et2 htm hft hle hN hs
      go_wp2_with fail
      go_roundw
      case rel => exact ⟨j + 1, by omega, by go_num, by rw [← Et2.out], by first | trivial | rfl⟩
      case measure => simp [intOf]; omega
    · obtain rfl : j = k := by omega
      have hfl : (flat (ss.take j)) = flat ss := by rw [List.take_of_length_le (by rw [← HK.out]; exact Nat.le_refl _)]
      rw [hfl]
      have hN := HN.out
      have GC := Lib.hid (grow_c (flat ss).length w (by omega))
      obtain ⟨t, et⟩ : ∃ t, t = (flat ss).length := ⟨_, rfl⟩
      rw [← et] at GC ⊢
      clear hfl et hN
      go_wp2_with fail
      refine GC.out.mono ?_
      rintro e W1 ⟨v, rfl, hown, hbel⟩
      have HO := Lib.hid hown
      have HB := Lib.hid hbel
      clear hown hbel GC
      go_wp2_with fail
      go_loopw [6, 27] (fun v i wr => ∃ q : Nat, q ≤ j ∧ i = .int .i64 q ∧ OwnB wr w.heap.size v (flat (ss.take q)) ∧ Below w.heap.size w wr) (fun _ i _ => j - (intOf i).toNat)
      case atStart => exact ⟨0, by omega, rfl, HO.out, HB.out⟩
      case round =>
        obtain ⟨q, hq, rfl, hown, hbel⟩ := hrel
        by_cases hqj : q < j
        · have hq0 : (0 : Int) ≤ (q : Int) := by omega
          have hq1 : (q : Int) < (j : Int) := by omega
          obtain ⟨s, hs⟩ : ∃ s, ss[q]? = some s := ⟨_, List.getElem?_eq_getElem (by rw [← HK.out]; exact hqj)⟩
          have hcj := (HG.out.grow hbel).cellAt q (HC.out q s hs)
          have hft := flat_take ss q _ hs
          have hle := flat_le ss (q + 1)
          have hN := HN.out
          have hsm := (HS.out.grow hbel) s (List.mem_of_getElem? hs)
          obtain ⟨p, l, c⟩ := s
          simp only [bsV] at hcj
          obtain ⟨m, em⟩ : ∃ m, m = l.length := ⟨_, rfl⟩
          rw [← em] at hcj
          have hlen : (flat (ss.take q)).length + l.length ≤ 16777216 := by rw [hft, List.length_append] at hle; simp only at hle; omega
          obtain ⟨v2, w2, hr, hown2, hgr⟩ := app_own (cap := c) hown hsm.1 em hsm.2 hbel.size hlen
          rw [← hft] at hown2
          have Hb2 := Lib.hid (own_below hbel hown hbel.size hgr)
          have Ho2 := Lib.hid hown2
          clear hown2 hgr hown hbel hsm hft hle hN hlen em hs
          go_wp2_with (at_builtin; refine Lib.wpList_append_run _ rfl _ _ _ _ rfl _ _ rfl rfl _ _ hr ?_)
          go_wp2_with fail
          go_roundw
          case rel => exact ⟨q + 1, by omega, by go_num, Ho2.out, Hb2.out⟩
          case measure => simp [intOf]; omega
        · obtain rfl : q = j := by omega
          have Ho := Lib.hid hown
          have Hb := Lib.hid hbel
          clear hown hbel
          go_wp2_with fail
          go_ret
          refine ⟨_, rfl, ?_, Hb.out⟩
          have := Ho.out
          rw [List.take_of_length_le (by rw [← HK.out]; exact Nat.le_refl _)] at this
          exact this
end Go.Proofs.YtddmjddlbhdcpaaGreatDoor

/-
  Package hmac: the tag.
-/
namespace Go.Proofs.YtddmjddlbhdcpaaGreatDoor
open Go.RowKit Go.Hold Go.Sh

/-! ### Slices of slices that are built -/
def bldV (n : Nat) (ps : Array (Nat × Value)) : Sem Value := Instr.buildSlice 140 n ps
@[go_sem ↓] theorem fold_bldV (n : Nat) (ps : Array (Nat × Value)) : Instr.buildSlice 140 n ps = bldV n ps := rfl
theorem info_sl : (Tryz.prog.info? 38).map (fun i => (i.zero, i.size, i.bytes)) = some (some (.slice none 0 0), 1, 24) := by kernel_rfl
set_option maxRecDepth 100000 in
@[go_sem] theorem run_bldV2 (w : World) (p q : Option Addr) (l c m d : Nat) : (bldV 2 #[(0, .slice p l c), (1, .slice q m d)]).run Tryz.prog w = .ok (.slice (some ⟨w.heap.size, 0, none⟩) 2 2) (w.alloc (.cells #[.slice p l c, .slice q m d] 38)) := by
  obtain ⟨ie, h1, h2, h3, _⟩ := info_parts info_sl
  refine run_buildSlice w _ _ 2 _ #[.slice p l c, .slice q m d] ie _ Tryz.underlying140 h1 h2 (by rw [h3]; decide) (by rw [h3]; decide) ?_
  rw [h3]; kernel_rfl
set_option maxRecDepth 100000 in
@[go_sem] theorem run_bldV3 (w : World) (p q r : Option Addr) (l c m d n e : Nat) : (bldV 3 #[(0, .slice p l c), (1, .slice q m d), (2, .slice r n e)]).run Tryz.prog w = .ok (.slice (some ⟨w.heap.size, 0, none⟩) 3 3) (w.alloc (.cells #[.slice p l c, .slice q m d, .slice r n e] 38)) := by
  obtain ⟨ie, h1, h2, h3, _⟩ := info_parts info_sl
  refine run_buildSlice w _ _ 3 _ #[.slice p l c, .slice q m d, .slice r n e] ie _ Tryz.underlying140 h1 h2 (by rw [h3]; decide) (by rw [h3]; decide) ?_
  rw [h3]; kernel_rfl
/-- Concat of two. -/
theorem concat2_c {W : World} {g : Nat} {p q : Option Addr} {l m : List Nat} {n1 n2 c d : Nat} (hg : RowAt W g #[.slice p n1 c, .slice q n2 d]) (h1 : n1 = l.length) (h2 : n2 = m.length)
    (hp : Bs0 W p l) (hq : Bs0 W q m) (hpc : p = none → c = 0) (hqd : q = none → d = 0) (hn : l.length + m.length ≤ 16000000) :
    Calls Tryz.prog 57 #[.slice (some ⟨g, 0, none⟩) 2 2] W fun e w' => ∃ v, e = .returned v ∧ OwnB w' W.heap.size v (l ++ m) ∧ Below W.heap.size W w' := by
  subst h1 h2
  have := concat_c g 2 2 [(p, l, c), (q, m, d)] W rfl hg (fun s hs => by
    rcases List.mem_cons.1 hs with rfl | hs
    · exact ⟨hp, hpc⟩
    · rcases List.mem_cons.1 hs with rfl | hs
      · exact ⟨hq, hqd⟩
      · cases hs) (by simp [flat]; omega) (by decide)
  simpa [flat] using this
theorem concat3_c {W : World} {g : Nat} {p q r : Option Addr} {l m k : List Nat} {n1 n2 n3 c d e : Nat} (hg : RowAt W g #[.slice p n1 c, .slice q n2 d, .slice r n3 e]) (h1 : n1 = l.length) (h2 : n2 = m.length) (h3 : n3 = k.length)
    (hp : Bs0 W p l) (hq : Bs0 W q m) (hr : Bs0 W r k) (hpc : p = none → c = 0) (hqd : q = none → d = 0) (hre : r = none → e = 0) (hn : l.length + m.length + k.length ≤ 16000000) :
    Calls Tryz.prog 57 #[.slice (some ⟨g, 0, none⟩) 3 3] W fun x w' => ∃ v, x = .returned v ∧ OwnB w' W.heap.size v (l ++ m ++ k) ∧ Below W.heap.size W w' := by
  subst h1 h2 h3
  have := concat_c g 3 3 [(p, l, c), (q, m, d), (r, k, e)] W rfl hg (fun s hs => by
    rcases List.mem_cons.1 hs with rfl | hs
    · exact ⟨hp, hpc⟩
    · rcases List.mem_cons.1 hs with rfl | hs
      · exact ⟨hq, hqd⟩
      · rcases List.mem_cons.1 hs with rfl | hs
        · exact ⟨hr, hre⟩
        · cases hs) (by simp [flat]; omega) (by decide)
  simpa [flat, List.append_assoc] using this

set_option maxHeartbeats 600000 in
set_option maxRecDepth 100000 in
theorem mac_c (kc bc : Nat) (kp bp : Option Addr) (k b : List Nat) (w : World) (hT : Tabs w) (hk : k.length ≤ 1000000) (hkb : ∀ i, k.getD i 0 < 256) (hkB : Bs0 w kp k) (hkc : k.length ≤ kc)
    (hb : b.length ≤ 1000000) (hbb : ∀ i, b.getD i 0 < 256) (hbB : Bs0 w bp b) (hbc : bp = none → bc = 0) :
    Calls Tryz.prog 60 #[.slice kp k.length kc, .slice bp b.length bc] w fun e w' => e = .returned (.agg (keA (mac k b))) ∧ Below w.heap.size w w' := by
  have HT := Lib.hid hT
  have HbB := Lib.hid hbB
  have HF := Lib.hid (fun (W : World) (hW : Below w.heap.size w W) => filled_c kc kp k W (hT.grow hW) hk hkb (hkB.grow hW) hkc)
  have hFb := Lib.hid (fillK_bts hkb)
  have hFl := fillK_length k
  obtain ⟨M, eM⟩ : ∃ M, M = mac k b := ⟨_, rfl⟩
  rw [← eM]
  unfold mac at eM
  generalize fillK k = F at *
  obtain ⟨nk, enk⟩ : ∃ n, n = k.length := ⟨_, rfl⟩
  obtain ⟨nb, enb⟩ : ∃ n, n = b.length := ⟨_, rfl⟩
  rw [← enk] at HF ⊢
  rw [← enb] at hb ⊢
  have Enb := Lib.hid enb
  have EM := Lib.hid eM
  have Hbc := Lib.hid hbc
  have Hbb := Lib.hid hbb
  have HFl := Lib.hid hFl
  have hx54 := Lib.hid (xorL_bts (m := 54) (by decide) hFb.out)
  have hx92 := Lib.hid (xorL_bts (m := 92) (by decide) hFb.out)
  clear hT hbB enk enb eM hbc hbb hFl hkB hkb hk hkc
  go_enter Tryz.func60, Tryz.ntmps60
  go_wp2_with fail
  generalize hW : World.alloc _ _ = W0
  obtain ⟨z0, hz0, hR0⟩ : ∃ c, c.size = 32 ∧ RowAt W0 w.heap.size c := by rw [← hW]; clear hW; exact ⟨byI (List.replicate 32 0), by simp [byI], by go_simp, by go_simp; rfl, by go_simp⟩
  have R0 := Lib.hid hR0
  clear hR0
  have B0 := Lib.hid (show Below w.heap.size w W0 by rw [← hW]; exact below_alloc (Below.refl _ _) _)
  clear hW
  refine (HF.out W0 B0.out).mono ?_
  rintro e W1 ⟨g, rfl, hR, hg, hb1⟩
  have R1 := Lib.hid (R0.out.grow hb1)
  have G1 := Lib.hid hR
  have B1 := Lib.hid (B0.out.trans (hb1.mono B0.out.size))
  clear hR hb1 R0 HF
  go_wp2_with fail
  refine (masked_c g 64 54 F W1 HFl.out hFb.out (by decide) (bytes_row G1.out)).mono ?_
  rintro e W2 ⟨x, rfl, hX, hx, hb2⟩
  have R2 := Lib.hid (R1.out.grow hb2)
  have G2 := Lib.hid (G1.out.grow hb2)
  have X2 := Lib.hid hX
  have B2 := Lib.hid (B1.out.trans (hb2.mono B1.out.size))
  clear hX hb2 R1 G1
  go_wp2_with fail
  have BA := below_alloc (Below.refl W2.heap.size W2) (.cells #[.slice (some ⟨x, 0, none⟩) 64 64, .slice bp nb bc] 38)
  refine (concat2_c (RowAt.of (block_new W2 _)) (by rw [xorL_length, HFl.out]) Enb.out (Bs0.some (bytes_row (X2.out.grow BA))) ((HbB.out.grow B2.out).grow BA) (fun h => by cases h) Hbc.out (by rw [xorL_length, HFl.out, ← Enb.out]; omega)).mono ?_
  rintro e W3 ⟨v, rfl, hown, hb3⟩
  have hb3' := BA.trans (hb3.mono BA.size)
  obtain ⟨pv, cv, rfl, hBs, hcv, _⟩ := hown.bs
  have R3 := Lib.hid (R2.out.grow hb3')
  have G3 := Lib.hid (G2.out.grow hb3')
  have B3 := Lib.hid (B2.out.trans (hb3'.mono B2.out.size))
  obtain ⟨L1, eL1⟩ : ∃ L, L = xorL 54 F ++ b := ⟨_, rfl⟩
  have HL1b := Lib.hid (show ∀ i, L1.getD i 0 < 256 by rw [eL1]; exact bts_app hx54.out Hbb.out)
  have hL1 : L1.length ≤ 2000000 := by rw [eL1, List.length_append, xorL_length, HFl.out, ← Enb.out]; omega
  rw [← eL1] at hBs hcv ⊢
  have EL1 := Lib.hid eL1
  have HS := Lib.hid (sum_c cv pv L1 W3 (HT.out.grow B3.out) (by omega) HL1b.out hBs hcv)
  obtain ⟨n1, en1⟩ : ∃ n, n = L1.length := ⟨_, rfl⟩
  rw [← en1] at HS ⊢
  obtain ⟨D1, eD1⟩ : ∃ D, D = dig L1 := ⟨_, rfl⟩
  rw [← eD1] at HS
  have ED1 := Lib.hid eD1
  clear hb3 hb3' hown hBs hcv en1 eL1 hL1 eD1 R2 G2 X2 BA
  go_wp2_with fail
  refine HS.out.mono ?_
  rintro e W4 ⟨rfl, hb4⟩
  have R4 := Lib.hid (R3.out.grow hb4)
  have G4 := Lib.hid (G3.out.grow hb4)
  have B4 := Lib.hid (B3.out.trans (hb4.mono B3.out.size))
  clear hb4 R3 G3 HS
  go_wp2_with fail
  generalize hW : World.alloc _ _ = W5
  have R5 := Lib.hid (show RowAt W5 w.heap.size z0 by rw [← hW]; exact R4.out.grow (below_alloc (Below.refl _ _) _))
  have G5 := Lib.hid (show RowAt W5 g (bysA F) by rw [← hW]; exact G4.out.grow (below_alloc (Below.refl _ _) _))
  have D5 := Lib.hid (show RowAt W5 W4.heap.size (keA D1) by rw [← hW]; exact RowAt.of (block_new W4 _))
  have B5 := Lib.hid (show Below w.heap.size w W5 by rw [← hW]; exact below_alloc B4.out _)
  clear hW R4 G4
  generalize W4.heap.size = y at *
  refine wp_region_pickT W5 [0, 2] [false, true] [1, 3, 4, 5, 6] (by kernel_rfl) (by kernel_rfl) (by intro c a d v w h; cases d <;> exact h) ((Below.refl _ _).drew) ?_
  simp only [pick, List.getElem?_cons_succ, List.getElem?_cons_zero]
  refine wpHoldF_val (wanted_none rfl) (by intro K o d hK; go_simp; exact hK _ (Below.refl _ _)) ?_
  refine wpHoldF_late (wanted_none rfl) (fun w => by go_simp; rfl) ?_
  refine wpHoldF_nil ?_
  intro W6 hb6
  have R6 := Lib.hid (R5.out.grow hb6)
  have G6 := Lib.hid (G5.out.grow hb6)
  have D6 := Lib.hid (D5.out.grow hb6)
  have B6 := Lib.hid (B5.out.trans (hb6.mono B5.out.size))
  clear hb6 R5 G5 D5
  go_wp2_with fail
  refine (masked_c g 64 92 F W6 HFl.out hFb.out (by decide) (bytes_row G6.out)).mono ?_
  rintro e W7 ⟨x2, rfl, hX, hx2, hb7⟩
  have R7 := Lib.hid (R6.out.grow hb7)
  have D7 := Lib.hid (D6.out.grow hb7)
  have X7 := Lib.hid hX
  have B7 := Lib.hid (B6.out.trans (hb7.mono B6.out.size))
  clear hX hb7 R6 G6 D6
  go_wp2_with fail
  have BA := below_alloc (Below.refl W7.heap.size W7) (.cells #[.slice (some ⟨x2, 0, none⟩) 64 64, .slice (some ⟨y, 0, none⟩) 32 32] 38)
  refine (concat2_c (RowAt.of (block_new W7 _)) (by rw [xorL_length, HFl.out]) (keyN_length D1).symm (Bs0.some (bytes_row (X7.out.grow BA))) (Bs0.some (keyN_row (D7.out.grow BA))) (fun h => by cases h) (fun h => by cases h) (by rw [xorL_length, HFl.out, keyN_length]; decide)).mono ?_
  rintro e W8 ⟨v, rfl, hown, hb8⟩
  have hb8' := BA.trans (hb8.mono BA.size)
  obtain ⟨pv2, cv2, rfl, hBs, hcv, _⟩ := hown.bs
  have R8 := Lib.hid (R7.out.grow hb8')
  have B8 := Lib.hid (B7.out.trans (hb8'.mono B7.out.size))
  obtain ⟨L2, eL2⟩ : ∃ L, L = xorL 92 F ++ keyN D1 := ⟨_, rfl⟩
  have HL2b := Lib.hid (show ∀ i, L2.getD i 0 < 256 by rw [eL2]; exact bts_app hx92.out (keyN_bts _))
  have hL2 : L2.length ≤ 2000000 := by rw [eL2, List.length_append, xorL_length, HFl.out, keyN_length]; decide
  rw [← eL2] at hBs hcv ⊢
  have HS := Lib.hid (sum_c cv2 pv2 L2 W8 (HT.out.grow B8.out) (by omega) HL2b.out hBs hcv)
  rw [show dig L2 = M by rw [EM.out, eL2, ED1.out, EL1.out]] at HS
  obtain ⟨n2, en2⟩ : ∃ n, n = L2.length := ⟨_, rfl⟩
  rw [← en2] at HS ⊢
  clear hb8 hb8' hown hBs hcv en2 eL2 hL2 R7 D7 X7 BA
  go_wp2_with fail
  refine HS.out.mono ?_
  rintro e W9 ⟨rfl, hb9⟩
  obtain ⟨r1, r2, r3⟩ := R8.out.grow hb9
  have B9 := Lib.hid (B8.out.trans (hb9.mono B8.out.size))
  clear hb9 R8 HS
  go_wp2_with fail
  refine bodyPost_ret (v := .agg (keA M)) (results_key Tryz.results60 (keA_size _) _ _ _ rfl (by go_simp) (by go_simp)) rfl ⟨rfl, ?_⟩
  exact below_setRow B9.out (Nat.le_refl _) _
end Go.Proofs.YtddmjddlbhdcpaaGreatDoor

/-
  Package hmac: are bytes alike; a tag's first half; the tag, its lengths named.
-/
namespace Go.Proofs.YtddmjddlbhdcpaaGreatDoor
open Go.RowKit Go.Hold Go.Sh

/-! ### Are bytes alike? -/
/-- What bytes have unlike, all together. -/
def unl (a b : List Nat) : Nat → Nat
  | 0 => 0
  | i + 1 => unl a b i ||| (a.getD i 0 ^^^ b.getD i 0)
theorem unl_lt {a b : List Nat} (ha : ∀ i, a.getD i 0 < 256) (hb : ∀ i, b.getD i 0 < 256) (n : Nat) : unl a b n < 256 := by
  induction n with
  | zero => exact Nat.zero_lt_succ _
  | succ n ih => exact Nat.or_lt_two_pow (n := 8) ih (xor_lt (ha n) (hb n))
theorem xor_zero_iff (a b : Nat) : a ^^^ b = 0 ↔ a = b := by
  constructor
  · intro h
    have : (a ^^^ b) ^^^ b = b := by rw [h, Nat.zero_xor]
    rwa [Nat.xor_assoc, Nat.xor_self, Nat.xor_zero] at this
  · rintro rfl; exact Nat.xor_self _
theorem unl_zero (a b : List Nat) (n : Nat) : unl a b n = 0 ↔ ∀ i, i < n → a.getD i 0 = b.getD i 0 := by
  induction n with
  | zero => simp [unl]
  | succ n ih =>
    rw [unl, Nat.or_eq_zero_iff, ih]
    constructor
    · intro ⟨h1, h2⟩ i hi
      by_cases e : i < n
      · exact h1 i e
      · obtain rfl : i = n := by omega
        exact (xor_zero_iff _ _).1 h2
    · intro h
      exact ⟨fun i hi => h i (by omega), (xor_zero_iff _ _).2 (h n (by omega))⟩
theorem unl_eq (a b : List Nat) (h : a.length = b.length) : unl a b a.length = 0 ↔ a = b := by
  rw [unl_zero]
  constructor
  · intro h1
    apply List.ext_getElem h
    intro i h2 h3
    have := h1 i h2
    simpa [List.getD, h2, h3] using this
  · rintro rfl i _; rfl
set_option maxHeartbeats 400000 in
set_option maxRecDepth 100000 in
theorem equal_c (ac bc : Nat) (ap bp : Option Addr) (a b : List Nat) (w : World) (ha : a.length ≤ 1000000) (hab : ∀ i, a.getD i 0 < 256) (haB : Bs0 w ap a) (hbb : ∀ i, b.getD i 0 < 256) (hbB : Bs0 w bp b) :
    Calls Tryz.prog 44 #[.slice ap a.length ac, .slice bp b.length bc] w fun e w' => e = .returned (.bool (decide (a = b))) ∧ Below w.heap.size w w' := by
  by_cases hl : a.length = b.length
  · obtain ⟨R, eR⟩ : ∃ r, r = decide (a = b) := ⟨_, rfl⟩
    have HU := Lib.hid (unl_eq a b hl)
    have HUl := Lib.hid (fun n => unl_lt hab hbb n)
    rw [← hl, ← eR]
    obtain ⟨n, en⟩ : ∃ n, n = a.length := ⟨_, rfl⟩
    have Hlb := Lib.hid (show b.length = n by rw [en, hl])
    rw [← en] at ha HU ⊢
    have En := Lib.hid en
    have ER := Lib.hid eR
    have HA := Lib.hid haB
    have HB := Lib.hid hbB
    have Hab := Lib.hid hab
    have Hbb := Lib.hid hbb
    clear en eR hl haB hbB hab hbb
    go_enter Tryz.func44, Tryz.ntmps44
    go_wp2_with fail
    go_loopw [5, 14] (fun u i wr => ∃ k : Nat, k ≤ n ∧ i = .int .i64 k ∧ u = .int .u8 ((unl a b k : Nat) : Int) ∧ Below w.heap.size w wr) (fun _ i _ => n - (intOf i).toNat)
    case atStart => exact ⟨0, by omega, rfl, rfl, Below.refl _ _⟩
    case round =>
      obtain ⟨k, hk, rfl, rfl, hbel⟩ := hrel
      have Hbel := Lib.hid hbel
      by_cases hkn : k < n
      · have hk0 : (0 : Int) ≤ (k : Int) := by omega
        have hk1 : (k : Int) < (n : Int) := by omega
        obtain ⟨ga, oa, ea, hA⟩ : ∃ b o, ap = some ⟨b, o, none⟩ ∧ BytesAt wr b o a := by
          rcases HA.out.grow hbel with h | h
          · exfalso; have := En.out; rw [h] at this; simp at this; omega
          · exact h
        obtain ⟨gb, ob, eb, hB⟩ : ∃ c o, bp = some ⟨c, o, none⟩ ∧ BytesAt wr c o b := by
          rcases HB.out.grow hbel with h | h
          · exfalso; have := Hlb.out; rw [h] at this; simp at this; omega
          · exact h
        subst ea eb
        have hca := hA.2 k (by rw [← En.out]; exact hkn)
        have hcb := hB.2 k (by rw [Hlb.out]; exact hkn)
        have hx := u8_xor_nat (a.getD k 0) (b.getD k 0) (Hab.out k) (Hbb.out k)
        have hxl := xor_lt (Hab.out k) (Hbb.out k)
        have ho := u8_or_nat (unl a b k) (a.getD k 0 ^^^ b.getD k 0) (HUl.out k) hxl
        have Hs := Lib.hid (show unl a b (k + 1) = unl a b k ||| (a.getD k 0 ^^^ b.getD k 0) from rfl)
        generalize a.getD k 0 = x at *
        generalize b.getD k 0 = y at *
        generalize x ^^^ y = z at *
        generalize unl a b k = u at *
        generalize u ||| z = u2 at *
        have hga := hA.1
        have hgb := hB.1
        clear hA hB hbel hxl
        go_wp2_with fail
        refine wp_region_pickT wr [0, 1, 2, 3, 4, 5, 6, 7, 8, 9, 10] [false, false, false, false, false, false, false, false, false, false, false] [11] (by kernel_rfl) (by kernel_rfl) (by intro c a d v w h; cases d <;> exact h) ((Below.refl _ _).drew) ?_
        simp only [pick, List.getElem?_cons_succ, List.getElem?_cons_zero]
        iterate 11 (refine wpHoldF_val (wanted_none rfl) (by intro K o d hK; go_simp; exact hK _ (Below.refl _ _)) ?_)
        refine wpHoldF_nil ?_
        intro w1 hb1
        have Hb1 := Lib.hid (Hbel.out.trans (hb1.mono Hbel.out.size))
        clear hb1
        go_wp2_with fail
        go_roundw
        case rel => exact ⟨k + 1, by omega, by go_num, by rw [Hs.out], Hb1.out⟩
        case measure => simp [intOf]; omega
      · obtain rfl : k = n := by omega
        have hU := HU.out
        have hlt := HUl.out k
        clear hbel
        by_cases e : a = b
        · have h0 : unl a b k = 0 := hU.2 e
          have hR : R = true := by rw [ER.out]; exact decide_eq_true e
          subst hR
          rw [h0]
          clear h0 e hU hlt
          go_wp2_with fail
          go_ret
          exact ⟨rfl, Hbel.out⟩
        · have h0 : unl a b k ≠ 0 := fun h => e (hU.1 h)
          have hR : R = false := by rw [ER.out]; exact decide_eq_false e
          subst hR
          generalize unl a b k = u at *
          have h1 : ¬ (u : Int) = 0 := by omega
          have h2 : ((u : Int) == 0) = false := by simpa using h1
          clear h0 e hU hlt
          go_wp2_with fail
          go_ret
          exact ⟨rfl, Hbel.out⟩
  · have hR : decide (a = b) = false := decide_eq_false fun e => hl (by rw [e])
    rw [hR]
    obtain ⟨n, en⟩ : ∃ n, n = a.length := ⟨_, rfl⟩
    obtain ⟨m, em⟩ : ∃ n, n = b.length := ⟨_, rfl⟩
    rw [← en, ← em] at hl ⊢
    have h1 : ¬ (n : Int) = (m : Int) := by omega
    have h2 : ((n : Int) != (m : Int)) = true := by simpa using h1
    clear en em ha hab haB hbb hbB hR
    go_enter Tryz.func44, Tryz.ntmps44
    go_wp2_with fail
    go_ret
    exact ⟨rfl, Below.refl _ _⟩

/-! ### A tag's first half -/
@[go_sem ↓] theorem loadAt_tag (v : Value) : Instr.loadAt 29 v = loadRow 29 v := rfl
@[go_sem] theorem run_loadTag (w : World) (n : Nat) (h1 : w.isRow n = true) (h2 : (w.rowOf n).size = 16) : (loadRow 29 (.pointer (some ⟨n, 0, none⟩))).run Tryz.prog w = .ok (.agg (w.rowOf n)) w := run_loadRow w Tryz.underlying29 rfl (by kernel_rfl) n h1 h2
theorem results_tag {fn : Func} {p : Tmp} {cs : Array Value} (h : fn.results = #[.cell p 29]) (hc : cs.size = 16) (w : World) (tmps : Array Value) (n : Nat) (hp : tmps.getD p undef = .pointer (some ⟨n, 0, none⟩)) (h1 : w.isRow n = true) (h2 : w.rowOf n = cs) : (results fn tmps).run Tryz.prog w = .ok (.agg cs) w :=
  results_row w h Tryz.underlying29 rfl (by rw [hc]; kernel_rfl) tmps n hp h1 h2
set_option maxHeartbeats 400000 in
set_option maxRecDepth 100000 in
theorem short_c (s : List Nat) (hs : s.length = 32) (w : World) : Calls Tryz.prog 59 #[.agg (bysA s)] w fun e w' => e = .returned (.agg (bysA (s.take 16))) ∧ Below w.heap.size w w' := by
  have hst : (s.take 16 ++ (zs 16).drop 16) = s.take 16 := by rw [zs_drop]; simp [zs]
  have hz2 : (bysA (s.take 16)).size = 16 := by rw [bysA_size, List.length_take, hs]; rfl
  have Hs := Lib.hid hs
  have Hst := Lib.hid hst
  clear hs hst
  go_enter Tryz.func59, Tryz.ntmps59
  go_wp2_with fail
  generalize hW : World.alloc _ _ = W0
  have K0 := Lib.hid (show RowAt W0 w.heap.size (bysA s) by rw [← hW]; clear hW; exact ⟨by go_simp, by go_simp, by go_simp⟩)
  obtain ⟨z0, hz0, hR0⟩ : ∃ c : Array Value, c.size = 16 ∧ RowAt W0 (w.heap.size + 1) c := by rw [← hW]; clear hW; exact ⟨bysA (zs 16), by rw [bysA_size, zs_length], by go_simp, by go_simp; rfl, by go_simp⟩
  have T0 := Lib.hid (show RowAt W0 (w.heap.size + 1 + 1) (bysA (zs 16)) by rw [← hW]; clear hW; exact ⟨by go_simp, by go_simp; rfl, by go_simp⟩)
  have R0 := Lib.hid hR0
  have B0 := Lib.hid (show Below w.heap.size w W0 by rw [← hW]; repeat (first | apply below_more | apply below_alloc | exact Below.refl _ _))
  clear hW hR0
  have hg1 : w.heap.size ≤ w.heap.size + 1 + 1 := by omega
  have hg2 : ¬ w.heap.size + 1 = w.heap.size + 1 + 1 := by omega
  have hg3 : w.heap.size ≤ w.heap.size + 1 := by omega
  generalize w.heap.size + 1 + 1 = t at *
  generalize w.heap.size + 1 = r at *
  refine wp_region_pickT W0 [0, 1] [true, true] [2] (by kernel_rfl) (by kernel_rfl) (by intro c a d v w h; cases d <;> exact h) ((Below.refl _ _).drew) ?_
  simp only [pick, List.getElem?_cons_succ, List.getElem?_cons_zero]
  refine wpHoldF_late (wanted_none rfl) (fun w => by go_simp; rfl) ?_
  refine wpHoldF_late (wanted_none rfl) (fun w => by go_simp; rfl) ?_
  refine wpHoldF_nil ?_
  intro W1 hb1
  have hcp := copy_bytes (c2 := 16) (cap := 32) (d := 16) (s := 32) (k := 16) (T0.out.grow hb1) (by rw [zs_length]) Hs.out.symm (by rw [zs_length, Hs.out]; decide) (Bs0.some (bytes_row (K0.out.grow hb1)))
  rw [Hst.out] at hcp
  have T1 := (T0.out.grow hb1).set (bysA (s.take 16))
  have R1 := (R0.out.grow hb1).other hg2 (bysA (s.take 16))
  have B1 := Lib.hid (below_setRow (B0.out.trans (hb1.mono B0.out.size)) hg1 (bysA (s.take 16)))
  generalize W1.setRow t (bysA (s.take 16)) = W2 at *
  obtain ⟨t1, t2, t3⟩ := T1
  obtain ⟨r1, r2, r3⟩ := R1
  clear hb1
  go_wp2_with fail
  refine bodyPost_ret (v := .agg (bysA (s.take 16))) (results_tag Tryz.results59 hz2 _ _ _ rfl (by go_simp) (by go_simp)) rfl ⟨rfl, ?_⟩
  exact below_setRow B1.out hg3 _
theorem mac_at {kc bc m nb : Nat} {kp bp : Option Addr} {k b : List Nat} {M : St} {w : World} (hm : m = k.length) (hnb : nb = b.length) (hM : mac k b = M) (hT : Tabs w) (hk : k.length ≤ 1000000) (hkb : ∀ i, k.getD i 0 < 256) (hkB : Bs0 w kp k) (hkc : k.length ≤ kc)
    (hb : b.length ≤ 1000000) (hbb : ∀ i, b.getD i 0 < 256) (hbB : Bs0 w bp b) (hbc : bp = none → bc = 0) :
    Calls Tryz.prog 60 #[.slice kp m kc, .slice bp nb bc] w fun e w' => e = .returned (.agg (keA M)) ∧ Below w.heap.size w w' := by
  subst hm hnb hM
  exact mac_c kc bc kp bp k b w hT hk hkb hkB hkc hb hbb hbB hbc
end Go.Proofs.YtddmjddlbhdcpaaGreatDoor

/-
  A struct that is built of all its parts: their cells, one behind the other. Of no one type.
-/
namespace Go.Proofs.YtddmjddlbhdcpaaGreatDoor
open Go.RowKit Go.Hold Go.Sh

theorem fold_setL : ∀ (vs : List Value) (c : Array Value) (o k : Nat), (vs.zipIdx k).foldl (fun cs p => cs.setIfInBounds (o + p.2) p.1) c = setL c (o + k) vs
  | [], _, _, _ => rfl
  | v :: vs, c, o, k => by
    rw [List.zipIdx_cons, List.foldl_cons, fold_setL vs _ o (k + 1)]; rfl
theorem fold_cells (v : Value) (c : Array Value) (o : Nat) : v.cells.zipIdx.foldl (fun cs (x, j) => cs.setIfInBounds (o + j) x) c = setL c o v.cells.toList := by
  rw [← Array.foldl_toList, Array.toList_zipIdx]
  exact fold_setL v.cells.toList c o 0
theorem setL_front (c : Array Value) (o : Nat) (vs : List Value) (h : o + vs.length ≤ c.size) : (setL c o vs).toList.take (o + vs.length) = c.toList.take o ++ vs := by
  apply List.ext_getElem?
  intro i
  rw [List.getElem?_take]
  by_cases h1 : i < o
  · rw [if_pos (by omega), List.getElem?_append_left (by simp; omega), List.getElem?_take, if_pos h1, Array.getElem?_toList, setL_get, if_neg (by omega), Array.getElem?_toList]
  · by_cases h2 : i < o + vs.length
    · rw [if_pos h2, List.getElem?_append_right (by simp; omega), Array.getElem?_toList, setL_get, if_pos (by omega)]
      congr 1
      simp; omega
    · rw [if_neg h2, List.getElem?_eq_none (by simp; omega)]
/-- Where parts lie that lie one behind the other. -/
def offs : Nat → List Value → List (Nat × Nat)
  | _, [] => []
  | o, v :: vs => (o, v.cells.size) :: offs (o + v.cells.size) vs
def cellsAll (vs : List Value) : List Value := vs.flatMap fun v => v.cells.toList
theorem fill_all (place : Nat → Option (Nat × Nat)) : ∀ (vs : List Value) (k o : Nat) (c : Array Value), (∀ j x, (offs o vs)[j]? = some x → place (k + j) = some x) → o + (cellsAll vs).length ≤ c.size →
    ∃ r, Instr.fill place c ((vs.zipIdx k).map fun p => (p.2, p.1)) = some r ∧ r.size = c.size ∧ r.toList.take (o + (cellsAll vs).length) = c.toList.take o ++ cellsAll vs
  | [], _, o, c, _, _ => ⟨c, rfl, rfl, by simp [cellsAll]⟩
  | v :: vs, k, o, c, hp, hs => by
    have h0 : place k = some (o, v.cells.size) := hp 0 _ rfl
    have e : cellsAll (v :: vs) = v.cells.toList ++ cellsAll vs := rfl
    have hl : v.cells.toList.length = v.cells.size := Array.length_toList
    rw [e, List.length_append, hl] at hs
    obtain ⟨r, h1, h2, h3⟩ := fill_all place vs (k + 1) (o + v.cells.size) (setL c o v.cells.toList) (fun j x hx => by
      have := hp (j + 1) x (by rw [offs, List.getElem?_cons_succ]; exact hx)
      rw [show k + 1 + j = k + (j + 1) by omega]; exact this) (by rw [setL_size]; omega)
    refine ⟨r, ?_, by rw [h2, setL_size], ?_⟩
    · rw [List.zipIdx_cons, List.map_cons, Instr.fill, h0]
      simp only [ne_eq, not_true_eq_false, decide_false, Bool.false_or, show ¬ (o + v.cells.size > c.size) by omega]
      rw [fold_cells]
      exact h1
    · have h4 := setL_front c o v.cells.toList (by omega)
      rw [hl] at h4
      rw [e, List.length_append, hl, ← Nat.add_assoc, h3, h4, List.append_assoc]
/-- Built of all its parts. -/
theorem run_build_all {P : Program} {t : TypeId} {fields : Array Field} (hu : P.underlying t = some (.struct fields)) (w : World) (vs : List Value)
    (hi : (P.info? t).map (fun i => i.zero.map fun z => z.cells.size) = some (some (cellsAll vs).length))
    (hp : fields.toList.mapM (fun f => (P.info? f.type).map fun i => (f.offset, i.size)) = some (offs 0 vs))
    (parts : Array (Nat × Value)) (he : parts.toList = vs.zipIdx.map fun p => (p.2, p.1)) : (Instr.build t parts).run P w = .ok (.agg (cellsAll vs).toArray) w := by
  refine run_build w t parts _ ?_
  unfold Program.built
  cases hit : P.info? t with
  | none => rw [hit] at hi; cases hi
  | some it =>
    rw [hit] at hi
    cases hz : it.zero with
    | none => rw [Option.map_some, hz] at hi; cases hi
    | some z =>
      rw [Option.map_some, hz] at hi
      simp only [Option.map_some, Option.some.injEq] at hi
      obtain ⟨r, h1, h2, h3⟩ := fill_all (fun i => (offs 0 vs).toArray[i]?) vs 0 0 z.cells (fun j x hx => by simpa using hx) (by rw [hi]; omega)
      rw [hu]
      simp only [hz, hp, he]
      rw [h1]
      congr 1
      have h5 : r.toList.length = (cellsAll vs).length := by rw [Array.length_toList, h2, hi]
      rw [Nat.zero_add, List.take_zero, List.nil_append, ← h5, List.take_length] at h3
      rw [← h3, Array.toArray_toList]
end Go.Proofs.YtddmjddlbhdcpaaGreatDoor

/-
  Headers, betas and what is wide: rows of bytes; hops, steps: rows of commands and bytes.
-/
namespace Go.Proofs.YtddmjddlbhdcpaaGreatDoor
open Go.RowKit Go.Hold Go.Sh Go.Cm

@[go_sem] theorem bysA_ext (l : List Nat) (a b : Nat) : (bysA l).extract a b = bysA ((l.drop a).take (b - a)) := by
  simp [bysA, bys, List.map_take, List.map_drop]
@[go_sem ↓] theorem loadAt_beta (v : Value) : Instr.loadAt 27 v = loadRow 27 v := rfl
set_option maxRecDepth 100000 in
@[go_sem] theorem run_load_beta (w : World) (n : Nat) (h1 : w.isRow n = true) (h2 : (w.rowOf n).size = 160) : (loadRow 27 (.pointer (some ⟨n, 0, none⟩))).run Tryz.prog w = .ok (.agg (w.rowOf n)) w := run_loadRow w Tryz.underlying27 rfl (by rw [h2]; kernel_rfl) n h1 rfl
set_option maxRecDepth 100000 in
@[go_sem] theorem run_load_beta_0_192 (w : World) (n : Nat) (h1 : w.isRow n = true) (h2 : (w.rowOf n).size = 192) : (loadRow 27 (.pointer (some ⟨n, 0, none⟩))).run Tryz.prog w = .ok (.agg ((w.rowOf n).extract 0 160)) w := run_loadMid (k := 160) Tryz.underlying27 rfl (by kernel_rfl) w n h1 (by omega)
set_option maxRecDepth 100000 in
@[go_sem] theorem run_load_beta_32_192 (w : World) (n : Nat) (h1 : w.isRow n = true) (h2 : (w.rowOf n).size = 192) : (loadRow 27 (.pointer (some ⟨n, 32, none⟩))).run Tryz.prog w = .ok (.agg ((w.rowOf n).extract 32 192)) w := run_loadMid (k := 160) Tryz.underlying27 rfl (by kernel_rfl) w n h1 (by omega)
set_option maxRecDepth 100000 in
@[go_sem] theorem run_load_beta_32_208 (w : World) (n : Nat) (h1 : w.isRow n = true) (h2 : (w.rowOf n).size = 208) : (loadRow 27 (.pointer (some ⟨n, 32, none⟩))).run Tryz.prog w = .ok (.agg ((w.rowOf n).extract 32 192)) w := run_loadMid (k := 160) Tryz.underlying27 rfl (by kernel_rfl) w n h1 (by omega)
@[go_sem ↓] theorem build_beta (ps : Array (Nat × Value)) : Instr.build 27 ps = bldA 27 ps := rfl
@[go_sem ↓] theorem loadAt_wide (v : Value) : Instr.loadAt 99 v = loadRow 99 v := rfl
set_option maxRecDepth 100000 in
@[go_sem] theorem run_load_wide (w : World) (n : Nat) (h1 : w.isRow n = true) (h2 : (w.rowOf n).size = 192) : (loadRow 99 (.pointer (some ⟨n, 0, none⟩))).run Tryz.prog w = .ok (.agg (w.rowOf n)) w := run_loadRow w Tryz.underlying99 rfl (by rw [h2]; kernel_rfl) n h1 rfl
@[go_sem ↓] theorem build_wide (ps : Array (Nat × Value)) : Instr.build 99 ps = bldA 99 ps := rfl
@[go_sem ↓] theorem loadAt_hdr (v : Value) : Instr.loadAt 31 v = loadRow 31 v := rfl
set_option maxRecDepth 100000 in
@[go_sem] theorem run_load_hdr (w : World) (n : Nat) (h1 : w.isRow n = true) (h2 : (w.rowOf n).size = 208) : (loadRow 31 (.pointer (some ⟨n, 0, none⟩))).run Tryz.prog w = .ok (.agg (w.rowOf n)) w := run_loadRow w Tryz.underlying31 rfl (by rw [h2]; kernel_rfl) n h1 rfl
set_option maxRecDepth 100000 in
@[go_sem] theorem run_load_hdr_11_267 (w : World) (n : Nat) (h1 : w.isRow n = true) (h2 : (w.rowOf n).size = 267) : (loadRow 31 (.pointer (some ⟨n, 11, none⟩))).run Tryz.prog w = .ok (.agg ((w.rowOf n).extract 11 219)) w := run_loadMid (k := 208) Tryz.underlying31 rfl (by kernel_rfl) w n h1 (by omega)
@[go_sem ↓] theorem build_hdr (ps : Array (Nat × Value)) : Instr.build 31 ps = bldA 31 ps := rfl
@[go_sem ↓] theorem loadAt_hop (v : Value) : Instr.loadAt 77 v = loadRow 77 v := rfl
set_option maxRecDepth 100000 in
@[go_sem] theorem run_load_hop (w : World) (n : Nat) (h1 : w.isRow n = true) (h2 : (w.rowOf n).size = 43) : (loadRow 77 (.pointer (some ⟨n, 0, none⟩))).run Tryz.prog w = .ok (.agg (w.rowOf n)) w := run_loadRow w Tryz.underlying77 rfl (by rw [h2]; kernel_rfl) n h1 rfl
@[go_sem ↓] theorem build_hop (ps : Array (Nat × Value)) : Instr.build 77 ps = bldA 77 ps := rfl
@[go_sem ↓] theorem loadAt_rhop (v : Value) : Instr.loadAt 84 v = loadRow 84 v := rfl
set_option maxRecDepth 100000 in
@[go_sem] theorem run_load_rhop (w : World) (n : Nat) (h1 : w.isRow n = true) (h2 : (w.rowOf n).size = 43) : (loadRow 84 (.pointer (some ⟨n, 0, none⟩))).run Tryz.prog w = .ok (.agg (w.rowOf n)) w := run_loadRow w Tryz.underlying84 rfl (by rw [h2]; kernel_rfl) n h1 rfl
@[go_sem ↓] theorem build_rhop (ps : Array (Nat × Value)) : Instr.build 84 ps = bldA 84 ps := rfl
@[go_sem ↓] theorem loadAt_step (v : Value) : Instr.loadAt 53 v = loadRow 53 v := rfl
set_option maxRecDepth 100000 in
@[go_sem] theorem run_load_step (w : World) (n : Nat) (h1 : w.isRow n = true) (h2 : (w.rowOf n).size = 267) : (loadRow 53 (.pointer (some ⟨n, 0, none⟩))).run Tryz.prog w = .ok (.agg (w.rowOf n)) w := run_loadRow w Tryz.underlying53 rfl (by rw [h2]; kernel_rfl) n h1 rfl
@[go_sem ↓] theorem build_step (ps : Array (Nat × Value)) : Instr.build 53 ps = bldA 53 ps := rfl
@[go_sem ↓] theorem loadAt_rhdr (v : Value) : Instr.loadAt 40 v = loadRow 40 v := rfl
set_option maxRecDepth 100000 in
@[go_sem] theorem run_load_rhdr (w : World) (n : Nat) (h1 : w.isRow n = true) (h2 : (w.rowOf n).size = 49) : (loadRow 40 (.pointer (some ⟨n, 0, none⟩))).run Tryz.prog w = .ok (.agg (w.rowOf n)) w := run_loadRow w Tryz.underlying40 rfl (by rw [h2]; kernel_rfl) n h1 rfl
set_option maxRecDepth 100000 in
@[go_sem] theorem run_load_rhdr_11_108 (w : World) (n : Nat) (h1 : w.isRow n = true) (h2 : (w.rowOf n).size = 108) : (loadRow 40 (.pointer (some ⟨n, 11, none⟩))).run Tryz.prog w = .ok (.agg ((w.rowOf n).extract 11 60)) w := run_loadMid (k := 49) Tryz.underlying40 rfl (by kernel_rfl) w n h1 (by omega)
@[go_sem ↓] theorem build_rhdr (ps : Array (Nat × Value)) : Instr.build 40 ps = bldA 40 ps := rfl
@[go_sem ↓] theorem loadAt_rstep (v : Value) : Instr.loadAt 59 v = loadRow 59 v := rfl
set_option maxRecDepth 100000 in
@[go_sem] theorem run_load_rstep (w : World) (n : Nat) (h1 : w.isRow n = true) (h2 : (w.rowOf n).size = 108) : (loadRow 59 (.pointer (some ⟨n, 0, none⟩))).run Tryz.prog w = .ok (.agg (w.rowOf n)) w := run_loadRow w Tryz.underlying59 rfl (by rw [h2]; kernel_rfl) n h1 rfl
@[go_sem ↓] theorem build_rstep (ps : Array (Nat × Value)) : Instr.build 59 ps = bldA 59 ps := rfl
set_option maxRecDepth 100000 in
@[go_sem] theorem run_load_key_0_208 (w : World) (n : Nat) (h1 : w.isRow n = true) (h2 : (w.rowOf n).size = 208) : (loadRow 23 (.pointer (some ⟨n, 0, none⟩))).run Tryz.prog w = .ok (.agg ((w.rowOf n).extract 0 32)) w := run_loadMid (k := 32) Tryz.underlying23 rfl (by kernel_rfl) w n h1 (by omega)
set_option maxRecDepth 100000 in
@[go_sem] theorem run_load_key_0_43 (w : World) (n : Nat) (h1 : w.isRow n = true) (h2 : (w.rowOf n).size = 43) : (loadRow 23 (.pointer (some ⟨n, 0, none⟩))).run Tryz.prog w = .ok (.agg ((w.rowOf n).extract 0 32)) w := run_loadMid (k := 32) Tryz.underlying23 rfl (by kernel_rfl) w n h1 (by omega)
set_option maxRecDepth 100000 in
@[go_sem] theorem run_load_key_219_267 (w : World) (n : Nat) (h1 : w.isRow n = true) (h2 : (w.rowOf n).size = 267) : (loadRow 23 (.pointer (some ⟨n, 219, none⟩))).run Tryz.prog w = .ok (.agg ((w.rowOf n).extract 219 251)) w := run_loadMid (k := 32) Tryz.underlying23 rfl (by kernel_rfl) w n h1 (by omega)
set_option maxRecDepth 100000 in
@[go_sem] theorem run_load_key_0_49 (w : World) (n : Nat) (h1 : w.isRow n = true) (h2 : (w.rowOf n).size = 49) : (loadRow 23 (.pointer (some ⟨n, 0, none⟩))).run Tryz.prog w = .ok (.agg ((w.rowOf n).extract 0 32)) w := run_loadMid (k := 32) Tryz.underlying23 rfl (by kernel_rfl) w n h1 (by omega)
set_option maxRecDepth 100000 in
@[go_sem] theorem run_load_key_60_108 (w : World) (n : Nat) (h1 : w.isRow n = true) (h2 : (w.rowOf n).size = 108) : (loadRow 23 (.pointer (some ⟨n, 60, none⟩))).run Tryz.prog w = .ok (.agg ((w.rowOf n).extract 60 92)) w := run_loadMid (k := 32) Tryz.underlying23 rfl (by kernel_rfl) w n h1 (by omega)
set_option maxRecDepth 100000 in
@[go_sem] theorem run_load_tag_192_208 (w : World) (n : Nat) (h1 : w.isRow n = true) (h2 : (w.rowOf n).size = 208) : (loadRow 29 (.pointer (some ⟨n, 192, none⟩))).run Tryz.prog w = .ok (.agg ((w.rowOf n).extract 192 208)) w := run_loadMid (k := 16) Tryz.underlying29 rfl (by kernel_rfl) w n h1 (by omega)
set_option maxRecDepth 100000 in
@[go_sem] theorem run_load_tag_251_267 (w : World) (n : Nat) (h1 : w.isRow n = true) (h2 : (w.rowOf n).size = 267) : (loadRow 29 (.pointer (some ⟨n, 251, none⟩))).run Tryz.prog w = .ok (.agg ((w.rowOf n).extract 251 267)) w := run_loadMid (k := 16) Tryz.underlying29 rfl (by kernel_rfl) w n h1 (by omega)
set_option maxRecDepth 100000 in
@[go_sem] theorem run_load_tag_33_49 (w : World) (n : Nat) (h1 : w.isRow n = true) (h2 : (w.rowOf n).size = 49) : (loadRow 29 (.pointer (some ⟨n, 33, none⟩))).run Tryz.prog w = .ok (.agg ((w.rowOf n).extract 33 49)) w := run_loadMid (k := 16) Tryz.underlying29 rfl (by kernel_rfl) w n h1 (by omega)
set_option maxRecDepth 100000 in
@[go_sem] theorem run_load_tag_92_108 (w : World) (n : Nat) (h1 : w.isRow n = true) (h2 : (w.rowOf n).size = 108) : (loadRow 29 (.pointer (some ⟨n, 92, none⟩))).run Tryz.prog w = .ok (.agg ((w.rowOf n).extract 92 108)) w := run_loadMid (k := 16) Tryz.underlying29 rfl (by kernel_rfl) w n h1 (by omega)
set_option maxRecDepth 100000 in
@[go_sem] theorem run_load_tag_16_192 (w : World) (n : Nat) (h1 : w.isRow n = true) (h2 : (w.rowOf n).size = 192) : (loadRow 29 (.pointer (some ⟨n, 16, none⟩))).run Tryz.prog w = .ok (.agg ((w.rowOf n).extract 16 32)) w := run_loadMid (k := 16) Tryz.underlying29 rfl (by kernel_rfl) w n h1 (by omega)
set_option maxRecDepth 100000 in
@[go_sem] theorem run_load_b16_0_192 (w : World) (n : Nat) (h1 : w.isRow n = true) (h2 : (w.rowOf n).size = 192) : (loadRow 28 (.pointer (some ⟨n, 0, none⟩))).run Tryz.prog w = .ok (.agg ((w.rowOf n).extract 0 16)) w := run_loadMid (k := 16) Tryz.underlying28 rfl (by kernel_rfl) w n h1 (by omega)
set_option maxRecDepth 100000 in
@[go_sem] theorem run_load_cmd_32_43 (w : World) (n : Nat) (h1 : w.isRow n = true) (h2 : (w.rowOf n).size = 43) : (loadRow 51 (.pointer (some ⟨n, 32, none⟩))).run Tryz.prog w = .ok (.agg ((w.rowOf n).extract 32 43)) w := run_loadMid (k := 11) Tryz.underlying51 rfl (by kernel_rfl) w n h1 (by omega)
set_option maxRecDepth 100000 in
@[go_sem] theorem run_load_cmd_0_267 (w : World) (n : Nat) (h1 : w.isRow n = true) (h2 : (w.rowOf n).size = 267) : (loadRow 51 (.pointer (some ⟨n, 0, none⟩))).run Tryz.prog w = .ok (.agg ((w.rowOf n).extract 0 11)) w := run_loadMid (k := 11) Tryz.underlying51 rfl (by kernel_rfl) w n h1 (by omega)
set_option maxRecDepth 100000 in
@[go_sem] theorem run_load_rcmd_32_43 (w : World) (n : Nat) (h1 : w.isRow n = true) (h2 : (w.rowOf n).size = 43) : (loadRow 57 (.pointer (some ⟨n, 32, none⟩))).run Tryz.prog w = .ok (.agg ((w.rowOf n).extract 32 43)) w := run_loadMid (k := 11) Tryz.underlying57 rfl (by kernel_rfl) w n h1 (by omega)
set_option maxRecDepth 100000 in
@[go_sem] theorem run_load_rcmd_0_108 (w : World) (n : Nat) (h1 : w.isRow n = true) (h2 : (w.rowOf n).size = 108) : (loadRow 57 (.pointer (some ⟨n, 0, none⟩))).run Tryz.prog w = .ok (.agg ((w.rowOf n).extract 0 11)) w := run_loadMid (k := 11) Tryz.underlying57 rfl (by kernel_rfl) w n h1 (by omega)
@[go_sem ↓] theorem build_tag (ps : Array (Nat × Value)) : Instr.build 29 ps = bldA 29 ps := rfl
@[go_sem ↓] theorem loadAt_rcmd' (v : Value) : Instr.loadAt 57 v = loadRow 57 v := rfl
/-! ### Rows of noughts -/
set_option maxRecDepth 100000 in
@[go_sem] theorem run_bld0_beta (w : World) : (bldA 27 #[]).run Tryz.prog w = .ok (.agg (bysA (zs 160))) w := run_build w _ _ _ (by kernel_rfl)
set_option maxRecDepth 100000 in
@[go_sem] theorem run_bld0_wide (w : World) : (bldA 99 #[]).run Tryz.prog w = .ok (.agg (bysA (zs 192))) w := run_build w _ _ _ (by kernel_rfl)
set_option maxRecDepth 100000 in
@[go_sem] theorem run_bld0_hdr (w : World) : (bldA 31 #[]).run Tryz.prog w = .ok (.agg (bysA (zs 208))) w := run_build w _ _ _ (by kernel_rfl)
set_option maxRecDepth 100000 in
@[go_sem] theorem run_bld0_tag (w : World) : (bldA 29 #[]).run Tryz.prog w = .ok (.agg (bysA (zs 16))) w := run_build w _ _ _ (by kernel_rfl)
set_option maxRecDepth 100000 in
@[go_sem] theorem zc_beta : Tryz.zeroCells27 = bysA (zs 160) := by kernel_rfl
set_option maxRecDepth 100000 in
@[go_sem] theorem zc_wide : Tryz.zeroCells99 = bysA (zs 192) := by kernel_rfl
set_option maxRecDepth 100000 in
@[go_sem] theorem zc_hdr : Tryz.zeroCells31 = bysA (zs 208) := by kernel_rfl
/-! ### A header -/
theorem cells_bys (l : List Nat) : (Value.agg (bysA l)).cells.toList = bys l := by simp [Value.cells, bysA]
theorem bys_app (l m : List Nat) : bys l ++ bys m = bys (l ++ m) := by simp [bys]
set_option maxRecDepth 100000 in
theorem run_bldHdr {a b g : List Nat} (ha : a.length = 32) (hb : b.length = 160) (hg : g.length = 16) (w : World) : (bldA 31 #[(0, .agg (bysA a)), (1, .agg (bysA b)), (2, .agg (bysA g))]).run Tryz.prog w = .ok (.agg (bysA (a ++ b ++ g))) w := by
  have sa : (bysA a).size = 32 := by rw [bysA_size, ha]
  have sb : (bysA b).size = 160 := by rw [bysA_size, hb]
  have sg : (bysA g).size = 16 := by rw [bysA_size, hg]
  have hc : (cellsAll [.agg (bysA a), .agg (bysA b), .agg (bysA g)]) = bys (a ++ b ++ g) := by
    show (Value.agg (bysA a)).cells.toList ++ ((Value.agg (bysA b)).cells.toList ++ ((Value.agg (bysA g)).cells.toList ++ [])) = _
    rw [cells_bys, cells_bys, cells_bys, List.append_nil, bys_app, bys_app, List.append_assoc]
  have := run_build_all (P := Tryz.prog) Tryz.underlying31 w [.agg (bysA a), .agg (bysA b), .agg (bysA g)]
    (by rw [hc, bys_length, List.length_append, List.length_append, ha, hb, hg]; kernel_rfl)
    (by simp only [offs, Value.cells, sa, sb, sg]; kernel_rfl) #[(0, .agg (bysA a)), (1, .agg (bysA b)), (2, .agg (bysA g))] rfl
  rw [hc] at this
  exact this
theorem results_hdr2 {fn : Func} {p p' p'' : Tmp} {cs : Array Value} {v u : Value} (h : fn.results = #[.cell p 31, .tmp p', .tmp p'']) (hc : cs.size = 208) (w : World) (tmps : Array Value) (n : Nat) (hp : tmps.getD p undef = .pointer (some ⟨n, 0, none⟩)) (h1 : w.isRow n = true) (h2 : w.rowOf n = cs) (hp' : tmps.getD p' undef = v) (hp'' : tmps.getD p'' undef = u) :
    (results fn tmps).run Tryz.prog w = .ok (.tuple #[.agg cs, v, u]) w := by
  obtain ⟨s, hs⟩ := World.isRow_spec h1
  rw [h2] at hs
  have e : tmps[p]?.getD undef = .pointer (some ⟨n, 0, none⟩) := by simpa using hp
  have e' : tmps[p']?.getD undef = v := by simpa using hp'
  have e'' : tmps[p'']?.getD undef = u := by simpa using hp''
  simp [results, h, e, e', e'', asAddr, run_loadVar_row w n s 31 cs (0, 0) _ hs Tryz.underlying31 rfl (by rw [hc]; kernel_rfl)]
theorem results_wide {fn : Func} {p : Tmp} {cs : Array Value} (h : fn.results = #[.cell p 99]) (hc : cs.size = 192) (w : World) (tmps : Array Value) (n : Nat) (hp : tmps.getD p undef = .pointer (some ⟨n, 0, none⟩)) (h1 : w.isRow n = true) (h2 : w.rowOf n = cs) : (results fn tmps).run Tryz.prog w = .ok (.agg cs) w :=
  results_row w h Tryz.underlying99 rfl (by rw [hc]; kernel_rfl) tmps n hp h1 h2
theorem results_beta {fn : Func} {p : Tmp} {cs : Array Value} (h : fn.results = #[.cell p 27]) (hc : cs.size = 160) (w : World) (tmps : Array Value) (n : Nat) (hp : tmps.getD p undef = .pointer (some ⟨n, 0, none⟩)) (h1 : w.isRow n = true) (h2 : w.rowOf n = cs) : (results fn tmps).run Tryz.prog w = .ok (.agg cs) w :=
  results_row w h Tryz.underlying27 rfl (by rw [hc]; kernel_rfl) tmps n hp h1 h2
theorem results_step_slot {fn : Func} {p p' : Tmp} {cs : Array Value} {v : Value} (h : fn.results = #[.cell p 53, .tmp p']) (hc : cs.size = 267) (w : World) (tmps : Array Value) (n : Nat) (hp : tmps.getD p undef = .pointer (some ⟨n, 0, none⟩)) (h1 : w.isRow n = true) (h2 : w.rowOf n = cs) (hx : tmps.getD p' undef = v) : (results fn tmps).run Tryz.prog w = .ok (.tuple #[.agg cs, v]) w :=
  results_row_slot w h Tryz.underlying53 rfl (by rw [hc]; kernel_rfl) tmps n hp h1 h2 hx
/-! ### Arrays out of slices -/
def arr_beta (v : Value) : Sem Value := Instr.arrayAt 27 v
@[go_sem ↓] theorem fold_arr_beta (v : Value) : Instr.arrayAt 27 v = arr_beta v := rfl
@[go_sem] theorem run_arr_beta (b o cap : Nat) (w : World) : (arr_beta (.slice (some ⟨b, o, none⟩) 160 cap)).run Tryz.prog w = .ok (.pointer (some ⟨b, o, none⟩)) w := by
  unfold arr_beta
  simp [Instr.arrayAt, run_underlying Tryz.underlying27]
def arr_b16 (v : Value) : Sem Value := Instr.arrayAt 28 v
@[go_sem ↓] theorem fold_arr_b16 (v : Value) : Instr.arrayAt 28 v = arr_b16 v := rfl
@[go_sem] theorem run_arr_b16 (b o cap : Nat) (w : World) : (arr_b16 (.slice (some ⟨b, o, none⟩) 16 cap)).run Tryz.prog w = .ok (.pointer (some ⟨b, o, none⟩)) w := by
  unfold arr_b16
  simp [Instr.arrayAt, run_underlying Tryz.underlying28]
def arr_tag (v : Value) : Sem Value := Instr.arrayAt 29 v
@[go_sem ↓] theorem fold_arr_tag (v : Value) : Instr.arrayAt 29 v = arr_tag v := rfl
@[go_sem] theorem run_arr_tag (b o cap : Nat) (w : World) : (arr_tag (.slice (some ⟨b, o, none⟩) 16 cap)).run Tryz.prog w = .ok (.pointer (some ⟨b, o, none⟩)) w := by
  unfold arr_tag
  simp [Instr.arrayAt, run_underlying Tryz.underlying29]
/-! ### Hops -/
def hopA (k : List Nat) (c : Cmd) : Array Value := bysA k ++ cmdA c
theorem hopA_size {k : List Nat} {c : Cmd} (hk : k.length = 32) (hc : c.id.length = 8) : (hopA k c).size = 43 := by simp [hopA, bysA_size, hk, cmdA_size hc]
@[go_sem] theorem hopA_key (k : List Nat) (c : Cmd) (hk : k.length = 32) : (hopA k c).extract 0 32 = bysA k := by
  unfold hopA
  have : (bysA k).size = 32 := by rw [bysA_size, hk]
  rw [← this, Array.extract_append_left]
  simp
@[go_sem] theorem hopA_cmd (k : List Nat) (c : Cmd) (hk : k.length = 32) (hc : c.id.length = 8) : (hopA k c).extract 32 43 = cmdA c := by
  unfold hopA
  have h1 : (bysA k).size = 32 := by rw [bysA_size, hk]
  have h2 : (cmdA c).size = 11 := cmdA_size hc
  rw [show (43 : Nat) = 32 + (cmdA c).size by omega, ← h1]
  simp
@[go_sem] theorem hopA_one (k : List Nat) (c : Cmd) : oneAll (hopA k c) = true := by
  have h1 := bysA_one k
  have h2 := cmdA_one c
  unfold oneAll hopA at *
  rw [Array.all_append, h1, h2]; rfl
end Go.Proofs.YtddmjddlbhdcpaaGreatDoor

/-
  From a walk to the given row: headers that came in.
-/
namespace Go.Proofs.YtddmjddlbhdcpaaGreatDoor
open Go.ChangeShapes Go.WideShapes Go.ChangeAt Go.RowKit Go.Sh

set_option maxRecDepth 100000 in
theorem hdr_of_trod {H : Type} {enc : TypeId × Value → H} {w : World} {base : Nat} {spare : Nat → Bool} {held : Bool} {fuel : Nat} {cs : List Value} {x : DataW H × List MemPlace}
    (hf : DataW.trod enc Tryz.prog w base spare held fuel 31 cs = some x) : ∃ l : List Nat, cs = bys l ∧ l.length = 208 ∧ ∀ i, l.getD i 0 < 256 := by
  have hc0 : Tryz.prog.cellsOf 23 = 32 := by kernel_rfl
  have hc1 : Tryz.prog.cellsOf 27 = 160 := by kernel_rfl
  have hc2 : Tryz.prog.cellsOf 29 = 16 := by kernel_rfl
  have hca : Tryz.prog.cellsOf 31 = 208 := by kernel_rfl
  obtain ⟨xs, n, _, _, hl, hxl, hx⟩ := DataW.trod_struct Tryz.underlying31 hf
  rw [hca] at hl
  have hxl3 : xs.length = 3 := by rw [hxl]; rfl
  have h0 : DataW.trod enc Tryz.prog w base spare held n 23 ((cs.drop 0).take (Tryz.prog.cellsOf 23)) = xs[0]? := hx 0 _ rfl
  have h1 : DataW.trod enc Tryz.prog w base spare held n 27 ((cs.drop 32).take (Tryz.prog.cellsOf 27)) = xs[1]? := hx 1 _ rfl
  have h2 : DataW.trod enc Tryz.prog w base spare held n 29 ((cs.drop 192).take (Tryz.prog.cellsOf 29)) = xs[2]? := hx 2 _ rfl
  rw [hc0] at h0
  rw [hc1] at h1
  rw [hc2] at h2
  rw [List.getElem?_eq_getElem (by omega)] at h0 h1 h2
  obtain ⟨a, e0, ha, hab⟩ := arr_of_trod Tryz.underlying23 hc0 h0
  obtain ⟨b, e1, hb, hbb⟩ := arr_of_trod Tryz.underlying27 hc1 h1
  obtain ⟨g, e2, hg, hgb⟩ := arr_of_trod Tryz.underlying29 hc2 h2
  refine ⟨a ++ b ++ g, ?_, by rw [List.length_append, List.length_append, ha, hb, hg], bts_app (bts_app hab hbb) hgb⟩
  rw [← bys_app, ← bys_app, ← e0, ← e1, ← e2, List.drop_zero, List.take_of_length_le (l := cs.drop 192) (by rw [List.length_drop, hl]; decide), List.append_assoc, show cs.drop 192 = (cs.drop 32).drop 160 by rw [List.drop_drop], List.take_append_drop, List.take_append_drop]
set_option maxRecDepth 100000 in
theorem open_hdr {H : Type} {enc : TypeId × Value → H} {w : World} {r : Reach} {b0 base : Nat} {spare : Nat → Bool} {held : Bool} {v : Value} {d : DataW H} {p : List MemPlace}
    (hv : Value.okWide Tryz.prog w r b0 31 v) (h : DataW.Trod enc Tryz.prog w base spare held 31 v d p) : ∃ l : List Nat, v = .agg (bysA l) ∧ l.length = 208 ∧ ∀ i, l.getD i 0 < 256 := by
  obtain ⟨cs, rfl, _⟩ := okWide_struct Tryz.underlying31 hv
  obtain ⟨fuel, hf⟩ := h
  obtain ⟨l, ha, hok⟩ := hdr_of_trod hf
  refine ⟨l, ?_, hok⟩
  have : cs.toList = (bysA l).toList := by simpa [Value.cells, bysA] using ha
  rw [Array.toList_inj.1 this]
end Go.Proofs.YtddmjddlbhdcpaaGreatDoor

/-
  ChaCha20 as numbers: quarters, double rounds, a block's bytes, a stream's. Of no program.
-/
namespace Go.Ch
open Go Go.Sh

/-! ### Quarters -/
/-- A word turned left. -/
def rl (x : Int) (n : Nat) : Int := rotr x (32 - n)
structure Q4 where
  (a b c d : Int)
def qr (a b c d : Int) : Q4 :=
  let a1 := add32 a b
  let d1 := rl (x32 d a1) 16
  let c1 := add32 c d1
  let b1 := rl (x32 b c1) 12
  let a2 := add32 a1 b1
  let d2 := rl (x32 d1 a2) 8
  let c2 := add32 c1 d2
  let b2 := rl (x32 b1 c2) 7
  ⟨a2, b2, c2, d2⟩
/-- A quarter of the words at four places. -/
def quart (s : List Int) (i j k l : Nat) : List Int :=
  let q := qr (s.getD i 0) (s.getD j 0) (s.getD k 0) (s.getD l 0)
  (((s.set i q.a).set j q.b).set k q.c).set l q.d
theorem quart_length (s : List Int) (i j k l : Nat) : (quart s i j k l).length = s.length := by simp [quart]
/-- The first n columns. -/
def cols (s : List Int) : Nat → List Int
  | 0 => s
  | n + 1 => quart (cols s n) n (4 + n) (8 + n) (12 + n)
/-- The first n diagonals. -/
def dias (s : List Int) : Nat → List Int
  | 0 => s
  | n + 1 => quart (dias s n) n (4 + (n + 1) % 4) (8 + (n + 2) % 4) (12 + (n + 3) % 4)
theorem cols_length (s : List Int) (n : Nat) : (cols s n).length = s.length := by
  induction n with
  | zero => rfl
  | succ n ih => rw [cols, quart_length, ih]
theorem dias_length (s : List Int) (n : Nat) : (dias s n).length = s.length := by
  induction n with
  | zero => rfl
  | succ n ih => rw [dias, quart_length, ih]
def drnd (s : List Int) : List Int := dias (cols s 4) 4
theorem drnd_length (s : List Int) : (drnd s).length = s.length := by unfold drnd; rw [dias_length, cols_length]
def drnds (s : List Int) : Nat → List Int
  | 0 => s
  | n + 1 => drnd (drnds s n)
theorem drnds_length (s : List Int) (n : Nat) : (drnds s n).length = s.length := by
  induction n with
  | zero => rfl
  | succ n ih => rw [drnds, drnd_length, ih]

/-! ### The first words -/
/-- Of a word's bytes, lowest first, the first m. -/
def pkl (b : List Nat) (j : Nat) : Nat → Nat
  | 0 => 0
  | m + 1 => if m < 4 then pkl b j m + b.getD (4 * j + m) 0 * 256 ^ m else pkl b j m
theorem pkl_top (b : List Nat) (j m : Nat) (h : 4 ≤ m) : pkl b j m = pkl b j 4 := by
  induction m with
  | zero => omega
  | succ m ih =>
    by_cases h4 : m < 4
    · obtain rfl : m = 3 := by omega
      rfl
    · rw [pkl, if_neg h4]; exact ih (by omega)
theorem pkl_lt (b : List Nat) (hb : ∀ i, b.getD i 0 < 256) (j m : Nat) : pkl b j m < 256 ^ m := by
  induction m with
  | zero => simp [pkl]
  | succ m ih =>
    rw [pkl, Nat.pow_succ]
    have h1 : b.getD (4 * j + m) 0 * 256 ^ m ≤ 255 * 256 ^ m := Nat.mul_le_mul_right _ (by have := hb (4 * j + m); omega)
    split <;> omega
/-- A word of bytes. -/
def wd (b : List Nat) (j : Nat) : Int := (pkl b j 4 : Nat)
/-- Words of which those from 'at' on take bytes: behind i bytes. -/
def wput (s : List Int) (a : Nat) (b : List Nat) (i : Nat) : List Int := (List.range 16).map fun j => if j < a then s.getD j 0 else ((pkl b (j - a) (i - 4 * (j - a)) : Nat) : Int)
theorem wput_length (s : List Int) (a : Nat) (b : List Nat) (i : Nat) : (wput s a b i).length = 16 := by simp [wput]
theorem wput_get (s : List Int) (a : Nat) (b : List Nat) (i j : Nat) (h : j < 16) : (wput s a b i)[j]? = some (if j < a then s.getD j 0 else ((pkl b (j - a) (i - 4 * (j - a)) : Nat) : Int)) := by simp [wput, h]
theorem wput_zero (s : List Int) (a : Nat) (b : List Nat) (hs : s.length = 16) (hz : ∀ j, a ≤ j → s.getD j 0 = 0) : wput s a b 0 = s := by
  apply List.ext_getElem?
  intro j
  by_cases h : j < 16
  · rw [wput_get _ _ _ _ _ h, List.getElem?_eq_getElem (by omega)]
    congr 1
    by_cases ha : j < a
    · rw [if_pos ha]; simp [List.getD, hs, h]
    · rw [if_neg ha, Nat.zero_sub]
      have := hz j (by omega)
      simp only [List.getD, List.getElem?_eq_getElem (show j < s.length by omega), Option.getD_some] at this
      rw [this]; rfl
  · rw [List.getElem?_eq_none (by rw [wput_length]; omega), List.getElem?_eq_none (by omega)]
theorem wput_set (s : List Int) (a : Nat) (b : List Nat) (i : Nat) (h : a + i / 4 < 16) : (wput s a b i).set (a + i / 4) ((pkl b (i / 4) (i % 4 + 1) : Nat) : Int) = wput s a b (i + 1) := by
  apply List.ext_getElem?
  intro j
  rw [List.getElem?_set]
  by_cases hj : j < 16
  · rw [wput_get _ _ _ _ _ hj, wput_get _ _ _ _ _ hj]
    by_cases e : a + i / 4 = j
    · subst e
      rw [if_pos rfl, if_pos (by rw [wput_length]; omega), if_neg (by omega), show a + i / 4 - a = i / 4 by omega, show i + 1 - 4 * (i / 4) = i % 4 + 1 by omega]
    · rw [if_neg e]
      by_cases ha : j < a
      · rw [if_pos ha, if_pos ha]
      · rw [if_neg ha, if_neg ha]
        congr 2
        by_cases h1 : j - a < i / 4
        · rw [pkl_top _ _ _ (by omega), pkl_top _ _ (i + 1 - 4 * (j - a)) (by omega)]
        · rw [show i + 1 - 4 * (j - a) = 0 by omega, show i - 4 * (j - a) = 0 by omega]
  · rw [if_neg (by omega), List.getElem?_eq_none (by rw [wput_length]; omega), List.getElem?_eq_none (by rw [wput_length]; omega)]
/-- One byte more. -/
theorem byte_on (x y m : Nat) (hx : x < 256 ^ m) (hy : y < 256) (hm : m < 4) : o32 (x : Int) ((y : Int) * 2 ^ (m * 8) % 4294967296) = ((x + y * 256 ^ m : Nat) : Int) := by
  have e : 256 ^ m = 2 ^ (m * 8) := by rw [show (256 : Nat) = 2 ^ 8 by decide, ← Nat.pow_mul, Nat.mul_comm]
  have h4 : 256 ^ m ≤ 16777216 := Nat.le_trans (Nat.pow_le_pow_right (by decide) (show m ≤ 3 by omega)) (by decide)
  have h1 : y * 256 ^ m ≤ 255 * 256 ^ m := Nat.mul_le_mul_right _ (by omega)
  have e2 : (y : Int) * 2 ^ (m * 8) % 4294967296 = ((y * 256 ^ m : Nat) : Int) := by
    rw [show ((2 : Int) ^ (m * 8)) = ((256 ^ m : Nat) : Int) by rw [e]; simp]
    omega
  unfold o32
  rw [e2, u32_or_nat _ _ (by omega) (by omega)]
  congr 1
  have := Nat.shiftLeft_add_eq_or_of_lt (b := x) (i := m * 8) (by rw [← e]; exact hx) y
  rw [Nat.shiftLeft_eq, ← e] at this
  rw [Nat.or_comm, ← this, Nat.add_comm]
theorem wput_step (b : List Nat) (hb : ∀ i, b.getD i 0 < 256) (i : Nat) :
    o32 ((pkl b (i / 4) (i % 4) : Nat) : Int) (((b.getD i 0 : Nat) : Int) * 2 ^ (i % 4 * 8) % 4294967296) = ((pkl b (i / 4) (i % 4 + 1) : Nat) : Int) := by
  rw [byte_on _ _ _ (pkl_lt b hb _ _) (hb i) (by omega), pkl, if_pos (by omega), show 4 * (i / 4) + i % 4 = i by omega]
def cst : List Int := [1634760805, 857760878, 2036477234, 1797285236]
/-- A block's first words. -/
def fst (k n : List Nat) (c : Int) : List Int := cst ++ (List.range 8).map (wd k) ++ [c] ++ (List.range 3).map (wd n)
theorem fst_length (k n : List Nat) (c : Int) : (fst k n c).length = 16 := by simp [fst, cst]
theorem fst_get (k n : List Nat) (c : Int) (j : Nat) (h : j < 16) : (fst k n c)[j]? = some (if j < 4 then cst.getD j 0 else if j < 12 then wd k (j - 4) else if j = 12 then c else wd n (j - 13)) := by
  have hc : cst.length = 4 := rfl
  unfold fst
  by_cases h1 : j < 4
  · rw [if_pos h1, List.append_assoc, List.append_assoc, List.getElem?_append_left (by omega), List.getElem?_eq_getElem (by omega)]
    simp [List.getD, hc, h1]
  · rw [if_neg h1]
    by_cases h2 : j < 12
    · rw [if_pos h2, List.append_assoc, List.getElem?_append_left (by simp; omega), List.getElem?_append_right (by omega), hc, List.getElem?_map, List.getElem?_range (by omega)]
      rfl
    · rw [if_neg h2]
      by_cases h3 : j = 12
      · subst h3
        rw [if_pos rfl, List.getElem?_append_left (by simp; omega), List.getElem?_append_right (by simp; omega)]
        simp [hc]
      · have e : (cst ++ (List.range 8).map (wd k) ++ [c]).length = 13 := by simp [hc]
        rw [if_neg h3, List.getElem?_append_right (by omega), e, List.getElem?_map, List.getElem?_range (by omega)]
        rfl
def cst0 : List Int := cst ++ List.replicate 12 0
theorem cst0_length : cst0.length = 16 := rfl
theorem cst0_zero (j : Nat) (h : 4 ≤ j) : cst0.getD j 0 = 0 := by
  unfold cst0 cst
  rw [List.getD, List.getElem?_append_right (by simpa using h), List.getElem?_replicate]
  split <;> rfl
theorem cst0_get (j : Nat) (h : j < 4) : cst0.getD j 0 = cst.getD j 0 := by
  have hc : cst.length = 4 := rfl
  unfold cst0
  rw [List.getD, List.getElem?_append_left (by omega)]; rfl
def mid (k : List Nat) (c : Int) : List Int := (wput cst0 4 k 32).set 12 c
theorem mid_length (k : List Nat) (c : Int) : (mid k c).length = 16 := by unfold mid; rw [List.length_set, wput_length]
theorem mid_get (k : List Nat) (c : Int) (j : Nat) (h : j < 16) : (mid k c).getD j 0 = if j < 4 then cst.getD j 0 else if j < 12 then wd k (j - 4) else if j = 12 then c else 0 := by
  unfold mid List.getD
  rw [List.getElem?_set]
  by_cases e : 12 = j
  · subst e; rw [if_pos rfl, if_pos (by rw [wput_length]; decide)]; rfl
  · rw [if_neg e, wput_get _ _ _ _ _ h, Option.getD_some]
    by_cases h1 : j < 4
    · rw [if_pos h1, if_pos h1]; exact cst0_get j h1
    · rw [if_neg h1, if_neg h1]
      by_cases h2 : j < 12
      · rw [if_pos h2, pkl_top _ _ _ (by omega)]; unfold wd; rfl
      · rw [if_neg h2, if_neg (by omega), show 32 - 4 * (j - 4) = 0 by omega]; rfl
theorem mid_zero (k : List Nat) (c : Int) (j : Nat) (h : 13 ≤ j) : (mid k c).getD j 0 = 0 := by
  by_cases hj : j < 16
  · rw [mid_get _ _ _ hj, if_neg (by omega), if_neg (by omega), if_neg (by omega)]
  · rw [List.getD, List.getElem?_eq_none (by rw [mid_length]; omega)]; rfl
theorem nonce_in (k n : List Nat) (c : Int) : wput (mid k c) 13 n 12 = fst k n c := by
  apply List.ext_getElem?
  intro j
  by_cases h : j < 16
  · rw [wput_get _ _ _ _ _ h, fst_get _ _ _ _ h]
    congr 1
    by_cases h1 : j < 13
    · rw [if_pos h1, mid_get _ _ _ h]
      by_cases h2 : j < 12
      · simp only [if_pos h2]
      · rw [if_neg (by omega), if_neg h2, if_pos (by omega), if_neg (by omega), if_neg h2, if_pos (by omega)]
    · rw [if_neg h1, if_neg (by omega), if_neg (by omega), if_neg (by omega), pkl_top _ _ _ (by omega)]; unfold wd; rfl
  · rw [List.getElem?_eq_none (by rw [wput_length]; omega), List.getElem?_eq_none (by rw [fst_length]; omega)]

/-! ### A block -/
def sum16 (s f : List Int) : List Int := (List.range 16).map fun i => add32 (s.getD i 0) (f.getD i 0)
/-- Of which the first k are sums. -/
def sumW (s f : List Int) (k : Nat) : List Int := (List.range 16).map fun i => if i < k then add32 (s.getD i 0) (f.getD i 0) else s.getD i 0
theorem sumW_length (s f : List Int) (k : Nat) : (sumW s f k).length = 16 := by simp [sumW]
theorem sumW_get (s f : List Int) (k i : Nat) (h : i < 16) : (sumW s f k)[i]? = some (if i < k then add32 (s.getD i 0) (f.getD i 0) else s.getD i 0) := by simp [sumW, h]
theorem sumW_zero (s f : List Int) (hs : s.length = 16) : sumW s f 0 = s := by
  apply List.ext_getElem?
  intro i
  by_cases h : i < 16
  · rw [sumW_get _ _ _ _ h, if_neg (by omega), List.getElem?_eq_getElem (by omega)]; simp [List.getD, hs, h]
  · rw [List.getElem?_eq_none (by rw [sumW_length]; omega), List.getElem?_eq_none (by omega)]
theorem sumW_set (s f : List Int) (k : Nat) (h : k < 16) : (sumW s f k).set k (add32 (s.getD k 0) (f.getD k 0)) = sumW s f (k + 1) := by
  apply List.ext_getElem?
  intro j
  rw [List.getElem?_set]
  by_cases hj : j < 16
  · rw [sumW_get _ _ _ _ hj, sumW_get _ _ _ _ hj]
    by_cases e : k = j
    · subst e; rw [if_pos rfl, if_pos (by rw [sumW_length]; exact h), if_pos (by omega)]
    · rw [if_neg e]
      by_cases h1 : j < k
      · rw [if_pos h1, if_pos (by omega)]
      · rw [if_neg h1, if_neg (by omega)]
  · rw [if_neg (by omega), List.getElem?_eq_none (by rw [sumW_length]; omega), List.getElem?_eq_none (by rw [sumW_length]; omega)]
theorem sumW_all (s f : List Int) : sumW s f 16 = sum16 s f := by
  unfold sumW sum16
  apply List.map_congr_left
  intro i hi
  rw [if_pos (List.mem_range.1 hi)]
theorem sum16_length (s f : List Int) : (sum16 s f).length = 16 := by simp [sum16]
/-- A byte of words, as a number of the language; and as a plain one. -/
def oI (s : List Int) (i : Nat) : Int := s.getD (i / 4) 0 / 2 ^ (i % 4 * 8) % 256
def oB (s : List Int) (i : Nat) : Nat := (oI s i).toNat
theorem oI_nat (s : List Int) (i : Nat) : ((oB s i : Nat) : Int) = oI s i := by
  unfold oB
  have : 0 ≤ oI s i := Int.emod_nonneg _ (by decide)
  omega
theorem oB_lt (s : List Int) (i : Nat) : oB s i < 256 := by
  have h1 := oI_nat s i
  have h2 : oI s i < 256 := Int.emod_lt_of_pos _ (by decide)
  omega
/-- Of which the first k are there. -/
def outP (s : List Int) (k : Nat) : List Nat := (List.range 64).map fun i => if i < k then oB s i else 0
def outB (s : List Int) : List Nat := (List.range 64).map (oB s)
theorem outP_length (s : List Int) (k : Nat) : (outP s k).length = 64 := by simp [outP]
theorem outP_get (s : List Int) (k i : Nat) (h : i < 64) : (outP s k)[i]? = some (if i < k then oB s i else 0) := by simp [outP, h]
theorem outP_zero (s : List Int) : outP s 0 = zs 64 := by
  apply List.ext_getElem?
  intro i
  by_cases h : i < 64
  · rw [outP_get _ _ _ h, if_neg (by omega), zs, List.getElem?_replicate, if_pos h]
  · rw [List.getElem?_eq_none (by rw [outP_length]; omega), List.getElem?_eq_none (by rw [zs_length]; omega)]
theorem outP_set (s : List Int) (k : Nat) (h : k < 64) : (outP s k).set k (oB s k) = outP s (k + 1) := by
  apply List.ext_getElem?
  intro j
  rw [List.getElem?_set]
  by_cases hj : j < 64
  · rw [outP_get _ _ _ hj, outP_get _ _ _ hj]
    by_cases e : k = j
    · subst e; rw [if_pos rfl, if_pos (by rw [outP_length]; exact h), if_pos (by omega)]
    · rw [if_neg e]
      by_cases h1 : j < k
      · rw [if_pos h1, if_pos (by omega)]
      · rw [if_neg h1, if_neg (by omega)]
  · rw [if_neg (by omega), List.getElem?_eq_none (by rw [outP_length]; omega), List.getElem?_eq_none (by rw [outP_length]; omega)]
theorem outP_all (s : List Int) : outP s 64 = outB s := by
  unfold outP outB
  apply List.map_congr_left
  intro i hi
  rw [if_pos (List.mem_range.1 hi)]
theorem outB_length (s : List Int) : (outB s).length = 64 := by simp [outB]
theorem outB_bts (s : List Int) : ∀ i, (outB s).getD i 0 < 256 := getD_lt fun x hx => by
  obtain ⟨i, _, rfl⟩ := List.mem_map.1 hx
  exact oB_lt s i
/-- A block. -/
@[irreducible] def blk (k n : List Nat) (c : Nat) : List Nat := outB (sum16 (drnds (fst k n (c : Int)) 10) (fst k n (c : Int)))
theorem blk_length (k n : List Nat) (c : Nat) : (blk k n c).length = 64 := by unfold blk; exact outB_length _
theorem blk_bts (k n : List Nat) (c : Nat) : ∀ i, (blk k n c).getD i 0 < 256 := by unfold blk; exact outB_bts _
theorem blk_eq (k n : List Nat) (c : Nat) : blk k n c = outB (sum16 (drnds (fst k n (c : Int)) 10) (fst k n (c : Int))) := by unfold blk; rfl

/-! ### A stream -/
/-- A byte of the stream from block c on. -/
def stB (k n : List Nat) (c i : Nat) : Nat := (blk k n (c + i / 64)).getD (i % 64) 0
theorem stB_lt (k n : List Nat) (c i : Nat) : stB k n c i < 256 := blk_bts _ _ _ _
def strm (k n : List Nat) (c size : Nat) : List Nat := (List.range size).map (stB k n c)
theorem strm_length (k n : List Nat) (c size : Nat) : (strm k n c size).length = size := by simp [strm]
theorem strm_bts (k n : List Nat) (c size : Nat) : ∀ i, (strm k n c size).getD i 0 < 256 := getD_lt fun x hx => by
  obtain ⟨i, _, rfl⟩ := List.mem_map.1 hx
  exact stB_lt _ _ _ _
/-- Of which the first m bytes are there. -/
def strP (k n : List Nat) (c size m : Nat) : List Nat := (List.range size).map fun i => if i < m then stB k n c i else 0
theorem strP_length (k n : List Nat) (c size m : Nat) : (strP k n c size m).length = size := by simp [strP]
theorem strP_get (k n : List Nat) (c size m i : Nat) (h : i < size) : (strP k n c size m)[i]? = some (if i < m then stB k n c i else 0) := by simp [strP, h]
theorem strP_zero (k n : List Nat) (c size : Nat) : strP k n c size 0 = zs size := by
  apply List.ext_getElem?
  intro i
  by_cases h : i < size
  · rw [strP_get _ _ _ _ _ _ h]; simp [zs, h]
  · rw [List.getElem?_eq_none (by rw [strP_length]; omega), List.getElem?_eq_none (by rw [zs_length]; omega)]
theorem strP_all (k n : List Nat) (c size m : Nat) (h : size ≤ m) : strP k n c size m = strm k n c size := by
  unfold strP strm
  apply List.map_congr_left
  intro i hi
  rw [if_pos (by have := List.mem_range.1 hi; omega)]
/-- One block more goes over. -/
theorem strP_step (k n : List Nat) (c size i t : Nat) (hi : 64 * i < size) (ht : t = min 64 (size - 64 * i)) :
    (strP k n c size (64 * i)).take (64 * i) ++ (blk k n (c + i)).take t ++ (strP k n c size (64 * i)).drop (64 * i + t) = strP k n c size (64 * (i + 1)) := by
  have hl := strP_length k n c size (64 * i)
  have hb := blk_length k n (c + i)
  apply List.ext_getElem?
  intro j
  by_cases hj : j < size
  · rw [strP_get _ _ _ _ _ _ hj]
    by_cases h1 : j < 64 * i
    · rw [List.append_assoc, List.getElem?_append_left (by simp; omega), List.getElem?_take, if_pos h1, strP_get _ _ _ _ _ _ hj, if_pos h1, if_pos (by omega)]
    · by_cases h2 : j < 64 * i + t
      · rw [List.append_assoc, List.getElem?_append_right (by simp; omega), List.getElem?_append_left (by simp; omega)]
        have e : j - ((strP k n c size (64 * i)).take (64 * i)).length = j - 64 * i := by simp; omega
        rw [e, List.getElem?_take, if_pos (by omega), if_pos (by omega), List.getElem?_eq_getElem (by omega)]
        unfold stB
        rw [show c + j / 64 = c + i by omega, show j % 64 = j - 64 * i by omega]
        simp [List.getD, hb, show j - 64 * i < 64 by omega]
      · rw [List.getElem?_append_right (by simp; omega)]
        have e : j - ((strP k n c size (64 * i)).take (64 * i) ++ (blk k n (c + i)).take t).length = j - (64 * i + t) := by simp; omega
        rw [e, List.getElem?_drop, show 64 * i + t + (j - (64 * i + t)) = j by omega, strP_get _ _ _ _ _ _ hj, if_neg h1, if_neg (by omega)]
  · rw [List.getElem?_eq_none (by simp; omega), List.getElem?_eq_none (by rw [strP_length]; omega)]
/-! ### Bytes that are turned -/
def mixd (a b : List Nat) : List Nat := (List.range b.length).map fun i => a.getD i 0 ^^^ b.getD i 0
theorem mixd_length (a b : List Nat) : (mixd a b).length = b.length := by simp [mixd]
theorem mixd_bts {a b : List Nat} (ha : ∀ i, a.getD i 0 < 256) (hb : ∀ i, b.getD i 0 < 256) : ∀ i, (mixd a b).getD i 0 < 256 := getD_lt fun x hx => by
  obtain ⟨i, _, rfl⟩ := List.mem_map.1 hx
  exact xor_lt (ha i) (hb i)
/-- Of which the first m are turned. -/
def mixP (a b : List Nat) (m : Nat) : List Nat := (List.range b.length).map fun i => if i < m then a.getD i 0 ^^^ b.getD i 0 else a.getD i 0
theorem xor_twice (a b : Nat) : a ^^^ (a ^^^ b) = b := by rw [← Nat.xor_assoc, Nat.xor_self, Nat.zero_xor]
/-- Turned twice. -/
theorem mixd_twice (a b : List Nat) : mixd a (mixd a b) = b := by
  apply List.ext_getElem?
  intro i
  by_cases h : i < b.length
  · simp only [mixd, List.length_map, List.length_range, List.getElem?_map, List.getElem?_range h, Option.map_some]
    rw [List.getElem?_eq_getElem h]
    congr 1
    simp only [List.getD, List.getElem?_map, List.getElem?_range h, Option.map_some, Option.getD_some, List.getElem?_eq_getElem h]
    exact xor_twice _ _
  · rw [List.getElem?_eq_none (by rw [mixd_length, mixd_length]; omega), List.getElem?_eq_none (by omega)]
/-- Noughts are turned to the stream itself. -/
theorem mixd_zs (a : List Nat) (m : Nat) (h : m = a.length) : mixd a (zs m) = a := by
  subst h
  apply List.ext_getElem?
  intro i
  by_cases h : i < a.length
  · simp [mixd, zs, h, List.getD]
  · rw [List.getElem?_eq_none (by rw [mixd_length, zs_length]; omega), List.getElem?_eq_none (by omega)]

/-! ### An answer that the document fixes -/
def key0 : List Nat := List.range 32
def non0 : List Nat := [0, 0, 0, 9, 0, 0, 0, 74, 0, 0, 0, 0]
end Go.Ch

/-
  Headers as lists of numbers: streams, proofs, betas, fillers; what a hop takes off. Of no program.
-/
namespace Go.Hd
open Go Go.Sh Go.Ch Go.Cm

/-! ### Of a shared secret -/
def rhoL : List Nat := purp ++ [114, 104, 111]
def muL : List Nat := purp ++ [109, 117]
def tauL : List Nat := purp ++ [116, 97, 117]
/-- The stream. -/
@[irreducible] def hst (s : List Nat) : List Nat := strm (keyN (drv s rhoL)) (zs 12) 0 192
/-- The proof of a beta. -/
@[irreducible] def prf (s b : List Nat) : List Nat := (keyN (mac (keyN (drv s muL)) b)).take 16
/-- The tag. -/
@[irreducible] def tagS (s : List Nat) : List Nat := (keyN (drv s tauL)).take 16
/-- The blinding with an alpha. -/
@[irreducible] def bli (s a : List Nat) : List Nat := keyN (mac s a)
theorem hst_length (s : List Nat) : (hst s).length = 192 := by unfold hst; exact strm_length _ _ _ _
theorem hst_bts (s : List Nat) : ∀ i, (hst s).getD i 0 < 256 := by unfold hst; exact strm_bts _ _ _ _
theorem prf_length (s b : List Nat) : (prf s b).length = 16 := by unfold prf; rw [List.length_take, keyN_length]; rfl
theorem prf_bts (s b : List Nat) : ∀ i, (prf s b).getD i 0 < 256 := by unfold prf; exact bts_take (keyN_bts _) _
theorem tagS_length (s : List Nat) : (tagS s).length = 16 := by unfold tagS; rw [List.length_take, keyN_length]; rfl
theorem bli_length (s a : List Nat) : (bli s a).length = 32 := by unfold bli; exact keyN_length _
theorem bli_bts (s a : List Nat) : ∀ i, (bli s a).getD i 0 < 256 := by unfold bli; exact keyN_bts _

/-! ### What is turned, piece by piece -/
theorem mixd_app (a b c : List Nat) : mixd a (b ++ c) = mixd a b ++ mixd (a.drop b.length) c := by
  apply List.ext_getElem?
  intro i
  by_cases h1 : i < b.length
  · rw [List.getElem?_append_left (by rw [mixd_length]; exact h1)]
    simp only [mixd, List.getElem?_map]
    rw [List.getElem?_range (by rw [List.length_append]; omega), List.getElem?_range h1]
    simp only [Option.map_some, List.getD]
    rw [List.getElem?_append_left h1]
  · rw [List.getElem?_append_right (by rw [mixd_length]; omega), mixd_length]
    by_cases h2 : i < b.length + c.length
    · simp only [mixd, List.getElem?_map]
      rw [List.getElem?_range (by rw [List.length_append]; exact h2), List.getElem?_range (by omega)]
      simp only [Option.map_some, List.getD]
      rw [List.getElem?_append_right (by omega), List.getElem?_drop, show b.length + (i - b.length) = i by omega]
    · rw [List.getElem?_eq_none (by rw [mixd_length, List.length_append]; omega), List.getElem?_eq_none (by rw [mixd_length]; omega)]
theorem mixd_take (a b : List Nat) (n : Nat) : (mixd a b).take n = mixd a (b.take n) := by
  unfold mixd
  rw [← List.map_take, List.take_range, List.length_take]
  apply List.map_congr_left
  intro i hi
  have := List.mem_range.1 hi
  simp only [List.getD]
  rw [List.getElem?_take, if_pos (by omega)]
theorem mixd_drop (a b : List Nat) (n : Nat) (h : n ≤ b.length) : (mixd a b).drop n = mixd (a.drop n) (b.drop n) := by
  conv => lhs; rw [← List.take_append_drop n b]
  have e : (b.take n).length = n := by rw [List.length_take]; omega
  rw [mixd_app, List.drop_append_of_le_length (by rw [mixd_length, e]; exact Nat.le_refl _), List.drop_of_length_le (by rw [mixd_length, e]; exact Nat.le_refl _), List.nil_append, e]
/-! ### Betas -/
/-- A route's hop: a key, and what it has to do. -/
structure Hop where
  k : List Nat
  c : Cmd
/-- The filler of hops that share these secrets. -/
def fil (ss : List (List Nat)) : List Nat := ss.foldl (fun f s => mixd ((hst s).drop (192 - (f.length + 32))) (f ++ zs 32)) []
theorem fil_snoc (ss : List (List Nat)) (s : List Nat) : fil (ss ++ [s]) = mixd ((hst s).drop (192 - ((fil ss).length + 32))) (fil ss ++ zs 32) := by
  unfold fil; rw [List.foldl_append]; rfl
theorem fil_length' : ∀ (ss : List (List Nat)) (f : List Nat), (ss.foldl (fun f s => mixd ((hst s).drop (192 - (f.length + 32))) (f ++ zs 32)) f).length = f.length + 32 * ss.length
  | [], f => rfl
  | s :: ss, f => by
    rw [List.foldl_cons, fil_length' ss, mixd_length, List.length_append, zs_length, List.length_cons]; omega
theorem fil_length (ss : List (List Nat)) : (fil ss).length = 32 * ss.length := by
  have := fil_length' ss []
  simpa [fil] using this
theorem fil_bts : ∀ (ss : List (List Nat)), ∀ i, (fil ss).getD i 0 < 256 := by
  have : ∀ (ss : List (List Nat)) (f : List Nat), (∀ i, f.getD i 0 < 256) → ∀ i, (ss.foldl (fun f s => mixd ((hst s).drop (192 - (f.length + 32))) (f ++ zs 32)) f).getD i 0 < 256 := by
    intro ss
    induction ss with
    | nil => intro f h; exact h
    | cons s ss ih =>
      intro f h
      rw [List.foldl_cons]
      exact ih _ (mixd_bts (bts_drop (hst_bts s) _) (bts_app h (bts_zs _)))
  exact fun ss => this ss [] (by intro i; simp)
/-- What a hop has to find, and noughts or a beta behind it: turned. -/
def wid (s c g b : List Nat) : List Nat := mixd (hst s) (c ++ g ++ b)
theorem wid_length {s c g b : List Nat} (hc : c.length = 16) (hg : g.length = 16) (hb : b.length = 160) : (wid s c g b).length = 192 := by
  unfold wid; rw [mixd_length, List.length_append, List.length_append, hc, hg, hb]
/-- The last hop's beta, behind so many hops. -/
def betaL (ss : List (List Nat)) (s c : List Nat) : List Nat := (wid s c (zs 16) (zs 160)).take (160 - 32 * ss.length) ++ fil ss
/-- The betas: of the hops behind those of 'ss'. -/
def betas (ss : List (List Nat)) : List (List Nat × List Nat) → List Nat
  | [] => []
  | [(s, c)] => betaL ss s c
  | (s, c) :: (t, d) :: r => (wid s c (prf t (betas (ss ++ [s]) ((t, d) :: r))) (betas (ss ++ [s]) ((t, d) :: r))).take 160
theorem betas_more (ss : List (List Nat)) (s c t d : List Nat) (r : List (List Nat × List Nat)) : betas ss ((s, c) :: (t, d) :: r) = (wid s c (prf t (betas (ss ++ [s]) ((t, d) :: r))) (betas (ss ++ [s]) ((t, d) :: r))).take 160 := rfl
theorem betas_length : ∀ (r : List (List Nat × List Nat)) (ss : List (List Nat)), r ≠ [] → (∀ x ∈ r, x.2.length = 16) → ss.length + r.length ≤ 6 → (betas ss r).length = 160
  | [], _, h, _, _ => absurd rfl h
  | [(s, c)], ss, _, hc, hn => by
    show (betaL ss s c).length = 160
    have h1 := hc (s, c) (by simp)
    unfold betaL
    rw [List.length_append, List.length_take, wid_length h1 (zs_length _) (zs_length _), fil_length]
    simp at hn; omega
  | (s, c) :: (t, d) :: r, ss, _, hc, hn => by
    have ih := betas_length ((t, d) :: r) (ss ++ [s]) (by simp) (fun x hx => hc x (List.mem_cons_of_mem _ hx)) (by simp at hn ⊢; omega)
    rw [betas_more, List.length_take, wid_length (hc (s, c) (by simp)) (prf_length _ _) ih]; rfl
theorem betas_bts : ∀ (r : List (List Nat × List Nat)) (ss : List (List Nat)), (∀ x ∈ r, ∀ i, x.2.getD i 0 < 256) → ∀ i, (betas ss r).getD i 0 < 256
  | [], _, _ => by intro i; simp [betas]
  | [(s, c)], ss, hc => bts_app (bts_take (mixd_bts (hst_bts s) (bts_app (bts_app (hc (s, c) (by simp)) (bts_zs _)) (bts_zs _))) _) (fil_bts ss)
  | (s, c) :: (t, d) :: r, ss, hc => by
    have ih := betas_bts ((t, d) :: r) (ss ++ [s]) (fun x hx => hc x (List.mem_cons_of_mem _ hx))
    rw [betas_more]
    exact bts_take (mixd_bts (hst_bts s) (bts_app (bts_app (hc (s, c) (by simp)) (prf_bts _ _)) ih)) _
/-- What the hops ahead made of their noughts stands at the end. -/
theorem betas_tail : ∀ (r : List (List Nat × List Nat)) (ss : List (List Nat)), r ≠ [] → (∀ x ∈ r, x.2.length = 16) → ss.length + r.length ≤ 5 → (betas ss r).drop (160 - 32 * ss.length) = fil ss
  | [], _, h, _, _ => absurd rfl h
  | [(s, c)], ss, _, hc, hn => by
    show (betaL ss s c).drop _ = _
    have h1 := hc (s, c) (by simp)
    unfold betaL
    have e : ((wid s c (zs 16) (zs 160)).take (160 - 32 * ss.length)).length = 160 - 32 * ss.length := by
      rw [List.length_take, wid_length h1 (zs_length _) (zs_length _)]; omega
    rw [List.drop_append_of_le_length (by rw [e]; exact Nat.le_refl _), List.drop_of_length_le (by rw [e]; exact Nat.le_refl _), List.nil_append]
  | (s, c) :: (t, d) :: r, ss, _, hc, hn => by
    have hc' : ∀ x ∈ (t, d) :: r, x.2.length = 16 := fun x hx => hc x (List.mem_cons_of_mem _ hx)
    have hn' : (ss ++ [s]).length + ((t, d) :: r).length ≤ 5 := by simp at hn ⊢; omega
    have ih := betas_tail ((t, d) :: r) (ss ++ [s]) (by simp) hc' hn'
    have il := betas_length ((t, d) :: r) (ss ++ [s]) (by simp) hc' (by omega)
    have hs : ss.length ≤ 3 := by simp at hn; omega
    rw [betas_more]
    generalize betas (ss ++ [s]) ((t, d) :: r) = b at *
    have h1 := hc (s, c) (by simp)
    have hp := prf_length t b
    have hf := fil_length ss
    generalize prf t b = g at *
    simp only at h1
    unfold wid
    have e1 : 160 - 32 * ss.length = 32 + (128 - 32 * ss.length) := by omega
    rw [mixd_take, mixd_drop _ _ _ (by simp only [List.length_take, List.length_append, h1, hp, il]; omega)]
    have e2 : ((c ++ g ++ b).take 160).drop (160 - 32 * ss.length) = (fil (ss ++ [s])).take (32 * ss.length) := by
      rw [← ih, List.length_append, List.length_singleton, List.drop_take, List.drop_append, List.drop_of_length_le (by simp [h1, hp]; omega), List.nil_append]
      simp only [List.length_append, h1, hp]
      congr 1
      congr 1; omega
    rw [e2, fil_snoc, mixd_take, List.take_append_of_le_length (by omega), List.take_of_length_le (by omega), hf]
    have e3 : 192 - (32 * ss.length + 32) = 160 - 32 * ss.length := by omega
    rw [e3]
    exact mixd_twice _ _
/-- A beta, and noughts behind it, turned: what the builder laid. -/
theorem betas_open (ss : List (List Nat)) (s c t d : List Nat) (r : List (List Nat × List Nat)) (hc : ∀ x ∈ (s, c) :: (t, d) :: r, x.2.length = 16) (hn : ss.length + r.length ≤ 3) :
    mixd (hst s) (betas ss ((s, c) :: (t, d) :: r) ++ zs 32) = c ++ prf t (betas (ss ++ [s]) ((t, d) :: r)) ++ betas (ss ++ [s]) ((t, d) :: r) := by
  have hc' : ∀ x ∈ (t, d) :: r, x.2.length = 16 := fun x hx => hc x (List.mem_cons_of_mem _ hx)
  have ih := betas_tail ((t, d) :: r) (ss ++ [s]) (by simp) hc' (by simp; omega)
  have il := betas_length ((t, d) :: r) (ss ++ [s]) (by simp) hc' (by simp; omega)
  have bl := betas_length ((s, c) :: (t, d) :: r) ss (by simp) hc (by simp; omega)
  have h1 := hc (s, c) (by simp)
  rw [mixd_app, bl, betas_more]
  generalize betas (ss ++ [s]) ((t, d) :: r) = b at *
  have hp := prf_length t b
  generalize prf t b = g at *
  simp only at h1
  have hf := fil_length ss
  unfold wid
  rw [mixd_take, mixd_twice]
  have hz : mixd ((hst s).drop 160) (zs 32) = (hst s).drop 160 := mixd_zs _ _ (by rw [List.length_drop, hst_length])
  rw [hz]
  have hlast : b.drop 128 = (hst s).drop 160 := by
    have e : b.drop 128 = (b.drop (160 - 32 * (ss ++ [s]).length)).drop (32 * ss.length) := by
      rw [List.drop_drop]; congr 1; simp; omega
    rw [e, ih, fil_snoc, mixd_drop _ _ _ (by rw [List.length_append]; omega), List.drop_drop, List.drop_append_of_le_length (by omega), List.drop_of_length_le (l := fil ss) (by omega), List.nil_append, hf]
    rw [show 192 - (32 * ss.length + 32) + 32 * ss.length = 160 by omega]
    exact hz
  rw [← hlast]
  conv => rhs; rw [← List.take_append_drop 160 (c ++ g ++ b)]
  congr 1
  rw [List.drop_append, List.drop_of_length_le (l := c ++ g) (by rw [List.length_append]; omega), List.nil_append, List.length_append, h1, hp]
/-- The last hop finds its command. -/
theorem betas_last (ss : List (List Nat)) (s c : List Nat) (hc : c.length = 16) (hn : ss.length ≤ 4) : (mixd (hst s) (betas ss [(s, c)] ++ zs 32)).take 16 = c := by
  have h0 : betas ss [(s, c)] = betaL ss s c := rfl
  have hw := wid_length (s := s) hc (zs_length 16) (zs_length 160)
  rw [h0, mixd_take, List.take_append_of_le_length (by unfold betaL; rw [List.length_append, List.length_take, fil_length, hw]; omega)]
  unfold betaL
  rw [List.take_append_of_le_length (by rw [List.length_take, hw]; omega), List.take_take, show min 16 (160 - 32 * ss.length) = 16 by omega]
  unfold wid
  rw [mixd_take, mixd_twice, List.append_assoc, List.take_append_of_le_length (by omega), List.take_of_length_le (by omega)]
end Go.Hd

/-
  The words of package field: the library's carries, sums, differences and products of four words, and what is left of a number modulo 2^255 - 19.
-/
namespace Go.Proofs.YtddmjddlbhdcpaaGreatDoor.F
open Go.RowKit Go.Shelf

/-! ### The library's three calls -/
def ren : Ren := ⟨fun n => if n = 264 then 182 else if n = 25 then 180 else 181, fun n => if n = 46 then 159 else 133, fun n => n⟩
theorem laysMul : Lays.n264 Tryz.prog ren := ⟨by kernel_rfl, by kernel_rfl, by kernel_rfl, fun _ => by kernel_rfl, fun _ => by kernel_rfl, fun _ => by kernel_rfl, by kernel_rfl, fun _ => by kernel_rfl, fun _ => by kernel_rfl, fun _ => by kernel_rfl⟩
theorem laysAdd : Lays7.n25 Tryz.prog ren := ⟨by kernel_rfl, by kernel_rfl, by kernel_rfl, fun _ => by kernel_rfl, fun _ => by kernel_rfl, fun _ => by kernel_rfl, by kernel_rfl⟩
theorem laysSub : Lays7.n26 Tryz.prog ren := ⟨by kernel_rfl, by kernel_rfl, by kernel_rfl, fun _ => by kernel_rfl, fun _ => by kernel_rfl, fun _ => by kernel_rfl, by kernel_rfl⟩

/-- The borrow. -/
def bor (x y : Int) : Int := if x < y then 1 else 0
theorem add64 (x y c : Int) (hx : 0 ≤ x) (hy : 0 ≤ y) (hc0 : 0 ≤ c) (hc : c ≤ 1) (w : World) : (callFunc 180 #[.int .u64 x, .int .u64 y, .int .u64 c]).run Tryz.prog w =
    .ok (.value (.tuple #[.int .u64 ((x + y + c) % 18446744073709551616), .int .u64 ((x + y + c) / 18446744073709551616)])) w := by
  obtain ⟨x, rfl⟩ := Int.eq_ofNat_of_zero_le hx
  obtain ⟨y, rfl⟩ := Int.eq_ofNat_of_zero_le hy
  obtain ⟨c, rfl⟩ := Int.eq_ofNat_of_zero_le hc0
  refine (Any7.bits_Add64 laysAdd x y c (by omega) w).trans ?_
  congr 5 <;> omega
theorem sub64 (x y b : Int) (hx : 0 ≤ x) (hy : 0 ≤ y) (hy' : y < 18446744073709551616) (hb0 : 0 ≤ b) (hb : b ≤ 1) (w : World) : (callFunc 181 #[.int .u64 x, .int .u64 y, .int .u64 b]).run Tryz.prog w =
    .ok (.value (.tuple #[.int .u64 ((x - y - b) % 18446744073709551616), .int .u64 (bor x (y + b))])) w := by
  obtain ⟨x, rfl⟩ := Int.eq_ofNat_of_zero_le hx
  obtain ⟨y, rfl⟩ := Int.eq_ofNat_of_zero_le hy
  obtain ⟨b, rfl⟩ := Int.eq_ofNat_of_zero_le hb0
  have e1 : (((x + 18446744073709551616 - y - b) % 18446744073709551616 : Nat) : Int) = ((x : Int) - y - b) % 18446744073709551616 := by omega
  have e2 : ((if x < y + b then 1 else 0 : Nat) : Int) = bor x (y + b) := by unfold bor; split <;> split <;> omega
  rw [← e1, ← e2]
  exact Any7.bits_Sub64 laysSub x y b (by omega) w
/-! ### Four words -/
/-- A word. -/
def Word (x : Int) : Prop := 0 ≤ x ∧ x < 18446744073709551616
/-- Four words. -/
def W4 (a b c d : Int) : Prop := Word a ∧ Word b ∧ Word c ∧ Word d
/-- Their number. -/
def V (a b c d : Int) : Int := a + b * 18446744073709551616 + c * 340282366920938463463374607431768211456 + d * 6277101735386680763835789423207666416102355444464034512896
/-- Four words as a value. -/
abbrev nv (a b c d : Int) : Value := .agg #[.int .u64 a, .int .u64 b, .int .u64 c, .int .u64 d]
/-- 'Four words are answered of which R holds; nothing that was there has turned.' -/
def Ret4 (R : Int → Int → Int → Int → Prop) (w : World) (e : Ending) (w' : World) : Prop := ∃ a b c d, R a b c d ∧ e = .returned (nv a b c d) ∧ Below w.heap.size w w'
/-- 'Four words and one more are answered of which R holds; nothing that was there has turned.' -/
def Ret5 (R : Int → Int → Int → Int → Int → Prop) (w : World) (e : Ending) (w' : World) : Prop := ∃ a b c d h, R a b c d h ∧ e = .returned (.tuple #[nv a b c d, .int .u64 h]) ∧ Below w.heap.size w w'

theorem word_mul (x y : Int) (hx : Word x) (hy : Word y) : 0 ≤ x * y ∧ x * y ≤ 340282366920938463426481119284349108225 := by
  obtain ⟨a, b⟩ := hx; obtain ⟨c, d⟩ := hy
  refine ⟨Int.mul_nonneg a c, ?_⟩
  have h1 : x * y ≤ 18446744073709551615 * y := Int.mul_le_mul_of_nonneg_right (by omega) c
  omega


/-- A sum of two words and a carry, in a word and a carry. -/
def AddF (x y c s d : Int) : Prop := 0 ≤ s ∧ s < 18446744073709551616 ∧ 0 ≤ d ∧ d ≤ 1 ∧ s + d * 18446744073709551616 = x + y + c
theorem add64_ex (x y c : Int) (hx : Word x) (hy : Word y) (hc0 : 0 ≤ c) (hc : c ≤ 1) : ∃ s d, AddF x y c s d ∧ ∀ w, (callFunc 180 #[.int .u64 x, .int .u64 y, .int .u64 c]).run Tryz.prog w = .ok (.value (.tuple #[.int .u64 s, .int .u64 d])) w := by
  refine ⟨_, _, ?_, fun w => add64 x y c hx.1 hy.1 hc0 hc w⟩
  obtain ⟨_, _⟩ := hx; obtain ⟨_, _⟩ := hy
  unfold AddF; omega
/-- A difference of two words and a borrow, in a word and a borrow. -/
def SubF (x y c s d : Int) : Prop := 0 ≤ s ∧ s < 18446744073709551616 ∧ 0 ≤ d ∧ d ≤ 1 ∧ s - d * 18446744073709551616 = x - y - c
theorem sub64_ex (x y c : Int) (hx : Word x) (hy : Word y) (hc0 : 0 ≤ c) (hc : c ≤ 1) : ∃ s d, SubF x y c s d ∧ ∀ w, (callFunc 181 #[.int .u64 x, .int .u64 y, .int .u64 c]).run Tryz.prog w = .ok (.value (.tuple #[.int .u64 s, .int .u64 d])) w := by
  refine ⟨_, _, ?_, fun w => sub64 x y c hx.1 hy.1 hy.2 hc0 hc w⟩
  obtain ⟨_, _⟩ := hx; obtain ⟨_, _⟩ := hy
  unfold SubF bor; split <;> omega

/-- A product in two words. -/
def MulF (x y l h : Int) : Prop := 0 ≤ l ∧ l < 18446744073709551616 ∧ 0 ≤ h ∧ h < 18446744073709551615 ∧ l + h * 18446744073709551616 = x * y ∧ x * y ≤ 340282366920938463426481119284349108225
theorem mul64 (x y : Int) (hx : Word x) (hy : Word y) : ∃ l h, MulF x y l h ∧ ∀ w,
    Calls Tryz.prog 182 #[.int .u64 x, .int .u64 y] w fun e w' => e = .returned (.tuple #[.int .u64 h, .int .u64 l]) ∧ w = w' := by
  have hm := word_mul x y hx hy
  obtain ⟨hx0, hx1⟩ := hx; obtain ⟨hy0, hy1⟩ := hy
  refine ⟨x * y % 18446744073709551616, x * y / 18446744073709551616, ?_, fun w => ?_⟩
  · unfold MulF
    generalize x * y = m at *
    omega
  obtain ⟨x, rfl⟩ := Int.eq_ofNat_of_zero_le hx0
  obtain ⟨y, rfl⟩ := Int.eq_ofNat_of_zero_le hy0
  refine (Any.bits_Mul64 laysMul x y (by omega) (by omega) w).mono ?_
  rintro e w' ⟨rfl, rfl⟩
  exact ⟨rfl, rfl⟩

/-- A product and two words more, in two words. -/
def MwR (x y z c l h : Int) : Prop := Word l ∧ Word h ∧ l + h * 18446744073709551616 = x * y + z + c
def RetMw (x y z c : Int) (w : World) (e : Ending) (w' : World) : Prop := ∃ l h, MwR x y z c l h ∧ e = .returned (.tuple #[.int .u64 l, .int .u64 h]) ∧ w = w'

theorem mwR_of {x y z c l h s1 d1 s2 d2 : Int} (hm : MulF x y l h) (a1 : AddF l z 0 s1 d1) (a2 : AddF s1 c 0 s2 d2) (hz : Word z) (hc : Word c) : h + d1 + d2 < 18446744073709551616 ∧ MwR x y z c s2 (h + d1 + d2) := by
  obtain ⟨_, _⟩ := hz; obtain ⟨_, _⟩ := hc
  unfold MulF at hm; unfold AddF at a1 a2; unfold MwR Word
  generalize x * y = m at *
  omega

set_option maxHeartbeats 1000000 in
theorem multiplyWord_any (x y z c : Int) (hx : Word x) (hy : Word y) (hz : Word z) (hc : Word c) (w : World) :
    Calls Tryz.prog 173 #[.int .u64 x, .int .u64 y, .int .u64 z, .int .u64 c] w (RetMw x y z c w) := by
  obtain ⟨l, h, fm, M1⟩ := mul64 x y hx hy
  obtain ⟨s1, d1, f1, A1⟩ := add64_ex l z 0 ⟨fm.1, fm.2.1⟩ hz (by decide) (by decide)
  obtain ⟨s2, d2, f2, A2⟩ := add64_ex s1 c 0 ⟨f1.1, f1.2.1⟩ hc (by decide) (by decide)
  obtain ⟨hlt, hr⟩ := mwR_of fm f1 f2 hz hc
  have g1 : 0 ≤ h := fm.2.2.1
  have g2 : 0 ≤ d1 := f1.2.2.1
  have g3 : 0 ≤ d2 := f2.2.2.1
  clear hx hy hz hc fm f1 f2
  have M2 := Lib.hid M1
  clear M1
  go_enter Tryz.func173, Tryz.ntmps173
  go_wp2_with (go_at_call 182; refine (M2.out _).mono ?_; rintro e w' ⟨rfl, rfl⟩)
  go_ret2
  exact ⟨s2, _, hr, rfl, rfl⟩

/-- The sum of two numbers of four words, in four words and a carry. -/
def AddR (a0 a1 a2 a3 b0 b1 b2 b3 r0 r1 r2 r3 c : Int) : Prop := W4 r0 r1 r2 r3 ∧ 0 ≤ c ∧ c ≤ 1 ∧ V r0 r1 r2 r3 + c * 115792089237316195423570985008687907853269984665640564039457584007913129639936 = V a0 a1 a2 a3 + V b0 b1 b2 b3
theorem addR_of {a0 a1 a2 a3 b0 b1 b2 b3 r0 r1 r2 r3 c0 c1 c2 c3 : Int} (f0 : AddF a0 b0 0 r0 c0) (f1 : AddF a1 b1 c0 r1 c1) (f2 : AddF a2 b2 c1 r2 c2) (f3 : AddF a3 b3 c2 r3 c3) : AddR a0 a1 a2 a3 b0 b1 b2 b3 r0 r1 r2 r3 c3 := by
  unfold AddF at *; unfold AddR W4 Word V; omega

set_option maxHeartbeats 1000000 in
theorem add_any (a0 a1 a2 a3 b0 b1 b2 b3 : Int) (ha : W4 a0 a1 a2 a3) (hb : W4 b0 b1 b2 b3) (w : World) :
    Calls Tryz.prog 170 #[nv a0 a1 a2 a3, nv b0 b1 b2 b3] w (Ret5 (AddR a0 a1 a2 a3 b0 b1 b2 b3) w) := by
  obtain ⟨ha0, ha1, ha2, ha3⟩ := ha
  obtain ⟨hb0, hb1, hb2, hb3⟩ := hb
  obtain ⟨r0, c0, f0, A0⟩ := add64_ex a0 b0 0 ha0 hb0 (by decide) (by decide)
  obtain ⟨r1, c1, f1, A1⟩ := add64_ex a1 b1 c0 ha1 hb1 f0.2.2.1 f0.2.2.2.1
  obtain ⟨r2, c2, f2, A2⟩ := add64_ex a2 b2 c1 ha2 hb2 f1.2.2.1 f1.2.2.2.1
  obtain ⟨r3, c3, f3, A3⟩ := add64_ex a3 b3 c2 ha3 hb3 f2.2.2.1 f2.2.2.2.1
  have hr := addR_of f0 f1 f2 f3
  clear ha0 ha1 ha2 ha3 hb0 hb1 hb2 hb3 f0 f1 f2 f3
  go_enter Tryz.func170, Tryz.ntmps170
  go_wp2
  refine bodyPost_ret (v := .tuple #[nv r0 r1 r2 r3, .int .u64 c3]) (by simp [results, Tryz.results170, go_sem]) rfl ⟨r0, r1, r2, r3, c3, hr, rfl, ?_⟩
  exact (((Below.refl _ _).alloc (Nat.le_refl _) _).alloc (by simp) _).alloc (by simp; omega) _

def SubR (a0 a1 a2 a3 b0 b1 b2 b3 r0 r1 r2 r3 : Int) : Prop := W4 r0 r1 r2 r3 ∧ (V b0 b1 b2 b3 ≤ V a0 a1 a2 a3 → V r0 r1 r2 r3 = V a0 a1 a2 a3 - V b0 b1 b2 b3)
theorem subR_of {a0 a1 a2 a3 b0 b1 b2 b3 r0 r1 r2 r3 c0 c1 c2 c3 : Int} (f0 : SubF a0 b0 0 r0 c0) (f1 : SubF a1 b1 c0 r1 c1) (f2 : SubF a2 b2 c1 r2 c2) (f3 : SubF a3 b3 c2 r3 c3) : SubR a0 a1 a2 a3 b0 b1 b2 b3 r0 r1 r2 r3 := by
  unfold SubF at *; unfold SubR W4 Word V; omega
set_option maxHeartbeats 1000000 in
theorem subtract_any (a0 a1 a2 a3 b0 b1 b2 b3 : Int) (ha : W4 a0 a1 a2 a3) (hb : W4 b0 b1 b2 b3) (w : World) :
    Calls Tryz.prog 171 #[nv a0 a1 a2 a3, nv b0 b1 b2 b3] w (Ret4 (SubR a0 a1 a2 a3 b0 b1 b2 b3) w) := by
  obtain ⟨ha0, ha1, ha2, ha3⟩ := ha
  obtain ⟨hb0, hb1, hb2, hb3⟩ := hb
  obtain ⟨r0, c0, f0, A0⟩ := sub64_ex a0 b0 0 ha0 hb0 (by decide) (by decide)
  obtain ⟨r1, c1, f1, A1⟩ := sub64_ex a1 b1 c0 ha1 hb1 f0.2.2.1 f0.2.2.2.1
  obtain ⟨r2, c2, f2, A2⟩ := sub64_ex a2 b2 c1 ha2 hb2 f1.2.2.1 f1.2.2.2.1
  obtain ⟨r3, c3, f3, A3⟩ := sub64_ex a3 b3 c2 ha3 hb3 f2.2.2.1 f2.2.2.2.1
  have hr := subR_of f0 f1 f2 f3
  clear ha0 ha1 ha2 ha3 hb0 hb1 hb2 hb3 f0 f1 f2 f3
  go_enter Tryz.func171, Tryz.ntmps171
  go_wp2
  refine bodyPost_ret (v := nv r0 r1 r2 r3) (by simp [results, Tryz.results171, go_sem]) rfl ⟨r0, r1, r2, r3, hr, rfl, ?_⟩
  exact (((Below.refl _ _).alloc (Nat.le_refl _) _).alloc (by simp) _).alloc (by simp; omega) _

theorem and_top (d : Int) (h : Word d) : bits .and .u64 d 9223372036854775807 = d % 9223372036854775808 := by
  obtain ⟨h0, h1⟩ := h
  obtain ⟨n, rfl⟩ := Int.eq_ofNat_of_zero_le h0
  have h := bits_and_u64_nat n 9223372036854775807 (by omega) (by omega)
  have e : n &&& 9223372036854775807 = n % 9223372036854775808 := Nat.and_two_pow_sub_one_eq_mod n 63
  rw [e] at h
  exact h
set_option maxHeartbeats 1000000 in
theorem withoutTop_any (a b c d : Int) (ha : W4 a b c d) (w : World) :
    Calls Tryz.prog 174 #[nv a b c d] w fun e w' => e = .returned (nv a b c (d % 9223372036854775808)) ∧ Below w.heap.size w w' := by
  have h := and_top d ha.2.2.2
  clear ha
  go_enter Tryz.func174, Tryz.ntmps174
  go_wp2
  refine bodyPost_ret (v := nv a b c (d % 9223372036854775808)) (by simp [results, Tryz.results174, go_sem]) rfl ⟨rfl, ?_⟩
  exact ((Below.refl _ _).alloc (Nat.le_refl _) _).alloc (by simp) _
set_option maxHeartbeats 1000000 in
theorem upper_any (a b c d h : Int) (w : World) :
    Calls Tryz.prog 153 #[nv a b c d, .int .u64 h] w fun e w' => e = .returned (nv b c d h) ∧ Below w.heap.size w w' := by
  go_enter Tryz.func153, Tryz.ntmps153
  go_wp2
  refine bodyPost_ret (v := nv b c d h) (by simp [results, Tryz.results153, go_sem]) rfl ⟨rfl, ?_⟩
  exact ((Below.refl _ _).alloc (Nat.le_refl _) _).alloc (by simp) _
set_option maxHeartbeats 1000000 in
theorem prime_any (w : World) :
    Calls Tryz.prog 172 #[] w fun e w' => e = .returned (nv 18446744073709551597 18446744073709551615 18446744073709551615 9223372036854775807) ∧ Below w.heap.size w w' := by
  go_enter Tryz.func172, Tryz.ntmps172
  go_wp2
  refine bodyPost_ret (v := nv 18446744073709551597 18446744073709551615 18446744073709551615 9223372036854775807) (by simp [results, Tryz.results172, go_sem]) rfl ⟨rfl, ?_⟩
  exact (Below.refl _ _).alloc (Nat.le_refl _) _
end Go.Proofs.YtddmjddlbhdcpaaGreatDoor.F

/-
  Package field's numbers: products by a word, and what is left modulo 2^255 - 19.
-/
namespace Go.Proofs.YtddmjddlbhdcpaaGreatDoor.F
open Go.RowKit Go.Shelf

/-- A number times a word, and a number more, in five words. -/
def MaR (a0 a1 a2 a3 y m0 m1 m2 m3 r0 r1 r2 r3 h : Int) : Prop := W4 r0 r1 r2 r3 ∧ Word h ∧ V r0 r1 r2 r3 + h * 115792089237316195423570985008687907853269984665640564039457584007913129639936 = V a0 a1 a2 a3 * y + V m0 m1 m2 m3
theorem maR_of {a0 a1 a2 a3 y m0 m1 m2 m3 r0 r1 r2 r3 h0 h1 h2 h3 : Int} (f0 : MwR a0 y m0 0 r0 h0) (f1 : MwR a1 y m1 h0 r1 h1) (f2 : MwR a2 y m2 h1 r2 h2) (f3 : MwR a3 y m3 h2 r3 h3) : MaR a0 a1 a2 a3 y m0 m1 m2 m3 r0 r1 r2 r3 h3 := by
  obtain ⟨w0, _, e0⟩ := f0; obtain ⟨w1, _, e1⟩ := f1; obtain ⟨w2, _, e2⟩ := f2; obtain ⟨w3, wh, e3⟩ := f3
  refine ⟨⟨w0, w1, w2, w3⟩, wh, ?_⟩
  unfold V
  rw [Int.add_mul, Int.add_mul, Int.add_mul, Int.mul_right_comm a1, Int.mul_right_comm a2, Int.mul_right_comm a3]
  generalize a0 * y = p0 at *; generalize a1 * y = p1 at *; generalize a2 * y = p2 at *; generalize a3 * y = p3 at *
  omega
theorem word0 : Word 0 := ⟨by decide, by decide⟩

set_option maxHeartbeats 1000000 in
theorem multiplyAdd_any (a0 a1 a2 a3 y m0 m1 m2 m3 : Int) (ha : W4 a0 a1 a2 a3) (hy : Word y) (hm : W4 m0 m1 m2 m3) (w : World) :
    Calls Tryz.prog 152 #[nv a0 a1 a2 a3, .int .u64 y, nv m0 m1 m2 m3] w (Ret5 (MaR a0 a1 a2 a3 y m0 m1 m2 m3) w) := by
  obtain ⟨ha0, ha1, ha2, ha3⟩ := ha
  obtain ⟨hm0, hm1, hm2, hm3⟩ := hm
  go_enter Tryz.func152, Tryz.ntmps152
  go_wp2_with fail
  refine (multiplyWord_any a0 y m0 0 ha0 hy hm0 word0 _).mono ?_
  rintro e w' ⟨r0, h0, f0, rfl, rfl⟩
  go_wp2_with fail
  refine (multiplyWord_any a1 y m1 h0 ha1 hy hm1 f0.2.1 _).mono ?_
  rintro e w' ⟨r1, h1, f1, rfl, rfl⟩
  go_wp2_with fail
  refine (multiplyWord_any a2 y m2 h1 ha2 hy hm2 f1.2.1 _).mono ?_
  rintro e w' ⟨r2, h2, f2, rfl, rfl⟩
  go_wp2_with fail
  refine (multiplyWord_any a3 y m3 h2 ha3 hy hm3 f2.2.1 _).mono ?_
  rintro e w' ⟨r3, h3, f3, rfl, rfl⟩
  have hr := maR_of f0 f1 f2 f3
  clear ha0 ha1 ha2 ha3 hm0 hm1 hm2 hm3 f0 f1 f2 f3 hy
  go_wp2_with fail
  refine bodyPost_ret (v := .tuple #[nv r0 r1 r2 r3, .int .u64 h3]) (by simp [results, Tryz.results152, go_sem]) rfl ⟨r0, r1, r2, r3, h3, hr, rfl, ?_⟩
  exact (((Below.refl _ _).alloc (Nat.le_refl _) _).alloc (by simp) _).alloc (by simp; omega) _

theorem or_top (h d : Int) (h0 : 0 ≤ h) (h1 : h ≤ 38) (hd : Word d) : bits .or .u64 (h * 2) (d / 9223372036854775808) = h * 2 + d / 9223372036854775808 := by
  obtain ⟨d0, d1⟩ := hd
  obtain ⟨n, rfl⟩ := Int.eq_ofNat_of_zero_le h0
  obtain ⟨m, hm⟩ := Int.eq_ofNat_of_zero_le (a := d / 9223372036854775808) (by omega)
  rw [hm]
  have h := bits_or_u64_nat (n * 2) m (by omega) (by omega)
  have hm1 : m < 2 ^ 1 := by omega
  have e : n * 2 ||| m = n * 2 + m := by
    have := Nat.two_pow_add_eq_or_of_lt hm1 n
    rw [Nat.mul_comm n 2]; simpa using this.symm
  rw [e] at h
  exact_mod_cast h

/-- A number's bit 255, and what is below it. -/
theorem topV {a b c d : Int} (h : W4 a b c d) : V a b c d = V a b c (d % 9223372036854775808) + d / 9223372036854775808 * 57896044618658097711785492504343953926634992332820282019728792003956564819968 ∧
    0 ≤ V a b c (d % 9223372036854775808) ∧ V a b c (d % 9223372036854775808) < 57896044618658097711785492504343953926634992332820282019728792003956564819968 ∧ 0 ≤ d / 9223372036854775808 ∧ d / 9223372036854775808 ≤ 1 ∧ W4 a b c (d % 9223372036854775808) := by
  unfold W4 Word V at *; omega
theorem settle_core {lo t x g n : Int} (h1 : 0 ≤ lo) (h2 : lo < 57896044618658097711785492504343953926634992332820282019728792003956564819968) (h3 : 0 ≤ t) (h4 : t ≤ 77) (hx : x = lo + 19 * t)
    (hn : n = lo + t * 57896044618658097711785492504343953926634992332820282019728792003956564819968) (hg : g = 0 ∧ x + 19 < 57896044618658097711785492504343953926634992332820282019728792003956564819968 ∨ g = 1 ∧ 57896044618658097711785492504343953926634992332820282019728792003956564819968 ≤ x + 19) :
    x + 19 * g - g * 57896044618658097711785492504343953926634992332820282019728792003956564819968 = n % 57896044618658097711785492504343953926634992332820282019728792003956564819949 := by
  rcases hg with ⟨rfl, h⟩ | ⟨rfl, h⟩
  · have e : n = x + 57896044618658097711785492504343953926634992332820282019728792003956564819949 * t := by omega
    rw [e, Int.add_mul_emod_self_left, Int.emod_eq_of_lt (by omega) (by omega)]; omega
  · have e : n = (x - 57896044618658097711785492504343953926634992332820282019728792003956564819949) + 57896044618658097711785492504343953926634992332820282019728792003956564819949 * (t + 1) := by omega
    rw [e, Int.add_mul_emod_self_left, Int.emod_eq_of_lt (by omega) (by omega)]; omega
theorem V_small (x : Int) : V x 0 0 0 = x := by unfold V; omega
theorem V_bd {a b c d : Int} (h : W4 a b c d) : 0 ≤ V a b c d ∧ V a b c d < 115792089237316195423570985008687907853269984665640564039457584007913129639936 := by
  unfold W4 Word V at *; omega
theorem settle_fact {a b c d h t l0 l1 l2 l3 k m0 m1 m2 m3 k' s0 s1 s2 s3 k'' : Int} (ha : W4 a b c d) (h0 : 0 ≤ h) (h1 : h ≤ 38) (ht : t = h * 2 + d / 9223372036854775808)
    (F1 : AddR a b c (d % 9223372036854775808) (19 * t) 0 0 0 l0 l1 l2 l3 k) (F2 : AddR l0 l1 l2 l3 19 0 0 0 m0 m1 m2 m3 k') (F3 : AddR l0 l1 l2 l3 (19 * (m3 / 9223372036854775808)) 0 0 0 s0 s1 s2 s3 k'') :
    W4 s0 s1 s2 (s3 % 9223372036854775808) ∧ V s0 s1 s2 (s3 % 9223372036854775808) = (V a b c d + h * 115792089237316195423570985008687907853269984665640564039457584007913129639936) % 57896044618658097711785492504343953926634992332820282019728792003956564819949 := by
  obtain ⟨a1, a2, a3, a4, a5, _⟩ := topV ha
  obtain ⟨W1, k0, k1, e1⟩ := F1
  obtain ⟨W2, k0', k1', e2⟩ := F2
  obtain ⟨W3, k0'', k1'', e3⟩ := F3
  obtain ⟨b1, b2, b3, b4, b5, _⟩ := topV W2
  obtain ⟨c1, c2, c3, c4, c5, c6⟩ := topV W3
  have v1 := V_bd W1; have v2 := V_bd W2; have v3 := V_bd W3
  refine ⟨c6, ?_⟩
  rw [V_small] at e1 e2 e3
  generalize V a b c d = A at *; generalize V a b c (d % 9223372036854775808) = lo at *
  generalize V l0 l1 l2 l3 = x at *; generalize V m0 m1 m2 m3 = y at *; generalize V m0 m1 m2 (m3 % 9223372036854775808) = ylo at *
  generalize V s0 s1 s2 s3 = z at *; generalize V s0 s1 s2 (s3 % 9223372036854775808) = r at *
  generalize m3 / 9223372036854775808 = g at *; generalize s3 / 9223372036854775808 = g' at *; generalize d / 9223372036854775808 = q at *
  clear W1 W2 W3 ha
  have hk : k = 0 := by omega
  subst hk
  have hk' : k' = 0 := by omega
  subst hk'
  have hk'' : k'' = 0 := by omega
  subst hk''
  have hx : x = lo + 19 * t := by omega
  have hn : A + h * 115792089237316195423570985008687907853269984665640564039457584007913129639936 = lo + t * 57896044618658097711785492504343953926634992332820282019728792003956564819968 := by omega
  have hg : g = 0 ∧ x + 19 < 57896044618658097711785492504343953926634992332820282019728792003956564819968 ∨ g = 1 ∧ 57896044618658097711785492504343953926634992332820282019728792003956564819968 ≤ x + 19 := by omega
  have hr : r = x + 19 * g - g * 57896044618658097711785492504343953926634992332820282019728792003956564819968 := by omega
  rw [hr]
  exact settle_core a2 a3 (by omega) (by omega) hx hn hg

set_option maxHeartbeats 1000000 in
theorem settle_any (a b c d h : Int) (ha : W4 a b c d) (h0 : 0 ≤ h) (h1 : h ≤ 38) (w : World) :
    Calls Tryz.prog 154 #[nv a b c d, .int .u64 h] w (Ret4 (fun r0 r1 r2 r3 => W4 r0 r1 r2 r3 ∧ V r0 r1 r2 r3 = (V a b c d + h * 115792089237316195423570985008687907853269984665640564039457584007913129639936) % 57896044618658097711785492504343953926634992332820282019728792003956564819949) w) := by
  have hor := or_top h d h0 h1 ha.2.2.2
  have d0 : 0 ≤ d := ha.2.2.2.1
  have d1 : d < 18446744073709551616 := ha.2.2.2.2
  go_enter Tryz.func154, Tryz.ntmps154
  go_wp2_with fail
  refine (withoutTop_any a b c d ha _).mono ?_
  rintro e w1 ⟨rfl, hb1⟩
  obtain ⟨o1, n1, rfl⟩ := below_plus hb1
  clear hb1
  go_wp2_with fail
  obtain ⟨t, ht⟩ : ∃ t, t = h * 2 + d / 9223372036854775808 := ⟨_, rfl⟩
  have t0 : 0 ≤ t := by omega
  have t1 : t ≤ 77 := by omega
  rw [← ht]
  have Ht := Lib.hid ht
  clear ht hor
  refine (add_any a b c (d % 9223372036854775808) (19 * t) 0 0 0 ⟨ha.1, ha.2.1, ha.2.2.1, by omega, by omega⟩ ⟨⟨by omega, by omega⟩, word0, word0, word0⟩ _).mono ?_
  rintro e w2 ⟨l0, l1, l2, l3, k, F1, rfl, hb2⟩
  obtain ⟨o2, n2, rfl⟩ := below_plus hb2
  clear hb2
  go_wp2_with fail
  have L : W4 l0 l1 l2 l3 := F1.1
  refine (add_any l0 l1 l2 l3 19 0 0 0 L ⟨⟨by decide, by decide⟩, word0, word0, word0⟩ _).mono ?_
  rintro e w3 ⟨m0, m1, m2, m3, k', F2, rfl, hb3⟩
  obtain ⟨o3, n3, rfl⟩ := below_plus hb3
  clear hb3
  have m3a : 0 ≤ m3 := F2.1.2.2.2.1
  have m3b : m3 < 18446744073709551616 := F2.1.2.2.2.2
  go_wp2_with fail
  refine (add_any l0 l1 l2 l3 (19 * (m3 / 9223372036854775808)) 0 0 0 L ⟨⟨by omega, by omega⟩, word0, word0, word0⟩ _).mono ?_
  rintro e w4 ⟨s0, s1, s2, s3, k'', F3, rfl, hb4⟩
  obtain ⟨o4, n4, rfl⟩ := below_plus hb4
  clear hb4
  go_wp2_with fail
  refine (withoutTop_any s0 s1 s2 s3 F3.1 _).mono ?_
  rintro e w5 ⟨rfl, hb5⟩
  obtain ⟨o5, n5, rfl⟩ := below_plus hb5
  clear hb5
  go_wp2_with fail
  refine bodyPost_ret (v := nv s0 s1 s2 (s3 % 9223372036854775808)) (by simp [results, Tryz.results154, go_sem]) rfl ⟨s0, s1, s2, s3 % 9223372036854775808, settle_fact ha h0 h1 Ht.out F1 F2 F3, rfl, ?_⟩
  repeat (first | apply below_more | apply below_alloc | exact Below.refl _ _)
end Go.Proofs.YtddmjddlbhdcpaaGreatDoor.F

/-
  Package field: sums, differences and products of numbers, modulo 2^255 - 19.
-/
namespace Go.Proofs.YtddmjddlbhdcpaaGreatDoor.F
open Go.RowKit Go.Shelf Go.Hold

/-- Four words are told by their number. -/
theorem V_inj {a b c d a' b' c' d' : Int} (h : W4 a b c d) (h' : W4 a' b' c' d') (e : V a b c d = V a' b' c' d') : a = a' ∧ b = b' ∧ c = c' ∧ d = d' := by
  unfold W4 Word V at *; omega
theorem V_words (n : Int) (h0 : 0 ≤ n) (h1 : n < 115792089237316195423570985008687907853269984665640564039457584007913129639936) : ∃ a b c d, W4 a b c d ∧ V a b c d = n := by
  refine ⟨n % 18446744073709551616, n / 18446744073709551616 % 18446744073709551616, n / 340282366920938463463374607431768211456 % 18446744073709551616, n / 6277101735386680763835789423207666416102355444464034512896, ?_⟩
  unfold W4 Word V; omega

theorem fix4 {f : FuncId} {args : Array Value} {R : Int → Int → Int → Int → Prop} {n : Int} (h0 : 0 ≤ n) (h1 : n < 115792089237316195423570985008687907853269984665640564039457584007913129639936)
    (hR : ∀ a b c d, R a b c d → W4 a b c d ∧ V a b c d = n) (h : ∀ w, Calls Tryz.prog f args w (Ret4 R w)) :
    ∃ a b c d, W4 a b c d ∧ V a b c d = n ∧ ∀ w, Calls Tryz.prog f args w fun e w' => e = .returned (nv a b c d) ∧ Below w.heap.size w w' := by
  obtain ⟨a, b, c, d, hw, hv⟩ := V_words n h0 h1
  refine ⟨a, b, c, d, hw, hv, fun w => (h w).mono ?_⟩
  rintro e w' ⟨a', b', c', d', hr, rfl, hb⟩
  obtain ⟨hw', hv'⟩ := hR _ _ _ _ hr
  obtain ⟨rfl, rfl, rfl, rfl⟩ := V_inj hw hw' (hv.trans hv'.symm)
  exact ⟨rfl, hb⟩
theorem fix5 {f : FuncId} {args : Array Value} {R : Int → Int → Int → Int → Int → Prop} {n : Int}
    (hR : ∀ a b c d h, R a b c d h → W4 a b c d ∧ V a b c d + h * 115792089237316195423570985008687907853269984665640564039457584007913129639936 = n) (h : ∀ w, Calls Tryz.prog f args w (Ret5 R w)) :
    ∃ a b c d h, W4 a b c d ∧ V a b c d + h * 115792089237316195423570985008687907853269984665640564039457584007913129639936 = n ∧ ∀ w, Calls Tryz.prog f args w fun e w' => e = .returned (.tuple #[nv a b c d, .int .u64 h]) ∧ Below w.heap.size w w' := by
  obtain ⟨a, b, c, d, hw, hv⟩ := V_words (n % 115792089237316195423570985008687907853269984665640564039457584007913129639936) (by omega) (by omega)
  refine ⟨a, b, c, d, n / 115792089237316195423570985008687907853269984665640564039457584007913129639936, hw, by omega, fun w => (h w).mono ?_⟩
  rintro e w' ⟨a', b', c', d', k, hr, rfl, hb⟩
  obtain ⟨hw', hv'⟩ := hR _ _ _ _ _ hr
  have hbd := V_bd hw'
  obtain ⟨rfl, rfl, rfl, rfl⟩ := V_inj hw hw' (by omega)
  have : k = n / 115792089237316195423570985008687907853269984665640564039457584007913129639936 := by omega
  exact ⟨by rw [this], hb⟩

theorem V_mul_bd {a b c d y : Int} (h : W4 a b c d) (hy : Word y) : 0 ≤ V a b c d * y ∧ V a b c d * y ≤ 115792089237316195423570985008687907853269984665640564039457584007913129639935 * y := by
  have := V_bd h
  exact ⟨Int.mul_nonneg this.1 hy.1, Int.mul_le_mul_of_nonneg_right (by omega) hy.1⟩
theorem multiplyAdd_fix {a0 a1 a2 a3 y m0 m1 m2 m3 : Int} (ha : W4 a0 a1 a2 a3) (hy : Word y) (hm : W4 m0 m1 m2 m3) :
    ∃ r0 r1 r2 r3 h, W4 r0 r1 r2 r3 ∧ Word h ∧ V r0 r1 r2 r3 + h * 115792089237316195423570985008687907853269984665640564039457584007913129639936 = V a0 a1 a2 a3 * y + V m0 m1 m2 m3 ∧
      Hid (∀ w, Calls Tryz.prog 152 #[nv a0 a1 a2 a3, .int .u64 y, nv m0 m1 m2 m3] w fun e w' => e = .returned (.tuple #[nv r0 r1 r2 r3, .int .u64 h]) ∧ Below w.heap.size w w') := by
  have b1 := V_mul_bd ha hy
  have b2 := V_bd hm
  obtain ⟨r0, r1, r2, r3, h, hw, hv, hc⟩ := fix5 (n := V a0 a1 a2 a3 * y + V m0 m1 m2 m3) (fun _ _ _ _ _ hr => ⟨hr.1, hr.2.2⟩) (fun w => multiplyAdd_any a0 a1 a2 a3 y m0 m1 m2 m3 ha hy hm w)
  have b3 := V_bd hw
  refine ⟨r0, r1, r2, r3, h, hw, ?_, hv, hc⟩
  obtain ⟨y0, y1⟩ := hy
  generalize V a0 a1 a2 a3 * y = t at *
  unfold Word; omega
theorem settle_fix {a b c d h : Int} (ha : W4 a b c d) (h0 : 0 ≤ h) (h1 : h ≤ 38) :
    ∃ r0 r1 r2 r3, W4 r0 r1 r2 r3 ∧ V r0 r1 r2 r3 = (V a b c d + h * 115792089237316195423570985008687907853269984665640564039457584007913129639936) % 57896044618658097711785492504343953926634992332820282019728792003956564819949 ∧
      Hid (∀ w, Calls Tryz.prog 154 #[nv a b c d, .int .u64 h] w fun e w' => e = .returned (nv r0 r1 r2 r3) ∧ Below w.heap.size w w') :=
  fix4 (by omega) (by omega) (fun _ _ _ _ hr => hr) (fun w => settle_any a b c d h ha h0 h1 w)

/-- The product, of words that the rows and the settling have told. -/
theorem product_fact {a0 a1 a2 a3 b0 b1 b2 b3 p0 p1 p2 p3 hp q0 q1 q2 q3 hq r0 r1 r2 r3 hr s0 s1 s2 s3 hs : Int}
    (P1 : V p0 p1 p2 p3 + hp * 115792089237316195423570985008687907853269984665640564039457584007913129639936 = V a0 a1 a2 a3 * b0 + V 0 0 0 0)
    (Q1 : V q0 q1 q2 q3 + hq * 115792089237316195423570985008687907853269984665640564039457584007913129639936 = V a0 a1 a2 a3 * b1 + V p1 p2 p3 hp)
    (R1 : V r0 r1 r2 r3 + hr * 115792089237316195423570985008687907853269984665640564039457584007913129639936 = V a0 a1 a2 a3 * b2 + V q1 q2 q3 hq)
    (S1 : V s0 s1 s2 s3 + hs * 115792089237316195423570985008687907853269984665640564039457584007913129639936 = V a0 a1 a2 a3 * b3 + V r1 r2 r3 hr) :
    V a0 a1 a2 a3 * V b0 b1 b2 b3 = V p0 q0 r0 s0 + V s1 s2 s3 hs * 115792089237316195423570985008687907853269984665640564039457584007913129639936 := by
  have e : V a0 a1 a2 a3 * V b0 b1 b2 b3 = V a0 a1 a2 a3 * b0 + V a0 a1 a2 a3 * b1 * 18446744073709551616 + V a0 a1 a2 a3 * b2 * 340282366920938463463374607431768211456 + V a0 a1 a2 a3 * b3 * 6277101735386680763835789423207666416102355444464034512896 := by
    conv => lhs; rhs; unfold V
    rw [Int.mul_add, Int.mul_add, Int.mul_add, Int.mul_assoc, Int.mul_assoc, Int.mul_assoc]
  rw [e]
  generalize V a0 a1 a2 a3 * b0 = x0 at *; generalize V a0 a1 a2 a3 * b1 = x1 at *; generalize V a0 a1 a2 a3 * b2 = x2 at *; generalize V a0 a1 a2 a3 * b3 = x3 at *
  unfold V at *; omega

theorem fold_fact {s1 s2 s3 hs p0 q0 r0 s0 f0 f1 f2 f3 hf : Int} (F0 : W4 f0 f1 f2 f3) (F1 : V f0 f1 f2 f3 + hf * 115792089237316195423570985008687907853269984665640564039457584007913129639936 = V s1 s2 s3 hs * 38 + V p0 q0 r0 s0)
    (h1 : W4 s1 s2 s3 hs) (h2 : W4 p0 q0 r0 s0) : hf ≤ 38 := by
  have a := V_bd F0; have b := V_bd h1; have c := V_bd h2
  omega
theorem left_fact {s1 s2 s3 hs p0 q0 r0 s0 f0 f1 f2 f3 hf m : Int} (F1 : V f0 f1 f2 f3 + hf * 115792089237316195423570985008687907853269984665640564039457584007913129639936 = V s1 s2 s3 hs * 38 + V p0 q0 r0 s0)
    (hm : m = V p0 q0 r0 s0 + V s1 s2 s3 hs * 115792089237316195423570985008687907853269984665640564039457584007913129639936) :
    (V f0 f1 f2 f3 + hf * 115792089237316195423570985008687907853269984665640564039457584007913129639936) % 57896044618658097711785492504343953926634992332820282019728792003956564819949 = m % 57896044618658097711785492504343953926634992332820282019728792003956564819949 := by
  rw [F1, hm]
  have e : V p0 q0 r0 s0 + V s1 s2 s3 hs * 115792089237316195423570985008687907853269984665640564039457584007913129639936 = (V s1 s2 s3 hs * 38 + V p0 q0 r0 s0) + 57896044618658097711785492504343953926634992332820282019728792003956564819949 * (2 * V s1 s2 s3 hs) := by omega
  rw [e, Int.add_mul_emod_self_left]
theorem w4_0 : W4 0 0 0 0 := ⟨word0, word0, word0, word0⟩
set_option maxHeartbeats 1000000 in
theorem product_any (a0 a1 a2 a3 b0 b1 b2 b3 : Int) (ha : W4 a0 a1 a2 a3) (hb : W4 b0 b1 b2 b3) (w : World) :
    Calls Tryz.prog 125 #[nv a0 a1 a2 a3, nv b0 b1 b2 b3] w (Ret4 (fun r0 r1 r2 r3 => W4 r0 r1 r2 r3 ∧ V r0 r1 r2 r3 = V a0 a1 a2 a3 * V b0 b1 b2 b3 % 57896044618658097711785492504343953926634992332820282019728792003956564819949) w) := by
  obtain ⟨hb0, hb1, hb2, hb3⟩ := hb
  obtain ⟨p0, p1, p2, p3, hp, P0, Ph, P1, PC⟩ := multiplyAdd_fix ha hb0 w4_0
  obtain ⟨q0, q1, q2, q3, hq, Q0, Qh, Q1, QC⟩ := multiplyAdd_fix ha hb1 ⟨P0.2.1, P0.2.2.1, P0.2.2.2, Ph⟩
  obtain ⟨r0, r1, r2, r3, hr, R0, Rh, R1, RC⟩ := multiplyAdd_fix ha hb2 ⟨Q0.2.1, Q0.2.2.1, Q0.2.2.2, Qh⟩
  obtain ⟨s0, s1, s2, s3, hs, S0, Sh, S1, SC⟩ := multiplyAdd_fix ha hb3 ⟨R0.2.1, R0.2.2.1, R0.2.2.2, Rh⟩
  have hfact := product_fact P1 Q1 R1 S1
  have Hfact := Lib.hid hfact
  clear hfact P1 Q1 R1 S1
  go_enter Tryz.func125, Tryz.ntmps125
  go_wp2_with (go_at_call 152; refine (PC.out _).mono ?_; rintro e w' ⟨rfl, hb⟩; obtain ⟨o1, n1, rfl⟩ := below_plus hb; clear hb)
  generalize hW : World.alloc (World.plus _ o1 n1) _ = W1
  refine wp_region_parts (fun w' => ∃ o d, w' = W1.plus o d) 8 2 (by kernel_rfl) (by kernel_rfl) (by intro c a d v w h; cases d <;> exact h) ⟨#[], _, rfl⟩ ?_
  subst hW
  simp only [List.take_succ_cons, List.take_zero, List.drop_succ_cons, List.drop_zero]
  iterate 5 (refine wpHold_step ⟨_, #[], 0, rfl⟩ (by rintro K _ ⟨o, d, rfl⟩ hK; go_simp; exact hK _ ⟨o, d, rfl⟩) ?_)
  refine wpHold_call (v := nv p1 p2 p3 hp) (by go_simp) (by rintro K _ ⟨o, d, rfl⟩ hK; go_simp; refine (upper_any p0 p1 p2 p3 hp _).mono ?_; rintro e w' ⟨rfl, hb⟩; obtain ⟨o', n', rfl⟩ := below_plus hb; exact ⟨_, rfl, hK _ ⟨_, _, World.plus_plus _ _ _ _ _⟩⟩) ?_
  refine wpHold_call (v := .tuple #[nv q0 q1 q2 q3, .int .u64 hq]) (by go_simp) (by rintro K _ ⟨o, d, rfl⟩ hK; go_simp; refine (QC.out _).mono ?_; rintro e w' ⟨rfl, hb⟩; obtain ⟨o', n', rfl⟩ := below_plus hb; exact ⟨_, rfl, hK _ ⟨_, _, World.plus_plus _ _ _ _ _⟩⟩) ?_
  refine wpHold_step ⟨_, #[], 0, rfl⟩ (by rintro K _ ⟨o, d, rfl⟩ hK; go_simp; exact hK _ ⟨o, d, rfl⟩) ?_
  refine wpHold_nil ?_
  rintro _ ⟨o2, n2, rfl⟩
  iterate 2 (refine wpFree_step (by intro K w' hK; go_simp; exact hK _) (by intro w' _; go_simp) ?_)
  refine wpFree_nil ?_
  go_wp2_with fail
  generalize hW : World.alloc (World.plus _ o1 n1) _ = W1
  refine wp_region_parts (fun w' => ∃ o d, w' = W1.plus o d) 8 2 (by kernel_rfl) (by kernel_rfl) (by intro c a d v w h; cases d <;> exact h) ⟨_, _, rfl⟩ ?_
  subst hW
  simp only [List.take_succ_cons, List.take_zero, List.drop_succ_cons, List.drop_zero]
  iterate 5 (refine wpHold_step ⟨_, #[], 0, rfl⟩ (by rintro K _ ⟨o, d, rfl⟩ hK; go_simp; exact hK _ ⟨o, d, rfl⟩) ?_)
  refine wpHold_call (v := nv q1 q2 q3 hq) (by go_simp) (by rintro K _ ⟨o, d, rfl⟩ hK; go_simp; refine (upper_any q0 q1 q2 q3 hq _).mono ?_; rintro e w' ⟨rfl, hb⟩; obtain ⟨o', n', rfl⟩ := below_plus hb; exact ⟨_, rfl, hK _ ⟨_, _, World.plus_plus _ _ _ _ _⟩⟩) ?_
  refine wpHold_call (v := .tuple #[nv r0 r1 r2 r3, .int .u64 hr]) (by go_simp) (by rintro K _ ⟨o, d, rfl⟩ hK; go_simp; refine (RC.out _).mono ?_; rintro e w' ⟨rfl, hb⟩; obtain ⟨o', n', rfl⟩ := below_plus hb; exact ⟨_, rfl, hK _ ⟨_, _, World.plus_plus _ _ _ _ _⟩⟩) ?_
  refine wpHold_step ⟨_, #[], 0, rfl⟩ (by rintro K _ ⟨o, d, rfl⟩ hK; go_simp; exact hK _ ⟨o, d, rfl⟩) ?_
  refine wpHold_nil ?_
  rintro _ ⟨o3, n3, rfl⟩
  iterate 2 (refine wpFree_step (by intro K w' hK; go_simp; exact hK _) (by intro w' _; go_simp) ?_)
  refine wpFree_nil ?_
  go_wp2_with fail
  generalize hW : World.alloc (World.plus _ o1 n1) _ = W1
  refine wp_region_parts (fun w' => ∃ o d, w' = W1.plus o d) 8 2 (by kernel_rfl) (by kernel_rfl) (by intro c a d v w h; cases d <;> exact h) ⟨_, _, rfl⟩ ?_
  subst hW
  simp only [List.take_succ_cons, List.take_zero, List.drop_succ_cons, List.drop_zero]
  iterate 5 (refine wpHold_step ⟨_, #[], 0, rfl⟩ (by rintro K _ ⟨o, d, rfl⟩ hK; go_simp; exact hK _ ⟨o, d, rfl⟩) ?_)
  refine wpHold_call (v := nv r1 r2 r3 hr) (by go_simp) (by rintro K _ ⟨o, d, rfl⟩ hK; go_simp; refine (upper_any r0 r1 r2 r3 hr _).mono ?_; rintro e w' ⟨rfl, hb⟩; obtain ⟨o', n', rfl⟩ := below_plus hb; exact ⟨_, rfl, hK _ ⟨_, _, World.plus_plus _ _ _ _ _⟩⟩) ?_
  refine wpHold_call (v := .tuple #[nv s0 s1 s2 s3, .int .u64 hs]) (by go_simp) (by rintro K _ ⟨o, d, rfl⟩ hK; go_simp; refine (SC.out _).mono ?_; rintro e w' ⟨rfl, hb⟩; obtain ⟨o', n', rfl⟩ := below_plus hb; exact ⟨_, rfl, hK _ ⟨_, _, World.plus_plus _ _ _ _ _⟩⟩) ?_
  refine wpHold_step ⟨_, #[], 0, rfl⟩ (by rintro K _ ⟨o, d, rfl⟩ hK; go_simp; exact hK _ ⟨o, d, rfl⟩) ?_
  refine wpHold_nil ?_
  rintro _ ⟨o4, n4, rfl⟩
  iterate 2 (refine wpFree_step (by intro K w' hK; go_simp; exact hK _) (by intro w' _; go_simp) ?_)
  refine wpFree_nil ?_
  go_wp2_with fail
  refine (upper_any s0 s1 s2 s3 hs _).mono ?_
  rintro e w' ⟨rfl, hb⟩
  obtain ⟨o5, n5, rfl⟩ := below_plus hb
  clear hb
  obtain ⟨f0, f1, f2, f3, hf, F0, Fh, F1, FC⟩ := multiplyAdd_fix (y := 38) ⟨S0.2.1, S0.2.2.1, S0.2.2.2, Sh⟩ ⟨by decide, by decide⟩ ⟨P0.1, Q0.1, R0.1, S0.1⟩
  have hf38 := fold_fact F0 F1 ⟨S0.2.1, S0.2.2.1, S0.2.2.2, Sh⟩ ⟨P0.1, Q0.1, R0.1, S0.1⟩
  obtain ⟨g0, g1, g2, g3, G0, G1, GC⟩ := settle_fix F0 Fh.1 hf38
  have HG := Lib.hid (G1.trans (left_fact F1 Hfact.out))
  clear F1 G1 Hfact P0 Q0 R0 S0 Ph Qh Rh Sh F0 Fh hf38 ha hb0 hb1 hb2 hb3 PC QC RC SC
  go_wp2_with fail
  refine (FC.out _).mono ?_
  rintro e w' ⟨rfl, hb⟩
  obtain ⟨o6, n6, rfl⟩ := below_plus hb
  clear hb
  go_wp2_with fail
  refine (GC.out _).mono ?_
  rintro e w' ⟨rfl, hb⟩
  obtain ⟨o7, n7, rfl⟩ := below_plus hb
  clear hb
  go_wp2_with fail
  refine bodyPost_ret (v := nv g0 g1 g2 g3) (by simp [results, Tryz.results125, go_sem]) rfl ⟨g0, g1, g2, g3, ⟨G0, HG.out⟩, rfl, ?_⟩
  repeat (first | apply below_more | apply below_alloc | exact Below.refl _ _)
end Go.Proofs.YtddmjddlbhdcpaaGreatDoor.F
