/-
  The structs of layer 7's reference and of its laws, as rows.
-/
import Derived.Test.YtbhgmefdimjlaaaOctFirst
import Derived.Test.YtbhgmefdimjlaaaResults
namespace Go.Proofs.Ytbhgmefdimjlaaa
open Go.RowKit Go.Hold Go.Sh Go.Oc

/-- The reference's writer. -/
def mrow (v : Value) (room er : Int) : Array Value := #[v, .int .i64 room, .int .i64 er]
/-- The reference's reader. -/
def nrow (v : Value) (er : Int) : Array Value := #[v, .int .i64 er]
@[go_sem] theorem mrow_size (v : Value) (room er : Int) : (mrow v room er).size = 3 := by simp [mrow]
@[go_sem] theorem mrow_one (p : Option Addr) (k c : Nat) (room er : Int) : oneAll (mrow (.slice p k c) room er) = true := by simp [oneAll, mrow, Value.oneCell']
@[go_sem] theorem mrow_er (v : Value) (room er e1 : Int) : (mrow v room er).setIfInBounds 2 (.int .i64 e1) = mrow v room e1 := by simp [mrow]
@[go_sem] theorem mrow_v (v v1 : Value) (room er : Int) : (mrow v room er).setIfInBounds 0 v1 = mrow v1 room er := by simp [mrow]
@[go_sem] theorem nrow_size (v : Value) (er : Int) : (nrow v er).size = 2 := by simp [nrow]
@[go_sem] theorem nrow_one (p : Option Addr) (k c : Nat) (er : Int) : oneAll (nrow (.slice p k c) er) = true := by simp [oneAll, nrow, Value.oneCell']
@[go_sem] theorem nrow_er (v : Value) (er e1 : Int) : (nrow v er).setIfInBounds 1 (.int .i64 e1) = nrow v e1 := by simp [nrow]
@[go_sem] theorem nrow_v (v v1 : Value) (er : Int) : (nrow v er).setIfInBounds 0 v1 = nrow v1 er := by simp [nrow]
@[go_sem] theorem mrow_0 (v : Value) (room er : Int) (h : 0 < (mrow v room er).size) : (mrow v room er)[0]'h = v := by simp [mrow]
@[go_sem] theorem mrow_1 (v : Value) (room er : Int) (h : 1 < (mrow v room er).size) : (mrow v room er)[1]'h = .int .i64 room := by simp [mrow]
@[go_sem] theorem mrow_2 (v : Value) (room er : Int) (h : 2 < (mrow v room er).size) : (mrow v room er)[2]'h = .int .i64 er := by simp [mrow]
@[go_sem] theorem nrow_0 (v : Value) (er : Int) (h : 0 < (nrow v er).size) : (nrow v er)[0]'h = v := by simp [nrow]
@[go_sem] theorem nrow_1 (v : Value) (er : Int) (h : 1 < (nrow v er).size) : (nrow v er)[1]'h = .int .i64 er := by simp [nrow]
@[go_sem ↓] theorem loadAt_mw (v : Value) : Instr.loadAt 28 v = loadRow 28 v := rfl
@[go_sem ↓] theorem loadAt_mr (v : Value) : Instr.loadAt 46 v = loadRow 46 v := rfl
@[go_sem] theorem run_loadMw (w : World) (n : Nat) (h1 : w.isRow n = true) (h2 : (w.rowOf n).size = 3) : (loadRow 28 (.pointer (some ⟨n, 0, none⟩))).run Try.prog w = .ok (.agg (w.rowOf n)) w :=
  run_loadRow w Try.underlying28 rfl (by kernel_rfl) n h1 h2
@[go_sem] theorem run_loadMr (w : World) (n : Nat) (h1 : w.isRow n = true) (h2 : (w.rowOf n).size = 2) : (loadRow 46 (.pointer (some ⟨n, 0, none⟩))).run Try.prog w = .ok (.agg (w.rowOf n)) w :=
  run_loadRow w Try.underlying46 rfl (by kernel_rfl) n h1 h2
/-- What a function of the reference's writer answers: the writer, and a number. -/
theorem results_mw {fn : Func} {p p' : Tmp} (h : fn.results = #[.cell p 28, .tmp p']) (v : Value) (room er : Int) (x : Value) (w : World) (tmps : Array Value) (n : Nat) (hp : tmps.getD p undef = .pointer (some ⟨n, 0, none⟩)) (h1 : w.isRow n = true) (h2 : w.rowOf n = mrow v room er) (hx : tmps.getD p' undef = x) :
    (results fn tmps).run Try.prog w = .ok (.tuple #[.agg (mrow v room er), x]) w :=
  results_row_slot w h Try.underlying28 rfl (by rw [mrow_size]; kernel_rfl) tmps n hp h1 h2 hx
end Go.Proofs.Ytbhgmefdimjlaaa
