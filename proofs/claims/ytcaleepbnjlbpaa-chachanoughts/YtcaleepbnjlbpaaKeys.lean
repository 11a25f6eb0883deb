/-
  Keys: rows of 32 bytes, by value.
-/
import Derived.Test.YtcaleepbnjlbpaaBytes
namespace Go.Proofs.Ytcaleepbnjlbpaa
open Go.RowKit Go.Hold Go.Sh

@[go_sem ↓] theorem loadAt_key (v : Value) : Instr.loadAt 23 v = loadRow 23 v := rfl
@[go_sem] theorem run_loadKey (w : World) (n : Nat) (h1 : w.isRow n = true) (h2 : (w.rowOf n).size = 32) : (loadRow 23 (.pointer (some ⟨n, 0, none⟩))).run Try.prog w = .ok (.agg (w.rowOf n)) w := run_loadRow w Try.underlying23 rfl (by kernel_rfl) n h1 h2
theorem results_key {fn : Func} {p : Tmp} {cs : Array Value} (h : fn.results = #[.cell p 23]) (hc : cs.size = 32) (w : World) (tmps : Array Value) (n : Nat) (hp : tmps.getD p undef = .pointer (some ⟨n, 0, none⟩)) (h1 : w.isRow n = true) (h2 : w.rowOf n = cs) : (results fn tmps).run Try.prog w = .ok (.agg cs) w :=
  results_row w h Try.underlying23 rfl (by rw [hc]; kernel_rfl) tmps n hp h1 h2
@[go_sem ↓] theorem build_key (ps : Array (Nat × Value)) : Instr.build 23 ps = bldA 23 ps := rfl
set_option maxRecDepth 100000 in
@[go_sem] theorem run_bldKey (w : World) : (bldA 23 #[]).run Try.prog w = .ok (.agg (bysA (zs 32))) w := run_build w _ _ _ (by kernel_rfl)
@[go_sem] theorem eqGuard_key (op : BinOp) (x y : Operand) (xs ys : Array Value) (w : World) : (eqGuard op 23 x y (.agg xs) (.agg ys)).run Try.prog w = .ok () w := run_eqGuard_agg w op 23 x y xs ys (by kernel_rfl)
end Go.Proofs.Ytcaleepbnjlbpaa
