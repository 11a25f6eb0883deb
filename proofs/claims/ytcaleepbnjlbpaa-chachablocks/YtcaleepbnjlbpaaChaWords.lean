/-
  Package chacha, and the reference: words that are turned; rows of words, of a block, of a nonce, by value.
-/
import Derived.Test.YtcaleepbnjlbpaaSets
import Derived.Test.YtcaleepbnjlbpaaKeys
import Derived.Test.YtcaleepbnjlbpaaChaPure
namespace Go.Proofs.Ytcaleepbnjlbpaa
open Go.RowKit Go.Hold Go.Sh Go.Ch

theorem rl_eq (x : Int) (n k : Nat) (hk : n + k = 32) : o32 (x * 2 ^ n % 4294967296) (x / 2 ^ k) = rl x n := by
  unfold o32 rl rotr
  rw [or_comm32, show 32 - n = k by omega, show 32 - k = n by omega]
set_option maxHeartbeats 400000 in
theorem rotP (x : Int) (n k : Nat) (hk : n + k = 32) (hn : 0 < n) (hk' : 0 < k) (hb : bits .and .u64 (n : Int) 31 = (n : Int)) (w : World) : Calls Try.prog 26 #[.int .u32 x, .int .i64 (n : Int)] w fun e w' => e = .returned (.int .u32 (rl x n)) ∧ w' = w := by
  have hs : IntKind.u64.wrap (32 - (n : Int)) = (k : Int) := by rw [IntWalk.u64_in _ (by omega)]; omega
  have hw : IntKind.u64.wrap (n : Int) = (n : Int) := IntWalk.u64_in _ (by omega)
  have h1 : (0 : Int) ≤ (k : Int) := by omega
  have h2 : (k : Int) ≤ 32 := by omega
  have h3 : (0 : Int) ≤ (n : Int) := by omega
  have h4 : (n : Int) ≤ 32 := by omega
  have hr := rl_eq x n k hk
  go_enter Try.func26, Try.ntmps26
  go_wp2_with fail
  go_ret
  exact ⟨rfl, rfl⟩
theorem rotP_16 (x : Int) (w : World) : Calls Try.prog 26 #[.int .u32 x, .int .i64 16] w fun e w' => e = .returned (.int .u32 (rl x 16)) ∧ w' = w := rotP x 16 16 rfl (by decide) (by decide) (by decide +kernel) w
theorem rotP_12 (x : Int) (w : World) : Calls Try.prog 26 #[.int .u32 x, .int .i64 12] w fun e w' => e = .returned (.int .u32 (rl x 12)) ∧ w' = w := rotP x 12 20 rfl (by decide) (by decide) (by decide +kernel) w
theorem rotP_8 (x : Int) (w : World) : Calls Try.prog 26 #[.int .u32 x, .int .i64 8] w fun e w' => e = .returned (.int .u32 (rl x 8)) ∧ w' = w := rotP x 8 24 rfl (by decide) (by decide) (by decide +kernel) w
theorem rotP_7 (x : Int) (w : World) : Calls Try.prog 26 #[.int .u32 x, .int .i64 7] w fun e w' => e = .returned (.int .u32 (rl x 7)) ∧ w' = w := rotP x 7 25 rfl (by decide) (by decide) (by decide +kernel) w

/-! ### Whole rows -/
@[go_sem ↓] theorem loadAt_cw (v : Value) : Instr.loadAt 47 v = loadRow 47 v := rfl
@[go_sem ↓] theorem loadAt_b64 (v : Value) : Instr.loadAt 27 v = loadRow 27 v := rfl
@[go_sem ↓] theorem loadAt_non (v : Value) : Instr.loadAt 33 v = loadRow 33 v := rfl
@[go_sem] theorem run_loadCw (w : World) (n : Nat) (h1 : w.isRow n = true) (h2 : (w.rowOf n).size = 16) : (loadRow 47 (.pointer (some ⟨n, 0, none⟩))).run Try.prog w = .ok (.agg (w.rowOf n)) w := run_loadRow w Try.underlying47 rfl (by kernel_rfl) n h1 h2
@[go_sem] theorem run_loadB64 (w : World) (n : Nat) (h1 : w.isRow n = true) (h2 : (w.rowOf n).size = 64) : (loadRow 27 (.pointer (some ⟨n, 0, none⟩))).run Try.prog w = .ok (.agg (w.rowOf n)) w := run_loadRow w Try.underlying27 rfl (by kernel_rfl) n h1 h2
@[go_sem] theorem run_loadNon (w : World) (n : Nat) (h1 : w.isRow n = true) (h2 : (w.rowOf n).size = 12) : (loadRow 33 (.pointer (some ⟨n, 0, none⟩))).run Try.prog w = .ok (.agg (w.rowOf n)) w := run_loadRow w Try.underlying33 rfl (by kernel_rfl) n h1 h2
@[go_sem ↓] theorem loadAt_b12 (v : Value) : Instr.loadAt 24 v = loadRow 24 v := rfl
@[go_sem] theorem run_loadB12 (w : World) (n : Nat) (h1 : w.isRow n = true) (h2 : (w.rowOf n).size = 12) : (loadRow 24 (.pointer (some ⟨n, 0, none⟩))).run Try.prog w = .ok (.agg (w.rowOf n)) w := run_loadRow w Try.underlying24 rfl (by kernel_rfl) n h1 h2
theorem results_cw {fn : Func} {p : Tmp} {cs : Array Value} (h : fn.results = #[.cell p 47]) (hc : cs.size = 16) (w : World) (tmps : Array Value) (n : Nat) (hp : tmps.getD p undef = .pointer (some ⟨n, 0, none⟩)) (h1 : w.isRow n = true) (h2 : w.rowOf n = cs) : (results fn tmps).run Try.prog w = .ok (.agg cs) w :=
  results_row w h Try.underlying47 rfl (by rw [hc]; kernel_rfl) tmps n hp h1 h2
theorem results_b64 {fn : Func} {p : Tmp} {cs : Array Value} (h : fn.results = #[.cell p 27]) (hc : cs.size = 64) (w : World) (tmps : Array Value) (n : Nat) (hp : tmps.getD p undef = .pointer (some ⟨n, 0, none⟩)) (h1 : w.isRow n = true) (h2 : w.rowOf n = cs) : (results fn tmps).run Try.prog w = .ok (.agg cs) w :=
  results_row w h Try.underlying27 rfl (by rw [hc]; kernel_rfl) tmps n hp h1 h2
@[go_sem ↓] theorem build_cw (ps : Array (Nat × Value)) : Instr.build 47 ps = bldA 47 ps := rfl
set_option maxRecDepth 100000 in
@[go_sem] theorem run_bldCw (w : World) : (bldA 47 #[(0, .int .u32 1634760805), (1, .int .u32 857760878), (2, .int .u32 2036477234), (3, .int .u32 1797285236)]).run Try.prog w = .ok (.agg (wosA cst0)) w := run_build w _ _ _ (by kernel_rfl)
theorem bysA_size' {l : List Nat} {n : Nat} (h : l.length = n) : (bysA l).size = n := by rw [bysA_size, h]
theorem wosA_size' {l : List Int} {n : Nat} (h : l.length = n) : (wosA l).size = n := by rw [wosA_size, h]
end Go.Proofs.Ytcaleepbnjlbpaa
