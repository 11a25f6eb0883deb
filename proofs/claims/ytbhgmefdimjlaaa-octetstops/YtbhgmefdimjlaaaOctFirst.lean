/-
  Package octet: the first error, of writers and of readers.
-/
import Derived.Test.YtbhgmefdimjlaaaOctPure
import Derived.Test.YtbhgmefdimjlaaaMoves
namespace Go.Proofs.Ytbhgmefdimjlaaa
open Go.RowKit Go.Hold Go.Sh Go.Oc

/-- A writer's cells. -/
def wrow (mk : Bool) (er room : Int) (v : Value) : Array Value := #[.bool mk, .int .i64 er, .int .i64 room, v]
/-- A reader's cells. -/
def rrow (mk : Bool) (er : Int) (v : Value) : Array Value := #[.bool mk, .int .i64 er, v]

theorem stays_c (g : Nat) (mk : Bool) (er : Int) (w : World) (h0 : w.cell? ⟨g, 0, none⟩ = some (.bool mk)) (h1 : w.cell? ⟨g, 1, none⟩ = some (.int .i64 er)) :
    Calls Try.prog 38 #[.pointer (some ⟨g, 0, none⟩)] w fun e w' => e = .returned (.int .i64 (if mk then er else 1)) ∧ w' = w := by
  cases mk
  · go_enter Try.func38, Try.ntmps38
    go_wp2_with fail
    go_ret
    exact ⟨rfl, rfl⟩
  · go_enter Try.func38, Try.ntmps38
    go_wp2_with fail
    go_ret
    exact ⟨rfl, rfl⟩
theorem fail_c (g : Nat) (er e0 : Int) (w : World) (h1 : w.cell? ⟨g, 1, none⟩ = some (.int .i64 e0)) (hf : w.frozen? ⟨g, 1, none⟩ = false) :
    Calls Try.prog 28 #[.pointer (some ⟨g, 0, none⟩), .int .i64 er] w fun e w' => e = .returned (.int .i64 er) ∧ w' = w.setCell ⟨g, 1, none⟩ (.int .i64 er) := by
  go_enter Try.func28, Try.ntmps28
  go_wp2_with fail
  go_ret
  exact ⟨rfl, rfl⟩
theorem wstopped_c (g : Nat) (mk : Bool) (er : Int) (w : World) (h0 : w.cell? ⟨g, 0, none⟩ = some (.bool mk)) (h1 : w.cell? ⟨g, 1, none⟩ = some (.int .i64 er)) :
    Calls Try.prog 27 #[.pointer (some ⟨g, 0, none⟩)] w fun e w' => e = .returned (.int .i64 (if mk then er else 1)) ∧ w' = w := by
  have K := Lib.hid (stays_c g mk er w h0 h1)
  generalize (if mk = true then er else 1) = x at *
  go_enter Try.func27, Try.ntmps27
  go_wp2_with fail
  refine K.out.mono ?_
  rintro e w' ⟨rfl, rfl⟩
  go_wp2_with fail
  go_ret
  exact ⟨rfl, rfl⟩
theorem wstopped_nil (w : World) : Calls Try.prog 27 #[.pointer none] w fun e w' => e = .returned (.int .i64 1) ∧ w' = w := by
  go_enter Try.func27, Try.ntmps27
  go_wp2_with fail
  go_ret
  exact ⟨rfl, rfl⟩
theorem rstopped_c (g : Nat) (mk : Bool) (er : Int) (w : World) (h0 : w.cell? ⟨g, 0, none⟩ = some (.bool mk)) (h1 : w.cell? ⟨g, 1, none⟩ = some (.int .i64 er)) :
    Calls Try.prog 35 #[.pointer (some ⟨g, 0, none⟩)] w fun e w' => e = .returned (.int .i64 (if mk then er else 1)) ∧ w' = w := by
  have K := Lib.hid (stays_c g mk er w h0 h1)
  generalize (if mk = true then er else 1) = x at *
  go_enter Try.func35, Try.ntmps35
  go_wp2_with fail
  refine K.out.mono ?_
  rintro e w' ⟨rfl, rfl⟩
  go_wp2_with fail
  go_ret
  exact ⟨rfl, rfl⟩
theorem rstopped_nil (w : World) : Calls Try.prog 35 #[.pointer none] w fun e w' => e = .returned (.int .i64 1) ∧ w' = w := by
  go_enter Try.func35, Try.ntmps35
  go_wp2_with fail
  go_ret
  exact ⟨rfl, rfl⟩
end Go.Proofs.Ytbhgmefdimjlaaa
