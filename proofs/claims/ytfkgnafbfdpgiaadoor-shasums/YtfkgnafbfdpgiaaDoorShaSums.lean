/-
  The digest of any bytes is the document's.
-/
import Derived.Test.YtfkgnafbfdpgiaaDoorRShaSum
namespace Go.Proofs.YtfkgnafbfdpgiaaDoor
open Go.RowKit Go.Hold Go.Sh

set_option maxHeartbeats 1000000 in
set_option maxRecDepth 100000 in
theorem sums_any (cap : Nat) (p : Option Addr) (l : List Nat) (w : World) (hT : Tabs w) (hlb : ∀ i, l.getD i 0 < 256) (hB : Bs0 w p l) (hc : l.length ≤ cap) (hpc : p = none → cap = 0) :
    Calls Tryd.prog 3 #[.slice p l.length cap] w fun e w' => e = .returned (.bool true) ∧ Below w.heap.size w w' := by
  have HT := Lib.hid hT
  have HB := Lib.hid hB
  obtain ⟨n, en⟩ : ∃ n, n = l.length := ⟨_, rfl⟩
  have En := Lib.hid en
  by_cases h3 : n ≤ 3000
  · have h3' : ¬ (3000 : Int) < (n : Int) := by omega
    have HS := Lib.hid (fun (W : World) (hb : Below w.heap.size w W) => sum_c cap p l W (hT.grow hb) (by omega) hlb (hB.grow hb) hc)
    have HR := Lib.hid (fun (W : World) (hb : Below w.heap.size w W) => rsum_c cap p l W (by omega) hlb (hB.grow hb) hpc)
    rw [← en] at HS HR ⊢
    clear hT hB en hc hpc
    generalize dig l = D at *
    go_enter Tryd.func3, Tryd.ntmps3
    go_wp2_with fail
    refine (alive_c _ HT.out).mono ?_
    rintro e w1 ⟨rfl, hb1⟩
    have B1 := Lib.hid hb1
    clear hb1
    go_wp2_with fail
    refine (HS.out w1 B1.out).mono ?_
    rintro e w2 ⟨rfl, hb2⟩
    have B2 := Lib.hid (B1.out.trans (hb2.mono B1.out.size))
    clear hb2
    go_wp2_with fail
    refine (HR.out w2 B2.out).mono ?_
    rintro e w3 ⟨rfl, hb3⟩
    have B3 := Lib.hid (B2.out.trans (hb3.mono B2.out.size))
    clear hb3
    go_wp2_with fail
    go_ret
    exact ⟨rfl, B3.out⟩
  · have h3' : (3000 : Int) < (n : Int) := by omega
    rw [← en]
    clear hT hB en hc hpc
    go_enter Tryd.func3, Tryd.ntmps3
    go_wp2_with fail
    refine (alive_c _ HT.out).mono ?_
    rintro e w' ⟨rfl, hbw⟩
    go_wp2_with fail
    go_ret
    exact ⟨rfl, hbw⟩
end Go.Proofs.YtfkgnafbfdpgiaaDoor
