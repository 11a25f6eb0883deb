/-
  A writer, and a reader, that no call made answer an error, or nothing.
-/
import Derived.Test.YtbhgmefdimjlaaaOctActs
namespace Go.Proofs.Ytbhgmefdimjlaaa
open Go.RowKit Go.Hold Go.Sh Go.Oc

set_option maxHeartbeats 2000000 in
set_option maxRecDepth 100000 in
theorem nobody_any (k n : Nat) (z : Int) (p : Option Addr) (m c : Nat) (w : World) :
    Calls Try.prog 6 #[.agg (arow k n z (.slice p m c))] w fun e w' => e = .returned (.bool true) ∧ Below w.heap.size w w' := by
  have R0 := Lib.hid (show RowAt (w.alloc (.cells (arow k n z (.slice p m c)) 31)) w.heap.size (arow k n z (.slice p m c)) from RowAt.of (block_new w _))
  have B0 := Lib.hid (below_alloc (Below.refl w.heap.size w) (.cells (arow k n z (.slice p m c)) 31))
  go_enter Try.func6, Try.ntmps6
  go_wp2_with fail
  generalize w.alloc (.cells (arow k n z (.slice p m c)) 31) = w0 at *
  refine (alive7_c w0).mono ?_
  rintro e w1 ⟨rfl, hb1⟩
  have R1 := Lib.hid (R0.out.grow hb1)
  have B1 := Lib.hid (B0.out.trans (hb1.mono B0.out.size))
  clear hb1 R0 B0 w0
  go_wp2_with fail
  have BA := below_alloc (below_alloc (Below.refl w1.heap.size w1) (.cells #[.bool false, .int .i64 0, .int .i64 0, .slice none 0 0] 63)) (.cells #[.pointer none, .pointer (some ⟨w1.heap.size, 0, none⟩)] 24)
  have Z2 := Lib.hid (show RowAt ((w1.alloc (.cells #[.bool false, .int .i64 0, .int .i64 0, .slice none 0 0] 63)).alloc (.cells #[.pointer none, .pointer (some ⟨w1.heap.size, 0, none⟩)] 24)) w1.heap.size (wrow false 0 0 (.slice none 0 0)) from ⟨by go_simp, by go_simp; rfl, by go_simp⟩)
  have L2 := Lib.hid (show RowAt ((w1.alloc (.cells #[.bool false, .int .i64 0, .int .i64 0, .slice none 0 0] 63)).alloc (.cells #[.pointer none, .pointer (some ⟨w1.heap.size, 0, none⟩)] 24)) (w1.heap.size + 1) #[.pointer none, .pointer (some ⟨w1.heap.size, 0, none⟩)] from ⟨by go_simp, by go_simp, by go_simp⟩)
  have R2 := Lib.hid (R1.out.grow BA)
  have B2 := Lib.hid (B1.out.trans (BA.mono B1.out.size))
  clear BA R1 B1
  generalize (w1.alloc (.cells #[.bool false, .int .i64 0, .int .i64 0, .slice none 0 0] 63)).alloc (.cells #[.pointer none, .pointer (some ⟨w1.heap.size, 0, none⟩)] 24) = W2 at *
  generalize w1.heap.size + 1 = gl at *
  generalize w1.heap.size = gz at *
  have hr1 := R2.out.cellAt 1 (show (arow k n z (.slice p m c))[1]? = some (.int .u64 (n : Int)) from rfl)
  have hr2 := R2.out.cellAt 2 (show (arow k n z (.slice p m c))[2]? = some (.int .i64 z) from rfl)
  go_loopw [19] (fun i wr => ∃ j : Nat, j ≤ 2 ∧ i = .int .i64 j ∧ wr = W2) (fun i _ => 2 - (intOf i).toNat)
  case atStart => exact ⟨0, by decide, rfl, rfl⟩
  case round =>
    obtain ⟨j, hj, rfl, hwr⟩ := hrel
    rw [hwr]
    clear hwr wr
    have hj3 : j = 0 ∨ j = 1 ∨ j = 2 := by omega
    clear hj
    rcases hj3 with rfl | rfl | rfl
    · have HS := Lib.hid (show WStop W2 (.pointer none) 1 from wstopped_nil W2)
      have hcj := L2.out.cellAt 0 rfl
      rw [show ((0 : Nat) : Int) = 0 from rfl]
      go_wp2_with fail
      refine (wall_stop none 1 (by decide) W2 HS.out).mono ?_
      rintro e w' ⟨rfl, hww⟩
      rw [hww]
      clear hww w'
      go_wp2_with fail
      refine (wnum_stop none 1 (by decide) _ _ W2 HS.out).mono ?_
      rintro e w' ⟨rfl, hww⟩
      rw [hww]
      clear hww w'
      go_wp2_with fail
      refine (wbytes_stop none 1 (by decide) _ W2 HS.out).mono ?_
      rintro e w' ⟨rfl, hww⟩
      rw [hww]
      clear hww w'
      go_wp2_with fail
      refine (wfill_stop none 1 (by decide) _ W2 HS.out).mono ?_
      rintro e w' ⟨rfl, hww⟩
      rw [hww]
      clear hww w'
      go_wp2_with fail
      go_roundw
      case rel => exact ⟨1, by decide, by go_num, by first | trivial | rfl⟩
      case measure => simp [intOf]
    · have HS := Lib.hid (show WStop W2 (.pointer (some ⟨gz, 0, none⟩)) 1 from wstopped_c gz false 0 W2 (Z2.out.cellAt 0 rfl) (Z2.out.cellAt 1 rfl))
      have hcj := L2.out.cellAt 1 rfl
      rw [show ((1 : Nat) : Int) = 1 from rfl]
      go_wp2_with fail
      refine (wall_stop (some ⟨gz, 0, none⟩) 1 (by decide) W2 HS.out).mono ?_
      rintro e w' ⟨rfl, hww⟩
      rw [hww]
      clear hww w'
      go_wp2_with fail
      refine (wnum_stop (some ⟨gz, 0, none⟩) 1 (by decide) _ _ W2 HS.out).mono ?_
      rintro e w' ⟨rfl, hww⟩
      rw [hww]
      clear hww w'
      go_wp2_with fail
      refine (wbytes_stop (some ⟨gz, 0, none⟩) 1 (by decide) _ W2 HS.out).mono ?_
      rintro e w' ⟨rfl, hww⟩
      rw [hww]
      clear hww w'
      go_wp2_with fail
      refine (wfill_stop (some ⟨gz, 0, none⟩) 1 (by decide) _ W2 HS.out).mono ?_
      rintro e w' ⟨rfl, hww⟩
      rw [hww]
      clear hww w'
      go_wp2_with fail
      go_roundw
      case rel => exact ⟨2, by decide, by go_num, by first | trivial | rfl⟩
      case measure => simp [intOf]
    · rw [show ((2 : Nat) : Int) = 2 from rfl]
      clear Z2 L2
      go_wp2_with fail
      have BA := below_alloc (below_alloc (Below.refl W2.heap.size W2) (.cells #[.bool false, .int .i64 0, .slice none 0 0] 66)) (.cells #[.pointer none, .pointer (some ⟨W2.heap.size, 0, none⟩)] 43)
      have Z3 := Lib.hid (show RowAt ((W2.alloc (.cells #[.bool false, .int .i64 0, .slice none 0 0] 66)).alloc (.cells #[.pointer none, .pointer (some ⟨W2.heap.size, 0, none⟩)] 43)) W2.heap.size (rrow false 0 (.slice none 0 0)) from ⟨by go_simp, by go_simp; rfl, by go_simp⟩)
      have L3 := Lib.hid (show RowAt ((W2.alloc (.cells #[.bool false, .int .i64 0, .slice none 0 0] 66)).alloc (.cells #[.pointer none, .pointer (some ⟨W2.heap.size, 0, none⟩)] 43)) (W2.heap.size + 1) #[.pointer none, .pointer (some ⟨W2.heap.size, 0, none⟩)] from ⟨by go_simp, by go_simp, by go_simp⟩)
      have R3 := Lib.hid (R2.out.grow BA)
      have B3 := Lib.hid (B2.out.trans (BA.mono B2.out.size))
      clear BA R2 B2 hr1 hr2
      generalize (W2.alloc (.cells #[.bool false, .int .i64 0, .slice none 0 0] 66)).alloc (.cells #[.pointer none, .pointer (some ⟨W2.heap.size, 0, none⟩)] 43) = W3 at *
      generalize W2.heap.size + 1 = gm at *
      generalize W2.heap.size = gy at *
      have hr2 := R3.out.cellAt 2 (show (arow k n z (.slice p m c))[2]? = some (.int .i64 z) from rfl)
      go_loopw [61] (fun i wr => ∃ j : Nat, j ≤ 2 ∧ i = .int .i64 j ∧ wr = W3) (fun i _ => 2 - (intOf i).toNat)
      case atStart => exact ⟨0, by decide, rfl, rfl⟩
      case round =>
        obtain ⟨j, hj, rfl, hwr⟩ := hrel
        rw [hwr]
        clear hwr wr
        have hj3 : j = 0 ∨ j = 1 ∨ j = 2 := by omega
        clear hj
        rcases hj3 with rfl | rfl | rfl
        · have HS := Lib.hid (show RStop W3 (.pointer none) 1 from rstopped_nil W3)
          have hcj := L3.out.cellAt 0 rfl
          rw [show ((0 : Nat) : Int) = 0 from rfl]
          go_wp2_with fail
          refine (rdNum_stop none 1 (by decide) _ W3 HS.out).mono ?_
          rintro e w' ⟨rfl, hww⟩
          rw [hww]
          clear hww w'
          go_wp2_with fail
          refine (rdBytes_stop none 1 (by decide) _ W3 HS.out).mono ?_
          rintro e w' ⟨rfl, hww⟩
          rw [hww]
          clear hww w'
          go_wp2_with fail
          refine (rdLeft_stop none 1 (by decide) W3 HS.out).mono ?_
          rintro e w' ⟨rfl, hww⟩
          rw [hww]
          clear hww w'
          go_wp2_with fail
          refine (rdDone_stop none 1 (by decide) W3 HS.out).mono ?_
          rintro e w' ⟨rfl, hww⟩
          rw [hww]
          clear hww w'
          go_wp2_with fail
          go_roundw
          case rel => exact ⟨1, by decide, by go_num, by first | trivial | rfl⟩
          case measure => simp [intOf]
        · have HS := Lib.hid (show RStop W3 (.pointer (some ⟨gy, 0, none⟩)) 1 from rstopped_c gy false 0 W3 (Z3.out.cellAt 0 rfl) (Z3.out.cellAt 1 rfl))
          have hcj := L3.out.cellAt 1 rfl
          rw [show ((1 : Nat) : Int) = 1 from rfl]
          go_wp2_with fail
          refine (rdNum_stop (some ⟨gy, 0, none⟩) 1 (by decide) _ W3 HS.out).mono ?_
          rintro e w' ⟨rfl, hww⟩
          rw [hww]
          clear hww w'
          go_wp2_with fail
          refine (rdBytes_stop (some ⟨gy, 0, none⟩) 1 (by decide) _ W3 HS.out).mono ?_
          rintro e w' ⟨rfl, hww⟩
          rw [hww]
          clear hww w'
          go_wp2_with fail
          refine (rdLeft_stop (some ⟨gy, 0, none⟩) 1 (by decide) W3 HS.out).mono ?_
          rintro e w' ⟨rfl, hww⟩
          rw [hww]
          clear hww w'
          go_wp2_with fail
          refine (rdDone_stop (some ⟨gy, 0, none⟩) 1 (by decide) W3 HS.out).mono ?_
          rintro e w' ⟨rfl, hww⟩
          rw [hww]
          clear hww w'
          go_wp2_with fail
          go_roundw
          case rel => exact ⟨2, by decide, by go_num, by first | trivial | rfl⟩
          case measure => simp [intOf]
        · rw [show ((2 : Nat) : Int) = 2 from rfl]
          clear Z3 L3 R3 hr2
          have hmk := run_mkS W3 65537 (by decide)
          rw [show ((65537 : Nat) : Int) = 65537 from rfl] at hmk
          have HB := Lib.hid (below_alloc B3.out (.cells (bysA (zs 65537)) 5))
          generalize W3.alloc (.cells (bysA (zs 65537)) 5) = W4 at *
          go_wp2_with fail
          refine (newReader_bad _ 65537 65537 W4 (by decide)).mono ?_
          rintro e w' ⟨rfl, hww⟩
          rw [hww]
          clear hww w'
          go_wp2_with fail
          go_ret
          exact ⟨rfl, HB.out⟩
end Go.Proofs.Ytbhgmefdimjlaaa
