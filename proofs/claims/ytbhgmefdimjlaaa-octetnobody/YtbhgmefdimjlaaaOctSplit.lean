/-
  Package octet: a number's bytes, and the number of some bytes; a copy of bytes.
-/
import Derived.Test.YtbhgmefdimjlaaaOctFirst
import Derived.Laws.Cover3
namespace Go.Proofs.Ytbhgmefdimjlaaa
open Go.RowKit Go.Hold Go.Sh Go.Oc

/-- The bytes of a number that are laid so far. -/
def digP (n size i : Nat) : List Nat := (digN n size).take i ++ zs (size - i)
theorem digP_zero (n size : Nat) : digP n size 0 = zs size := by simp [digP]
theorem digP_all (n size : Nat) : digP n size size = digN n size := by
  unfold digP
  rw [List.take_of_length_le (by rw [dig_length]; exact Nat.le_refl _), Nat.sub_self]; simp [zs]
theorem digP_length (n size i : Nat) (h : i ≤ size) : (digP n size i).length = size := by
  unfold digP; rw [List.length_append, List.length_take, dig_length, zs_length]; omega
theorem digP_set (n size i : Nat) (h : i < size) : (digP n size i).set i (dgt n size i) = digP n size (i + 1) := by
  unfold digP
  have hx : i < (digN n size).length := by rw [dig_length]; exact h
  have e : zs (size - i) = 0 :: zs (size - (i + 1)) := by
    obtain ⟨k, hk⟩ : ∃ k, size - i = k + 1 := ⟨size - i - 1, by omega⟩
    rw [hk, show size - (i + 1) = k by omega]; rfl
  have hlen : ((digN n size).take i).length = i := by rw [List.length_take]; omega
  rw [List.set_append, if_neg (by omega), hlen, Nat.sub_self, e, List.set_cons_zero, List.take_add_one, List.getElem?_eq_getElem hx, List.append_assoc]
  congr 2
  simp [digN]
set_option maxHeartbeats 600000 in
set_option maxRecDepth 100000 in
theorem split_c (n s : Nat) (h0 : 1 ≤ s) (h8 : s ≤ 8) (w : World) :
    Calls Try.prog 30 #[.int .u64 (n : Int), .int .i64 (s : Int)] w fun e w' => ∃ g, e = .returned (.slice (some ⟨g, 0, none⟩) s s) ∧ RowAt w' g (bysA (digN n s)) ∧ w.heap.size ≤ g ∧ Below w.heap.size w w' := by
  have hmk := run_mkS w s (by omega)
  have H8 := Lib.hid h8
  have H0 := Lib.hid h0
  obtain ⟨s1, es1⟩ : ∃ y, y = s - 1 := ⟨_, rfl⟩
  have k1 : IntKind.i64.wrap ((s : Int) - 1) = (s1 : Int) := by rw [IntWalk.i64_in _ (by omega)]; omega
  have Es1 := Lib.hid es1
  clear h8 h0 es1
  go_enter Try.func30, Try.ntmps30
  go_wp2_with fail
  generalize hW : World.alloc _ _ = W0
  have R0 := Lib.hid (show RowAt W0 w.heap.size (bysA (digP n s 0)) by rw [← hW, digP_zero]; exact RowAt.of (block_new w _))
  have B0 := Lib.hid (show Below w.heap.size w W0 by rw [← hW]; exact below_alloc (Below.refl _ _) _)
  clear hW hmk
  have hgl : w.heap.size ≤ w.heap.size := Nat.le_refl _
  generalize eg : w.heap.size = g at R0 hgl ⊢
  have Eg := Lib.hid eg
  clear eg
  go_loopw [11] (fun i wr => ∃ j : Nat, j ≤ s ∧ i = .int .i64 j ∧ Sets W0 g (bysA (digP n s j)) wr) (fun i _ => s - (intOf i).toNat)
  case atStart => exact ⟨0, Nat.zero_le _, rfl, Sets.refl R0.out⟩
  case round =>
    obtain ⟨j, hj, rfl, hset⟩ := hrel
    by_cases hj8 : j < s
    · have hj0 : (0 : Int) ≤ (j : Int) := by omega
      have hj1 : (j : Int) < (s : Int) := by omega
      have hjb : (j : Int) < 8 := by have := H8.out; omega
      have hrow := hset.row R0.out
      have hc := hrow.cellAt j (bysA_get _ j (by rw [digP_length _ _ _ hj]; exact hj8))
      have hf := hrow.frozenAt j
      obtain ⟨t, et⟩ : ∃ y, y = s - 1 - j := ⟨_, rfl⟩
      have hw0 : IntKind.i64.wrap ((s1 : Int) - (j : Int)) = (t : Int) := by rw [IntWalk.i64_in _ (by have := H8.out; have := Es1.out; omega)]; have := Es1.out; omega
      obtain ⟨y, ey⟩ : ∃ y, y = 8 * t := ⟨_, rfl⟩
      have hw1 : IntKind.i64.wrap (8 * (t : Int)) = (y : Int) := by rw [IntWalk.i64_in _ (by have := H8.out; omega)]; omega
      have hy0 : (0 : Int) ≤ (y : Int) := by omega
      have hy1 : (y : Int) ≤ 64 := by have := H8.out; omega
      obtain ⟨x, ex⟩ : ∃ x, x = dgt n s j := ⟨_, rfl⟩
      have hx : (n : Int) / 2 ^ y % 256 = (x : Int) := by rw [ex, ey, et]; unfold dgt; simp
      have Hset := Lib.hid (digP_set n s j hj8)
      rw [← ex] at Hset
      have HS := Lib.hid hset
      have hg3 := hrow.2.2
      clear hset hrow ex ey et
      go_wp2_with fail
      go_roundw
      case rel =>
        refine ⟨j + 1, by omega, by go_num, ?_⟩
        rw [← Hset.out, ← bysA_set]; exact HS.out.cell R0.out
      case measure => simp [intOf]; omega
    · obtain rfl : j = s := by omega
      have R1 := Lib.hid (hset.row R0.out)
      have B1 := Lib.hid (hset.below B0.out (by rw [Eg.out]; exact hgl) B0.out.size)
      rw [digP_all] at R1
      clear hset
      go_wp2_with fail
      go_ret
      exact ⟨g, rfl, R1.out, Nat.le_of_eq Eg.out, B1.out⟩

/-! ### A copy -/
@[go_sem] theorem run_eqlNil8 (a : Option Addr) (l c : Nat) (w : World) : (binOp .eql 26 (.slice a l c) (.slice none 0 0)).run Try.prog w = .ok (.bool a.isNone) w := by
  simp only [binOp]
  simp [run_equal_slice_nil w 26 5 a l c Try.underlying26]
set_option maxHeartbeats 400000 in
set_option maxRecDepth 100000 in
theorem clone_c (p : Option Addr) (l : List Nat) (n cap : Nat) (w : World) (hn : n = l.length) (hB : Bs0 w p l) (hp : p = none → cap = 0) (hl : l.length ≤ 16000000) :
    Calls Try.prog 34 #[.slice p n cap] w fun e w' => ∃ v, e = .returned v ∧ OwnB w' w.heap.size v l ∧ Below w.heap.size w w' := by
  cases p with
  | none =>
    have hl0 : l = [] := by
      rcases hB with h | ⟨b, o, h, _⟩
      · exact h
      · cases h
    subst hl0
    subst hn
    rw [hp rfl]
    go_enter Try.func34, Try.ntmps34
    go_wp2_with fail
    go_ret
    exact ⟨_, rfl, own_nil w _, Below.refl _ _⟩
  | some a =>
    have BA := below_alloc (Below.refl w.heap.size w) (.cells #[] 5)
    have hE := ownB_empty w w.heap.size (Nat.le_refl _)
    obtain ⟨v1, w1, hr1, ho1, hg1⟩ := app_own (cap := cap) hE (hB.grow BA) hn (fun h => by cases h) BA.size (by simp only [List.length_nil]; omega)
    have hb1 := own_below BA hE BA.size hg1
    rw [List.nil_append] at ho1
    have HO := Lib.hid ho1
    have HB := Lib.hid hb1
    clear BA hE ho1 hg1 hb1 hB hp hl hn
    go_enter Try.func34, Try.ntmps34
    go_wp2_with (at_builtin; refine Lib.wpList_append_run _ rfl _ _ _ _ rfl _ _ rfl rfl _ _ hr1 ?_)
    go_wp2_with fail
    go_ret
    exact ⟨_, rfl, HO.out, HB.out⟩
end Go.Proofs.Ytbhgmefdimjlaaa
