/-
  Package curve: swapIf changes two fractions' places, or leaves them.
-/
import Derived.Test.YtpilonikhokjeaaCurveFrac
namespace Go.Proofs.Ytpilonikhokjeaa
open Go.RowKit Go.Shelf Go.Hold

/-! ### Bytes -/
theorem ofInt8 (a : Nat) (h : a < 256) : (BitVec.ofInt 8 (a : Int)).toNat = a := by
  rw [BitVec.ofInt_natCast, BitVec.toNat_ofNat]; exact Nat.mod_eq_of_lt (by omega)
theorem xor8 (a b : Nat) (ha : a < 256) (hb : b < 256) : bits .xor .u8 (a : Int) (b : Int) = ((a ^^^ b : Nat) : Int) := by
  have hx : a ^^^ b < 2 ^ 8 := Nat.xor_lt_two_pow (by omega) (by omega)
  show IntKind.u8.wrap ((BitVec.ofInt 8 (a : Int) ^^^ BitVec.ofInt 8 (b : Int)).toNat : Int) = _
  rw [BitVec.toNat_xor, ofInt8 a ha, ofInt8 b hb, IntKind.wrap_u8]
  omega
theorem and8 (a b : Nat) (ha : a < 256) (hb : b < 256) : bits .and .u8 (a : Int) (b : Int) = ((a &&& b : Nat) : Int) := by
  have hx : a &&& b < 2 ^ 8 := Nat.and_lt_two_pow _ (by omega)
  show IntKind.u8.wrap ((BitVec.ofInt 8 (a : Int) &&& BitVec.ofInt 8 (b : Int)).toNat : Int) = _
  rw [BitVec.toNat_and, ofInt8 a ha, ofInt8 b hb, IntKind.wrap_u8]
  omega

/-- One byte of a, one of b, and what lies between them under a mask of ones or of noughts. -/
theorem swap_byte (s : Bool) (a b : Nat) (ha : a < 256) (hb : b < 256) :
    bits .xor .u8 (a : Int) (bits .and .u8 (bits .xor .u8 (a : Int) (b : Int)) (if s then 255 else 0)) = ((if s then b else a : Nat) : Int) ∧
    bits .xor .u8 (b : Int) (bits .and .u8 (bits .xor .u8 (a : Int) (b : Int)) (if s then 255 else 0)) = ((if s then a else b : Nat) : Int) := by
  have hx : a ^^^ b < 2 ^ 8 := Nat.xor_lt_two_pow (by omega) (by omega)
  have hx' : a ^^^ b < 256 := by simpa using hx
  cases s
  · simp only [Bool.false_eq_true, if_false]
    rw [xor8 a b ha hb, show (0 : Int) = ((0 : Nat) : Int) from rfl, and8 _ 0 hx' (by decide), Nat.and_zero, xor8 a 0 ha (by decide), xor8 b 0 hb (by decide), Nat.xor_zero, Nat.xor_zero]
    exact ⟨rfl, rfl⟩
  · simp only [if_true]
    have h255 : (a ^^^ b) &&& 255 = a ^^^ b := by
      rw [show (255 : Nat) = 2 ^ 8 - 1 from rfl, Nat.and_two_pow_sub_one_eq_mod, Nat.mod_eq_of_lt hx]
    rw [xor8 a b ha hb, show (255 : Int) = ((255 : Nat) : Int) from rfl, and8 _ 255 hx' (by decide), h255, xor8 a _ ha hx', xor8 b _ hb hx']
    refine ⟨?_, ?_⟩
    · rw [← Nat.xor_assoc, Nat.xor_self, Nat.zero_xor]
    · rw [Nat.xor_comm a b, ← Nat.xor_assoc, Nat.xor_self, Nat.zero_xor]

/-- Cells that are changed up to place k in the first half, up to place j in the second one. -/
def mixF (x z X Z k j : Nat) : Array Value := ((List.range 64).map fun i => Value.int .u8 (if i < 32 then (if i < k then bt X i else bt x i) else (if i - 32 < j then bt Z (i - 32) else bt z (i - 32)))).toArray
@[go_sem] theorem mixF_size (x z X Z k j : Nat) : (mixF x z X Z k j).size = 64 := by simp [mixF]
theorem mixF_get (x z X Z k j i : Nat) (h : i < 64) : (mixF x z X Z k j)[i]? = some (.int .u8 (if i < 32 then (if i < k then bt X i else bt x i) else (if i - 32 < j then bt Z (i - 32) else bt z (i - 32)))) := by simp [mixF, h]
theorem mixF_0 (x z X Z : Nat) : mixF x z X Z 0 0 = fracA x z := by
  refine frac_ext (mixF_size _ _ _ _ _ _) (fun i hi => ?_) (fun i hi => ?_)
  · rw [mixF_get _ _ _ _ _ _ _ (by omega)]; simp [hi]
  · rw [mixF_get _ _ _ _ _ _ _ (by omega)]; simp [show ¬ 32 + i < 32 by omega]
theorem mixF_32 (x z X Z : Nat) : mixF x z X Z 32 32 = fracA X Z := by
  refine frac_ext (mixF_size _ _ _ _ _ _) (fun i hi => ?_) (fun i hi => ?_)
  · rw [mixF_get _ _ _ _ _ _ _ (by omega)]; simp [hi]
  · rw [mixF_get _ _ _ _ _ _ _ (by omega)]; simp [hi, show ¬ 32 + i < 32 by omega]
theorem mixF_at0 (x z X Z k j : Nat) (hk : k < 32) : (mixF x z X Z k j)[k]? = some (.int .u8 (bt x k)) := by
  have := mixF_get x z X Z k j k (by omega)
  simpa [hk] using this
theorem mixF_at1 (x z X Z k j : Nat) (hj : j < 32) : (mixF x z X Z k j)[32 + j]? = some (.int .u8 (bt z j)) := by
  have := mixF_get x z X Z k j (32 + j) (by omega)
  simpa [show ¬ 32 + j < 32 by omega] using this
theorem mixF_set0 (x z X Z k j : Nat) (hk : k < 32) : (mixF x z X Z k j).setIfInBounds k (.int .u8 (bt X k)) = mixF x z X Z (k + 1) j := by
  apply Array.ext_getElem?
  intro i
  rw [Array.getElem?_setIfInBounds]
  by_cases h : i < 64
  · rw [mixF_get _ _ _ _ _ _ _ h, mixF_get _ _ _ _ _ _ _ h]
    by_cases e : k = i
    · subst e; simp [mixF_size, h, hk]
    · rw [if_neg e]
      by_cases h1 : i < k
      · simp [h1, show i < k + 1 by omega]
      · simp [h1, show ¬ i < k + 1 by omega]
  · rw [Array.getElem?_eq_none (by rw [mixF_size]; omega), Array.getElem?_eq_none (by rw [mixF_size]; omega), if_neg (by omega)]
theorem mixF_set1 (x z X Z k j : Nat) (hj : j < 32) : (mixF x z X Z k j).setIfInBounds (32 + j) (.int .u8 (bt Z j)) = mixF x z X Z k (j + 1) := by
  apply Array.ext_getElem?
  intro i
  rw [Array.getElem?_setIfInBounds]
  by_cases h : i < 64
  · rw [mixF_get _ _ _ _ _ _ _ h, mixF_get _ _ _ _ _ _ _ h]
    by_cases e : 32 + j = i
    · subst e; simp [mixF_size, show ¬ 32 + j < 32 by omega, h]
    · rw [if_neg e]
      by_cases h0 : i < 32
      · simp [h0]
      · by_cases h1 : i - 32 < j
        · simp [h0, h1, show i - 32 < j + 1 by omega]
        · simp [h0, h1, show ¬ i - 32 < j + 1 by omega]
  · rw [Array.getElem?_eq_none (by rw [mixF_size]; omega), Array.getElem?_eq_none (by rw [mixF_size]; omega), if_neg (by omega)]
theorem bt_sel (s : Bool) (x x' k : Nat) : ((if s then x' / 256 ^ k % 256 else x / 256 ^ k % 256 : Nat) : Int) = bt (if s then x' else x) k := by cases s <;> rfl

set_option maxHeartbeats 2000000 in
set_option maxRecDepth 100000 in
theorem swapIf_any (s : Bool) (x z x' z' : Nat) (w : World) :
    Calls Try.prog 28 #[.int .u8 (if s then 1 else 0), fv x z, fv x' z'] w fun e w' => e = .returned (.tuple #[fv (if s then x' else x) (if s then z' else z), fv (if s then x else x') (if s then z else z')]) ∧ Below w.heap.size w w' := by
  obtain ⟨X, eX⟩ : ∃ y, y = if s then x' else x := ⟨_, rfl⟩
  obtain ⟨Z, eZ⟩ : ∃ y, y = if s then z' else z := ⟨_, rfl⟩
  obtain ⟨X', eX'⟩ : ∃ y, y = if s then x else x' := ⟨_, rfl⟩
  obtain ⟨Z', eZ'⟩ : ∃ y, y = if s then z else z' := ⟨_, rfl⟩
  obtain ⟨m, em⟩ : ∃ y : Int, y = if s then 255 else 0 := ⟨_, rfl⟩
  have hm : IntKind.u8.wrap (-(if s then 1 else 0)) = m := by rw [em]; cases s <;> rfl
  obtain ⟨sv, es⟩ : ∃ y : Int, y = if s then 1 else 0 := ⟨_, rfl⟩
  rw [← es] at hm
  have hbyte : ∀ a b : Nat, a < 256 → b < 256 → bits .xor .u8 (a : Int) (bits .and .u8 (bits .xor .u8 (a : Int) (b : Int)) m) = ((if s then b else a : Nat) : Int) ∧ bits .xor .u8 (b : Int) (bits .and .u8 (bits .xor .u8 (a : Int) (b : Int)) m) = ((if s then a else b : Nat) : Int) := by
    rw [em]; exact swap_byte s
  have hx : ∀ k, bits .xor .u8 (bt x k) (bits .and .u8 (bits .xor .u8 (bt x k) (bt x' k)) m) = bt X k ∧ bits .xor .u8 (bt x' k) (bits .and .u8 (bits .xor .u8 (bt x k) (bt x' k)) m) = bt X' k := fun k => by
    have := hbyte _ _ (Nat.mod_lt (x / 256 ^ k) (show 0 < 256 by decide)) (Nat.mod_lt (x' / 256 ^ k) (show 0 < 256 by decide))
    rw [bt_sel, bt_sel] at this
    rw [eX, eX']; exact this
  have hz : ∀ k, bits .xor .u8 (bt z k) (bits .and .u8 (bits .xor .u8 (bt z k) (bt z' k)) m) = bt Z k ∧ bits .xor .u8 (bt z' k) (bits .and .u8 (bits .xor .u8 (bt z k) (bt z' k)) m) = bt Z' k := fun k => by
    have := hbyte _ _ (Nat.mod_lt (z / 256 ^ k) (show 0 < 256 by decide)) (Nat.mod_lt (z' / 256 ^ k) (show 0 < 256 by decide))
    rw [bt_sel, bt_sel] at this
    rw [eZ, eZ']; exact this
  rw [← es, ← eX, ← eZ, ← eX', ← eZ']
  clear es eX eZ eX' eZ' em hbyte
  have HX := Lib.hid hx
  have HZ := Lib.hid hz
  clear hx hz
  go_enter Try.func28, Try.ntmps28
  go_wp2_with fail
  go_loopw [14] (fun i w' => ∃ (k : Nat) (o : Array Obj) (d : Nat), k ≤ 32 ∧ i = .int .i64 k ∧
    w' = ((((w.alloc (.cells (mixF x z X Z k k) 46)).alloc (.cells (mixF x' z' X' Z' k k) 46)).alloc (.cells #[.int .u8 0, .int .u8 0, .int .u8 0, .int .u8 0, .int .u8 0, .int .u8 0, .int .u8 0, .int .u8 0, .int .u8 0, .int .u8 0, .int .u8 0, .int .u8 0, .int .u8 0, .int .u8 0, .int .u8 0, .int .u8 0, .int .u8 0, .int .u8 0, .int .u8 0, .int .u8 0, .int .u8 0, .int .u8 0, .int .u8 0, .int .u8 0, .int .u8 0, .int .u8 0, .int .u8 0, .int .u8 0, .int .u8 0, .int .u8 0, .int .u8 0, .int .u8 0, .int .u8 0, .int .u8 0, .int .u8 0, .int .u8 0, .int .u8 0, .int .u8 0, .int .u8 0, .int .u8 0, .int .u8 0, .int .u8 0, .int .u8 0, .int .u8 0, .int .u8 0, .int .u8 0, .int .u8 0, .int .u8 0, .int .u8 0, .int .u8 0, .int .u8 0, .int .u8 0, .int .u8 0, .int .u8 0, .int .u8 0, .int .u8 0, .int .u8 0, .int .u8 0, .int .u8 0, .int .u8 0, .int .u8 0, .int .u8 0, .int .u8 0, .int .u8 0] 46)).alloc (.cells #[.int .u8 0, .int .u8 0, .int .u8 0, .int .u8 0, .int .u8 0, .int .u8 0, .int .u8 0, .int .u8 0, .int .u8 0, .int .u8 0, .int .u8 0, .int .u8 0, .int .u8 0, .int .u8 0, .int .u8 0, .int .u8 0, .int .u8 0, .int .u8 0, .int .u8 0, .int .u8 0, .int .u8 0, .int .u8 0, .int .u8 0, .int .u8 0, .int .u8 0, .int .u8 0, .int .u8 0, .int .u8 0, .int .u8 0, .int .u8 0, .int .u8 0, .int .u8 0, .int .u8 0, .int .u8 0, .int .u8 0, .int .u8 0, .int .u8 0, .int .u8 0, .int .u8 0, .int .u8 0, .int .u8 0, .int .u8 0, .int .u8 0, .int .u8 0, .int .u8 0, .int .u8 0, .int .u8 0, .int .u8 0, .int .u8 0, .int .u8 0, .int .u8 0, .int .u8 0, .int .u8 0, .int .u8 0, .int .u8 0, .int .u8 0, .int .u8 0, .int .u8 0, .int .u8 0, .int .u8 0, .int .u8 0, .int .u8 0, .int .u8 0, .int .u8 0] 46)).plus o d) (fun i _ => 32 - (intOf i).toNat)
  case atStart =>
    refine ⟨0, #[], w.drawn, by decide, rfl, ?_⟩
    rw [mixF_0, mixF_0]; rfl
  case round =>
    obtain ⟨k, o, d, hk, rfl, rfl⟩ := hrel
    by_cases hk32 : k < 32
    · have hk0 : (0 : Int) ≤ (k : Int) := by omega
      have hk1 : (k : Int) < 32 := by omega
      have a1 := mixF_at0 x z X Z k k hk32
      have a2 := mixF_at0 x' z' X' Z' k k hk32
      have a3 := mixF_at1 x z X Z k k hk32
      have a4 := mixF_at1 x' z' X' Z' k k hk32
      have b3 := mixF_at1 x z X Z (k + 1) k hk32
      have b4 := mixF_at1 x' z' X' Z' (k + 1) k hk32
      have c1 := mixF_set0 x z X Z k k hk32
      have c2 := mixF_set0 x' z' X' Z' k k hk32
      have c3 := mixF_set1 x z X Z (k + 1) k hk32
      have c4 := mixF_set1 x' z' X' Z' (k + 1) k hk32
      obtain ⟨d1, d2⟩ := HX.out k
      obtain ⟨d3, d4⟩ := HZ.out k
      generalize et : bits .and .u8 (bits .xor .u8 (bt x k) (bt x' k)) m = tx at d1 d2
      generalize et' : bits .and .u8 (bits .xor .u8 (bt z k) (bt z' k)) m = tz at d3 d4
      clear HX HZ
      go_wp2_with fail
      generalize hW : World.alloc _ _ = W1
      refine wp_region_fast (fun w' => ∃ o d, w' = W1.plus o d) (by kernel_rfl) (by kernel_rfl) ⟨_, _, rfl⟩ ?_
      subst hW
      iterate 24 (refine wpHold_val ⟨_, #[], 0, rfl⟩ (wanted_none rfl) (by rintro K _ ⟨o, d, rfl⟩ hK; go_simp; exact hK _ ⟨o, d, rfl⟩) ?_)
      refine wpHold_nil ?_
      rintro _ ⟨o2, n2, rfl⟩
      go_wp2_with fail
      go_roundw
      case rel => exact ⟨k + 1, _, _, by omega, by go_num, rfl⟩
      case measure => simp [intOf]; omega
    · obtain rfl : k = 32 := by omega
      rw [mixF_32, mixF_32]
      go_wp2_with fail
      go_region
      all_goals
        go_wp2_with fail
        refine bodyPost_ret (v := .tuple #[fv X Z, fv X' Z']) (results_row2 _ Try.results28 Try.underlying46 rfl (by rw [fracA_size]; kernel_rfl) Try.underlying46 rfl (by rw [fracA_size]; kernel_rfl) _ _ _ rfl (by go_simp) (by go_simp) rfl (by go_simp) (by go_simp)) rfl ⟨rfl, ?_⟩
        repeat (first | apply below_more | apply below_alloc | exact Below.refl _ _)
end Go.Proofs.Ytpilonikhokjeaa
