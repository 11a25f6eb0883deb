/-
  Package hmac: its other calls.
-/
import Derived.Test.YtikpglemnnbdcaaDoorHmacMac
namespace Go.Proofs.YtikpglemnnbdcaaDoor
open Go.RowKit Go.Hold Go.Sh

set_option maxHeartbeats 400000 in
set_option maxRecDepth 100000 in
theorem extract_c (kc bc : Nat) (kp bp : Option Addr) (k b : List Nat) (w : World) (hT : Tabs w) (hk : k.length ≤ 1000000) (hkb : ∀ i, k.getD i 0 < 256) (hkB : Bs0 w kp k) (hkc : k.length ≤ kc)
    (hb : b.length ≤ 1000000) (hbb : ∀ i, b.getD i 0 < 256) (hbB : Bs0 w bp b) (hbc : bp = none → bc = 0) :
    Calls Tryd.prog 12 #[.slice kp k.length kc, .slice bp b.length bc] w fun e w' => e = .returned (.agg (keA (mac k b))) ∧ Below w.heap.size w w' := by
  have HM := Lib.hid (fun (W : World) (hW : Below w.heap.size w W) => mac_c kc bc kp bp k b W (hT.grow hW) hk hkb (hkB.grow hW) hkc hb hbb (hbB.grow hW) hbc)
  generalize mac k b = M at *
  obtain ⟨nk, enk⟩ : ∃ n, n = k.length := ⟨_, rfl⟩
  obtain ⟨nb, enb⟩ : ∃ n, n = b.length := ⟨_, rfl⟩
  rw [← enk, ← enb] at HM ⊢
  clear hT hk hkb hkB hkc hb hbb hbB hbc enk enb
  go_enter Tryd.func12, Tryd.ntmps12
  go_wp2_with fail
  generalize hW : World.alloc _ _ = W0
  obtain ⟨z0, hz0, hR0⟩ : ∃ c, c.size = 32 ∧ RowAt W0 w.heap.size c := by rw [← hW]; clear hW; exact ⟨byI (List.replicate 32 0), by simp [byI], by go_simp, by go_simp; rfl, by go_simp⟩
  have R0 := Lib.hid hR0
  have B0 := Lib.hid (show Below w.heap.size w W0 by rw [← hW]; exact below_alloc (Below.refl _ _) _)
  clear hW hR0
  refine (HM.out W0 B0.out).mono ?_
  rintro e W1 ⟨rfl, hb1⟩
  obtain ⟨r1, r2, r3⟩ := R0.out.grow hb1
  have B1 := Lib.hid (B0.out.trans (hb1.mono B0.out.size))
  clear hb1 R0 HM
  go_wp2_with fail
  refine bodyPost_ret (v := .agg (keA M)) (results_key Tryd.results12 (keA_size _) _ _ _ rfl (by go_simp) (by go_simp)) rfl ⟨rfl, ?_⟩
  exact below_setRow B1.out (Nat.le_refl _) _

/-! ### Are bytes alike? -/
/-- What bytes have unlike, all together. -/
def unl (a b : List Nat) : Nat → Nat
  | 0 => 0
  | i + 1 => unl a b i ||| (a.getD i 0 ^^^ b.getD i 0)
theorem unl_lt {a b : List Nat} (ha : ∀ i, a.getD i 0 < 256) (hb : ∀ i, b.getD i 0 < 256) (n : Nat) : unl a b n < 256 := by
  induction n with
  | zero => exact Nat.zero_lt_succ _
  | succ n ih => exact Nat.or_lt_two_pow (n := 8) ih (xor_lt (ha n) (hb n))
theorem xor_zero_iff (a b : Nat) : a ^^^ b = 0 ↔ a = b := by
  constructor
  · intro h
    have : (a ^^^ b) ^^^ b = b := by rw [h, Nat.zero_xor]
    rwa [Nat.xor_assoc, Nat.xor_self, Nat.xor_zero] at this
  · rintro rfl; exact Nat.xor_self _
theorem unl_zero (a b : List Nat) (n : Nat) : unl a b n = 0 ↔ ∀ i, i < n → a.getD i 0 = b.getD i 0 := by
  induction n with
  | zero => simp [unl]
  | succ n ih =>
    rw [unl, Nat.or_eq_zero_iff, ih]
    constructor
    · intro ⟨h1, h2⟩ i hi
      by_cases e : i < n
      · exact h1 i e
      · obtain rfl : i = n := by omega
        exact (xor_zero_iff _ _).1 h2
    · intro h
      exact ⟨fun i hi => h i (by omega), (xor_zero_iff _ _).2 (h n (by omega))⟩
theorem unl_eq (a b : List Nat) (h : a.length = b.length) : unl a b a.length = 0 ↔ a = b := by
  rw [unl_zero]
  constructor
  · intro h1
    apply List.ext_getElem h
    intro i h2 h3
    have := h1 i h2
    simpa [List.getD, h2, h3] using this
  · rintro rfl i _; rfl
set_option maxHeartbeats 400000 in
set_option maxRecDepth 100000 in
theorem equal_c (ac bc : Nat) (ap bp : Option Addr) (a b : List Nat) (w : World) (ha : a.length ≤ 1000000) (hab : ∀ i, a.getD i 0 < 256) (haB : Bs0 w ap a) (hbb : ∀ i, b.getD i 0 < 256) (hbB : Bs0 w bp b) :
    Calls Tryd.prog 18 #[.slice ap a.length ac, .slice bp b.length bc] w fun e w' => e = .returned (.bool (decide (a = b))) ∧ Below w.heap.size w w' := by
  by_cases hl : a.length = b.length
  · obtain ⟨R, eR⟩ : ∃ r, r = decide (a = b) := ⟨_, rfl⟩
    have HU := Lib.hid (unl_eq a b hl)
    have HUl := Lib.hid (fun n => unl_lt hab hbb n)
    rw [← hl, ← eR]
    obtain ⟨n, en⟩ : ∃ n, n = a.length := ⟨_, rfl⟩
    have Hlb := Lib.hid (show b.length = n by rw [en, hl])
    rw [← en] at ha HU ⊢
    have En := Lib.hid en
    have ER := Lib.hid eR
    have HA := Lib.hid haB
    have HB := Lib.hid hbB
    have Hab := Lib.hid hab
    have Hbb := Lib.hid hbb
    clear en eR hl haB hbB hab hbb
    go_enter Tryd.func18, Tryd.ntmps18
    go_wp2_with fail
    go_loopw [5, 14] (fun u i wr => ∃ k : Nat, k ≤ n ∧ i = .int .i64 k ∧ u = .int .u8 ((unl a b k : Nat) : Int) ∧ Below w.heap.size w wr) (fun _ i _ => n - (intOf i).toNat)
    case atStart => exact ⟨0, by omega, rfl, rfl, Below.refl _ _⟩
    case round =>
      obtain ⟨k, hk, rfl, rfl, hbel⟩ := hrel
      have Hbel := Lib.hid hbel
      by_cases hkn : k < n
      · have hk0 : (0 : Int) ≤ (k : Int) := by omega
        have hk1 : (k : Int) < (n : Int) := by omega
        obtain ⟨ga, oa, ea, hA⟩ : ∃ b o, ap = some ⟨b, o, none⟩ ∧ BytesAt wr b o a := by
          rcases HA.out.grow hbel with h | h
          · exfalso; have := En.out; rw [h] at this; simp at this; omega
          · exact h
        obtain ⟨gb, ob, eb, hB⟩ : ∃ c o, bp = some ⟨c, o, none⟩ ∧ BytesAt wr c o b := by
          rcases HB.out.grow hbel with h | h
          · exfalso; have := Hlb.out; rw [h] at this; simp at this; omega
          · exact h
        subst ea eb
        have hca := hA.2 k (by rw [← En.out]; exact hkn)
        have hcb := hB.2 k (by rw [Hlb.out]; exact hkn)
        have hx := u8_xor_nat (a.getD k 0) (b.getD k 0) (Hab.out k) (Hbb.out k)
        have hxl := xor_lt (Hab.out k) (Hbb.out k)
        have ho := u8_or_nat (unl a b k) (a.getD k 0 ^^^ b.getD k 0) (HUl.out k) hxl
        have Hs := Lib.hid (show unl a b (k + 1) = unl a b k ||| (a.getD k 0 ^^^ b.getD k 0) from rfl)
        generalize a.getD k 0 = x at *
        generalize b.getD k 0 = y at *
        generalize x ^^^ y = z at *
        generalize unl a b k = u at *
        generalize u ||| z = u2 at *
        have hga := hA.1
        have hgb := hB.1
        clear hA hB hbel hxl
        go_wp2_with fail
        refine wp_region_pickT wr [0, 1, 2, 3, 4, 5, 6, 7, 8, 9, 10] [false, false, false, false, false, false, false, false, false, false, false] [11] (by kernel_rfl) (by kernel_rfl) (by intro c a d v w h; cases d <;> exact h) ((Below.refl _ _).drew) ?_
        simp only [pick, List.getElem?_cons_succ, List.getElem?_cons_zero]
        iterate 11 (refine wpHoldF_val (wanted_none rfl) (by intro K o d hK; go_simp; exact hK _ (Below.refl _ _)) ?_)
        refine wpHoldF_nil ?_
        intro w1 hb1
        have Hb1 := Lib.hid (Hbel.out.trans (hb1.mono Hbel.out.size))
        clear hb1
        go_wp2_with fail
        go_roundw
        case rel => exact ⟨k + 1, by omega, by go_num, by rw [Hs.out], Hb1.out⟩
        case measure => simp [intOf]; omega
      · obtain rfl : k = n := by omega
        have hU := HU.out
        have hlt := HUl.out k
        clear hbel
        by_cases e : a = b
        · have h0 : unl a b k = 0 := hU.2 e
          have hR : R = true := by rw [ER.out]; exact decide_eq_true e
          subst hR
          rw [h0]
          clear h0 e hU hlt
          go_wp2_with fail
          go_ret
          exact ⟨rfl, Hbel.out⟩
        · have h0 : unl a b k ≠ 0 := fun h => e (hU.1 h)
          have hR : R = false := by rw [ER.out]; exact decide_eq_false e
          subst hR
          generalize unl a b k = u at *
          have h1 : ¬ (u : Int) = 0 := by omega
          have h2 : ((u : Int) == 0) = false := by simpa using h1
          clear h0 e hU hlt
          go_wp2_with fail
          go_ret
          exact ⟨rfl, Hbel.out⟩
  · have hR : decide (a = b) = false := decide_eq_false fun e => hl (by rw [e])
    rw [hR]
    obtain ⟨n, en⟩ : ∃ n, n = a.length := ⟨_, rfl⟩
    obtain ⟨m, em⟩ : ∃ n, n = b.length := ⟨_, rfl⟩
    rw [← en, ← em] at hl ⊢
    have h1 : ¬ (n : Int) = (m : Int) := by omega
    have h2 : ((n : Int) != (m : Int)) = true := by simpa using h1
    clear en em ha hab haB hbb hbB hR
    go_enter Tryd.func18, Tryd.ntmps18
    go_wp2_with fail
    go_ret
    exact ⟨rfl, Below.refl _ _⟩

/-! ### A tag's first half -/
@[go_sem ↓] theorem loadAt_tag (v : Value) : Instr.loadAt 36 v = loadRow 36 v := rfl
@[go_sem] theorem run_loadTag (w : World) (n : Nat) (h1 : w.isRow n = true) (h2 : (w.rowOf n).size = 16) : (loadRow 36 (.pointer (some ⟨n, 0, none⟩))).run Tryd.prog w = .ok (.agg (w.rowOf n)) w := run_loadRow w Tryd.underlying36 rfl (by kernel_rfl) n h1 h2
theorem results_tag {fn : Func} {p : Tmp} {cs : Array Value} (h : fn.results = #[.cell p 36]) (hc : cs.size = 16) (w : World) (tmps : Array Value) (n : Nat) (hp : tmps.getD p undef = .pointer (some ⟨n, 0, none⟩)) (h1 : w.isRow n = true) (h2 : w.rowOf n = cs) : (results fn tmps).run Tryd.prog w = .ok (.agg cs) w :=
  results_row w h Tryd.underlying36 rfl (by rw [hc]; kernel_rfl) tmps n hp h1 h2
set_option maxHeartbeats 400000 in
set_option maxRecDepth 100000 in
theorem short_c (s : List Nat) (hs : s.length = 32) (w : World) : Calls Tryd.prog 19 #[.agg (bysA s)] w fun e w' => e = .returned (.agg (bysA (s.take 16))) ∧ Below w.heap.size w w' := by
  have hst : (s.take 16 ++ (zs 16).drop 16) = s.take 16 := by rw [zs_drop]; simp [zs]
  have hz2 : (bysA (s.take 16)).size = 16 := by rw [bysA_size, List.length_take, hs]; rfl
  have Hs := Lib.hid hs
  have Hst := Lib.hid hst
  clear hs hst
  go_enter Tryd.func19, Tryd.ntmps19
  go_wp2_with fail
  generalize hW : World.alloc _ _ = W0
  have K0 := Lib.hid (show RowAt W0 w.heap.size (bysA s) by rw [← hW]; clear hW; exact ⟨by go_simp, by go_simp, by go_simp⟩)
  obtain ⟨z0, hz0, hR0⟩ : ∃ c : Array Value, c.size = 16 ∧ RowAt W0 (w.heap.size + 1) c := by rw [← hW]; clear hW; exact ⟨bysA (zs 16), by rw [bysA_size, zs_length], by go_simp, by go_simp; rfl, by go_simp⟩
  have T0 := Lib.hid (show RowAt W0 (w.heap.size + 1 + 1) (bysA (zs 16)) by rw [← hW]; clear hW; exact ⟨by go_simp, by go_simp; rfl, by go_simp⟩)
  have R0 := Lib.hid hR0
  have B0 := Lib.hid (show Below w.heap.size w W0 by rw [← hW]; repeat (first | apply below_more | apply below_alloc | exact Below.refl _ _))
  clear hW hR0
  have hg1 : w.heap.size ≤ w.heap.size + 1 + 1 := by omega
  have hg2 : ¬ w.heap.size + 1 = w.heap.size + 1 + 1 := by omega
  have hg3 : w.heap.size ≤ w.heap.size + 1 := by omega
  generalize w.heap.size + 1 + 1 = t at *
  generalize w.heap.size + 1 = r at *
  refine wp_region_pickT W0 [0, 1] [true, true] [2] (by kernel_rfl) (by kernel_rfl) (by intro c a d v w h; cases d <;> exact h) ((Below.refl _ _).drew) ?_
  simp only [pick, List.getElem?_cons_succ, List.getElem?_cons_zero]
  refine wpHoldF_late (wanted_none rfl) (fun w => by go_simp; rfl) ?_
  refine wpHoldF_late (wanted_none rfl) (fun w => by go_simp; rfl) ?_
  refine wpHoldF_nil ?_
  intro W1 hb1
  have hcp := copy_bytes (c2 := 16) (cap := 32) (d := 16) (s := 32) (k := 16) (T0.out.grow hb1) (by rw [zs_length]) Hs.out.symm (by rw [zs_length, Hs.out]; decide) (Bs0.some (bytes_row (K0.out.grow hb1)))
  rw [Hst.out] at hcp
  have T1 := (T0.out.grow hb1).set (bysA (s.take 16))
  have R1 := (R0.out.grow hb1).other hg2 (bysA (s.take 16))
  have B1 := Lib.hid (below_setRow (B0.out.trans (hb1.mono B0.out.size)) hg1 (bysA (s.take 16)))
  generalize W1.setRow t (bysA (s.take 16)) = W2 at *
  obtain ⟨t1, t2, t3⟩ := T1
  obtain ⟨r1, r2, r3⟩ := R1
  clear hb1
  go_wp2_with fail
  refine bodyPost_ret (v := .agg (bysA (s.take 16))) (results_tag Tryd.results19 hz2 _ _ _ rfl (by go_simp) (by go_simp)) rfl ⟨rfl, ?_⟩
  exact below_setRow B1.out hg3 _
end Go.Proofs.YtikpglemnnbdcaaDoor
