/-
  The reference of layer 7: a number that is taken of bytes; what is left; whether nothing but noughts is left.
-/
import Derived.Test.YtbhgmefdimjlaaaOctRTake
import Derived.Test.YtbhgmefdimjlaaaOctRCalls
namespace Go.Proofs.Ytbhgmefdimjlaaa
open Go.RowKit Go.Hold Go.Sh Go.Oc

set_option maxHeartbeats 1000000 in
set_option maxRecDepth 100000 in
theorem rtakeNum_c (v : Value) (bb : Option Nat) (s : Ws) (sz : Int) (w : World) (hv : NV w bb v s.2) (hbt : ∀ i, s.2.getD i 0 < 256) :
    Calls Try.prog 19 #[.agg (nrow v s.1), .int .i64 sz] w fun e w' => NRet w bb (rnumS s sz) (.int .u64 (rnumV s sz : Int)) e w' := by
  obtain ⟨er, l⟩ := s
  simp only at hv hbt
  have HN := Lib.hid hv
  obtain ⟨p, c, rfl, _⟩ := hv
  obtain ⟨k, ek⟩ : ∃ k, k = l.length := ⟨_, rfl⟩
  rw [← ek] at HN ⊢
  by_cases her : er = 0
  · subst her
    have hs : rnumS (0, l) sz = if ¬ (1 ≤ sz ∧ sz ≤ 8) then (2, l) else takS (0, l) sz.toNat := by unfold rnumS; rw [if_neg (by simp)]
    rw [hs]
    by_cases h18 : 1 ≤ sz ∧ sz ≤ 8
    · rw [if_neg (by simpa using h18)]
      obtain ⟨z, rfl⟩ : ∃ z : Nat, sz = (z : Int) := ⟨sz.toNat, by omega⟩
      rw [Int.toNat_natCast]
      have h2 : ¬ (z : Int) < 1 := by omega
      have h3 : ¬ (8 : Int) < (z : Int) := by omega
      by_cases hsh : l.length < z
      · have hx : rnumV (0, l) (z : Int) = 0 := by unfold rnumV; rw [if_neg (fun e => by have := e.2.2; simp only [Int.toNat_natCast] at this; omega)]
        have e2 : takS (0, l) z = (4, l) := by unfold takS; rw [if_pos hsh]
        rw [hx, e2]
        have h1 : (k : Int) < (z : Int) := by omega
        have HR := Lib.hid (NRet.mk (s' := (4, l)) (x := .int .u64 0) HN.out (below_alloc (below_alloc (Below.refl _ _) (.cells (nrow (.slice p k c) 4) 46)) (.cells (nrow (.slice p k c) 4) 46)))
        clear hs hx ek e2 hsh h18 hbt
        go_enter Try.func19, Try.ntmps19
        go_wp2_with fail
        refine bodyPost_ret (v := .tuple #[.agg (nrow (.slice p k c) 4), .int .u64 0, .int .i64 4]) (results_mr Try.results19 _ _ _ _ _ _ (w.heap.size + 1) rfl ?_ ?_ rfl rfl) rfl ?_
        · go_simp
        · go_simp
        · exact HR.out
      · have hx : rnumV (0, l) (z : Int) = joinN (l.take z) := by unfold rnumV; rw [if_pos ⟨by simp, h18, by simp only [Int.toNat_natCast]; omega⟩]; rfl
        have e2 : takS (0, l) z = (0, l.drop z) := by unfold takS; rw [if_neg hsh]
        rw [hx, e2]
        have h1 : ¬ (k : Int) < (z : Int) := by omega
        obtain ⟨p', hlo, hnd⟩ := HN.out.drop (n := z) (by omega)
        have HND := Lib.hid hnd
        have HL := Lib.hid (show z ≤ l.length ∧ z ≤ 8 ∧ k = l.length ∧ 1 ≤ z by omega)
        have HBt := Lib.hid hbt
        have HR0 := Lib.hid (m0row w (nrow (.slice p k c) 0) #[.slice none 0 0, .int .i64 0] 46)
        have HB0 := Lib.hid (below_alloc (below_alloc (Below.refl w.heap.size w) (.cells (nrow (.slice p k c) 0) 46)) (.cells #[.slice none 0 0, .int .i64 0] 46))
        have HB := Lib.hid (below_alloc (below_alloc (Below.refl w.heap.size w) (.cells (nrow (.slice p' (k - z) (c - z)) 0) 46)) (.cells (nrow (.slice p' (k - z) (c - z)) 0) 46))
        have HR := Lib.hid (NRet.mk (s' := (0, l.drop z)) (x := .int .u64 (joinN (l.take z) : Int)) hnd HB.out)
        obtain ⟨a2, ea2⟩ : ∃ a, a = joinN (l.take z) := ⟨_, rfl⟩
        rw [← ea2] at HR ⊢
        have Ea := Lib.hid ea2
        clear hs hx ek e2 hsh hnd h18 hbt ea2
        go_enter Try.func19, Try.ntmps19
        go_wp2_with fail
        go_loopw [7, 8] (fun y i wr => ∃ j : Nat, j ≤ z ∧ i = .int .i64 j ∧ y = .int .u64 (joinN (l.take j) : Int) ∧ wr = (w.alloc (.cells (nrow (.slice p k c) 0) 46)).alloc (.cells #[.slice none 0 0, .int .i64 0] 46)) (fun _ i _ => z - (intOf i).toNat)
        case atStart => exact ⟨0, Nat.zero_le _, rfl, rfl, rfl⟩
        case round =>
          obtain ⟨j, hj, rfl, rfl, hwr⟩ := hrel
          subst hwr
          by_cases hjn : j < z
          · have hj0 : (0 : Int) ≤ (j : Int) := by omega
            have hj1 : (j : Int) < (z : Int) := by omega
            have hj2 : (j : Int) < (k : Int) := by have := HL.out; omega
            have hjb : (j : Int) < 8 := by have := HL.out; omega
            have hjl : j < l.length := by have := HL.out; omega
            obtain ⟨b, o, hp, hby⟩ : ∃ b o, p = some ⟨b, o, none⟩ ∧ BytesAt w b o l := by
              obtain ⟨p0, c0, e, hh, _⟩ := HN.out
              cases e
              rcases hh with h | ⟨b, o, _, e, h⟩
              · rw [h] at hjl; simp at hjl
              · exact ⟨b, o, e, h⟩
            subst hp
            have hcj := (hby.grow HB0.out).2 j hjl
            have hx := HBt.out j
            have ht : l.take (j + 1) = l.take j ++ [l.getD j 0] := by rw [List.take_add_one, List.getElem?_eq_getElem hjl]; simp [List.getD, hjl]
            obtain ⟨x, ex⟩ : ∃ x, x = l.getD j 0 := ⟨_, rfl⟩
            rw [← ex] at hcj hx ht
            have hjs : joinN (l.take (j + 1)) = joinN (l.take j) * 256 + x := by rw [ht, join_snoc]
            have hlt := join_lt (l.take (j + 1)) (bts_take HBt.out _)
            have hpow : (2 : Nat) ^ (8 * (l.take (j + 1)).length) ≤ 18446744073709551616 := by
              rw [show (18446744073709551616 : Nat) = 2 ^ 64 from rfl]
              refine Nat.pow_le_pow_right (by decide) ?_
              rw [List.length_take]; have := HL.out; omega
            obtain ⟨b2, eb2⟩ : ∃ a, a = joinN (l.take (j + 1)) := ⟨_, rfl⟩
            obtain ⟨a, ea⟩ : ∃ a, a = joinN (l.take j) := ⟨_, rfl⟩
            rw [← eb2, ← ea] at hjs
            rw [← eb2] at hlt
            rw [← ea]
            obtain ⟨y, ey⟩ : ∃ y, y = a * 256 := ⟨_, rfl⟩
            have hsh : IntKind.u64.wrap ((a : Int) * 256) = (y : Int) := by rw [IntWalk.u64_in _ (by omega)]; omega
            have hcx : IntKind.u64.wrap (x : Int) = (x : Int) := IntWalk.u64_in _ (by omega)
            have hor : IntKind.u64.wrap ((y : Int) + (x : Int)) = (b2 : Int) := by rw [IntWalk.u64_in _ (by omega)]; omega
            have Eb2 := Lib.hid eb2
            clear hby hx ht ex hjs hlt hpow eb2 ea ey hjl
            go_wp2_with fail
            go_roundw
            case rel => exact ⟨j + 1, by omega, by go_num, by rw [← Eb2.out], by first | trivial | rfl⟩
            case measure => simp [intOf]; omega
          · obtain rfl : j = z := by omega
            rw [← Ea.out]
            generalize k - j = kz at *
            generalize c - j = cz at *
            go_wp2_with fail
            refine bodyPost_ret (v := .tuple #[.agg (nrow (.slice p' kz cz) 0), .int .u64 (a2 : Int), .int .i64 0]) (results_mr Try.results19 _ _ _ _ _ _ (w.heap.size + 1) rfl ?_ ?_ rfl rfl) rfl ?_
            · go_simp
            · go_simp
            · exact HR.out
    · rw [if_pos h18]
      have hx : rnumV (0, l) sz = 0 := by unfold rnumV; rw [if_neg (fun e => h18 e.2.1)]
      rw [hx]
      have HR := Lib.hid (NRet.mk (s' := (2, l)) (x := .int .u64 0) HN.out (below_alloc (below_alloc (Below.refl _ _) (.cells (nrow (.slice p k c) 2) 46)) (.cells (nrow (.slice p k c) 2) 46)))
      clear hs hx ek hbt
      by_cases h1 : sz < 1
      · clear h18
        go_enter Try.func19, Try.ntmps19
        go_wp2_with fail
        refine bodyPost_ret (v := .tuple #[.agg (nrow (.slice p k c) 2), .int .u64 0, .int .i64 2]) (results_mr Try.results19 _ _ _ _ _ _ (w.heap.size + 1) rfl ?_ ?_ rfl rfl) rfl ?_
        · go_simp
        · go_simp
        · exact HR.out
      · have h8 : (8 : Int) < sz := by omega
        clear h18
        go_enter Try.func19, Try.ntmps19
        go_wp2_with fail
        refine bodyPost_ret (v := .tuple #[.agg (nrow (.slice p k c) 2), .int .u64 0, .int .i64 2]) (results_mr Try.results19 _ _ _ _ _ _ (w.heap.size + 1) rfl ?_ ?_ rfl rfl) rfl ?_
        · go_simp
        · go_simp
        · exact HR.out
  · have hs : rnumS (er, l) sz = (er, l) := by unfold rnumS; rw [if_pos her]
    have hx : rnumV (er, l) sz = 0 := by unfold rnumV; rw [if_neg (fun e => her e.1)]
    rw [hs, hx]
    have her' : (er != 0) = true := by simpa using her
    have HR := Lib.hid (NRet.mk (s' := (er, l)) (x := .int .u64 0) HN.out (below_alloc (below_alloc (Below.refl w.heap.size w) (.cells (nrow (.slice p k c) er) 46)) (.cells (nrow (.slice p k c) er) 46)).drew)
    clear hs hx ek hbt
    go_enter Try.func19, Try.ntmps19
    go_wp2_with fail
    go_region
    go_wp2_with fail
    refine bodyPost_ret (v := .tuple #[.agg (nrow (.slice p k c) er), .int .u64 0, .int .i64 er]) (results_mr Try.results19 _ _ _ _ _ _ (w.heap.size + 1) rfl ?_ ?_ rfl rfl) rfl ?_
    · go_simp
    · go_simp
    · exact HR.out

set_option maxHeartbeats 1000000 in
set_option maxRecDepth 100000 in
theorem rleft_c (v : Value) (bb : Option Nat) (s : Ws) (w : World) (hv : NV w bb v s.2) :
    Calls Try.prog 23 #[.agg (nrow v s.1)] w fun e w' => e = .returned (.int .i64 (leftS s : Int)) ∧ Below w.heap.size w w' := by
  obtain ⟨er, l⟩ := s
  obtain ⟨p, c, rfl, _⟩ := hv
  simp only
  by_cases her : er = 0
  · subst her
    have hs : leftS (0, l) = l.length := by unfold leftS; rw [if_neg (by simp)]
    rw [hs]
    generalize l.length = k at *
    clear hs
    go_enter Try.func23, Try.ntmps23
    go_wp2_with fail
    go_ret
    exact ⟨rfl, below_alloc (Below.refl _ _) _⟩
  · have hs : leftS (er, l) = 0 := by unfold leftS; rw [if_pos her]
    rw [hs]
    have her' : (er != 0) = true := by simpa using her
    generalize l.length = k at *
    clear hs
    go_enter Try.func23, Try.ntmps23
    go_wp2_with fail
    go_ret
    exact ⟨rfl, below_alloc (Below.refl _ _) _⟩
set_option maxHeartbeats 1000000 in
set_option maxRecDepth 100000 in
theorem rdone_c (v : Value) (bb : Option Nat) (s : Ws) (w : World) (hv : NV w bb v s.2) (hl : s.2.length ≤ 65536) :
    Calls Try.prog 25 #[.agg (nrow v s.1)] w fun e w' => e = .returned (.bool (doneS s)) ∧ Below w.heap.size w w' := by
  obtain ⟨er, l⟩ := s
  simp only at hv hl
  have HN := Lib.hid hv
  obtain ⟨p, c, rfl, _⟩ := hv
  obtain ⟨n, en⟩ : ∃ n, n = l.length := ⟨_, rfl⟩
  have hnb : (n : Int) ≤ 65536 := by omega
  have Hn := Lib.hid en
  rw [← en] at HN ⊢
  have HB := Lib.hid (below_alloc (Below.refl w.heap.size w) (.cells (nrow (.slice p n c) er) 46))
  clear en hl
  go_enter Try.func25, Try.ntmps25
  go_wp2_with fail
  go_loopw [3] (fun i wr => ∃ j : Nat, j ≤ n ∧ i = .int .i64 j ∧ (∀ i, i < j → l.getD i 0 = 0) ∧ wr = w.alloc (.cells (nrow (.slice p n c) er) 46)) (fun i _ => n - (intOf i).toNat)
  case atStart => exact ⟨0, Nat.zero_le _, rfl, fun i hi => absurd hi (by omega), rfl⟩
  case round =>
    obtain ⟨j, hj, rfl, hz, hwr⟩ := hrel
    subst hwr
    have HZ := Lib.hid hz
    clear hz
    by_cases hjn : j < n
    · have hj0 : (0 : Int) ≤ (j : Int) := by omega
      have hj1 : (j : Int) < (n : Int) := by omega
      have hjb : (j : Int) < 65536 := by omega
      have hjl : j < l.length := by rw [← Hn.out]; exact hjn
      obtain ⟨b, o, hp, hby⟩ : ∃ b o, p = some ⟨b, o, none⟩ ∧ BytesAt w b o l := by
        obtain ⟨p0, c0, e, hh, _⟩ := HN.out
        cases e
        rcases hh with h | ⟨b, o, _, e, h⟩
        · rw [h] at hjl; simp at hjl
        · exact ⟨b, o, e, h⟩
      subst hp
      have hcj := (hby.grow HB.out).2 j hjl
      have HJ := Lib.hid hjl
      obtain ⟨x, ex⟩ : ∃ x, x = l.getD j 0 := ⟨_, rfl⟩
      rw [← ex] at hcj
      have Ex := Lib.hid ex
      clear hby hjl ex
      by_cases hx : x = 0
      · subst hx
        go_wp2_with fail
        go_roundw
        case rel => exact ⟨j + 1, by omega, by go_num, fun i hi => by
          by_cases e : i = j
          · subst e; exact Ex.out.symm
          · exact HZ.out i (by omega), by first | trivial | rfl⟩
        case measure => simp [intOf]; omega
      · have hx' : ((x : Int) != 0) = true := by simpa using hx
        have HF := Lib.hid (show doneS (er, l) = false by unfold doneS; rw [done_not l j HJ.out (by rw [← Ex.out]; exact hx), Bool.and_false])
        clear hx
        go_wp2_with fail
        go_ret
        exact ⟨by rw [HF.out]; rfl, HB.out⟩
    · obtain rfl : j = n := by omega
      have HF := Lib.hid (show doneS (er, l) = (er == 0) by unfold doneS; rw [done_zero l j HZ.out (by rw [← Hn.out]; exact Nat.le_refl _), Bool.and_true]; by_cases h : er = 0 <;> simp [h])
      go_wp2_with fail
      go_ret
      exact ⟨by rw [HF.out]; rfl, HB.out⟩
end Go.Proofs.Ytbhgmefdimjlaaa
