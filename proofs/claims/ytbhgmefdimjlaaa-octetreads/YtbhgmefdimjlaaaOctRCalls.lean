/-
  Package octet: a reader's calls.
-/
import Derived.Test.YtbhgmefdimjlaaaOctTake
namespace Go.Proofs.Ytbhgmefdimjlaaa
open Go.RowKit Go.Hold Go.Sh Go.Oc

/-- What 'stopped' answers of a reader, or of none. -/
def RStop (w : World) (v : Value) (er : Int) : Prop := Calls Try.prog 35 #[v] w fun e w' => e = .returned (.int .i64 er) ∧ w' = w
theorem rdNum_stop (po : Option Addr) (er : Int) (her : ¬ er = 0) (a : Value) (w : World) (h : RStop w (.pointer po) er) : Calls Try.prog 18 #[.pointer po, a] w fun e w' => e = .returned (.tuple #[.int .u64 0, .int .i64 er]) ∧ w' = w := by
  have HS := Lib.hid h
  unfold RStop at HS
  clear h
  go_enter Try.func18, Try.ntmps18
  go_wp2_with fail
  refine HS.out.mono ?_
  rintro e w' ⟨rfl, rfl⟩
  go_wp2_with fail
  refine bodyPost_ret (v := .tuple #[.int .u64 0, .int .i64 er]) (results_tmp2 Try.results18 _ _ _) rfl ⟨rfl, rfl⟩
theorem rdBytes_stop (po : Option Addr) (er : Int) (her : ¬ er = 0) (a : Value) (w : World) (h : RStop w (.pointer po) er) : Calls Try.prog 20 #[.pointer po, a] w fun e w' => e = .returned (.tuple #[.slice none 0 0, .int .i64 er]) ∧ w' = w := by
  have HS := Lib.hid h
  unfold RStop at HS
  clear h
  go_enter Try.func20, Try.ntmps20
  go_wp2_with fail
  refine HS.out.mono ?_
  rintro e w' ⟨rfl, rfl⟩
  go_wp2_with fail
  refine bodyPost_ret (v := .tuple #[.slice none 0 0, .int .i64 er]) (results_tmp2 Try.results20 _ _ _) rfl ⟨rfl, rfl⟩
theorem rdLeft_stop (po : Option Addr) (er : Int) (her : ¬ er = 0) (w : World) (h : RStop w (.pointer po) er) : Calls Try.prog 22 #[.pointer po] w fun e w' => e = .returned (.int .i64 0) ∧ w' = w := by
  have HS := Lib.hid h
  unfold RStop at HS
  have h2 : (er != 0) = true := by simpa using her
  clear h
  go_enter Try.func22, Try.ntmps22
  go_wp2_with fail
  refine HS.out.mono ?_
  rintro e w' ⟨rfl, rfl⟩
  go_wp2_with fail
  go_ret
  exact ⟨rfl, rfl⟩
theorem rdDone_stop (po : Option Addr) (er : Int) (her : ¬ er = 0) (w : World) (h : RStop w (.pointer po) er) : Calls Try.prog 24 #[.pointer po] w fun e w' => e = .returned (.bool false) ∧ w' = w := by
  have HS := Lib.hid h
  unfold RStop at HS
  have h2 : (er != 0) = true := by simpa using her
  clear h
  go_enter Try.func24, Try.ntmps24
  go_wp2_with fail
  refine HS.out.mono ?_
  rintro e w' ⟨rfl, rfl⟩
  go_wp2_with fail
  go_ret
  exact ⟨rfl, rfl⟩

set_option maxHeartbeats 1000000 in
set_option maxRecDepth 100000 in
theorem rdNum_c (g : Nat) (bb : Option Nat) (s : Ws) (sz : Int) (w : World) (h : Rd w g bb s) (hb : ∀ i, s.2.getD i 0 < 256) :
    Calls Try.prog 18 #[.pointer (some ⟨g, 0, none⟩), .int .i64 sz] w fun e w' => e = .returned (.tuple #[.int .u64 (rnumV s sz : Int), .int .i64 (rnumS s sz).1]) ∧ RStep w g bb (rnumS s sz) w' := by
  have HS := Lib.hid h.stop
  obtain ⟨er, l⟩ := s
  by_cases her : er = 0
  · subst her
    have hs : rnumS (0, l) sz = if ¬ (1 ≤ sz ∧ sz ≤ 8) then (2, l) else takS (0, l) sz.toNat := by unfold rnumS; rw [if_neg (by simp)]
    rw [hs]
    by_cases h18 : 1 ≤ sz ∧ sz ≤ 8
    · rw [if_neg (by simpa using h18)]
      obtain ⟨z, rfl⟩ : ∃ z : Nat, sz = (z : Int) := ⟨sz.toNat, by omega⟩
      rw [Int.toNat_natCast]
      have KT := Lib.hid (rtake_c g bb l z w h)
      have hv : rnumV (0, l) (z : Int) = joinN (tkL l z) := by
        unfold rnumV tkL
        simp only [Int.toNat_natCast]
        by_cases hx : l.length < z
        · rw [if_neg (by omega), if_pos hx]; rfl
        · rw [if_pos ⟨by simp, h18, by omega⟩, if_neg hx]
      rw [hv]
      have HT := Lib.hid (show (tkL l z).length ≤ 8 ∧ ∀ i, (tkL l z).getD i 0 < 256 by
        unfold tkL; split
        · exact ⟨by simp, fun i => by simp⟩
        · exact ⟨by rw [List.length_take]; omega, bts_take hb _⟩)
      have h1 : ¬ (z : Int) < 1 := by omega
      have h8 : ¬ (8 : Int) < (z : Int) := by omega
      obtain ⟨x, ex⟩ : ∃ x, x = joinN (tkL l z) := ⟨_, rfl⟩
      rw [← ex]
      have Ex := Lib.hid ex
      clear hs h hb hv h18 ex
      go_enter Try.func18, Try.ntmps18
      go_wp2_with fail
      refine HS.out.mono ?_
      rintro e w' ⟨rfl, rfl⟩
      go_wp2_with fail
      refine KT.out.mono ?_
      rintro e w1 ⟨p, c, rfl, hb1, _, hst⟩
      have KJ := Lib.hid (joined_c p (tkL l z) (tkL l z).length c w1 rfl HT.out.1 hb1 HT.out.2)
      have HR := Lib.hid hst
      clear hb1 hst KT
      rw [← Ex.out] at KJ
      generalize (tkL l z).length = k at *
      go_wp2_with fail
      refine KJ.out.mono ?_
      rintro e w' ⟨rfl, rfl⟩
      go_wp2_with fail
      refine bodyPost_ret (v := .tuple #[.int .u64 (x : Int), .int .i64 (takS (0, l) z).1]) (results_tmp2 Try.results18 _ _ _) rfl ⟨rfl, HR.out⟩
    · rw [if_pos h18]
      have hv : rnumV (0, l) sz = 0 := by unfold rnumV; rw [if_neg (fun e => h18 e.2.1)]
      rw [hv]
      obtain ⟨v, hr⟩ := h.row
      have KF := Lib.hid (fail_c g 2 0 w (hr.cellAt 1 rfl) (hr.frozenAt 1))
      have HE := Lib.hid (RStep.err h 2)
      clear hs h hb hv hr
      by_cases h1 : sz < 1
      · clear h18
        go_enter Try.func18, Try.ntmps18
        go_wp2_with fail
        refine HS.out.mono ?_
        rintro e w' ⟨rfl, rfl⟩
        go_wp2_with fail
        refine KF.out.mono ?_
        rintro e w' ⟨rfl, rfl⟩
        go_wp2_with fail
        refine bodyPost_ret (v := .tuple #[.int .u64 0, .int .i64 2]) (results_tmp2 Try.results18 _ _ _) rfl ⟨rfl, HE.out⟩
      · have h8 : (8 : Int) < sz := by omega
        clear h18
        go_enter Try.func18, Try.ntmps18
        go_wp2_with fail
        refine HS.out.mono ?_
        rintro e w' ⟨rfl, rfl⟩
        go_wp2_with fail
        refine KF.out.mono ?_
        rintro e w' ⟨rfl, rfl⟩
        go_wp2_with fail
        refine bodyPost_ret (v := .tuple #[.int .u64 0, .int .i64 2]) (results_tmp2 Try.results18 _ _ _) rfl ⟨rfl, HE.out⟩
  · have hs : rnumS (er, l) sz = (er, l) := by unfold rnumS; rw [if_pos her]
    have hv : rnumV (er, l) sz = 0 := by unfold rnumV; rw [if_neg (fun e => her e.1)]
    rw [hs, hv]
    refine (rdNum_stop _ er her _ w HS.out).mono ?_
    rintro e w' ⟨rfl, rfl⟩
    exact ⟨rfl, RStep.refl h⟩

set_option maxHeartbeats 1000000 in
set_option maxRecDepth 100000 in
theorem rdBytes_c (g : Nat) (bb : Option Nat) (s : Ws) (n : Int) (w : World) (h : Rd w g bb s) :
    Calls Try.prog 20 #[.pointer (some ⟨g, 0, none⟩), .int .i64 n] w fun e w' => ∃ v, e = .returned (.tuple #[v, .int .i64 (rbytS s n).1]) ∧ OwnB w' w.heap.size v (rbytV s n) ∧ RStep w g bb (rbytS s n) w' := by
  have HS := Lib.hid h.stop
  obtain ⟨er, l⟩ := s
  by_cases her : er = 0
  · subst her
    have hs : rbytS (0, l) n = if n < 0 then (2, l) else takS (0, l) n.toNat := by unfold rbytS; rw [if_neg (by simp)]
    rw [hs]
    by_cases h0 : n < 0
    · rw [if_pos h0]
      have hv : rbytV (0, l) n = [] := by unfold rbytV; rw [if_neg (fun e => by have := e.2.1; omega)]
      rw [hv]
      obtain ⟨v, hr⟩ := h.row
      have KF := Lib.hid (fail_c g 2 0 w (hr.cellAt 1 rfl) (hr.frozenAt 1))
      have HE := Lib.hid (RStep.err h 2)
      clear hs h hv hr
      go_enter Try.func20, Try.ntmps20
      go_wp2_with fail
      refine HS.out.mono ?_
      rintro e w' ⟨rfl, rfl⟩
      go_wp2_with fail
      refine KF.out.mono ?_
      rintro e w' ⟨rfl, rfl⟩
      go_wp2_with fail
      refine bodyPost_ret (v := .tuple #[.slice none 0 0, .int .i64 2]) (results_tmp2 Try.results20 _ _ _) rfl ⟨_, rfl, own_nil _ _, HE.out⟩
    · rw [if_neg h0]
      obtain ⟨z, rfl⟩ : ∃ z : Nat, n = (z : Int) := ⟨n.toNat, by omega⟩
      rw [Int.toNat_natCast]
      have KT := Lib.hid (rtake_c g bb l z w h)
      have hv : rbytV (0, l) (z : Int) = tkL l z := by
        unfold rbytV tkL
        simp only [Int.toNat_natCast]
        by_cases hx : l.length < z
        · rw [if_neg (by omega), if_pos hx]
        · rw [if_pos ⟨by simp, by omega, by omega⟩, if_neg hx]
      rw [hv]
      have HT := Lib.hid (show (tkL l z).length ≤ 16000000 by
        have := h.le
        simp only at this
        unfold tkL; split
        · simp
        · rw [List.length_take]; omega)
      clear hs h hv
      go_enter Try.func20, Try.ntmps20
      go_wp2_with fail
      refine HS.out.mono ?_
      rintro e w' ⟨rfl, rfl⟩
      go_wp2_with fail
      refine KT.out.mono ?_
      rintro e w1 ⟨p, c, rfl, hb1, hp1, hst⟩
      have KJ := Lib.hid (clone_c p (tkL l z) (tkL l z).length c w1 rfl hb1 hp1 HT.out)
      have HR := Lib.hid hst
      clear hb1 hp1 hst KT
      generalize (tkL l z).length = k at *
      go_wp2_with fail
      refine KJ.out.mono ?_
      rintro e w2 ⟨v2, rfl, ho2, hb2⟩
      have HO := Lib.hid ho2
      have HB := Lib.hid hb2
      clear ho2 hb2
      go_wp2_with fail
      refine bodyPost_ret (v := .tuple #[v2, .int .i64 (takS (0, l) z).1]) (results_tmp2 Try.results20 _ _ _) rfl ⟨_, rfl, HO.out.base HR.out.2.size, HR.out.grow HB.out⟩
  · have hs : rbytS (er, l) n = (er, l) := by unfold rbytS; rw [if_pos her]
    have hv : rbytV (er, l) n = [] := by unfold rbytV; rw [if_neg (fun e => her e.1)]
    rw [hs, hv]
    refine (rdBytes_stop _ er her _ w HS.out).mono ?_
    rintro e w' ⟨rfl, rfl⟩
    exact ⟨_, rfl, own_nil _ _, RStep.refl h⟩

set_option maxHeartbeats 1000000 in
set_option maxRecDepth 100000 in
theorem rdLeft_c (g : Nat) (bb : Option Nat) (s : Ws) (w : World) (h : Rd w g bb s) :
    Calls Try.prog 22 #[.pointer (some ⟨g, 0, none⟩)] w fun e w' => e = .returned (.int .i64 (leftS s : Int)) ∧ w' = w := by
  have HS := Lib.hid h.stop
  obtain ⟨er, l⟩ := s
  by_cases her : er = 0
  · subst her
    have hs : leftS (0, l) = l.length := by unfold leftS; rw [if_neg (by simp)]
    rw [hs]
    obtain ⟨p, c, hr, _⟩ := h
    simp only at hr
    have hc2 := hr.cellAt 2 (show (rrow true 0 (.slice p l.length c))[2]? = some (.slice p l.length c) from rfl)
    have hgl := hr.2.2
    clear hs hr
    generalize l.length = k at *
    go_enter Try.func22, Try.ntmps22
    go_wp2_with fail
    refine HS.out.mono ?_
    rintro e w' ⟨rfl, rfl⟩
    go_wp2_with fail
    go_ret
    exact ⟨rfl, rfl⟩
  · have hs : leftS (er, l) = 0 := by unfold leftS; rw [if_pos her]
    rw [hs]
    exact rdLeft_stop _ er her w HS.out
theorem done_zero (l : List Nat) (k : Nat) (h : ∀ i, i < k → l.getD i 0 = 0) (hk : l.length ≤ k) : l.all (· == 0) = true := by
  rw [List.all_eq_true]
  intro x hx
  obtain ⟨i, hi, rfl⟩ := List.getElem_of_mem hx
  have := h i (by omega)
  simpa [List.getD, hi] using this
theorem done_not (l : List Nat) (k : Nat) (hk : k < l.length) (h : l.getD k 0 ≠ 0) : l.all (· == 0) = false := by
  rw [List.all_eq_false]
  refine ⟨l[k], List.getElem_mem hk, ?_⟩
  simpa [List.getD, hk] using h
set_option maxHeartbeats 1000000 in
set_option maxRecDepth 100000 in
theorem rdDone_c (g : Nat) (bb : Option Nat) (s : Ws) (w : World) (h : Rd w g bb s) :
    Calls Try.prog 24 #[.pointer (some ⟨g, 0, none⟩)] w fun e w' => e = .returned (.bool (doneS s)) ∧ w' = w := by
  have HS := Lib.hid h.stop
  obtain ⟨er, l⟩ := s
  by_cases her : er = 0
  · subst her
    have hs : doneS (0, l) = l.all (· == 0) := by unfold doneS; simp
    rw [hs]
    have hle := h.le
    obtain ⟨p, c, hr, hb, _⟩ := h
    simp only at hr hb hle
    have hc2 := hr.cellAt 2 (show (rrow true 0 (.slice p l.length c))[2]? = some (.slice p l.length c) from rfl)
    have hgl := hr.2.2
    have HB := Lib.hid hb.any
    clear hs hr hb
    obtain ⟨n, en⟩ : ∃ n, n = l.length := ⟨_, rfl⟩
    have hnb : (n : Int) ≤ 65536 := by omega
    have Hn := Lib.hid en
    rw [← en] at hc2
    clear en hle
    go_enter Try.func24, Try.ntmps24
    go_wp2_with fail
    refine HS.out.mono ?_
    rintro e w' ⟨rfl, rfl⟩
    go_wp2_with fail
    go_loopw [13] (fun i wr => ∃ j : Nat, j ≤ n ∧ i = .int .i64 j ∧ (∀ i, i < j → l.getD i 0 = 0) ∧ wr = w') (fun i _ => n - (intOf i).toNat)
    case atStart => exact ⟨0, Nat.zero_le _, rfl, fun i hi => absurd hi (by omega), rfl⟩
    case round =>
      obtain ⟨j, hj, rfl, hz, hwr⟩ := hrel
      subst hwr
      have HZ := Lib.hid hz
      clear hz
      by_cases hjn : j < n
      · have hj0 : (0 : Int) ≤ (j : Int) := by omega
        have hj1 : (j : Int) < (n : Int) := by omega
        have hjb : (j : Int) < 65536 := by omega
        have hjl : j < l.length := by rw [← Hn.out]; exact hjn
        obtain ⟨b, o, hp, hby⟩ : ∃ b o, p = some ⟨b, o, none⟩ ∧ BytesAt wr b o l := by
          rcases HB.out with rfl | h
          · simp at hjl
          · exact h
        subst hp
        have hcj := hby.2 j hjl
        have HJ := Lib.hid hjl
        obtain ⟨x, ex⟩ : ∃ x, x = l.getD j 0 := ⟨_, rfl⟩
        rw [← ex] at hcj
        have Ex := Lib.hid ex
        clear hby hjl ex
        by_cases hx : x = 0
        · subst hx
          go_wp2_with fail
          go_roundw
          case rel => exact ⟨j + 1, by omega, by go_num, fun i hi => by
            by_cases e : i = j
            · subst e; exact Ex.out.symm
            · exact HZ.out i (by omega), by first | trivial | rfl⟩
          case measure => simp [intOf]; omega
        · have hx' : ((x : Int) != 0) = true := by simpa using hx
          have HF := Lib.hid (done_not l j HJ.out (by rw [← Ex.out]; exact hx))
          clear hx
          go_wp2_with fail
          go_ret
          exact ⟨by rw [HF.out]; rfl, rfl⟩
      · obtain rfl : j = n := by omega
        have HF := Lib.hid (done_zero l j HZ.out (by rw [← Hn.out]; exact Nat.le_refl _))
        go_wp2_with fail
        go_ret
        exact ⟨by rw [HF.out]; rfl, rfl⟩
  · have hs : doneS (er, l) = false := by unfold doneS; simp [her]
    rw [hs]
    exact rdDone_stop _ er her w HS.out
end Go.Proofs.Ytbhgmefdimjlaaa
