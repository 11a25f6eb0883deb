/-
  Package octet: what a reader takes.
-/
import Derived.Test.YtbhgmefdimjlaaaOctReader
namespace Go.Proofs.Ytbhgmefdimjlaaa
open Go.RowKit Go.Hold Go.Sh Go.Oc

/-- What is taken. -/
def tkL (l : List Nat) (n : Nat) : List Nat := if l.length < n then [] else l.take n
theorem Rd.stop {w : World} {g : Nat} {bb : Option Nat} {s : Ws} (h : Rd w g bb s) :
    Calls Try.prog 35 #[.pointer (some ⟨g, 0, none⟩)] w fun e w' => e = .returned (.int .i64 s.1) ∧ w' = w := by
  obtain ⟨v, hr⟩ := h.row
  exact rstopped_c g true s.1 w (hr.cellAt 0 rfl) (hr.cellAt 1 rfl)
theorem RB.drop {w : World} {bb : Option Nat} {b o n cap : Nat} {l : List Nat} (h : RB w bb (some ⟨b, o, none⟩) l) (hc : l.length ≤ cap) : RB w bb (some ⟨b, adv o n cap, none⟩) (l.drop n) := by
  rcases h with ⟨h, _⟩ | ⟨b', o', e1, e2, h⟩
  · cases h
  · cases e2
    exact .inr ⟨b, _, e1, rfl, h.adv hc⟩
set_option maxHeartbeats 600000 in
set_option maxRecDepth 100000 in
theorem rtake_c (g : Nat) (bb : Option Nat) (l : List Nat) (n : Nat) (w : World) (h : Rd w g bb (0, l)) :
    Calls Try.prog 36 #[.pointer (some ⟨g, 0, none⟩), .int .i64 (n : Int)] w fun e w' => ∃ p c, e = .returned (.tuple #[.slice p (tkL l n).length c, .int .i64 (takS (0, l) n).1]) ∧ Bs0 w' p (tkL l n) ∧ (p = none → c = 0) ∧ RStep w g bb (takS (0, l) n) w' := by
  have H := Lib.hid h
  obtain ⟨p, c, hr, hb, hpc, hlc, hap, hle, hbl⟩ := h
  simp only at hr hb hlc hle
  have hc1 := hr.cellAt 1 (show (rrow true 0 (.slice p l.length c))[1]? = some (.int .i64 0) from rfl)
  have hc2 := hr.cellAt 2 (show (rrow true 0 (.slice p l.length c))[2]? = some (.slice p l.length c) from rfl)
  have hf1 := hr.frozenAt 1
  have hf2 := hr.frozenAt 2
  have hgl := hr.2.2
  obtain ⟨k, ek⟩ : ∃ k, k = l.length := ⟨_, rfl⟩
  by_cases hs : l.length < n
  · have e1 : tkL l n = [] := by unfold tkL; rw [if_pos hs]
    have e2 : takS (0, l) n = (4, l) := by unfold takS; rw [if_pos hs]
    rw [e1, e2]
    have h1 : (k : Int) < (n : Int) := by omega
    have KF := Lib.hid (fail_c g 4 0 w hc1 hf1)
    have HE := Lib.hid (RStep.err H.out 4)
    rw [← ek] at hc2
    clear hr hb hpc hlc hap hle hbl hs e1 e2 hc1 hf1 hf2 ek
    go_enter Try.func36, Try.ntmps36
    go_wp2_with fail
    refine KF.out.mono ?_
    rintro e w' ⟨rfl, rfl⟩
    go_wp2_with fail
    refine bodyPost_ret (v := .tuple #[.slice none 0 0, .int .i64 4]) (results_tmp2 Try.results36 _ _ _) rfl ⟨none, 0, rfl, .inl rfl, fun _ => rfl, HE.out⟩
  · have e1 : tkL l n = l.take n := by unfold tkL; rw [if_neg hs]
    have e2 : takS (0, l) n = (0, l.drop n) := by unfold takS; rw [if_neg hs]
    rw [e1, e2]
    have h1 : ¬ (k : Int) < (n : Int) := by omega
    have hlen : (l.take n).length = n := by rw [List.length_take]; omega
    have hh := slB_h p k c n (by omega)
    have hbt := hb.any.take n
    have hld : (l.drop n).length = k - n := by rw [List.length_drop, ek]
    have hc64 : c ≤ c := Nat.le_refl _
    rcases hb with ⟨rfl, rfl⟩ | ⟨b, o, rfl, rfl, hb⟩
    · obtain rfl := hpc rfl
      obtain rfl : n = 0 := by simp at hs; exact hs
      obtain rfl : k = 0 := by rw [ek]; rfl
      have hlo := slB_loN
      have HE := Lib.hid (RStep.put H.out (.inl ⟨rfl, rfl⟩) (fun _ => rfl) (Nat.le_refl _) (by simp) : RStep w g bb (0, []) _)
      clear hr hpc hlc hap hle hbl hs e1 e2 hc1 hf1 ek hlen hld hbt
      simp only [List.length_nil, List.take_nil, List.drop_nil] at *
      rw [show ((0 : Nat) : Int) = 0 from rfl] at *
      go_enter Try.func36, Try.ntmps36
      go_wp2_with fail
      refine bodyPost_ret (v := .tuple #[.slice none 0 0, .int .i64 0]) (results_tmp2 Try.results36 _ _ _) rfl ⟨none, 0, rfl, .inl rfl, fun _ => rfl, HE.out⟩
    · have hlo := slB_lo b o k c n (by omega)
      have hrb : RB w (some b) (some ⟨b, adv o n c, none⟩) (l.drop n) := RB.drop (.inr ⟨b, o, rfl, rfl, hb⟩) hlc
      have HE0 : RStep w g (some b) (0, l.drop n) _ := RStep.put (c := c - n) H.out hrb (fun e => by cases e) (by omega) (by omega)
      have HBt := Lib.hid (show Bs0 (w.setCell ⟨g, 2, none⟩ (.slice (some ⟨b, adv o n c, none⟩) (l.drop n).length (c - n))) (some ⟨b, o, none⟩) (l.take n) from
        hbt.moves (Moves.setCell (Moves.refl w g none) 2 _) (fun b' o' e => by cases e; exact ⟨fun e => hap (by rw [e]), fun e => by cases e⟩))
      rw [hld] at HE0 HBt
      have HE := Lib.hid HE0
      rw [← ek] at hc2
      clear hr hpc hlc hap hle hbl hs e1 e2 hc1 hf1 ek hrb hld hbt hb HE0
      generalize l.take n = t at *
      subst hlen
      go_enter Try.func36, Try.ntmps36
      go_wp2_with fail
      refine bodyPost_ret (v := .tuple #[.slice (some ⟨b, o, none⟩) t.length c, .int .i64 0]) (results_tmp2 Try.results36 _ _ _) rfl ⟨_, _, rfl, HBt.out, (fun e => by cases e), HE.out⟩

set_option maxHeartbeats 600000 in
set_option maxRecDepth 100000 in
theorem joined_c (p : Option Addr) (l : List Nat) (n cap : Nat) (w : World) (hn : n = l.length) (hl : l.length ≤ 8) (hB : Bs0 w p l) (hlb : ∀ i, l.getD i 0 < 256) :
    Calls Try.prog 37 #[.slice p n cap] w fun e w' => e = .returned (.int .u64 (joinN l : Int)) ∧ w' = w := by
  have HB := Lib.hid hB
  have Hn := Lib.hid hn
  have HL := Lib.hid hl
  have HLb := Lib.hid hlb
  clear hB hn hl hlb
  go_enter Try.func37, Try.ntmps37
  go_wp2_with fail
  go_loopw [3, 8] (fun z i wr => ∃ j : Nat, j ≤ n ∧ i = .int .i64 j ∧ z = .int .u64 (joinN (l.take j) : Int) ∧ wr = w) (fun _ i _ => n - (intOf i).toNat)
  case atStart => exact ⟨0, Nat.zero_le _, rfl, rfl, rfl⟩
  case round =>
    obtain ⟨j, hj, rfl, rfl, hwr⟩ := hrel
    subst hwr
    by_cases hjn : j < n
    · have hj0 : (0 : Int) ≤ (j : Int) := by omega
      have hj1 : (j : Int) < (n : Int) := by omega
      have hjb : (j : Int) < 8 := by have := HL.out; have := Hn.out; omega
      have hjl : j < l.length := by rw [← Hn.out]; exact hjn
      obtain ⟨b, o, hp, hby⟩ : ∃ b o, p = some ⟨b, o, none⟩ ∧ BytesAt wr b o l := by
        rcases HB.out with rfl | h
        · simp at hjl
        · exact h
      subst hp
      have hcj := hby.2 j hjl
      have hx := HLb.out j
      have ht : l.take (j + 1) = l.take j ++ [l.getD j 0] := by rw [List.take_add_one, List.getElem?_eq_getElem hjl]; simp [List.getD, hjl]
      obtain ⟨x, ex⟩ : ∃ x, x = l.getD j 0 := ⟨_, rfl⟩
      rw [← ex] at hcj hx ht
      have hjs : joinN (l.take (j + 1)) = joinN (l.take j) * 256 + x := by rw [ht, join_snoc]
      have hlt := join_lt (l.take (j + 1)) (bts_take HLb.out _)
      have hpow : (2 : Nat) ^ (8 * (l.take (j + 1)).length) ≤ 18446744073709551616 := by
        rw [show (18446744073709551616 : Nat) = 2 ^ 64 from rfl]
        refine Nat.pow_le_pow_right (by decide) ?_
        rw [List.length_take]; have := HL.out; omega
      obtain ⟨a2, ea2⟩ : ∃ a, a = joinN (l.take (j + 1)) := ⟨_, rfl⟩
      obtain ⟨a, ea⟩ : ∃ a, a = joinN (l.take j) := ⟨_, rfl⟩
      rw [← ea2, ← ea] at hjs
      rw [← ea2] at hlt
      rw [← ea]
      obtain ⟨y, ey⟩ : ∃ y, y = a * 256 := ⟨_, rfl⟩
      have hsh : IntKind.u64.wrap ((a : Int) * 256) = (y : Int) := by rw [IntWalk.u64_in _ (by omega)]; omega
      have hcx : IntKind.u64.wrap (x : Int) = (x : Int) := IntWalk.u64_in _ (by omega)
      have hor : bits .or .u64 (y : Int) (x : Int) = (a2 : Int) := by rw [bits_or_u64_nat y x (by omega) (by omega), ey, or_add a x hx, hjs]
      have Ea2 := Lib.hid ea2
      clear hby hx ht ex hjs hlt hpow ea2 ea ey hjl
      go_wp2_with fail
      go_roundw
      case rel => exact ⟨j + 1, by omega, by go_num, by rw [← Ea2.out], by first | trivial | rfl⟩
      case measure => simp [intOf]; omega
    · obtain rfl : j = n := by omega
      have hall : l.take j = l := List.take_of_length_le (by rw [← Hn.out]; exact Nat.le_refl _)
      rw [hall]
      clear hall
      go_wp2_with fail
      go_ret
      exact ⟨rfl, rfl⟩
end Go.Proofs.Ytbhgmefdimjlaaa
