/-
  The reference's digits and spread: slices of numbers that a call makes itself.
-/
import Derived.Test.YtpilonikhokjeaaRefNum
import Derived.OwnWalk
namespace Go.Proofs.Ytpilonikhokjeaa
open Go.RowKit Go.Shelf Go.Hold

theorem info_int : (Try.prog.info? 3).map (fun i => (i.zero, i.size, i.bytes)) = some (some (.int .i64 0), 1, 8) := by kernel_rfl
/-- The cells of numbers. -/
def ints (l : List Nat) : List Value := l.map fun n : Nat => Value.int .i64 (n : Int)
theorem ints_length (l : List Nat) : (ints l).length = l.length := by simp [ints]
theorem ints_get (l : List Nat) (i : Nat) (h : i < l.length) : (ints l)[i]? = some (.int .i64 (l.getD i 0 : Nat)) := by simp [ints, h]
theorem ints_snoc (l : List Nat) (n : Nat) : ints (l ++ [n]) = ints l ++ [.int .i64 (n : Int)] := by simp [ints]
/-- A slice that owns numbers. -/
def Own (w : World) (B : Nat) (v : Value) (l : List Nat) : Prop := w.ownsRow B 3 1 v l.length (ints l)
theorem own_nil (w : World) (B : Nat) : Own w B (.slice none 0 0) [] := World.ownsRow_nil _ _ _ _
theorem Own.snoc {w : World} {B : Nat} {v : Value} {l : List Nat} {n : Nat} (h : w.ownsRow B 3 1 v (l.length + 1) (ints l ++ [.int .i64 (n : Int)])) : Own w B v (l ++ [n]) := by
  unfold Own; rw [ints_snoc, List.length_append]; exact h
theorem Own.below {w w' : World} {B : Nat} {v : Value} {l : List Nat} (h : Own w B v l) (hb : Below w.heap.size w w') : Own w' B v l :=
  h.kept (row := none) ⟨hb.os, hb.tape, hb.output, hb.size, fun k hk _ => hb.block k hk⟩ (by cases hv : v.ownBlock <;> simp)
theorem Own.mono {w : World} {B B' : Nat} {v : Value} {l : List Nat} (h : Own w B v l) (hB : B' ≤ B) : Own w B' v l := by
  refine ⟨h.1, ?_⟩
  rcases h.2 with hn | ⟨g, cap, cur, rfl, hb, rest⟩
  · exact .inl hn
  · exact .inr ⟨g, cap, cur, rfl, Nat.le_trans hB hb, rest⟩
/-- A slice that has elements has an address. -/
theorem Own.addr {w : World} {B : Nat} {v : Value} {l : List Nat} (h : Own w B v l) (hl : 0 < l.length) : ∃ g cap, v = .slice (some ⟨g, 0, none⟩) l.length cap ∧ B ≤ g ∧ g < w.heap.size ∧ l.length ≤ cap := by
  rcases h.2 with ⟨_, h0⟩ | ⟨g, cap, cur, rfl, hb, hg, hc, _⟩
  · omega
  · exact ⟨g, cap, rfl, hb, (Array.getElem?_eq_some_iff.1 hg).1, hc⟩
theorem Own.cell {w : World} {B g cap : Nat} {l : List Nat} (h : Own w B (.slice (some ⟨g, 0, none⟩) l.length cap) l) (i : Nat) (hi : i < l.length) : w.cell? ⟨g, i, none⟩ = some (.int .i64 (l.getD i 0 : Nat)) := by
  have := World.ownsRow.cellAt h i (by omega)
  rw [this, ints_get l i hi]

set_option maxHeartbeats 2000000 in
set_option maxRecDepth 100000 in
theorem digits_N (n : Nat) (w : World) :
    Calls Try.prog 57 #[kv n] w fun e w' => ∃ v, e = .returned v ∧ Own w' w.heap.size v (dg n 32) ∧ Below w.heap.size w w' := by
  obtain ⟨i0, hi, hz0, hz1, hz2⟩ := info_parts info_int
  go_enter Try.func57, Try.ntmps57
  go_wp2_with fail
  go_loopw [3, 4] (fun v i wr => ∃ k : Nat, k ≤ 32 ∧ i = .int .i64 k ∧ Own wr (w.heap.size + 1) v (dg n k) ∧ Below (w.heap.size + 1) (w.alloc (.cells (keyA n) 23)) wr) (fun _ i _ => 32 - (intOf i).toNat)
  case atStart => exact ⟨0, by decide, rfl, own_nil _ _, Below.refl _ _⟩
  case round =>
    obtain ⟨k, hk, rfl, hown, hbel⟩ := hrel
    by_cases hk32 : k < 32
    · have hcx : wr.cell? ⟨w.heap.size, k, none⟩ = some (.int .u8 (bt n k)) := by
        rw [hbel.cell (by simp)]; simp [keyA_get n k hk32]
      have hw := wrap_byte64 n k
      have hk0 : (0 : Int) ≤ (k : Int) := by omega
      have hk1 : (k : Int) < 32 := by omega
      have hsz := hbel.size
      have hsz : w.heap.size + 1 ≤ wr.heap.size := by simpa using hsz
      have Hown := Lib.hid hown
      have Hbel := Lib.hid hbel
      clear hown hbel
      go_wp2_with (at_builtin; refine wpList_append_own _ rfl _ _ 62 rfl (w.heap.size + 1) 3 i0 (.int .i64 0) 1 8 Try.underlying62 hi hz0 hz1 hz2 rfl (by decide) _ _ _ rfl (Hown.out.alloc _) ⟨wr.heap.size, 0, none⟩ 1 1 [.int .i64 (bt n k)] rfl rfl ?c1 ?c2 ?c3 ?c4 ?c5 ?_)
      case c1 =>
        intro j u hj
        match j, hj with
        | 0, hj => simp at hj; subst hj; simp [Addr.add]
      case c2 => intro u hu; simp at hu; subst hu; rfl
      case c3 => rw [dg_length]; unfold maxLen; omega
      case c4 => rw [dg_length]; omega
      case c5 => simp; omega
      intro v' w1 hown' hgrow _
      have Hn : Hid (Own w1 (w.heap.size + 1) v' (dg n (k + 1))) := by
        show Own _ _ _ _
        rw [dg_succ]; exact Own.snoc hown'
      have Hb : Hid (Below (w.heap.size + 1) (w.alloc (.cells (keyA n) 23)) w1) := by
        refine (Hbel.out.alloc hsz _).grown hgrow (by simp; omega) ?_
        intro g hg
        exact (World.ownsRow.lt Hown.out g hg).1
      clear hown' hgrow Hown Hbel
      go_wp2_with fail
      go_roundw
      case rel => exact ⟨k + 1, by omega, by go_num, Hn.out, Hb.out⟩
      case measure => simp [intOf]; omega
    · obtain rfl : k = 32 := by omega
      have Hown := Lib.hid hown
      have Hbel := Lib.hid hbel
      clear hown hbel
      go_wp2_with fail
      go_ret
      exact ⟨_, rfl, Hown.out.mono (by omega), (below_alloc (Below.refl _ _) _).trans (Hbel.out.mono (by omega))⟩

theorem tmod_nat (t : Nat) : (t : Int).tmod 256 = ((t % 256 : Nat) : Int) := rfl
theorem tdiv_nat (t : Nat) : (t : Int).tdiv 256 = ((t / 256 : Nat) : Int) := rfl
set_option maxHeartbeats 2000000 in
set_option maxRecDepth 100000 in
theorem spread_N (l : List Nat) (g cap : Nat) (w : World) (hl : l.length ≤ 64) (hm : Most 1073741824 l) (hg : g < w.heap.size) (h : Own w 0 (.slice (some ⟨g, 0, none⟩) l.length cap) l) :
    Calls Try.prog 59 #[.slice (some ⟨g, 0, none⟩) l.length cap] w fun e w' =>
      ∃ v, e = .returned v ∧ Own w' w.heap.size v (dg (ofBytes l) l.length ++ [ofBytes l / 256 ^ l.length]) ∧ Below w.heap.size w w' := by
  obtain ⟨i0, hi, hz0, hz1, hz2⟩ := info_parts info_int
  have H := Lib.hid h
  have Hm := Lib.hid hm
  obtain ⟨len, elen⟩ : ∃ x, x = l.length := ⟨_, rfl⟩
  rw [← elen] at hl ⊢
  have Helen := Lib.hid elen
  clear h hm elen
  go_enter Try.func59, Try.ntmps59
  go_wp2_with fail
  go_loopw [3, 4, 5] (fun v c i wr => ∃ k : Nat, k ≤ len ∧ i = .int .i64 k ∧ c = .int .i64 (cry l k) ∧ Own wr w.heap.size v (dg (ofBytes l) k) ∧ Below w.heap.size w wr) (fun _ _ i _ => len - (intOf i).toNat)
  case atStart => exact ⟨0, Nat.zero_le _, rfl, by rw [cry_zero]; rfl, own_nil _ _, Below.refl _ _⟩
  case round =>
    obtain ⟨k, hk, rfl, rfl, hown, hbel⟩ := hrel
    have hsz := hbel.size
    have Hown := Lib.hid hown
    have Hbel := Lib.hid hbel
    clear hown hbel
    by_cases hkl : k < len
    · have hkl' : k < l.length := by rw [← Helen.out]; exact hkl
      obtain ⟨x, ex⟩ : ∃ x, x = l.getD k 0 := ⟨_, rfl⟩
      have hcx : wr.cell? ⟨g, k, none⟩ = some (.int .i64 (x : Int)) := by
        rw [Hbel.out.cell hg, H.out.cell k hkl', ex]
      have hx : x ≤ 1073741824 := by rw [ex]; exact Hm.out k
      have hc := cry_most l _ Hm.out k (by omega)
      obtain ⟨c, ec⟩ : ∃ x, x = cry l k := ⟨_, rfl⟩
      rw [← ec] at hc ⊢
      obtain ⟨t, et⟩ : ∃ t, t = x + c := ⟨_, rfl⟩
      have hw : IntKind.i64.wrap ((x : Int) + (c : Int)) = (t : Int) := by rw [IntWalk.i64_in _ (by omega)]; omega
      obtain ⟨dd, ed⟩ : ∃ y, y = t % 256 := ⟨_, rfl⟩
      obtain ⟨q, eq⟩ : ∃ y, y = t / 256 := ⟨_, rfl⟩
      have h1 : (t : Int).tmod 256 = (dd : Int) := by rw [ed]; rfl
      have h2 : (t : Int).tdiv 256 = (q : Int) := by rw [eq]; rfl
      have HD : Hid (dd = ofBytes l / 256 ^ k % 256) := by
        show _ = _
        rw [ed, et, ex, ec, cry_digit l k hkl']
      have HQ : Hid (q = cry l (k + 1)) := by
        show _ = _
        rw [eq, et, ex, ec, cry_next l k hkl']
      have hdd : dd < 256 := by omega
      have hq : q ≤ 1073741824 := by omega
      have ht : t ≤ 2147483648 := by omega
      clear ex ec et ed eq hkl'
      go_wp2_with (at_builtin; refine wpList_append_own _ rfl _ _ 62 rfl w.heap.size 3 i0 (.int .i64 0) 1 8 Try.underlying62 hi hz0 hz1 hz2 rfl (by decide) _ _ _ rfl (Hown.out.alloc _) ⟨wr.heap.size, 0, none⟩ 1 1 [.int .i64 (dd : Int)] rfl rfl ?c1 ?c2 ?c3 ?c4 ?c5 ?_)
      case c1 =>
        intro j u hj
        match j, hj with
        | 0, hj => simp at hj; subst hj; simp [Addr.add]
      case c2 => intro u hu; simp at hu; subst hu; rfl
      case c3 => rw [dg_length]; unfold maxLen; omega
      case c4 => rw [dg_length]; omega
      case c5 => simp; omega
      intro v' w1 hown' hgrow _
      have Hn : Hid (Own w1 w.heap.size v' (dg (ofBytes l) (k + 1))) := by
        show Own _ _ _ _
        rw [dg_succ, ← HD.out]; exact Own.snoc hown'
      have Hb : Hid (Below w.heap.size w w1) := by
        refine (Hbel.out.alloc hsz _).grown hgrow (by simp; omega) ?_
        intro g hg
        exact (World.ownsRow.lt Hown.out g hg).1
      clear hown' hgrow Hown Hbel
      go_wp2_with fail
      go_roundw
      case rel => exact ⟨k + 1, by omega, by go_num, by rw [← HQ.out], Hn.out, Hb.out⟩
      case measure => simp [intOf]; omega
    · obtain rfl : k = len := by omega
      obtain ⟨c, ec⟩ : ∃ x, x = cry l k := ⟨_, rfl⟩
      have HC : Hid (c = ofBytes l / 256 ^ k) := by
        show _ = _
        rw [ec, Helen.out, cry_whole]
      rw [← ec]
      clear ec
      go_wp2_with (at_builtin; refine wpList_append_own _ rfl _ _ 62 rfl w.heap.size 3 i0 (.int .i64 0) 1 8 Try.underlying62 hi hz0 hz1 hz2 rfl (by decide) _ _ _ rfl (Hown.out.alloc _) ⟨wr.heap.size, 0, none⟩ 1 1 [.int .i64 (c : Int)] rfl rfl ?c1 ?c2 ?c3 ?c4 ?c5 ?_)
      case c1 =>
        intro j u hj
        match j, hj with
        | 0, hj => simp at hj; subst hj; simp [Addr.add]
      case c2 => intro u hu; simp at hu; subst hu; rfl
      case c3 => rw [dg_length]; unfold maxLen; omega
      case c4 => rw [dg_length]; omega
      case c5 => simp; omega
      intro v' w1 hown' hgrow _
      have Hn : Hid (Own w1 w.heap.size v' (dg (ofBytes l) k ++ [ofBytes l / 256 ^ k])) := by
        show Own _ _ _ _
        rw [← HC.out]; exact Own.snoc hown'
      have Hb : Hid (Below w.heap.size w w1) := by
        refine (Hbel.out.alloc hsz _).grown hgrow (by simp; omega) ?_
        intro g hg
        exact (World.ownsRow.lt Hown.out g hg).1
      clear hown' hgrow Hown Hbel
      go_wp2_with fail
      go_ret
      exact ⟨_, rfl, Hn.out, Hb.out⟩
end Go.Proofs.Ytpilonikhokjeaa
