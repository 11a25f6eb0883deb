/-
  The calls that a law keeps in a slice of its own; what they lay down.
-/
import Derived.Test.YtbhgmefdimjlaaaActs
namespace Go.Oc
open Go Go.Sh
theorem bytS_fits {room : Nat} {l m : List Nat} (h : l.length + m.length ≤ room) : bytS room (0, l) m = (0, l ++ m) := by
  unfold bytS layS; rw [if_neg (by simp), if_neg (by simp only; omega)]
theorem numS_fits {room : Nat} {l : List Nat} {n : Nat} {z : Int} (hf : Fits n z) (h : l.length + 8 ≤ room) : numS room (0, l) n z = (0, l ++ digN n z.toNat) := by
  have := hf.2.1
  unfold numS layS; rw [if_neg (by simp), if_neg (by simpa using hf), if_neg (by simp only; rw [dig_length]; omega)]
theorem rbyt_front (l r : List Nat) : rbytS (0, l ++ r) (l.length : Int) = (0, r) ∧ rbytV (0, l ++ r) (l.length : Int) = l := by
  unfold rbytS rbytV takS
  simp only [Int.toNat_natCast]
  constructor
  · rw [if_neg (by simp), if_neg (by omega), if_neg (by simp)]
    simp
  · rw [if_pos ⟨by first | trivial | rfl, by omega, by simp⟩]
    simp
theorem rnum_front (n : Nat) (z : Int) (r : List Nat) (hf : Fits n z) : rnumS (0, digN n z.toNat ++ r) z = (0, r) ∧ rnumV (0, digN n z.toNat ++ r) z = n := by
  obtain ⟨h1, h2, h3⟩ := hf
  have hl := dig_length n z.toNat
  unfold rnumS rnumV takS
  constructor
  · rw [if_neg (by simp), if_neg (fun e => e ⟨h1, h2⟩), if_neg (by simp only [List.length_append]; omega)]
    simp [hl]
  · rw [if_pos ⟨rfl, ⟨h1, h2⟩, by simp only [List.length_append]; omega⟩]
    rw [show (digN n z.toNat ++ r).take z.toNat = digN n z.toNat by rw [List.take_append_of_le_length (by omega), List.take_of_length_le (by omega)]]
    exact join_dig n z.toNat h3
end Go.Oc
namespace Go.Proofs.Ytbhgmefdimjlaaa
open Go.RowKit Go.Hold Go.Sh Go.Oc

/-- What one call lays down, and what all of them do. -/
def enc1 (a : Actv) : List Nat := a.l ++ if a.k % 2 = 0 then digN a.n a.z.toNat else []
def enc (gl : List Actv) : List Nat := gl.flatMap enc1
/-- Calls that a law keeps. -/
def Keeps1 (a : Actv) : Prop := a.l.length ≤ 1000 ∧ (a.k % 2 = 0 → Fits a.n a.z)
theorem enc1_le {a : Actv} (h : Keeps1 a) : (enc1 a).length ≤ 1008 := by
  unfold enc1
  split
  · rename_i hk
    have := (h.2 hk).2.1
    rw [List.length_append, dig_length]; have := h.1; omega
  · have := h.1; simp; omega
theorem enc_le : ∀ {gl : List Actv}, (∀ a ∈ gl, Keeps1 a) → (enc gl).length ≤ 1008 * gl.length
  | [], _ => by simp [enc]
  | a :: gl, h => by
    have h1 := enc1_le (h a (by simp))
    have h2 := enc_le (gl := gl) fun x hx => h x (by simp [hx])
    show (enc1 a ++ enc gl).length ≤ _
    rw [List.length_append, List.length_cons]; omega
theorem enc_snoc (gl : List Actv) (a : Actv) : enc (gl ++ [a]) = enc gl ++ enc1 a := by simp [enc]
theorem enc_bts {gl : List Actv} (h : ∀ a ∈ gl, ∀ i, a.l.getD i 0 < 256) : ∀ i, (enc gl).getD i 0 < 256 := getD_lt fun x hx => by
  obtain ⟨a, ha, hx⟩ := List.mem_flatMap.1 hx
  unfold enc1 at hx
  rcases List.mem_append.1 hx with hx | hx
  · exact mem_lt (h a ha) x hx
  · split at hx
    · exact mem_lt (dig_bts _ _) x hx
    · simp at hx
theorem enc_drop {gl : List Actv} {q : Nat} {a : Actv} (h : gl[q]? = some a) : enc (gl.drop q) = enc1 a ++ enc (gl.drop (q + 1)) := by
  obtain ⟨hq, rfl⟩ := List.getElem?_eq_some_iff.1 h
  rw [List.drop_eq_getElem_cons hq]; rfl
/-- Their cells. -/
def cellsL (gl : List Actv) : List Value := gl.flatMap fun a => a.cells.toList
theorem cellsL_length : ∀ gl : List Actv, (cellsL gl).length = gl.length * 4
  | [] => rfl
  | a :: gl => by
    show (a.cells.toList ++ cellsL gl).length = _
    rw [List.length_append, cellsL_length gl, List.length_cons, show a.cells.toList.length = 4 from rfl]; omega
theorem cellsL_get : ∀ (gl : List Actv) (q j : Nat) (a : Actv), gl[q]? = some a → j < 4 → (cellsL gl)[q * 4 + j]? = a.cells.toList[j]?
  | [], q, j, a, h, _ => by simp at h
  | b :: gl, 0, j, a, h, hj => by
    simp at h; subst h
    show (b.cells.toList ++ cellsL gl)[0 * 4 + j]? = _
    rw [Nat.zero_mul, Nat.zero_add, List.getElem?_append_left (by exact hj)]
  | b :: gl, q + 1, j, a, h, hj => by
    have := cellsL_get gl q j a (by simpa using h) hj
    show (b.cells.toList ++ cellsL gl)[(q + 1) * 4 + j]? = _
    rw [List.getElem?_append_right (by show 4 ≤ _; omega), show b.cells.toList.length = 4 from rfl, ← this]
    congr 1; omega
theorem cellsL_snoc (gl : List Actv) (a : Actv) : cellsL (gl ++ [a]) = cellsL gl ++ a.cells.toList := by simp [cellsL]
def OwnA (w : World) (B : Nat) (v : Value) (gl : List Actv) : Prop := w.ownsRow B 31 4 v gl.length (cellsL gl)
theorem OwnA.moves {w w' : World} {B g : Nat} {a : Option Nat} {v : Value} {gl : List Actv} (h : OwnA w B v gl) (m : Moves w g a w') (hg : v.ownBlock ≠ some g) (ha : ∀ k, v.ownBlock = some k → a ≠ some k) : OwnA w' B v gl := by
  refine ⟨h.1, ?_⟩
  rcases h.2 with hn | ⟨g0, cap, cur, rfl, hb, hx, rest⟩
  · exact .inl hn
  · exact .inr ⟨g0, cap, cur, rfl, hb, by
      rw [m.block g0 (Array.getElem?_eq_some_iff.1 hx).1 (fun e => hg (by rw [e]; rfl)) (fun e => ha g0 rfl e.symm)]; exact hx, rest⟩
theorem OwnA.grow {w w' : World} {B : Nat} {v : Value} {gl : List Actv} (h : OwnA w B v gl) (hb : Below w.heap.size w w') : OwnA w' B v gl := by
  have hl := World.ownsRow.lt h
  exact h.moves (g := w.heap.size) (a := none) (Moves.of _ _ hb) (fun e => by have := (hl _ e).2; omega) (fun _ _ e => by cases e)
theorem ownA_nil (w : World) (B : Nat) : OwnA w B (.slice none 0 0) [] := World.ownsRow_nil w B _ _
theorem info_act : (Try.prog.info? 31).map (fun i => (i.zero, i.size, i.bytes)) = some (some (.agg #[.int .u8 0, .int .u64 0, .int .i64 0, .slice none 0 0]), 4, 48) := by kernel_rfl
/-- One call more. -/
theorem app_act {w : World} {B gn : Nat} {v : Value} {gl : List Actv} {a : Actv} (h : OwnA w B v gl) (hn : RowAt w gn a.cells) (hBw : B ≤ w.heap.size) (hlen : gl.length ≤ 1000) :
    ∃ v' w', (Builtin.append_ #[22, 22] 22 #[v, .slice (some ⟨gn, 0, none⟩) 1 1]).run Try.prog w = .ok v' w' ∧ OwnA w' B v' (gl ++ [a]) ∧ w.grownBy w' v.ownBlock ∧ NewB w v.ownBlock v'.ownBlock ∧ ∃ p c, v' = .slice p (gl.length + 1) c := by
  obtain ⟨i0, hi, hz0, hz1, hz2⟩ := info_parts info_act
  have hnews : ∀ j u, a.cells.toList[j]? = some u → w.cell? ((⟨gn, 0, none⟩ : Addr).add j) = some u := fun j u hu => by
    rw [Addr.add_mid, Nat.zero_add]
    exact hn.cellAt j (by simpa using hu)
  have hone : ∀ u ∈ a.cells.toList, u.oneCell' = true := fun u hu => by
    simp only [Actv.cells, arow, List.mem_cons, List.not_mem_nil, or_false] at hu
    rcases hu with rfl | rfl | rfl | rfl <;> rfl
  obtain ⟨v', w', h1, h2, h3, h4⟩ := run_append_own (P := Try.prog) w B 22 22 31 i0 _ 4 48 Try.underlying22 hi hz0 hz1 hz2 rfl (by decide) v gl.length (cellsL gl) h ⟨gn, 0, none⟩ 1 1 a.cells.toList rfl hnews hone (maxLen_small (by omega)) (by omega) hBw
  have h2' : OwnA w' B v' (gl ++ [a]) := by
    unfold OwnA
    rw [List.length_append, cellsL_snoc]; exact h2
  have h5 : ∃ p c, v' = .slice p (gl.length + 1) c := by
    rcases h2.2 with ⟨_, h0⟩ | ⟨g, cap, cur, rfl, _⟩
    · omega
    · exact ⟨_, _, rfl⟩
  refine ⟨v', w', h1, h2', h3, ?_, h5⟩
  rcases h.2 with ⟨rfl, h0⟩ | ⟨g0, cap0, cur, rfl, hb, hgg, hc, hm, hs, ht⟩
  · have hr := run_append_nil (P := Try.prog) w 22 22 31 i0 _ Try.underlying22 hi hz0 ⟨gn, 0, none⟩ 1 1 a.cells.toList (by rw [hz1]; rfl) hnews (by decide) (by decide) (by rw [hz2]; decide)
    rw [h1] at hr
    cases hr
    intro k hk
    simp only [Value.ownBlock, Option.some.injEq] at hk
    exact .inr (by omega)
  · by_cases hroom : gl.length + 1 ≤ cap0
    · have hr := run_append_room (P := Try.prog) w 22 22 31 i0 Try.underlying22 hi g0 gl.length cap0 cur hgg ⟨gn, 0, none⟩ 1 1 a.cells.toList (by rw [hz1]; rfl) hnews hone hroom (by rw [hz1, show a.cells.toList.length = 4 from rfl]; omega)
      rw [h1] at hr
      cases hr
      exact NewB.refl _ _
    · have hr := run_append_grow (P := Try.prog) w 22 22 31 i0 _ Try.underlying22 hi hz0 ⟨g0, 0, none⟩ gl.length cap0 (cellsL gl) (by rw [hz1]; exact cellsL_length gl) (World.ownsRow.cells h (g := g0) rfl) ⟨gn, 0, none⟩ 1 1 a.cells.toList (by rw [hz1]; rfl) hnews (by omega) (by omega) (by rw [hz2]; exact growslice_fits (by omega) (by omega))
      rw [h1] at hr
      cases hr
      intro k hk
      simp only [Value.ownBlock, Option.some.injEq] at hk
      exact .inr (by omega)
theorem OwnA.form {w : World} {B : Nat} {v : Value} {gl : List Actv} (h : OwnA w B v gl) : ∃ p c, v = .slice p gl.length c ∧ (0 < gl.length → ∃ g, p = some ⟨g, 0, none⟩) := by
  rcases h.2 with ⟨rfl, h0⟩ | ⟨g, cap, cur, rfl, _⟩
  · exact ⟨none, 0, by rw [h0], fun h => by omega⟩
  · exact ⟨_, _, rfl, fun _ => ⟨g, rfl⟩⟩
/-- A call that is kept. -/
theorem OwnA.load {w : World} {B g n c q : Nat} {gl : List Actv} {a : Actv} (h : OwnA w B (.slice (some ⟨g, 0, none⟩) n c) gl) (hq : gl[q]? = some a) : (loadRow 31 (.pointer (some ⟨g, q * 4, none⟩))).run Try.prog w = .ok (.agg a.cells) w := by
  refine run_loadAct_range w g (q * 4) a fun j v hv => ?_
  have hj : j < 4 := by
    have := (List.getElem?_eq_some_iff.1 hv).1
    simpa [Actv.cells, arow_size] using this
  have hql : q < gl.length := (List.getElem?_eq_some_iff.1 hq).1
  have hn : n = gl.length := by
    rcases h.2 with ⟨h', _⟩ | ⟨g', cap, cur, h', _⟩
    · cases h'
    · cases h'; rfl
  subst hn
  rw [World.ownsRow.cellAt h (q * 4 + j) (by omega), cellsL_get gl q j a hq hj, hv]
end Go.Proofs.Ytbhgmefdimjlaaa
