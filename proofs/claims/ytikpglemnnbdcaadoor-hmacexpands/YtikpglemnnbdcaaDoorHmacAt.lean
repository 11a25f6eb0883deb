/-
  Extract, its lengths named.
-/
import Derived.Test.YtikpglemnnbdcaaDoorHmacKeys
namespace Go.Proofs.YtikpglemnnbdcaaDoor
open Go.RowKit Go.Hold Go.Sh

theorem extract_at {kc bc m nb : Nat} {kp bp : Option Addr} {k b : List Nat} {M : St} {w : World} (hm : m = k.length) (hnb : nb = b.length) (hM : mac k b = M) (hT : Tabs w) (hk : k.length ≤ 1000000) (hkb : ∀ i, k.getD i 0 < 256) (hkB : Bs0 w kp k) (hkc : k.length ≤ kc)
    (hb : b.length ≤ 1000000) (hbb : ∀ i, b.getD i 0 < 256) (hbB : Bs0 w bp b) (hbc : bp = none → bc = 0) :
    Calls Tryd.prog 12 #[.slice kp m kc, .slice bp nb bc] w fun e w' => e = .returned (.agg (keA M)) ∧ Below w.heap.size w w' := by
  subst hm hnb hM
  exact extract_c kc bc kp bp k b w hT hk hkb hkB hkc hb hbb hbB hbc
end Go.Proofs.YtikpglemnnbdcaaDoor
