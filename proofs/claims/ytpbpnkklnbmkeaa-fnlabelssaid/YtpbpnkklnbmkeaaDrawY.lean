/-
  What the model draws where it draws rows: a row of its own of any points.
-/
import Derived.Test.YtpbpnkklnbmkeaaDrawX
import Derived.Laws.MakeOwn
namespace Go.Proofs.Ytpbpnkklnbmkeaa
open Go.RowKit

theorem own_low {w : World} {base base' e sz k : Nat} {v : Value} {xs : List Value} (h : w.ownsRow base e sz v k xs) (hb : base' ≤ base) : w.ownsRow base' e sz v k xs :=
  ⟨h.1, h.2.imp id fun ⟨g, cap, cur, hv, hb', r⟩ => ⟨g, cap, cur, hv, Nat.le_trans hb hb', r⟩⟩

end Go.Proofs.Ytpbpnkklnbmkeaa
