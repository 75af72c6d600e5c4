/-
  What the model draws for Root and Distance: contracts that tell no more than the bounds.
-/
import Derived.Test.YtonedkibbdbgjaaDrawC
import Derived.Test.YtonedkibbdbgjaaDistC
import Derived.Test.YtonedkibbdbgjaaOpen
namespace Go.Proofs.Ytonedkibbdbgjaa
open Go.RowKit

theorem big_any (a : Option Addr) (n c : Nat) (w : World) :
    Calls Try.prog 13 #[.slice a n c] w fun e w' => e = .returned (.bool (decide (1048576 < (n : Int)))) ∧ w' = w := by
  go_enter Try.func13, Try.ntmps13
  go_wp2
  go_ret
  exact ⟨rfl, rfl⟩

theorem i64_wrap (n : Int) : I64 (wrap64 n) := by unfold I64 wrap64; omega

end Go.Proofs.Ytonedkibbdbgjaa
