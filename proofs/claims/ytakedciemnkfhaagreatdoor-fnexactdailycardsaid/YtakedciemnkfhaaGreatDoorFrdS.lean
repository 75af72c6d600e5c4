/-
  FirstRoads in the model: contract, once that of the model's search is known.
-/
import Derived.Test.YtakedciemnkfhaaGreatDoorGQ
import Derived.Test.YtakedciemnkfhaaGreatDoorGS
import Derived.Test.YtakedciemnkfhaaGreatDoorGI
namespace Go.Proofs.YtakedciemnkfhaaGreatDoor
open Go.RowKit Go.Maps

theorem l10SpotIs_r (i : Int) (a0 : Option Addr) (n0 c0 : Nat) (a1 : Option Addr) (n1 c1 : Nat) (a2 : Option Addr) (n2 c2 : Nat) (r : Bool) (w : World) (h : inN n0 i = r) :
  Calls Tryz.prog 26 #[gphV a0 n0 c0 a1 n1 c1 a2 n2 c2, .int .i64 i] w fun e w' => e = .returned (.bool r) ∧ Bel w w' := by
 have hB := bel_alloc (Bel.refl w) (.cells #[.slice a0 n0 c0, .slice a1 n1 c1, .slice a2 n2 c2] 36)
 by_cases h0 : 0 ≤ i
 ·by_cases h1 : i < (n0 : Int)
  ·obtain rfl : r = true := by rw [← h]; exact inN_iff.2 ⟨h0, h1⟩
   clear h
   go_enter Tryz.func26, Tryz.ntmps26
   go_wp2
   go_ret
   exact ⟨rfl, hB⟩
  ·obtain rfl : r = false := by rw [← h]; exact inN_not.2 (by omega)
   clear h
   go_enter Tryz.func26, Tryz.ntmps26
   go_wp2
   go_ret
   exact ⟨rfl, hB⟩
 ·obtain rfl : r = false := by rw [← h]; exact inN_not.2 (by omega)
  clear h
  go_enter Tryz.func26, Tryz.ntmps26
  go_wp2
  go_ret
  exact ⟨rfl, hB⟩

/-- The contract of l10Back. -/
def BakC : Prop := ∀ (a0 : Option Addr) (n0 c0 : Nat) (a1 : Option Addr) (n1 c1 : Nat) (a2 : Option Addr) (n2 c2 : Nat) (g : GraphD) (b0 b1 b2 : List Nat) (p : Nat) (w : World), SpotL w a0 g.places b0 → RoadL w a1 g.roads b1 → BanL w a2 g.bans b2 → g.places.length = n0 → g.roads.length = n1 → g.bans.length = n2 → graphP g →
  Calls Tryz.prog 55 #[gphV a0 n0 c0 a1 n1 c1 a2 n2 c2, .int .i64 (p : Int)] w fun e w' => BakOut w g p e w'
theorem rest_fld (a : Option Addr) (n c : Nat) (b : Option Addr) (m d : Nat) (w : World) : (Instr.field 92 (.agg #[.slice a n c, .slice b m d]) 0).run Tryz.prog w = .ok (.slice a n c) w := by kernel_rfl
theorem tmV_ints {S : SrS} {g : GraphD} {st : Int} {D : List Nat} {s : Mst} (h : MJ S g st D s) (h0 : s.op = []) : tmV s.dl = intsV (frL S.n1 S.back g st) := by
 rw [← h.list h0]
 simp [tmV, intsV]

end Go.Proofs.YtakedciemnkfhaaGreatDoor
