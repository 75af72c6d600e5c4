/-
  A region that draws its order, inside of a round of a range over a function: as outside.
-/
import Derived.Test.YtkmccjjghpnejaaGA
import Derived.OrdersIn
import Derived.TacticsInMore
import Derived.OwnWalkIn
import Derived.RangeFuncCalls
namespace Go.Proofs.Ytkmccjjghpnejaa
open Go.RowKit

section
variable {P : Program} {Q : Exit → Act → World → Prop}
theorem op_in_round {r n : Nat} {o : Oper} {a : Act} {w : World} {K K' : Act → World → Prop} (hd : ∀ c, o.op ≠ .defer c) (hK : ∀ a w, K a w → K' a w) (h : Oper.wp P o a w K Q) : Oper.wpIn (Fence.wide.inRound r) n P o a w K' Q := by
 refine ⟨fun _ _ => trivial, ?_⟩
 have e : o.semAt (Fence.wide.inRound r).round a.eval = execOp a.eval o := by
  show o.semAt (some r) a.eval = _
  unfold Oper.semAt
  split
  ·rename_i h1 h2; exact absurd h2 (hd _)
  ·rfl
 rw [e]
 unfold Oper.wp at h
 generalize (execOp a.eval o).run P w = x at *
 cases x with
 | ok x w' =>
  cases x with
  | enter f args =>
   have h1 : (Fence.wide.inRound r).depth.isSome = true → 1 ≤ n := fun h => by simp [Fence.wide, Fence.inRound] at h
   refine ⟨h1, CallsIn.inRound r (callsIn_wide.2 (Calls.mono (by simpa only [Oper.upon] using h) ?_))⟩
   intro e w'' he
   cases e with
   | returned v => exact hK _ _ he
   | panicked c => exact he
   | outgrown => exact he
  | row s args =>
   have h1 : (Fence.wide.inRound r).depth.isSome = true → 1 ≤ n := fun h => by simp [Fence.wide, Fence.inRound] at h
   refine ⟨h1, fun c cs _ => ?_⟩
   have h' : Rows P s args w' fun v w'' => K (a.put o.dst v) w'' := h
   obtain ⟨v, w1, r1, st⟩ := h' c cs
   exact ⟨v, w1, hK _ _ r1, stepsIn_wide.2 st⟩
  | value v => exact hK _ _ h
  | skip => exact hK _ _ h
  | defer d => exact hK _ _ h
  | _ => exact False.elim h
 | halt x w' => cases x <;> simp only [Oper.upon, Oper.uponIn] at h ⊢ <;> exact h
theorem any_in_round {r n : Nat} {md : Region.Mode} {ops : Array Oper} (hL : ¬ LetsOut Q) (hd : ∀ (i : Nat) o, ops[i]? = some o → ∀ c, o.op ≠ .defer c) :
  ∀ (fuel : Nat) (listed : Array Bool) (a : Act) (w : World), wpAny P md ops Q fuel listed a w → wpAnyIn (Fence.wide.inRound r) n P md ops Q fuel listed a w
 | 0, _, _, _, h => h
 | fuel + 1, listed, a, w, ⟨h1, h2⟩ => by
  refine ⟨h1, fun i hi => ?_⟩
  have h := h2 i hi
  unfold wpOp at h
  unfold wpOpIn
  split
  ·rename_i ho
   simp only [ho] at h
   exact any_in_round hL hd fuel _ _ _ h
  ·rename_i o ho
   simp only [ho] at h
   split
   ·rename_i hw
    simp only [hw, if_true] at h
    exact op_in_round (hd i o ho) (any_in_round hL hd fuel _) (h.resolve_right fun h => hL h.2)
   ·rename_i hw
    simp only [hw] at h
    exact ⟨fun _ _ => trivial, any_in_round hL hd fuel _ _ _ h⟩
/-- No operation defers. -/
def calmL (l : List Oper) : Bool := l.all fun o => match o.op with | .defer _ => false | _ => true
theorem calmL_out {l : List Oper} (h : calmL l = true) : ∀ o ∈ l, ∀ c, o.op ≠ .defer c := fun o ho c e => by
 have := List.all_eq_true.1 h o ho
 simp [e] at this
/-- The region in the round, by what holds of it with a frame S. -/
theorem region_in_round (hL : ¬ LetsOut Q) {r n id : Nat} {l : List Oper} {a : Act} {w : World} {S : World → Prop} (hm : P.follows .mixedOrders = true) (hd : calmL l = true)
  (h : wpAnyH P .any l.toArray Q S l.toArray.size (Array.replicate l.toArray.size false) a w.drew) : (Code.region id l.toArray true).wpIn (Fence.wide.inRound r) n P Q a w :=
 wpIn_region_any hm (any_in_round hL (fun i o ho => calmL_out hd o (by
  rw [List.getElem?_toArray] at ho; exact List.mem_of_getElem? ho)) _ _ _ _ (wpAny_of_held _ _ _ _ h))
end
end Go.Proofs.Ytkmccjjghpnejaa
