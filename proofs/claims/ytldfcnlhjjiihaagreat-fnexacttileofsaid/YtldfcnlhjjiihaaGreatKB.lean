/-
  Three operations of a region that draws are ready.
  A range over a function that hands on a known row of values one behind the other, and whose body is never left: the body is told which round it is.
  A region that draws its order, inside of a round of a range over a function: as outside.
-/
import Derived.Test.YtldfcnlhjjiihaaGreatGA
import Derived.Test.YtldfcnlhjjiihaaGreatGB
import Derived.RangeFuncNested
import Derived.RangeFuncBound
import Derived.RangeFuncCalls
import Derived.RangeFuncLeaves
import Derived.RangeFuncBox
import Derived.RangeFuncFrom
import Derived.Shelf.Abstract
import Derived.OwnWalkIn
import Derived.TacticsInMore
import Derived.LoopNIn
import Derived.LoopIn
import Derived.OrdersIn
namespace Go.Proofs.YtldfcnlhjjiihaaGreat
open Go.RowKit
section
variable {P : Program} {l : List Oper} {Q : Exit → Act → World → Prop} {md : Region.Mode} {S : World → Prop}
/-- Three are ready. -/
theorem rd3 (i j k : Nat) {o p r : Oper} {fuel : Nat} {listed : Array Bool} {a : Act} {w : World}
  (h : ∀ K' : Act → World → Prop, Shut (∀ a w, S w → (S w → wpAnyH P md l.toArray Q S fuel (listed.setIfInBounds i true) a w) → K' a w) → if Region.wanted o (yielded l.toArray a.tmps) = true then Oper.wp P o a w K' Q else K' (a.put o.dst undef) w)
  (h' : ∀ K' : Act → World → Prop, Shut (∀ a w, S w → (S w → wpAnyH P md l.toArray Q S fuel (listed.setIfInBounds j true) a w) → K' a w) → if Region.wanted p (yielded l.toArray a.tmps) = true then Oper.wp P p a w K' Q else K' (a.put p.dst undef) w)
  (h'' : ∀ K' : Act → World → Prop, Shut (∀ a w, S w → (S w → wpAnyH P md l.toArray Q S fuel (listed.setIfInBounds k true) a w) → K' a w) → if Region.wanted r (yielded l.toArray a.tmps) = true then Oper.wp P r a w K' Q else K' (a.put r.dst undef) w)
  (ho : l[i]? = some o := by (dsimp only [List.getElem?_cons_succ, List.getElem?_cons_zero] <;> rfl))
  (hp : l[j]? = some p := by (dsimp only [List.getElem?_cons_succ, List.getElem?_cons_zero] <;> rfl))
  (hr' : l[k]? = some r := by (dsimp only [List.getElem?_cons_succ, List.getElem?_cons_zero] <;> rfl))
  (hr : Region.ready md l.toArray listed = [i, j, k] := by kernel_rfl) : wpAnyH P md l.toArray Q S (fuel + 1) listed a w :=
 wpAnyH_ready hr (by simp) (AllReadyH.cons ((List.getElem?_toArray ..).trans ho) h (AllReadyH.cons ((List.getElem?_toArray ..).trans hp) h' (AllReadyH.cons ((List.getElem?_toArray ..).trans hr') h'' AllReadyH.nil)))
end
end Go.Proofs.YtldfcnlhjjiihaaGreat

namespace Go.Proofs.YtldfcnlhjjiihaaGreat
open Go.RowKit Go.Shelf

/-- The function hands on m rows of values, row k in round k. -/
def SeqAll (F : Fence) (n : Nat) (P : Program) (gf : Nat) (lb : Array Value) (encs : Nat → Array Value) (Kp : World → World → Prop) (m : Nat) (w : World) : Prop :=
 ∀ (l : Nat) (J : Nat → World → Prop) (W : World), Below w.heap.size w W →
  (∀ k V, J k V → k < m → YieldAt F (n - 1) P l (encs k) V fun e V' => e = .returned (.bool true) ∧ J (k + 1) V' ∧ Kp V V') → J 0 W →
  CallsIn F n P gf (#[.func (.yield l) #[] #[]] ++ lb) W fun e V => (∃ v, e = .returned v) ∧ J m V

section
variable {F : Fence} {n : Nat} {P : Program} {ps : Array Tmp} {assign body : Code} {w : World} {a : Act}
/-- The loop's record lies behind w, ready; so does the block of what is deferred. -/
structure Rdy (w : World) (r : Loop) (V : World) : Prop where
 lp : V.heap[w.heap.size + 1]? = some (.loop r)
 dfr : V.heap[w.heap.size]? = some (.deferred (some []))
theorem Rdy.lt {r : Loop} {V : World} (h : Rdy w r V) : w.heap.size + 1 < V.heap.size := (Array.getElem?_eq_some_iff.1 h.lp).1
theorem Rdy.put {r r' : Loop} {V : World} (h : Rdy w r V) : Rdy w r' (V.putObj (w.heap.size + 1) (.loop r')) :=
 ⟨World.putObj_heap_same h.lt, (World.putObj_heap_other (by omega)).trans h.dfr⟩
theorem Rdy.kept {r : Loop} {V V' : World} (h : Rdy w r V) (k : KeepsOthers V V') : Rdy w r V' := ⟨k.same _ _ h.lp rfl, k.same _ _ h.dfr rfl⟩

theorem wpIn_rangeAll {g : Operand} {Q : Exit → Act → World → Prop} (hro : F.round = none) (h1 : 1 ≤ n) {gf : Nat} {lb : Array Value} (hg : a.eval g = .func (.func gf) #[] lb) (hFg : F.fn gf) (eg : ∀ args w, (callFunc gf args).run P w = .ok (.enter gf args) w)
  {m : Nat} {encs : Nat → Array Value} {Kp : World → World → Prop} (hseq : SeqAll F (n - 1) P gf lb encs Kp m w) (hKt : ∀ {A B C : World}, Kp A B → Kp B C → Kp A C)
  (hKb : ∀ (V : World) (l : Nat) (o : Obj), w.heap.size ≤ l → Kp V (V.putObj l o)) (hps : ∀ k, (encs k).size = ps.size)
  (I : Nat → World → Prop) (hI : OwnFrom w.heap.size I) (h0 : I 0 w) (a₁ : Nat → Act)
  (hassign : ∀ (l k : Nat) (V : World) (K : Act → World → Prop), K (a₁ k) V →
   assign.wpIn (F.inRound l) (n - 1 - 1) P (Exit.then K (fun _ _ _ => False)) { tmps := (ps.zip (encs k)).foldl (fun t (p, v) => t.setIfInBounds p v) a.tmps, defers := [] } V)
  (hbody : ∀ (l k : Nat) (V : World), I k V → k < m → body.wpIn (F.inRound l) (n - 1 - 1) P (fun e _ V' => e = .normal ∧ KeepsOthers V V' ∧ Kp V V' ∧ I (k + 1) V') (a₁ k) V)
  (hdone : ∀ (D : Nat) (V : World), w.heap.size ≤ D → I m V → V.heap[D]? = some (.deferred (some [])) → Q .normal { a with defers := { target := .collected D, args := #[] } :: a.defers } V) :
  (Code.rangeFunc g ps assign body).wpIn F n P Q a w := by
 refine wpIn_rangeFunc fun fn hfn => ?_
 rw [hro]
 obtain ⟨r, hr⟩ : ∃ r : LoopState → Loop, r = fun st => { state := st, pending := none, fn, tmps := a.tmps, params := ps, assign, body, defers := w.heap.size } := ⟨_, rfl⟩
 obtain ⟨V0, hV0⟩ : ∃ V, (w.alloc (.deferred (some []))).alloc (.loop (r .ready)) = V := ⟨_, rfl⟩
 have hR0 : Rdy w (r .ready) V0 := by
  rw [← hV0]
  refine ⟨?_, (Below.heap_alloc _ _ _ (by simp)).trans (World.alloc_heap_new w _)⟩
  have := World.alloc_heap_new (w.alloc (.deferred (some []))) (.loop (r .ready))
  rwa [World.size_alloc] at this
 have hB0 : Below w.heap.size w V0 := by rw [← hV0]; exact (((Below.refl _ w).alloc (Nat.le_refl _) _).alloc (by simp) _)
 have hI0 : I 0 V0 := by rw [← hV0]; exact hI.alloc _ (hI.alloc _ h0)
 refine ⟨w.heap.size + 1, [{ target := .collected w.heap.size, args := #[] }], V0, { target := .fn (.func gf) lb, args := #[.func (.yield (w.heap.size + 1)) #[] #[]] }, V0, gf, #[.func (.yield (w.heap.size + 1)) #[] #[]] ++ lb, V0, ?_, ?_, ?_, ?_, fun _ => h1, ?_⟩
 ·rw [← hV0, hr]; exact run_enterLoop_outer _ _ _ _ _
 ·simp only [resolve, hg]; simp [go_sem]
 ·intro f' hf'; simp [Target.leads] at hf'; subst hf'; exact hFg
 ·simp [invoke, go_sem, eg]
 refine (hseq (w.heap.size + 1) (fun k V => I k V ∧ Rdy w (r .ready) V) V0 hB0 (fun k V ⟨hi, hd⟩ hk => ?_) ⟨hI0, hR0⟩).mono ?_
 ·-- a round
  have hy := run_yield (P := P) (args := encs k) hd.lp (by rw [hr]; exact hps k)
  rw [hr] at hy
  refine ⟨fn, _, assign, body, hy, roundIn_of_wpIn hfn (hassign _ k V _ ⟨_, run_beginRound hd.lp (by rw [hr]), ?_⟩)⟩
  have hb := hd.put (r' := { r .ready with state := .busy })
  refine wpIn_mono (hbody _ k _ (hI.putObj _ hi (by omega) hd.lp rfl) hk) ?_
  rintro e b V3 ⟨rfl, k3, p3, i3⟩
  have h3 := hb.kept k3
  have he := run_endRound (P := P) none h3.lp
  refine ⟨_, _, he, rfl, ⟨hI.putObj _ i3 (by omega) h3.lp rfl, ?_⟩, hKt (hKt (hKb _ _ _ (by omega)) p3) (hKb _ _ _ (by omega))⟩
  have h4 := h3.put (r' := r .ready)
  rw [hr] at h4 ⊢
  exact h4
 ·-- behind it
  rintro e V ⟨⟨v, rfl⟩, hi, hd⟩
  have he := run_endLoop (P := P) hd.lp (by rw [hr]; simp)
  rw [hr] at he
  exact ⟨none, _, he, hdone _ _ (Nat.le_refl _) (hI.putObj _ hi (by omega) hd.lp rfl) ((World.putObj_heap_other (by omega)).trans hd.dfr)⟩
end

attribute [local go_sem] Oper.semAt_some

set_option maxRecDepth 100000 in
set_option maxHeartbeats 4000000 in
/-- slices.Backward over ints: the last one first. -/
theorem bwdI_in (F : Fence) (n : Nat) (h7 : F.fn 137) (hro : F.round = none) (hn : 1 ≤ n) (l Bs b off m cap : Nat) (V : Nat → Value) (hm : m ≤ 1048576) (Kp : World → World → Prop) (hKt : ∀ {A B C : World}, Kp A B → Kp B C → Kp A C) (J : Nat → World → Prop) (W : World) (hKr : Kp W W)
  (hc : ∀ W', Kp W W' → W'.cell? ⟨Bs, 0, none⟩ = some (.slice (some ⟨b, off, none⟩) m cap) ∧ Bs < W'.heap.size ∧ b < W'.heap.size ∧ ∀ j, j < m → W'.cell? ⟨b, off + j, none⟩ = some (V j))
  (hY : ∀ k V', J k V' → k < m → YieldAt F (n - 1) Tryz.prog l #[.int .i64 ((m - 1 - k : Nat) : Int), V (m - 1 - k)] V' fun e V'' => e = .returned (.bool true) ∧ J (k + 1) V'' ∧ Kp V' V'') (h0 : J 0 W) :
  CallsIn F n Tryz.prog 137 #[.func (.yield l) #[] #[], .pointer (some ⟨Bs, 0, none⟩)] W fun e W' => (∃ v, e = .returned v) ∧ J m W' := by
 have hc0 := hc W hKr
 refine callsIn_of_wp Tryz.func137 rfl h7 ?_ hro
 simp only [Tryz.ntmps137, List.size_toArray, List.length_cons, List.length_nil, Nat.reduceAdd, Nat.reduceSub, Array.replicate_succ, Array.replicate_zero, List.push_toArray, List.append_toArray, List.nil_append, List.cons_append]
 obtain ⟨c0, l0, _, _⟩ := hc0
 gi_wp2
 gi_loopw [3] (fun i wr => ∃ k : Nat, k ≤ m ∧ i = .int .i64 ((m : Int) - 1 - k) ∧ J k wr ∧ Kp W wr)
  (fun i _ => (intOf i + 1).toNat)
 case atStart => exact ⟨0, Nat.zero_le _, by simp, h0, hKr⟩
 case round =>
  clear c0 l0
  obtain ⟨k, hk, rfl, hJs, hnx⟩ := hrel
  by_cases hlt : k < m
  ·obtain ⟨q, hq⟩ : ∃ q : Nat, q + k + 1 = m := ⟨m - 1 - k, by omega⟩
   have hqi : (m : Int) - 1 - (k : Int) = (q : Int) := by omega
   have hqn : m - 1 - k = q := by omega
   obtain ⟨fn, tmps, assign, body, hy, hR⟩ := hY k wr hJs hlt
   rw [hqn] at hy
   obtain ⟨hcb, hbl, hbb, hcc⟩ := hc wr hnx
   have hcx : wr.cell? ⟨b, off + q, none⟩ = some (V q) := hcc q (by omega)
   have hlt' : (q : Int) < (m : Int) := by omega
   have hq0 : ¬ (q : Int) < 0 := by omega
   have HK : Hid (q + k + 1 = m) := hq
   rw [hqi]
   clear hq hqi hqn hcc
   gi_wp2
   refine hR.mono ?_
   rintro e W3 ⟨rfl, hJ3, hk3⟩
   gi_wp2
   go_roundw
   case rel => exact ⟨k + 1, hlt, by have := HK.out; congr 1; omega, hJ3, hKt hnx hk3⟩
   case measure => simp [intOf]
  ·obtain rfl : k = m := by omega
   have hz : (k : Int) - 1 - (k : Int) = -1 := by omega
   rw [hz]
   gi_wp2
   go_end0
   exact ⟨⟨_, rfl⟩, hJs⟩

set_option maxRecDepth 100000 in
set_option maxHeartbeats 1000000 in
theorem bwdI_nil (F : Fence) (n : Nat) (h7 : F.fn 137) (hro : F.round = none) (l Bs cap : Nat) (a : Option Addr) (J : Nat → World → Prop) (W : World) (hBs : W.cell? ⟨Bs, 0, none⟩ = some (.slice a 0 cap)) (h0 : J 0 W) :
  CallsIn F n Tryz.prog 137 #[.func (.yield l) #[] #[], .pointer (some ⟨Bs, 0, none⟩)] W fun e W' => (∃ v, e = .returned v) ∧ J 0 W' := by
 refine callsIn_of_wp Tryz.func137 rfl h7 ?_ hro
 simp only [Tryz.ntmps137, List.size_toArray, List.length_cons, List.length_nil, Nat.reduceAdd, Nat.reduceSub, Array.replicate_succ, Array.replicate_zero, List.push_toArray, List.append_toArray, List.nil_append, List.cons_append]
 gi_wp2
 gi_loopw [3] (fun i wr => i = .int .i64 (-1) ∧ J 0 wr) (fun _ _ => 0)
 case atStart => exact ⟨rfl, h0⟩
 case round =>
  obtain ⟨rfl, hJs⟩ := hrel
  gi_wp2
  go_end0
  exact ⟨⟨_, rfl⟩, hJs⟩
theorem bwdI_all (a : Option Addr) (m cap : Nat) (w : World) :
  Calls Tryz.prog 130 #[.slice a m cap] w fun e w' => e = .returned (.func (.func 137) #[] #[.pointer (some ⟨w.heap.size, 0, none⟩)]) ∧ w' = w.alloc (.cells #[.slice a m cap] 174) := by
 go_enter Tryz.func130, Tryz.ntmps130
 go_wp2
 go_ret
 exact ⟨rfl, rfl⟩
end Go.Proofs.YtldfcnlhjjiihaaGreat

namespace Go.Proofs.YtldfcnlhjjiihaaGreat
open Go.RowKit

section
variable {P : Program} {Q : Exit → Act → World → Prop}
theorem op_in_round {r n : Nat} {o : Oper} {a : Act} {w : World} {K K' : Act → World → Prop} (hd : ∀ c, o.op ≠ .defer c) (hK : ∀ a w, K a w → K' a w) (h : Oper.wp P o a w K Q) : Oper.wpIn (Fence.wide.inRound r) n P o a w K' Q := by
 refine ⟨fun _ _ => trivial, ?_⟩
 have e : o.semAt (Fence.wide.inRound r).round a.eval = execOp a.eval o := by
  show o.semAt (some r) a.eval = _
  unfold Oper.semAt
  split
  ·rename_i h1 h2; exact absurd h2 (hd _)
  ·rfl
 rw [e]
 unfold Oper.wp at h
 generalize (execOp a.eval o).run P w = x at *
 cases x with
 | ok x w' =>
  cases x with
  | enter f args =>
   have h1 : (Fence.wide.inRound r).depth.isSome = true → 1 ≤ n := fun h => by simp [Fence.wide, Fence.inRound] at h
   refine ⟨h1, CallsIn.inRound r (callsIn_wide.2 (Calls.mono (by simpa only [Oper.upon] using h) ?_))⟩
   intro e w'' he
   cases e with
   | returned v => exact hK _ _ he
   | panicked c => exact he
   | outgrown => exact he
  | row s args =>
   have h1 : (Fence.wide.inRound r).depth.isSome = true → 1 ≤ n := fun h => by simp [Fence.wide, Fence.inRound] at h
   refine ⟨h1, fun c cs _ => ?_⟩
   have h' : Rows P s args w' fun v w'' => K (a.put o.dst v) w'' := h
   obtain ⟨v, w1, r1, st⟩ := h' c cs
   exact ⟨v, w1, hK _ _ r1, stepsIn_wide.2 st⟩
  | value v => exact hK _ _ h
  | skip => exact hK _ _ h
  | defer d => exact hK _ _ h
  | _ => exact False.elim h
 | halt x w' => cases x <;> simp only [Oper.upon, Oper.uponIn] at h ⊢ <;> exact h
theorem any_in_round {r n : Nat} {md : Region.Mode} {ops : Array Oper} (hL : ¬ LetsOut Q) (hd : ∀ (i : Nat) o, ops[i]? = some o → ∀ c, o.op ≠ .defer c) :
  ∀ (fuel : Nat) (listed : Array Bool) (a : Act) (w : World), wpAny P md ops Q fuel listed a w → wpAnyIn (Fence.wide.inRound r) n P md ops Q fuel listed a w
 | 0, _, _, _, h => h
 | fuel + 1, listed, a, w, ⟨h1, h2⟩ => by
  refine ⟨h1, fun i hi => ?_⟩
  have h := h2 i hi
  unfold wpOp at h
  unfold wpOpIn
  split
  ·rename_i ho
   simp only [ho] at h
   exact any_in_round hL hd fuel _ _ _ h
  ·rename_i o ho
   simp only [ho] at h
   split
   ·rename_i hw
    simp only [hw, if_true] at h
    exact op_in_round (hd i o ho) (any_in_round hL hd fuel _) (h.resolve_right fun h => hL h.2)
   ·rename_i hw
    simp only [hw] at h
    exact ⟨fun _ _ => trivial, any_in_round hL hd fuel _ _ _ h⟩
/-- No operation defers. -/
def calmL (l : List Oper) : Bool := l.all fun o => match o.op with | .defer _ => false | _ => true
theorem calmL_out {l : List Oper} (h : calmL l = true) : ∀ o ∈ l, ∀ c, o.op ≠ .defer c := fun o ho c e => by
 have := List.all_eq_true.1 h o ho
 simp [e] at this
/-- The region in the round, by what holds of it with a frame S. -/
theorem region_in_round (hL : ¬ LetsOut Q) {r n id : Nat} {l : List Oper} {a : Act} {w : World} {S : World → Prop} (hm : P.follows .mixedOrders = true) (hd : calmL l = true)
  (h : wpAnyH P .any l.toArray Q S l.toArray.size (Array.replicate l.toArray.size false) a w.drew) : (Code.region id l.toArray true).wpIn (Fence.wide.inRound r) n P Q a w :=
 wpIn_region_any hm (any_in_round hL (fun i o ho => calmL_out hd o (by
  rw [List.getElem?_toArray] at ho; exact List.mem_of_getElem? ho)) _ _ _ _ (wpAny_of_held _ _ _ _ h))
end
end Go.Proofs.YtldfcnlhjjiihaaGreat
