/-
  A range over a function that hands on a known row of values one behind the other, and whose body is never left: the body is told which round it is.
-/
import Derived.Test.YtiagdabikbjbiaaXA
import Derived.RangeFuncNested
import Derived.RangeFuncBound
import Derived.RangeFuncCalls
import Derived.RangeFuncLeaves
import Derived.RangeFuncBox
import Derived.RangeFuncFrom
import Derived.Shelf.Abstract
import Derived.OwnWalkIn
import Derived.TacticsInMore
import Derived.LoopNIn
import Derived.LoopIn
namespace Go.Proofs.Ytiagdabikbjbiaa
open Go.RowKit Go.Shelf

/-- The function hands on m rows of values, row k in round k. -/
def SeqAll (F : Fence) (n : Nat) (P : Program) (gf : Nat) (lb : Array Value) (encs : Nat → Array Value) (Kp : World → World → Prop) (m : Nat) (w : World) : Prop :=
  ∀ (l : Nat) (J : Nat → World → Prop) (W : World), Below w.heap.size w W →
    (∀ k V, J k V → k < m → YieldAt F (n - 1) P l (encs k) V fun e V' => e = .returned (.bool true) ∧ J (k + 1) V' ∧ Kp V V') → J 0 W →
    CallsIn F n P gf (#[.func (.yield l) #[] #[]] ++ lb) W fun e V => (∃ v, e = .returned v) ∧ J m V

section
variable {F : Fence} {n : Nat} {P : Program} {ps : Array Tmp} {assign body : Code} {w : World} {a : Act}
/-- The loop's record lies behind w, ready; so does the block of what is deferred. -/
structure Rdy (w : World) (r : Loop) (V : World) : Prop where
  lp : V.heap[w.heap.size + 1]? = some (.loop r)
  dfr : V.heap[w.heap.size]? = some (.deferred (some []))
theorem Rdy.lt {r : Loop} {V : World} (h : Rdy w r V) : w.heap.size + 1 < V.heap.size := (Array.getElem?_eq_some_iff.1 h.lp).1
theorem Rdy.put {r r' : Loop} {V : World} (h : Rdy w r V) : Rdy w r' (V.putObj (w.heap.size + 1) (.loop r')) :=
  ⟨World.putObj_heap_same h.lt, (World.putObj_heap_other (by omega)).trans h.dfr⟩
theorem Rdy.kept {r : Loop} {V V' : World} (h : Rdy w r V) (k : KeepsOthers V V') : Rdy w r V' := ⟨k.same _ _ h.lp rfl, k.same _ _ h.dfr rfl⟩

theorem wpIn_rangeAll {g : Operand} {Q : Exit → Act → World → Prop} (hro : F.round = none) (h1 : 1 ≤ n) {gf : Nat} {lb : Array Value} (hg : a.eval g = .func (.func gf) #[] lb) (hFg : F.fn gf) (eg : ∀ args w, (callFunc gf args).run P w = .ok (.enter gf args) w)
    {m : Nat} {encs : Nat → Array Value} {Kp : World → World → Prop} (hseq : SeqAll F (n - 1) P gf lb encs Kp m w) (hKt : ∀ {A B C : World}, Kp A B → Kp B C → Kp A C)
    (hKb : ∀ (V : World) (l : Nat) (o : Obj), w.heap.size ≤ l → Kp V (V.putObj l o)) (hps : ∀ k, (encs k).size = ps.size)
    (I : Nat → World → Prop) (hI : OwnFrom w.heap.size I) (h0 : I 0 w) (a₁ : Nat → Act)
    (hassign : ∀ (l k : Nat) (V : World) (K : Act → World → Prop), K (a₁ k) V →
      assign.wpIn (F.inRound l) (n - 1 - 1) P (Exit.then K (fun _ _ _ => False)) { tmps := (ps.zip (encs k)).foldl (fun t (p, v) => t.setIfInBounds p v) a.tmps, defers := [] } V)
    (hbody : ∀ (l k : Nat) (V : World), I k V → k < m → body.wpIn (F.inRound l) (n - 1 - 1) P (fun e _ V' => e = .normal ∧ KeepsOthers V V' ∧ Kp V V' ∧ I (k + 1) V') (a₁ k) V)
    (hdone : ∀ (D : Nat) (V : World), w.heap.size ≤ D → I m V → V.heap[D]? = some (.deferred (some [])) → Q .normal { a with defers := { target := .collected D, args := #[] } :: a.defers } V) :
    (Code.rangeFunc g ps assign body).wpIn F n P Q a w := by
  refine wpIn_rangeFunc fun fn hfn => ?_
  rw [hro]
  obtain ⟨r, hr⟩ : ∃ r : LoopState → Loop, r = fun st => { state := st, pending := none, fn, tmps := a.tmps, params := ps, assign, body, defers := w.heap.size } := ⟨_, rfl⟩
  obtain ⟨V0, hV0⟩ : ∃ V, (w.alloc (.deferred (some []))).alloc (.loop (r .ready)) = V := ⟨_, rfl⟩
  have hR0 : Rdy w (r .ready) V0 := by
    rw [← hV0]
    refine ⟨?_, (Below.heap_alloc _ _ _ (by simp)).trans (World.alloc_heap_new w _)⟩
    have := World.alloc_heap_new (w.alloc (.deferred (some []))) (.loop (r .ready))
    rwa [World.size_alloc] at this
  have hB0 : Below w.heap.size w V0 := by rw [← hV0]; exact (((Below.refl _ w).alloc (Nat.le_refl _) _).alloc (by simp) _)
  have hI0 : I 0 V0 := by rw [← hV0]; exact hI.alloc _ (hI.alloc _ h0)
  refine ⟨w.heap.size + 1, [{ target := .collected w.heap.size, args := #[] }], V0, { target := .fn (.func gf) lb, args := #[.func (.yield (w.heap.size + 1)) #[] #[]] }, V0, gf, #[.func (.yield (w.heap.size + 1)) #[] #[]] ++ lb, V0, ?_, ?_, ?_, ?_, fun _ => h1, ?_⟩
  · rw [← hV0, hr]; exact run_enterLoop_outer _ _ _ _ _
  · simp only [resolve, hg]; simp [go_sem]
  · intro f' hf'; simp [Target.leads] at hf'; subst hf'; exact hFg
  · simp [invoke, go_sem, eg]
  refine (hseq (w.heap.size + 1) (fun k V => I k V ∧ Rdy w (r .ready) V) V0 hB0 (fun k V ⟨hi, hd⟩ hk => ?_) ⟨hI0, hR0⟩).mono ?_
  · -- a round
    have hy := run_yield (P := P) (args := encs k) hd.lp (by rw [hr]; exact hps k)
    rw [hr] at hy
    refine ⟨fn, _, assign, body, hy, roundIn_of_wpIn hfn (hassign _ k V _ ⟨_, run_beginRound hd.lp (by rw [hr]), ?_⟩)⟩
    have hb := hd.put (r' := { r .ready with state := .busy })
    refine wpIn_mono (hbody _ k _ (hI.putObj _ hi (by omega) hd.lp rfl) hk) ?_
    rintro e b V3 ⟨rfl, k3, p3, i3⟩
    have h3 := hb.kept k3
    have he := run_endRound (P := P) none h3.lp
    refine ⟨_, _, he, rfl, ⟨hI.putObj _ i3 (by omega) h3.lp rfl, ?_⟩, hKt (hKt (hKb _ _ _ (by omega)) p3) (hKb _ _ _ (by omega))⟩
    have h4 := h3.put (r' := r .ready)
    rw [hr] at h4 ⊢
    exact h4
  · -- behind it
    rintro e V ⟨⟨v, rfl⟩, hi, hd⟩
    have he := run_endLoop (P := P) hd.lp (by rw [hr]; simp)
    rw [hr] at he
    exact ⟨none, _, he, hdone _ _ (Nat.le_refl _) (hI.putObj _ hi (by omega) hd.lp rfl) ((World.putObj_heap_other (by omega)).trans hd.dfr)⟩
end

attribute [local go_sem] Oper.semAt_some

end Go.Proofs.Ytiagdabikbjbiaa
