/-
  A range over a function that gives values, each into a variable of its own: the assignment may make memory.
-/
import Derived.Test.YtiagdabikbjbiaaRngA
import Derived.RangeFuncGives
namespace Go.Proofs.Ytiagdabikbjbiaa
open Go.RowKit Go.Shelf

section
variable {F : Fence} {n : Nat} {P : Program} {ps : Array Tmp} {assign body : Code} {w : World} {a : Act}
theorem wpIn_rangeGives {α : Type} {g : Operand} {Q : Exit → Act → World → Prop} (hro : F.round = none) (h1 : 1 ≤ n) {gf : Nat} {lb : Array Value} (hg : a.eval g = .func (.func gf) #[] lb) (hFg : F.fn gf) (eg : ∀ args w, (callFunc gf args).run P w = .ok (.enter gf args) w)
    {N : Nat} {enc : α → Value} {S : List α → Prop} {w0 : World} (hseq : SeqGives F (n - 1) P gf lb enc S N w0) (hb : Below w0.heap.size w0 w) (hps : ps.size = 1)
    (I : List α → World → Prop) (hI : OwnFrom w.heap.size I) (h0 : I [] w) (I1 : List α → α → Act → World → Prop) (hI1 : ∀ x a1, OwnFrom w.heap.size (fun pre V => I1 pre x a1 V))
    (hassign : ∀ (l : Nat) (pre : List α) (x : α) (V : World) (K : Act → World → Prop), I pre V → (∀ a1 V1, I1 pre x a1 V1 → KeepsOthers V V1 → KeepsWalks V V1 → K a1 V1) →
      assign.wpIn (F.inRound l) (n - 1 - 1) P (Exit.then K (fun _ _ _ => False)) { tmps := (ps.zip #[enc x]).foldl (fun t (p, v) => t.setIfInBounds p v) a.tmps, defers := [] } V)
    (hbody : ∀ (l : Nat) (pre : List α) (x : α) (a1 : Act) (V : World), I1 pre x a1 V → pre.length < N → body.wpIn (F.inRound l) (n - 1 - 1) P (fun e _ V' => e = .normal ∧ KeepsOthers V V' ∧ KeepsWalks V V' ∧ I (pre ++ [x]) V') a1 V)
    (hdone : ∀ (D : Nat) (xs : List α) (V : World), w.heap.size ≤ D → S xs → I xs V → V.heap[D]? = some (.deferred (some [])) → Q .normal { a with defers := { target := .collected D, args := #[] } :: a.defers } V) :
    (Code.rangeFunc g ps assign body).wpIn F n P Q a w := by
  refine wpIn_rangeFunc fun fn hfn => ?_
  rw [hro]
  obtain ⟨r, hr⟩ : ∃ r : LoopState → Loop, r = fun st => { state := st, pending := none, fn, tmps := a.tmps, params := ps, assign, body, defers := w.heap.size } := ⟨_, rfl⟩
  obtain ⟨V0, hV0⟩ : ∃ V, (w.alloc (.deferred (some []))).alloc (.loop (r .ready)) = V := ⟨_, rfl⟩
  have hR0 : Rdy w (r .ready) V0 := by
    rw [← hV0]
    refine ⟨?_, (Below.heap_alloc _ _ _ (by simp)).trans (World.alloc_heap_new w _)⟩
    have := World.alloc_heap_new (w.alloc (.deferred (some []))) (.loop (r .ready))
    rwa [World.size_alloc] at this
  have hB0 : Below w0.heap.size w0 V0 := hb.trans (Below.mono (by rw [← hV0]; exact (((Below.refl _ w).alloc (Nat.le_refl _) _).alloc (by simp) _) : Below w.heap.size w V0) hb.size)
  have hV0s : w.heap.size ≤ V0.heap.size := by rw [← hV0]; simp; omega
  have hI0 : I [] V0 := by rw [← hV0]; exact hI.alloc _ (hI.alloc _ h0)
  refine ⟨w.heap.size + 1, [{ target := .collected w.heap.size, args := #[] }], V0, { target := .fn (.func gf) lb, args := #[.func (.yield (w.heap.size + 1)) #[] #[]] }, V0, gf, #[.func (.yield (w.heap.size + 1)) #[] #[]] ++ lb, V0, ?_, ?_, ?_, ?_, fun _ => h1, ?_⟩
  · rw [← hV0, hr]; exact run_enterLoop_outer _ _ _ _ _
  · simp only [resolve, hg]; simp [go_sem]
  · intro f' hf'; simp [Target.leads] at hf'; subst hf'; exact hFg
  · simp [invoke, go_sem, eg]
  refine (hseq (w.heap.size + 1) (fun pre V => I pre V ∧ Rdy w (r .ready) V) V0 hB0 (fun s A B row ⟨hi, hd⟩ hg' hr' => ?_) (fun pre x V ⟨hi, hd⟩ hk => ?_) ⟨hI0, hR0⟩).mono ?_
  · -- the iterator's steps
    have hrw : ∀ r, row = some r → ∃ o : Obj, A.heap[r]? = some o ∧ o.isWalk = true := fun r e => (hr' r e).2
    refine ⟨hI s A B row hi hg' (fun r e => ?_), (grownBy_keeps hg' hrw hd.lp rfl).trans hd.lp, (grownBy_keeps hg' hrw hd.dfr rfl).trans hd.dfr⟩
    obtain ⟨hB, o, ho, hw⟩ := hr' r e
    exact ⟨by omega, o, ho, Obj.not_cells_of_walk hw⟩
  · -- a round
    have hy := run_yield (P := P) (args := #[enc x]) hd.lp (by rw [hr]; simp [hps])
    rw [hr] at hy
    refine ⟨fn, _, assign, body, hy, roundIn_of_wpIn hfn (hassign _ pre x V _ hi fun a1 V1 h1' ko kw => ?_)⟩
    have hd1 := hd.kept ko
    refine ⟨_, run_beginRound hd1.lp (by rw [hr]), ?_⟩
    have hb := hd1.put (r' := { r .ready with state := .busy })
    have kb : KeepsWalks V1 (V1.putObj (w.heap.size + 1) (.loop { r .ready with state := .busy })) := KeepsWalks.putObj _ hd1.lp rfl
    refine wpIn_mono (hbody _ pre x a1 _ ((hI1 x a1).putObj _ h1' (by omega) hd1.lp rfl) hk) ?_
    rintro e b V3 ⟨rfl, k3, p3, i3⟩
    have h3 := hb.kept k3
    have he := run_endRound (P := P) none h3.lp
    refine ⟨_, _, he, rfl, ⟨hI.putObj _ i3 (by omega) h3.lp rfl, ?_⟩, ((kw.trans kb).trans p3).trans (KeepsWalks.putObj _ h3.lp rfl)⟩
    have h4 := h3.put (r' := r .ready)
    rw [hr] at h4 ⊢
    exact h4
  · -- behind it
    rintro e V ⟨⟨v, rfl⟩, xs, hS, hi, hd⟩
    have he := run_endLoop (P := P) hd.lp (by rw [hr]; simp)
    rw [hr] at he
    exact ⟨none, _, he, hdone _ xs _ (Nat.le_refl _) hS (hI.putObj _ hi (by omega) hd.lp rfl) ((World.putObj_heap_other (by omega)).trans hd.dfr)⟩
end
end Go.Proofs.Ytiagdabikbjbiaa
