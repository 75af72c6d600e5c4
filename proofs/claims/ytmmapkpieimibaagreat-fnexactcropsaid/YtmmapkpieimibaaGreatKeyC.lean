/-
  Maps of the call's own, as functions: what is looked up, what is put; sets of Ids.
-/
import Derived.Test.YtmmapkpieimibaaGreatRecE
import Derived.Maps.OwnSet
import Derived.Maps.OwnOps
namespace Go.Proofs.YtmmapkpieimibaaGreat
open Go.RowKit Go.Maps

theorem lawI : Keyed Tryz.prog 2 := int_keyed Tryz.underlying2
theorem zeroI (w : World) : (zeroValue 3).run Tryz.prog w = .ok (.int .i64 0) w := by kernel_rfl
theorem wf_in {x : Int} (h : In64 x) : (Lit.int .i64 x).wf = true := by
  obtain ⟨h1, h2⟩ := h
  simp [Lit.wf, IntKind.min, IntKind.max, IntKind.signed, IntKind.bits]
  omega
theorem keyI {x : Int} (h : In64 x) : keyOf Tryz.prog 2 (.int .i64 x) = some (kI x) := keyOf_int_mk Tryz.underlying2 (wf_in h)
theorem kI_key (x : Int) : WideAt.IsKeyLit (kI x) := trivial
theorem kI_ne {x y : Int} (h : x ≠ y) : kI x ≠ kI y := fun e => h (by injection e)

/-- A map from Ids to places: at x it has what g says. -/
def MapAt (w : World) (b n : Nat) (g : Int → Option Int) : Prop :=
  ∃ D : DataW Unit, w.ownsMap Tryz.prog 2 (plainElem Tryz.prog 3) b n D ∧ ∀ x, Maps.has D (kI x) = (g x).isSome ∧ D.atKey (kI x) (.lit (.int .i64 0)) = .lit (.int .i64 ((g x).getD 0))
theorem MapAt.new (w : World) : MapAt (w.alloc (.map #[] 0)) w.heap.size 0 (fun _ => none) :=
  ⟨.map [], World.ownsMap_made w _ _ _, fun _ => ⟨rfl, rfl⟩⟩
theorem ownsMap_bel {w w' : World} {P : Program} {k : TypeId} {R : Value → Option (DataW Unit × List MemPlace)} {b n : Nat} {D : DataW Unit} (h : w.ownsMap P k R b n D) (hb : Bel w w') : w'.ownsMap P k R b n D := by
  have hl := h.lt
  obtain ⟨es, clock, h1, h2⟩ := h
  exact ⟨es, clock, by rw [hb.out.block b hl]; exact h1, h2⟩
theorem MapAt.bel {w w' : World} {b n : Nat} {g : Int → Option Int} (h : MapAt w b n g) (hb : Bel w w') : MapAt w' b n g := by
  obtain ⟨D, h1, h2⟩ := h
  exact ⟨D, ownsMap_bel h1 hb, h2⟩
theorem MapAt.lt {w : World} {b n : Nat} {g : Int → Option Int} (h : MapAt w b n g) : b < w.heap.size := by
  obtain ⟨D, h1, _⟩ := h; exact h1.lt
set_option maxRecDepth 100000 in
theorem MapAt.look {w : World} {b n : Nat} {g : Int → Option Int} (h : MapAt w b n g) {x : Int} (hx : In64 x) :
    (Instr.lookup 79 (.map (some b)) (.int .i64 x) true).run Tryz.prog w = .ok (.tuple #[.int .i64 ((g x).getD 0), .bool (g x).isSome]) w := by
  obtain ⟨D, h1, h2⟩ := h
  obtain ⟨v, ps, hrun, hv⟩ := h1.look_ok lawI Tryz.underlying79 (zeroI w) (plainElem_int Tryz.underlying3 (by decide)) (keyI hx)
  obtain ⟨c, rfl, hc, _⟩ := plainElem_int_inv Tryz.underlying3 hv
  rw [hrun, (h2 x).1]
  have e := congrArg Prod.fst hc
  rw [(h2 x).2] at e
  injection e with e
  injection e with e1 e2
  rw [e2]
set_option maxRecDepth 100000 in
theorem MapAt.at {w : World} {b n : Nat} {g : Int → Option Int} (h : MapAt w b n g) {x : Int} (hx : In64 x) :
    (Instr.lookup 79 (.map (some b)) (.int .i64 x) false).run Tryz.prog w = .ok (.int .i64 ((g x).getD 0)) w := by
  obtain ⟨D, h1, h2⟩ := h
  obtain ⟨c, hrun, hc, _⟩ := h1.lookup_int lawI Tryz.underlying79 Tryz.underlying3 (zeroI w) (keyI hx)
  rw [hrun]
  rw [(h2 x).2] at hc
  injection hc with e
  injection e with e1 e2
  rw [e2]
theorem MapAt.put {w : World} {b n : Nat} {g : Int → Option Int} (h : MapAt w b n g) (hn : n < maxLen) {x c : Int} (hx : In64 x) (hc : In64 c) :
    ∃ w', (Instr.mapUpdate 79 (.map (some b)) (.int .i64 x) (.int .i64 c)).run Tryz.prog w = .ok () w' ∧ MapAt w' b (n + 1) (fun y => if y = x then some c else g y) ∧ w.grownBy w' (some b) := by
  obtain ⟨D, h1, h2⟩ := h
  obtain ⟨w', hrun, ho, hg⟩ := h1.update lawI Tryz.underlying79 hn (keyI hx) (plainElem_int Tryz.underlying3 (wf_in hc))
  refine ⟨w', hrun, ⟨_, ho, fun y => ?_⟩, hg⟩
  by_cases e : y = x
  · subst e
    simp only [if_true]
    exact ⟨has_put_same h1.isMap (kI_key _) _, atKey_put_same h1.isMap (kI_key _) _ _⟩
  · simp only [if_neg e]
    rw [has_put_other (kI_ne e), atKey_put_other (kI_ne e)]
    exact h2 y

/-- A set of Ids. -/
def SetAt (w : World) (b n : Nat) (s : Int → Prop) : Prop :=
  ∃ D : DataW Unit, w.ownsMap Tryz.prog 2 unitElem b n D ∧ ∀ x, Maps.has D (kI x) = bP (s x)
theorem SetAt.new (w : World) : SetAt (w.alloc (.map #[] 0)) w.heap.size 0 (fun _ => False) :=
  ⟨.map [], World.ownsMap_made w _ _ _, fun _ => (bP_false fun h => h).symm⟩
theorem SetAt.bel {w w' : World} {b n : Nat} {s : Int → Prop} (h : SetAt w b n s) (hb : Bel w w') : SetAt w' b n s := by
  obtain ⟨D, h1, h2⟩ := h
  exact ⟨D, ownsMap_bel h1 hb, h2⟩
theorem SetAt.lt {w : World} {b n : Nat} {s : Int → Prop} (h : SetAt w b n s) : b < w.heap.size := by
  obtain ⟨D, h1, _⟩ := h; exact h1.lt
theorem zeroU (w : World) : (zeroValue 169).run Tryz.prog w = .ok (.agg #[]) w := by kernel_rfl
theorem SetAt.look {w : World} {b n : Nat} {s : Int → Prop} (h : SetAt w b n s) {x : Int} (hx : In64 x) :
    (Instr.lookup 85 (.map (some b)) (.int .i64 x) true).run Tryz.prog w = .ok (.tuple #[.agg #[], .bool (bP (s x))]) w := by
  obtain ⟨D, h1, h2⟩ := h
  obtain ⟨v, ps, hrun, hv⟩ := h1.look_ok lawI Tryz.underlying85 (zeroU w) unitElem_mk (keyI hx)
  obtain ⟨rfl, _⟩ := unitElem_inv hv
  rw [hrun, h2 x]
theorem SetAt.put {w : World} {b n : Nat} {s : Int → Prop} (h : SetAt w b n s) (hn : n < maxLen) {x : Int} (hx : In64 x) :
    ∃ w', (Instr.mapUpdate 85 (.map (some b)) (.int .i64 x) (.agg #[])).run Tryz.prog w = .ok () w' ∧ SetAt w' b (n + 1) (fun y => y = x ∨ s y) ∧ w.grownBy w' (some b) := by
  obtain ⟨D, h1, h2⟩ := h
  obtain ⟨w', hrun, ho, hg⟩ := h1.update lawI Tryz.underlying85 hn (keyI hx) unitElem_mk
  refine ⟨w', hrun, ⟨_, ho, fun y => ?_⟩, hg⟩
  by_cases e : y = x
  · subst e
    rw [has_put_same h1.isMap (kI_key _)]
    exact (bP_true (.inl rfl)).symm
  · rw [has_put_other (kI_ne e), h2 y]
    by_cases hs : s y
    · rw [bP_true hs, bP_true (.inr hs)]
    · rw [bP_false hs, bP_false (fun h => h.elim e hs)]

theorem run_mkMap (n : Nat) (w : World) : (Instr.makeMap 79 (some (.int .i64 n))).run Tryz.prog w = .ok (.map (some w.heap.size)) (w.alloc (.map #[] 0)) := by
  simp [Instr.makeMap, run_underlying Tryz.underlying79, Result.andThen, asInt]
  rfl

theorem has_any (b n : Nat) (s : Int → Prop) (x : Int) (w : World) (hS : SetAt w b n s) (hx : In64 x) :
    Calls Tryz.prog 35 #[.map (some b), .int .i64 x] w fun e w' => e = .returned (.bool (bP (s x))) ∧ Bel w w' := by
  have hl := hS.look hx
  go_enter Tryz.func35, Tryz.ntmps35
  go_wp2
  go_ret
  exact ⟨rfl, bel_alloc (Bel.refl _) _⟩
end Go.Proofs.YtmmapkpieimibaaGreat
