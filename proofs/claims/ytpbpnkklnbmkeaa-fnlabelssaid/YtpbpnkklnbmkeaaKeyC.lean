/-
  Maps of the call's own, as functions: what is looked up, what is put; sets of Ids.
-/
import Derived.Test.YtpbpnkklnbmkeaaRecE
import Derived.Maps.OwnSet
import Derived.Maps.OwnOps
namespace Go.Proofs.Ytpbpnkklnbmkeaa
open Go.RowKit Go.Maps

theorem lawI : Keyed Try.prog 2 := int_keyed Try.underlying2
theorem zeroI (w : World) : (zeroValue 3).run Try.prog w = .ok (.int .i64 0) w := by kernel_rfl
theorem wf_in {x : Int} (h : In64 x) : (Lit.int .i64 x).wf = true := by
  obtain ⟨h1, h2⟩ := h
  simp [Lit.wf, IntKind.min, IntKind.max, IntKind.signed, IntKind.bits]
  omega
theorem keyI {x : Int} (h : In64 x) : keyOf Try.prog 2 (.int .i64 x) = some (kI x) := keyOf_int_mk Try.underlying2 (wf_in h)
theorem kI_key (x : Int) : WideAt.IsKeyLit (kI x) := trivial
theorem kI_ne {x y : Int} (h : x ≠ y) : kI x ≠ kI y := fun e => h (by injection e)

/-- A map from Ids to places: at x it has what g says. -/
def MapAt (w : World) (b n : Nat) (g : Int → Option Int) : Prop :=
  ∃ D : DataW Unit, w.ownsMap Try.prog 2 (plainElem Try.prog 3) b n D ∧ ∀ x, Maps.has D (kI x) = (g x).isSome ∧ D.atKey (kI x) (.lit (.int .i64 0)) = .lit (.int .i64 ((g x).getD 0))
theorem MapAt.new (w : World) : MapAt (w.alloc (.map #[] 0)) w.heap.size 0 (fun _ => none) :=
  ⟨.map [], World.ownsMap_made w _ _ _, fun _ => ⟨rfl, rfl⟩⟩
theorem ownsMap_bel {w w' : World} {P : Program} {k : TypeId} {R : Value → Option (DataW Unit × List MemPlace)} {b n : Nat} {D : DataW Unit} (h : w.ownsMap P k R b n D) (hb : Bel w w') : w'.ownsMap P k R b n D := by
  have hl := h.lt
  obtain ⟨es, clock, h1, h2⟩ := h
  exact ⟨es, clock, by rw [hb.out.block b hl]; exact h1, h2⟩
theorem MapAt.bel {w w' : World} {b n : Nat} {g : Int → Option Int} (h : MapAt w b n g) (hb : Bel w w') : MapAt w' b n g := by
  obtain ⟨D, h1, h2⟩ := h
  exact ⟨D, ownsMap_bel h1 hb, h2⟩
theorem MapAt.lt {w : World} {b n : Nat} {g : Int → Option Int} (h : MapAt w b n g) : b < w.heap.size := by
  obtain ⟨D, h1, _⟩ := h; exact h1.lt
/-- A set of Ids. -/
def SetAt (w : World) (b n : Nat) (s : Int → Prop) : Prop :=
  ∃ D : DataW Unit, w.ownsMap Try.prog 2 unitElem b n D ∧ ∀ x, Maps.has D (kI x) = bP (s x)
theorem SetAt.new (w : World) : SetAt (w.alloc (.map #[] 0)) w.heap.size 0 (fun _ => False) :=
  ⟨.map [], World.ownsMap_made w _ _ _, fun _ => (bP_false fun h => h).symm⟩
theorem SetAt.bel {w w' : World} {b n : Nat} {s : Int → Prop} (h : SetAt w b n s) (hb : Bel w w') : SetAt w' b n s := by
  obtain ⟨D, h1, h2⟩ := h
  exact ⟨D, ownsMap_bel h1 hb, h2⟩
theorem SetAt.lt {w : World} {b n : Nat} {s : Int → Prop} (h : SetAt w b n s) : b < w.heap.size := by
  obtain ⟨D, h1, _⟩ := h; exact h1.lt
theorem zeroU (w : World) : (zeroValue 88).run Try.prog w = .ok (.agg #[]) w := by kernel_rfl
theorem SetAt.look {w : World} {b n : Nat} {s : Int → Prop} (h : SetAt w b n s) {x : Int} (hx : In64 x) :
    (Instr.lookup 56 (.map (some b)) (.int .i64 x) true).run Try.prog w = .ok (.tuple #[.agg #[], .bool (bP (s x))]) w := by
  obtain ⟨D, h1, h2⟩ := h
  obtain ⟨v, ps, hrun, hv⟩ := h1.look_ok lawI Try.underlying56 (zeroU w) unitElem_mk (keyI hx)
  obtain ⟨rfl, _⟩ := unitElem_inv hv
  rw [hrun, h2 x]
theorem SetAt.put {w : World} {b n : Nat} {s : Int → Prop} (h : SetAt w b n s) (hn : n < maxLen) {x : Int} (hx : In64 x) :
    ∃ w', (Instr.mapUpdate 56 (.map (some b)) (.int .i64 x) (.agg #[])).run Try.prog w = .ok () w' ∧ SetAt w' b (n + 1) (fun y => y = x ∨ s y) ∧ w.grownBy w' (some b) := by
  obtain ⟨D, h1, h2⟩ := h
  obtain ⟨w', hrun, ho, hg⟩ := h1.update lawI Try.underlying56 hn (keyI hx) unitElem_mk
  refine ⟨w', hrun, ⟨_, ho, fun y => ?_⟩, hg⟩
  by_cases e : y = x
  · subst e
    rw [has_put_same h1.isMap (kI_key _)]
    exact (bP_true (.inl rfl)).symm
  · rw [has_put_other (kI_ne e), h2 y]
    by_cases hs : s y
    · rw [bP_true hs, bP_true (.inr hs)]
    · rw [bP_false hs, bP_false (fun h => h.elim e hs)]

theorem has_any (b n : Nat) (s : Int → Prop) (x : Int) (w : World) (hS : SetAt w b n s) (hx : In64 x) :
    Calls Try.prog 30 #[.map (some b), .int .i64 x] w fun e w' => e = .returned (.bool (bP (s x))) ∧ Bel w w' := by
  have hl := hS.look hx
  go_enter Try.func30, Try.ntmps30
  go_wp2
  go_ret
  exact ⟨rfl, bel_alloc (Bel.refl _) _⟩
end Go.Proofs.Ytpbpnkklnbmkeaa
