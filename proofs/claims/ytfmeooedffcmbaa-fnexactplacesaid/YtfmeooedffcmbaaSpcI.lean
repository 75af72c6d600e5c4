/-
  Whether chosen labels leave each other room: the program's contract.
-/
import Derived.Test.YtfmeooedffcmbaaGrdP
import Derived.Test.YtfmeooedffcmbaaLblW
namespace Go.Proofs.Ytfmeooedffcmbaa
open Go.RowKit Go.Maps

def rmOf (d : LblD) : RmD := ⟨d.x, d.y, d.x + d.wd - 1, d.y + d.ht - 1⟩
theorem rmOf_P {d : LblD} (hk : lblK d = true) : RmP (rmOf d) := by
  obtain ⟨_, ⟨x0, x1, y0, y1⟩, ⟨w0, w1⟩, ⟨t0, t1⟩, _, _⟩ := lblK_out hk
  unfold RmP rmOf XOk
  simp only
  omega
theorem rmOf_len {d : LblD} (hk : lblK d = true) : (rmS (rmOf d)).length ≤ 4 := by
  obtain ⟨_, ⟨x0, x1, y0, y1⟩, ⟨w0, w1⟩, ⟨t0, t1⟩, _, _⟩ := lblK_out hk
  unfold rmS sqs
  rw [sqCols_len]
  have h1 : (sqn (rmOf d).c - sqn (rmOf d).a + 1).toNat ≤ 2 := by unfold sqn rmOf; simp only; omega
  have h2 : (sqn (rmOf d).d - sqn (rmOf d).b + 1).toNat ≤ 2 := by unfold sqn rmOf; simp only; omega
  exact Nat.mul_le_mul h1 h2
/-- Each finds room among these and those ahead of it. -/
def spTo (rs : List RmD) : List LblD → Bool
  | [] => true
  | d :: t => frB rs (rmOf d) && spTo (rs ++ [rmOf d]) t
noncomputable def spQ (l : List LblD) (ids : List Int) : Bool := bP (lblsP l) && spTo [] (chQ l ids)
theorem Sl.below {α : Type} {q : Nat} {E : Elem α} (hE : Stays q E) {N0 : Nat} {w w' : World} {a : Option Addr} {l : List α} {bs : List Nat} (h : Sl q E w a l bs) (g : Below N0 w w') (hn : ∀ x ∈ bs, x < N0) : Sl q E w' a l bs :=
  h.alike hE fun b hb => by
    have hl := h.lt hE b hb
    have e := g.block b (hn b hb)
    exact ⟨Nat.lt_of_lt_of_le hl g.size, fun o => World.cell?_of_block e, fun o => World.frozen?_of_block e⟩
structure AllOut (N0 : Nat) (w : World) (r : Bool) (e : Ending) (w' : World) : Prop where
  out : e = .returned (.bool r) ∧ Below N0 w w'
theorem spTo_step {rs : List RmD} {ch : List LblD} {k : Nat} (hk : k < ch.length) : spTo rs (ch.drop k) = (frB rs (rmOf ch[k]) && spTo (rs ++ [rmOf ch[k]]) (ch.drop (k + 1))) := by
  rw [List.drop_eq_getElem_cons hk]; rfl
theorem Grid.fresh (w : World) : Grid w.heap.size (w.heap.size + 1) w.heap.size (fun _ => False) ((w.alloc (.map #[] 0)).alloc (.cells #[.slice none 0 0, .map (some w.heap.size), .slice none 0 0] 99)) [] 0 ⟨.slice none 0 0, .slice none 0 0, fun _ _ => .slice none 0 0, fun _ => List.replicate 4 (.bool false), fun _ _ => [], []⟩ := by
  have hM := GMap.new w
  refine ⟨Blk.new1 w _ [.slice none 0 0, .map (some w.heap.size), .slice none 0 0] _, hM.same ?_, Gr.nil _ _ _ _ _, World.ownsRow_nil _ _ _ _, fun _ _ => World.ownsRow_nil _ _ _ _, fun _ _ => Nat.le_refl _, (fun _ _ _ h => nomatch h), fun _ h => absurd h (Nat.not_lt_zero _), ⟨by omega, Nat.le_refl _, by omega, by simp; omega⟩, (fun _ h => h.elim), .inl rfl, fun _ _ => .inl rfl, fun _ _ _ _ _ => .inl rfl, (fun _ h => nomatch h), (fun _ h => nomatch h), (fun _ _ _ h => nomatch h)⟩
  exact (bel_alloc (Bel.refl (w.alloc (.map #[] 0))) _).out.block _ hM.lt
end Go.Proofs.Ytfmeooedffcmbaa
