/-
  append at a step of a region that draws: of any number, also of none; of a list of plain elements onto an empty row.
-/
import Derived.Test.YtkmccjjghpnejaaGE
import Derived.Deep.AppendLies
namespace Go.Proofs.Ytkmccjjghpnejaa
open Go.RowKit Go.Maps

/-- append of any number, also of none, at a step of a region that draws. -/
theorem step_app {P : Program} (w : World) {ops : Array Oper} {o : Oper} {a : Act} {K : Act → World → Prop} {Q : Exit → Act → World → Prop} {E : Prop} (hgd : o.guard = none) (s x : Operand) (t : TypeId)
  (ho : o.op = .call { callee := .builtin .append, args := #[s, x], argTypes := #[t, t] })
  (base : Nat) (e : TypeId) (i : TypeInfo) (z : Value) (size bytes : Nat) (ht : P.underlying t = some (.slice e)) (hi : P.info? e = some i) (hz : i.zero = some z)
  (hsize : i.size = size) (hby : i.bytes = bytes) (hzs : z.cells.size = size) (hsz : 0 < size)
  (v : Value) (n : Nat) (xs : List Value) (hs : a.eval s = v) (hown : w.ownsRow base e size v n xs)
  (ad : Addr) (m c : Nat) (news : List Value) (hx : a.eval x = .slice (some ad) m c) (hl : news.length = m * size) (hnews : ∀ j u, news[j]? = some u → w.cell? (ad.add j) = some u) (h1 : ∀ u ∈ news, u.oneCell' = true)
  (h63 : n + m ≤ maxLen) (hbytes : (n + m) * bytes ≤ 140737488355328) (hbase : base ≤ w.heap.size)
  (h : ∀ v' w', w'.ownsRow base e size v' (n + m) (xs ++ news) → w.grownBy w' v.ownBlock → K (a.put o.dst v') w') :
  if Region.wanted o (yielded ops a.tmps) = true then Oper.wp P o a w K Q else E := by
 have hw : Region.wanted o (yielded ops a.tmps) = true := by simp [Region.wanted, hgd]
 rw [if_pos hw]
 obtain ⟨v', w', hr, h2, h3, _, _⟩ := run_append_own_at (P := P) w base t o.type e i z size bytes ht hi hz hsize hby hzs hsz v n xs hown ad m c news hl hnews h1 h63 hbytes hbase
 unfold Oper.wp execOp
 simp only [ho, resolve, invoke, builtin, Sem.run_bind, Sem.run_pure, Result.andThen_ok, List.map_toArray, List.map_cons, List.map_nil, hs, hx, hr]
 exact h v' w' h2 h3

theorem step_app0 {P : Program} (w : World) {ops : Array Oper} {o : Oper} {a : Act} {K : Act → World → Prop} {Q : Exit → Act → World → Prop} {E : Prop} (hgd : o.guard = none) (s x : Operand) (t : TypeId)
  (ho : o.op = .call { callee := .builtin .append, args := #[s, x], argTypes := #[t, t] })
  (base : Nat) (e : TypeId) (i : TypeInfo) (size : Nat) (ht : P.underlying t = some (.slice e)) (hi : P.info? e = some i)
  (v : Value) (n : Nat) (xs : List Value) (hs : a.eval s = v) (hown : w.ownsRow base e size v n xs) (b : Option Addr) (c : Nat) (hx : a.eval x = .slice b 0 c)
  (h : K (a.put o.dst v) w) : if Region.wanted o (yielded ops a.tmps) = true then Oper.wp P o a w K Q else E := by
 have hw : Region.wanted o (yielded ops a.tmps) = true := by simp [Region.wanted, hgd]
 rw [if_pos hw]
 have hrun := run_append_zero (P := P) (w := w) base t o.type e i size ht hi v n xs hown b c
 unfold Oper.wp execOp
 simp only [ho, resolve, invoke, builtin, Sem.run_bind, Sem.run_pure, Result.andThen_ok, List.map_toArray, List.map_cons, List.map_nil, hs, hx, hrun]
 exact h

theorem step_flat {α : Type} {q : Nat} {E : Elem α} {G : α → Prop} {cs : α → List Value} (hF : Flat q E G cs) (hq : 0 < q) {P : Program} (w : World) {ops : Array Oper} {o : Oper} {a : Act} {K : Act → World → Prop} {Q : Exit → Act → World → Prop} {Ex : Prop} (hgd : o.guard = none) (s x : Operand) (t : TypeId)
  (ho : o.op = .call { callee := .builtin .append, args := #[s, x], argTypes := #[t, t] })
  (base : Nat) (e : TypeId) (i : TypeInfo) (z : Value) (bytes : Nat) (ht : P.underlying t = some (.slice e)) (hi : P.info? e = some i) (hz : i.zero = some z) (hsize : i.size = q) (hby : i.bytes = bytes) (hzs : z.cells.size = q)
  (v : Value) (hs : a.eval s = v) (hown : w.ownsRow base e q v 0 []) (ad : Option Addr) (n c : Nat) (l : List α) (bs : List Nat) (hx : a.eval x = .slice ad n c) (hT : Sl q E w ad l bs) (hn : l.length = n) (hm : n ≤ 1048576) (hb64 : bytes ≤ 64) (hbase : base ≤ w.heap.size)
  (h : ∀ v' w', w'.ownsRow base e q v' l.length (recs (csL q cs l) l.length) → w.grownBy w' v.ownBlock → K (a.put o.dst v') w') :
  if Region.wanted o (yielded ops a.tmps) = true then Oper.wp P o a w K Q else Ex := by
 subst hn
 by_cases h0 : l.length = 0
 ·obtain rfl : l = [] := List.length_eq_zero_iff.1 h0
  exact step_app0 w hgd s x t ho base e i q ht hi v 0 [] hs hown ad c hx (h v w hown (World.grownBy.refl _ _))
 ·obtain ⟨b, off, f, rfl, hb, hxx⟩ := hT.out (k := 0) (by omega)
  refine step_app w hgd s x t ho base e i z q bytes ht hi hz hsize hby hzs hq v 0 [] hs hown ⟨b, off, none⟩ l.length c (recs (csL q cs l) l.length) hx (recs_len (csL_len hF l) _) (hF.news hq hxx) (hF.ones l) (by unfold maxLen; omega) (by
   rw [Nat.zero_add]
   exact Nat.le_trans (Nat.mul_le_mul hm hb64) (by decide)) hbase ?_
  intro v' w' hown' hgrow
  rw [Nat.zero_add, List.nil_append] at hown'
  exact h v' w' hown' hgrow
/-- Rows of different types lie in different blocks. -/
theorem own_apart {w : World} {lo lo' : Nat} {e e' : TypeId} {q q' n n' : Nat} {v v' : Value} {xs xs' : List Value} (h : w.ownsRow lo e q v n xs) (h' : w.ownsRow lo' e' q' v' n' xs') (hne : e ≠ e') {g : Nat} (hv : v.ownBlock = some g) : v'.ownBlock ≠ some g := by
 intro hv'
 rcases h.2 with ⟨rfl, _⟩ | ⟨g1, cap1, cur1, rfl, _, hb1, _⟩
 ·cases hv
 rcases h'.2 with ⟨rfl, _⟩ | ⟨g2, cap2, cur2, rfl, _, hb2, _⟩
 ·cases hv'
 have e1 : g1 = g := by simpa [Value.ownBlock] using hv
 have e2 : g2 = g := by simpa [Value.ownBlock] using hv'
 subst e1 e2
 rw [hb1] at hb2
 injection hb2 with hb2
 injection hb2 with _ hb2
 exact hne hb2
theorem own_keepO {w w' : World} {lo lo' : Nat} {e e' : TypeId} {q q' n n' : Nat} {v v' : Value} {xs xs' : List Value} (h : w.ownsRow lo e q v n xs) (h' : w.ownsRow lo' e' q' v' n' xs') (hne : e ≠ e') (hg : w.grownBy w' v'.ownBlock) : w'.ownsRow lo e q v n xs := by
 cases hv : v.ownBlock with
 | none => exact h.kept hg (.inl hv)
 | some k => exact h.kept hg (.inr (by rw [hv]; exact fun e => own_apart h h' hne hv e.symm))
end Go.Proofs.Ytkmccjjghpnejaa
