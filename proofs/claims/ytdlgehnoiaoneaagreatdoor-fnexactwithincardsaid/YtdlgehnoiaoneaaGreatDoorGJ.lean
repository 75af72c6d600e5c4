/-
  append at a step of a region that draws: of any number, also of none; of a list of plain elements onto an empty row.
  Least costs in a graph of steps: what they are told apart by, and how they are found step by step: plain mathematics.
  Heaps, as lists: what lies at i comes not ahead of what lies at (i - 1) / 2; a hole that goes up, a hole that goes down.
  A search in memory; what its small functions do: contracts.
  The heap of a search's offers: an item is put in: contract.
-/
import Derived.Test.YtdlgehnoiaoneaaGreatDoorGE
import Derived.Deep.AppendLies
import Derived.Test.YtdlgehnoiaoneaaGreatDoorGA
import Derived.Test.YtdlgehnoiaoneaaGreatDoorStrI
import Derived.Laws.OwnMore
import Derived.Deep.RegionHeld3
namespace Go.Proofs.YtdlgehnoiaoneaaGreatDoor
open Go.RowKit Go.Maps

/-- append of any number, also of none, at a step of a region that draws. -/
theorem step_app {P : Program} (w : World) {ops : Array Oper} {o : Oper} {a : Act} {K : Act → World → Prop} {Q : Exit → Act → World → Prop} {E : Prop} (hgd : o.guard = none) (s x : Operand) (t : TypeId)
    (ho : o.op = .call { callee := .builtin .append, args := #[s, x], argTypes := #[t, t] })
    (base : Nat) (e : TypeId) (i : TypeInfo) (z : Value) (size bytes : Nat) (ht : P.underlying t = some (.slice e)) (hi : P.info? e = some i) (hz : i.zero = some z)
    (hsize : i.size = size) (hby : i.bytes = bytes) (hzs : z.cells.size = size) (hsz : 0 < size)
    (v : Value) (n : Nat) (xs : List Value) (hs : a.eval s = v) (hown : w.ownsRow base e size v n xs)
    (ad : Addr) (m c : Nat) (news : List Value) (hx : a.eval x = .slice (some ad) m c) (hl : news.length = m * size) (hnews : ∀ j u, news[j]? = some u → w.cell? (ad.add j) = some u) (h1 : ∀ u ∈ news, u.oneCell' = true)
    (h63 : n + m ≤ maxLen) (hbytes : (n + m) * bytes ≤ 140737488355328) (hbase : base ≤ w.heap.size)
    (h : ∀ v' w', w'.ownsRow base e size v' (n + m) (xs ++ news) → w.grownBy w' v.ownBlock → K (a.put o.dst v') w') :
    if Region.wanted o (yielded ops a.tmps) = true then Oper.wp P o a w K Q else E := by
  have hw : Region.wanted o (yielded ops a.tmps) = true := by simp [Region.wanted, hgd]
  rw [if_pos hw]
  obtain ⟨v', w', hr, h2, h3, _, _⟩ := run_append_own_at (P := P) w base t o.type e i z size bytes ht hi hz hsize hby hzs hsz v n xs hown ad m c news hl hnews h1 h63 hbytes hbase
  unfold Oper.wp execOp
  simp only [ho, resolve, invoke, builtin, Sem.run_bind, Sem.run_pure, Result.andThen_ok, List.map_toArray, List.map_cons, List.map_nil, hs, hx, hr]
  exact h v' w' h2 h3

theorem step_app0 {P : Program} (w : World) {ops : Array Oper} {o : Oper} {a : Act} {K : Act → World → Prop} {Q : Exit → Act → World → Prop} {E : Prop} (hgd : o.guard = none) (s x : Operand) (t : TypeId)
    (ho : o.op = .call { callee := .builtin .append, args := #[s, x], argTypes := #[t, t] })
    (base : Nat) (e : TypeId) (i : TypeInfo) (size : Nat) (ht : P.underlying t = some (.slice e)) (hi : P.info? e = some i)
    (v : Value) (n : Nat) (xs : List Value) (hs : a.eval s = v) (hown : w.ownsRow base e size v n xs) (b : Option Addr) (c : Nat) (hx : a.eval x = .slice b 0 c)
    (h : K (a.put o.dst v) w) : if Region.wanted o (yielded ops a.tmps) = true then Oper.wp P o a w K Q else E := by
  have hw : Region.wanted o (yielded ops a.tmps) = true := by simp [Region.wanted, hgd]
  rw [if_pos hw]
  have hrun := run_append_zero (P := P) (w := w) base t o.type e i size ht hi v n xs hown b c
  unfold Oper.wp execOp
  simp only [ho, resolve, invoke, builtin, Sem.run_bind, Sem.run_pure, Result.andThen_ok, List.map_toArray, List.map_cons, List.map_nil, hs, hx, hrun]
  exact h

/-- Rows of different types lie in different blocks. -/
theorem own_apart {w : World} {lo lo' : Nat} {e e' : TypeId} {q q' n n' : Nat} {v v' : Value} {xs xs' : List Value} (h : w.ownsRow lo e q v n xs) (h' : w.ownsRow lo' e' q' v' n' xs') (hne : e ≠ e') {g : Nat} (hv : v.ownBlock = some g) : v'.ownBlock ≠ some g := by
  intro hv'
  rcases h.2 with ⟨rfl, _⟩ | ⟨g1, cap1, cur1, rfl, _, hb1, _⟩
  · cases hv
  rcases h'.2 with ⟨rfl, _⟩ | ⟨g2, cap2, cur2, rfl, _, hb2, _⟩
  · cases hv'
  have e1 : g1 = g := by simpa [Value.ownBlock] using hv
  have e2 : g2 = g := by simpa [Value.ownBlock] using hv'
  subst e1 e2
  rw [hb1] at hb2
  injection hb2 with hb2
  injection hb2 with _ hb2
  exact hne hb2
theorem own_keepO {w w' : World} {lo lo' : Nat} {e e' : TypeId} {q q' n n' : Nat} {v v' : Value} {xs xs' : List Value} (h : w.ownsRow lo e q v n xs) (h' : w.ownsRow lo' e' q' v' n' xs') (hne : e ≠ e') (hg : w.grownBy w' v'.ownBlock) : w'.ownsRow lo e q v n xs := by
  cases hv : v.ownBlock with
  | none => exact h.kept hg (.inl hv)
  | some k => exact h.kept hg (.inr (by rw [hv]; exact fun e => own_apart h h' hne hv e.symm))
end Go.Proofs.YtdlgehnoiaoneaaGreatDoor

namespace Go.Proofs.YtdlgehnoiaoneaaGreatDoor

/-- A cost: a time, and a number of Roads. -/
structure Cst where
  t : Int
  c : Int
deriving DecidableEq
/-- By time, then by number. -/
def Cst.le (a b : Cst) : Prop := a.t < b.t ∨ a.t = b.t ∧ a.c ≤ b.c
def Cst.lt (a b : Cst) : Prop := a.t < b.t ∨ a.t = b.t ∧ a.c < b.c
def Cst.plus (a : Cst) (w : Int) : Cst := ⟨a.t + w, a.c + 1⟩
theorem Cst.ext' {a b : Cst} (h1 : a.t = b.t) (h2 : a.c = b.c) : a = b := by cases a; cases b; simp_all
theorem Cst.le_refl (a : Cst) : a.le a := .inr ⟨rfl, Int.le_refl _⟩
theorem Cst.le_trans {a b c : Cst} (h1 : a.le b) (h2 : b.le c) : a.le c := by unfold Cst.le at *; omega
theorem Cst.le_antisymm {a b : Cst} (h1 : a.le b) (h2 : b.le a) : a = b := by
  unfold Cst.le at *
  exact Cst.ext' (by omega) (by omega)
theorem Cst.not_lt {a b : Cst} : ¬ a.lt b ↔ b.le a := by unfold Cst.le Cst.lt; omega
theorem Cst.lt_le {a b : Cst} (h : a.lt b) : a.le b := by unfold Cst.le Cst.lt at *; omega
theorem Cst.plus_mono {a b : Cst} (h : a.le b) (w : Int) : (a.plus w).le (b.plus w) := by unfold Cst.le Cst.plus at *; simp only; omega
theorem Cst.plus_le {a : Cst} {w : Int} (h : 0 ≤ w) : a.le (a.plus w) := by unfold Cst.le Cst.plus; simp only; omega
theorem Cst.plus_w {a : Cst} {w w' : Int} (h : w ≤ w') : (a.plus w).le (a.plus w') := by unfold Cst.le Cst.plus; simp only; omega

/-- None is above every cost. -/
def oLe (a : Option Cst) (b : Cst) : Prop := ∃ x, a = some x ∧ x.le b
theorem oLe.trans {a : Option Cst} {b c : Cst} (h : oLe a b) (k : b.le c) : oLe a c := h.elim fun x hx => ⟨x, hx.1, Cst.le_trans hx.2 k⟩

variable {I : Nat → Option Int} {W : Nat → Nat → Option Int} {d d' : Nat → Option Cst}
/-- The least costs: none is above what begins, none above a step; and each is what begins, or a step. -/
structure Least (I : Nat → Option Int) (W : Nat → Nat → Option Int) (d : Nat → Option Cst) : Prop where
  begins : ∀ x t, I x = some t → oLe (d x) ⟨t, 1⟩
  step : ∀ r x c w, d r = some c → W r x = some w → oLe (d x) (c.plus w)
  from' : ∀ x c, d x = some c → (I x = some c.t ∧ c.c = 1) ∨ ∃ r cr w, d r = some cr ∧ W r x = some w ∧ c = cr.plus w
/-- Each number of Roads is at least one: what is gone back is less by one each time. -/
structure Counted (d : Nat → Option Cst) : Prop where
  one : ∀ x c, d x = some c → 1 ≤ c.c
theorem least_le (h : Least I W d) (hc : Counted d) (h' : Least I W d') : ∀ (n : Nat) x c, d x = some c → c.c ≤ (n : Int) → oLe (d' x) c := by
  intro n
  induction n with
  | zero => intro x c hx hn; have := hc.one x c hx; omega
  | succ n ih =>
    intro x c hx hn
    rcases h.from' x c hx with ⟨h1, h2⟩ | ⟨r, cr, w, h1, h2, rfl⟩
    · have := h'.begins x c.t h1
      rwa [show (⟨c.t, 1⟩ : Cst) = c from Cst.ext' rfl h2.symm] at this
    · have hn' : cr.c + 1 ≤ ((n + 1 : Nat) : Int) := hn
      obtain ⟨y, hy, hle⟩ := ih r cr h1 (by omega)
      exact (h'.step r x y w hy h2).trans (Cst.plus_mono hle w)
/-- There is only one such function. -/
theorem least_unique (h : Least I W d) (hc : Counted d) (h' : Least I W d') (hc' : Counted d') : d = d' := by
  funext x
  cases e : d x with
  | none =>
    cases e' : d' x with
    | none => rfl
    | some c' =>
      obtain ⟨y, hy, _⟩ := least_le h' hc' h c'.c.toNat x c' e' (by have := hc'.one x c' e'; omega)
      rw [e] at hy; cases hy
  | some c =>
    obtain ⟨y, hy, hle⟩ := least_le h hc h' c.c.toNat x c e (by have := hc.one x c e; omega)
    obtain ⟨z, hz, hle2⟩ := least_le h' hc' h y.c.toNat x y hy (by have := hc'.one x y hy; omega)
    rw [e] at hz
    injection hz with hz
    subst hz
    rw [hy, Cst.le_antisymm hle hle2]

/-- By times alone. -/
structure LeastT (I : Nat → Option Int) (W : Nat → Nat → Option Int) (e : Nat → Option Int) : Prop where
  begins : ∀ x t, I x = some t → ∃ y, e x = some y ∧ y ≤ t
  step : ∀ r x c w, e r = some c → W r x = some w → ∃ y, e x = some y ∧ y ≤ c + w
  from' : ∀ x c, e x = some c → I x = some c ∨ ∃ r cr w, e r = some cr ∧ W r x = some w ∧ c = cr + w
theorem leastT_le {e e' : Nat → Option Int} (hW : ∀ r x w, W r x = some w → 1 ≤ w) (h : LeastT I W e) (hp : ∀ x c, e x = some c → 0 ≤ c) (h' : LeastT I W e') : ∀ (n : Nat) x c, e x = some c → c ≤ (n : Int) → ∃ y, e' x = some y ∧ y ≤ c := by
  intro n
  induction n with
  | zero =>
    intro x c hx hn
    rcases h.from' x c hx with h1 | ⟨r, cr, w, h1, h2, rfl⟩
    · exact h'.begins x c h1
    · have := hp r cr h1; have := hW r x w h2; omega
  | succ n ih =>
    intro x c hx hn
    rcases h.from' x c hx with h1 | ⟨r, cr, w, h1, h2, rfl⟩
    · exact h'.begins x c h1
    · have := hW r x w h2
      obtain ⟨y, hy, hle⟩ := ih r cr h1 (by omega)
      obtain ⟨z, hz, hle2⟩ := h'.step r x y w hy h2
      exact ⟨z, hz, by omega⟩
theorem leastT_unique {e e' : Nat → Option Int} (hW : ∀ r x w, W r x = some w → 1 ≤ w) (h : LeastT I W e) (hp : ∀ x c, e x = some c → 0 ≤ c) (h' : LeastT I W e') (hp' : ∀ x c, e' x = some c → 0 ≤ c) : e = e' := by
  funext x
  cases k : e x with
  | none =>
    cases k' : e' x with
    | none => rfl
    | some c' =>
      obtain ⟨y, hy, _⟩ := leastT_le hW h' hp' h c'.toNat x c' k' (by have := hp' x c' k'; omega)
      rw [k] at hy; cases hy
  | some c =>
    obtain ⟨y, hy, hle⟩ := leastT_le hW h hp h' c.toNat x c k (by have := hp x c k; omega)
    obtain ⟨z, hz, hle2⟩ := leastT_le hW h' hp' h y.toNat x y hy (by have := hp' x y hy; omega)
    rw [k] at hz
    injection hz with hz
    subst hz
    rw [hy, show y = c by omega]
/-- The times of the least costs are the least times. -/
theorem Least.times (h : Least I W d) : LeastT I W fun x => (d x).map Cst.t := by
  refine ⟨fun x t hx => ?_, fun r x c w hr hw => ?_, fun x c hx => ?_⟩
  · obtain ⟨y, hy, hle⟩ := h.begins x t hx
    exact ⟨y.t, by simp [hy], by unfold Cst.le at hle; simp only at hle; omega⟩
  · cases e : d r with
    | none => simp [e] at hr
    | some cr =>
      simp [e] at hr
      obtain ⟨y, hy, hle⟩ := h.step r x cr w e hw
      exact ⟨y.t, by simp [hy], by unfold Cst.le Cst.plus at hle; simp only at hle; omega⟩
  · cases e : d x with
    | none => simp [e] at hx
    | some cx =>
      simp [e] at hx
      subst hx
      rcases h.from' x cx e with ⟨h1, _⟩ | ⟨r, cr, w, h1, h2, h3⟩
      · exact .inl h1
      · exact .inr ⟨r, cr.t, w, by simp [h1], h2, by rw [h3]; rfl⟩

/-! ### Step by step: those that are done, those that are open -/
/-- What stands while least costs are looked for: done ones have given their steps on, and none of them is above an open one. -/
structure Dj (I : Nat → Option Int) (W : Nat → Nat → Option Int) (d : Nat → Option Cst) (D : Nat → Prop) : Prop where
  begins : ∀ x t, I x = some t → oLe (d x) ⟨t, 1⟩
  step : ∀ r x c w, D r → d r = some c → W r x = some w → oLe (d x) (c.plus w)
  from' : ∀ x c, d x = some c → (I x = some c.t ∧ c.c = 1) ∨ ∃ r cr w, D r ∧ d r = some cr ∧ W r x = some w ∧ c = cr.plus w
  done : ∀ r, D r → ∃ c, d r = some c
  low : ∀ r x cr cx, D r → ¬ D x → d r = some cr → d x = some cx → cr.le cx
theorem Dj.least {D : Nat → Prop} (h : Dj I W d D) (hall : ∀ x c, d x = some c → D x) : Least I W d :=
  ⟨h.begins, fun r x c w hr hw => h.step r x c w (hall r c hr) hr hw, fun x c hx => (h.from' x c hx).imp id fun ⟨r, cr, w, _, h1, h2, h3⟩ => ⟨r, cr, w, h1, h2, h3⟩⟩
/-- At the start none is done. -/
theorem Dj.start (h1 : ∀ x t, I x = some t → d x = some ⟨t, 1⟩) (h2 : ∀ x c, d x = some c → I x = some c.t ∧ c.c = 1) : Dj I W d fun _ => False :=
  ⟨fun x t hx => ⟨_, h1 x t hx, Cst.le_refl _⟩, fun _ _ _ _ h => h.elim, fun x c hx => .inl (h2 x c hx), fun _ h => h.elim, fun _ _ _ _ h => h.elim⟩
/-- One that is least of the open ones is done, once its steps are taken: e is what stands behind. -/
theorem Dj.next {e : Nat → Option Cst} {D : Nat → Prop} {r : Nat} {c : Cst} (hW : ∀ r x w, W r x = some w → 0 ≤ w) (h : Dj I W d D) (hr : ¬ D r) (hc : d r = some c) (hmin : ∀ x cx, ¬ D x → d x = some cx → c.le cx)
    (hold : ∀ x, D x → e x = d x) (hself : e r = d r) (hle : ∀ x cx, d x = some cx → oLe (e x) cx) (hst : ∀ x w, W r x = some w → oLe (e x) (c.plus w)) (hnew : ∀ x cx, e x = some cx → d x = some cx ∨ ∃ w, W r x = some w ∧ cx = c.plus w) :
    Dj I W e fun x => D x ∨ x = r := by
  have hd : ∀ x, (D x ∨ x = r) → e x = d x := fun x hx => by
    rcases hx with hx | rfl
    · exact hold x hx
    · exact hself
  refine ⟨fun x t hx => ?_, fun y x cy w hy hcy hw => ?_, fun x cx hx => ?_, fun y hy => ?_, fun y x cy cx hy hx hcy hcx => ?_⟩
  · obtain ⟨z, hz, hle'⟩ := h.begins x t hx
    exact (hle x z hz).trans hle'
  · rw [hd y hy] at hcy
    rcases hy with hy | rfl
    · obtain ⟨z, hz, hle'⟩ := h.step y x cy w hy hcy hw
      exact (hle x z hz).trans hle'
    · rw [hc] at hcy
      injection hcy with hcy
      subst hcy
      exact hst x w hw
  · rcases hnew x cx hx with h1 | ⟨w, h1, rfl⟩
    · rcases h.from' x cx h1 with h2 | ⟨y, cy, w, h2, h3, h4, h5⟩
      · exact .inl h2
      · exact .inr ⟨y, cy, w, .inl h2, by rw [hold y h2]; exact h3, h4, h5⟩
    · exact .inr ⟨r, c, w, .inr rfl, by rw [hself]; exact hc, h1, rfl⟩
  · rcases hy with hy | rfl
    · rw [hold y hy]; exact h.done y hy
    · rw [hself]; exact ⟨c, hc⟩
  · have hx' : ¬ D x := fun hh => hx (.inl hh)
    rw [hd y hy] at hcy
    have hyc : cy.le c := by
      rcases hy with hy | rfl
      · exact h.low y r cy c hy hr hcy hc
      · rw [hc] at hcy; injection hcy with hcy; subst hcy; exact Cst.le_refl _
    rcases hnew x cx hcx with h1 | ⟨w, h1, rfl⟩
    · exact Cst.le_trans hyc (hmin x cx hx' h1)
    · exact Cst.le_trans hyc (Cst.plus_le (hW r x w h1))
end Go.Proofs.YtdlgehnoiaoneaaGreatDoor

namespace Go.Proofs.YtdlgehnoiaoneaaGreatDoor

variable {α : Type}
/-- No item is ahead of the one above it. -/
def Hp (key : α → Nat) (l : List α) : Prop := ∀ (j : Nat) (h : j < l.length), 0 < j → key (l[(j - 1) / 2]'(by omega)) ≤ key l[j]
theorem Hp.top {key : α → Nat} {l : List α} (h : Hp key l) : ∀ (j : Nat) (hj : j < l.length), key (l[0]'(by omega)) ≤ key l[j]
  | 0, _ => Nat.le_refl _
  | j + 1, hj => Nat.le_trans (Hp.top h ((j + 1 - 1) / 2) (by omega)) (h (j + 1) hj (by omega))
/-- As a heap but for the item at i, which may be ahead of those above it. -/
structure Up (key : α → Nat) (l : List α) (i : Nat) : Prop where
  lt : i < l.length
  ok : ∀ (j : Nat) (h : j < l.length), 0 < j → j ≠ i → key (l[(j - 1) / 2]'(by omega)) ≤ key l[j]
  by2 : ∀ (j : Nat) (h : j < l.length), 0 < j → (j - 1) / 2 = i → 0 < i → key (l[(i - 1) / 2]'(by omega)) ≤ key l[j]
/-- As a heap but for the item at i, which those below it may be ahead of. -/
structure Dn (key : α → Nat) (l : List α) (i : Nat) : Prop where
  lt : i < l.length
  ok : ∀ (j : Nat) (h : j < l.length), 0 < j → (j - 1) / 2 ≠ i → key (l[(j - 1) / 2]'(by omega)) ≤ key l[j]
  by2 : ∀ (j : Nat) (h : j < l.length), 0 < j → (j - 1) / 2 = i → 0 < i → key (l[(i - 1) / 2]'(by omega)) ≤ key l[j]

theorem Up.start {key : α → Nat} {l : List α} (h : Hp key l) (x : α) : Up key (l ++ [x]) l.length := by
  refine ⟨by simp, fun j hj j0 jn => ?_, fun j hj j0 jp _ => ?_⟩
  · simp at hj
    have h1 : j < l.length := by omega
    rw [List.getElem_append_left (by omega), List.getElem_append_left h1]
    exact h j h1 j0
  · simp at hj
    omega
theorem Up.done {key : α → Nat} {l : List α} {i : Nat} (h : Up key l i) (hi : i = 0 ∨ key (l[(i - 1) / 2]'(by have := h.lt; omega)) ≤ key (l[i]'h.lt)) : Hp key l := by
  intro j hj j0
  by_cases e : j = i
  · subst e
    rcases hi with hi | hi
    · omega
    · exact hi
  · exact h.ok j hj j0 e
/-- Two items change their places. -/
def swp2 (l : List α) (i j : Nat) (hi : i < l.length) (hj : j < l.length) : List α := (l.set i l[j]).set j l[i]
theorem swp2_len {l : List α} {i j : Nat} (hi : i < l.length) (hj : j < l.length) : (swp2 l i j hi hj).length = l.length := by simp [swp2]
theorem swp2_at {l : List α} {i j : Nat} (hi : i < l.length) (hj : j < l.length) (k : Nat) (hk : k < (swp2 l i j hi hj).length) :
    (swp2 l i j hi hj)[k] = if k = j then l[i] else if k = i then l[j] else l[k]'(by rw [swp2_len] at hk; exact hk) := by
  have e0 : (swp2 l i j hi hj)[k] = ((l.set i l[j]).set j l[i])[k]'(by simpa [swp2_len] using hk) := rfl
  rw [e0, List.getElem_set]
  by_cases e : j = k
  · subst e; simp
  · rw [if_neg e, if_neg (fun h => e h.symm), List.getElem_set]
    by_cases e2 : i = k
    · subst e2; simp
    · rw [if_neg e2, if_neg (fun h => e2 h.symm)]
theorem swp2_perm {l : List α} {i j : Nat} (hi : i < l.length) (hj : j < l.length) : (swp2 l i j hi hj).Perm l := List.set_set_perm hi hj

theorem Up.step {key : α → Nat} {l : List α} {i : Nat} (h : Up key l i) (i0 : 0 < i) (hlt : key (l[i]'h.lt) < key (l[(i - 1) / 2]'(by have := h.lt; omega))) :
    Up key (swp2 l i ((i - 1) / 2) h.lt (by have := h.lt; omega)) ((i - 1) / 2) := by
  have hi := h.lt
  have hp : (i - 1) / 2 < l.length := by omega
  refine ⟨by rw [swp2_len]; exact hp, fun j hj j0 jn => ?_, fun j hj j0 jp p0 => ?_⟩
  · rw [swp2_len] at hj
    rw [swp2_at, swp2_at]
    by_cases e : j = i
    · subst e
      rw [if_pos rfl, if_neg jn, if_pos rfl]
      exact Nat.le_of_lt hlt
    · rw [if_neg jn, if_neg e]
      by_cases e2 : (j - 1) / 2 = (i - 1) / 2
      · rw [if_pos e2]
        have := h.ok j hj j0 e
        simp only [e2] at this
        omega
      · rw [if_neg e2]
        by_cases e3 : (j - 1) / 2 = i
        · rw [if_pos e3]
          exact h.by2 j hj j0 e3 i0
        · rw [if_neg e3]
          exact h.ok j hj j0 e
  · rw [swp2_len] at hj
    rw [swp2_at, swp2_at]
    have n1 : ¬ ((i - 1) / 2 - 1) / 2 = (i - 1) / 2 := by omega
    have n2 : ¬ ((i - 1) / 2 - 1) / 2 = i := by omega
    have n3 : ¬ j = (i - 1) / 2 := by omega
    rw [if_neg n1, if_neg n2, if_neg n3]
    by_cases e : j = i
    · subst e
      rw [if_pos rfl]
      exact h.ok _ hp (by omega) (by omega)
    · rw [if_neg e]
      have h1 := h.ok _ hp (by omega) (by omega)
      have h2 := h.ok j hj j0 e
      simp only [jp] at h2
      exact Nat.le_trans h1 h2

theorem Dn.done {key : α → Nat} {l : List α} {i : Nat} (h : Dn key l i) (hi : ∀ (j : Nat) (hj : j < l.length), 0 < j → (j - 1) / 2 = i → key (l[i]'h.lt) ≤ key l[j]) : Hp key l := by
  intro j hj j0
  by_cases e : (j - 1) / 2 = i
  · subst e
    exact hi j hj j0 rfl
  · exact h.ok j hj j0 e
theorem Dn.start {key : α → Nat} {l : List α} (h : Hp key l) (n : Nat) (hn : n + 1 = l.length) (n0 : 0 < n) : Dn key ((l.take n).set 0 (l[n]'(by omega))) 0 := by
  refine ⟨by simp; omega, fun j hj j0 jn => ?_, fun j hj j0 jp i0 => absurd i0 (Nat.lt_irrefl 0)⟩
  simp at hj
  rw [List.getElem_set, List.getElem_set, if_neg (by omega), if_neg (by omega), List.getElem_take, List.getElem_take]
  exact h j (by omega) j0
theorem Dn.step {key : α → Nat} {l : List α} {i c : Nat} (h : Dn key l i) (hc : c < l.length) (c0 : 0 < c) (cp : (c - 1) / 2 = i) (hlt : key l[c] < key (l[i]'h.lt))
    (hmin : ∀ (j : Nat) (hj : j < l.length), 0 < j → (j - 1) / 2 = i → key l[c] ≤ key l[j]) : Dn key (swp2 l i c h.lt hc) c := by
  have hi := h.lt
  refine ⟨by rw [swp2_len]; exact hc, fun j hj j0 jn => ?_, fun j hj j0 jp _ => ?_⟩
  · rw [swp2_len] at hj
    rw [swp2_at, swp2_at, if_neg jn]
    by_cases e : (j - 1) / 2 = i
    · rw [if_pos e]
      by_cases e2 : j = c
      · subst e2
        rw [if_pos rfl]
        exact Nat.le_of_lt hlt
      · rw [if_neg e2, if_neg (by omega)]
        exact hmin j hj j0 e
    · rw [if_neg e]
      have h1 := h.ok j hj j0 e
      by_cases e2 : j = c
      · omega
      · rw [if_neg e2]
        by_cases e3 : j = i
        · subst e3
          rw [if_pos rfl]
          exact h.by2 c hc c0 cp j0
        · rw [if_neg e3]
          exact h1
  · rw [swp2_len] at hj
    rw [swp2_at, swp2_at, if_neg (show ¬ (c - 1) / 2 = c by omega), if_pos cp, if_neg (show ¬ j = c by omega), if_neg (show ¬ j = i by omega)]
    have := h.ok j hj j0 (by omega)
    simp only [jp] at this
    exact this
/-- The top taken away, the last put in its place: the same items but for the top. -/
theorem pop_perm {l : List α} (n : Nat) (hn : n + 1 = l.length) (n0 : 0 < n) : (l[0]'(by omega) :: (l.take n).set 0 (l[n]'(by omega))).Perm l := by
  obtain ⟨x, t, rfl⟩ : ∃ x t, l = x :: t := by
    cases l with
    | nil => simp at hn
    | cons x t => exact ⟨x, t, rfl⟩
  simp at hn
  obtain ⟨m, rfl⟩ : ∃ m, n = m + 1 := ⟨n - 1, by omega⟩
  simp only [List.getElem_cons_zero, List.take_succ_cons, List.set_cons_zero, List.getElem_cons_succ]
  refine List.Perm.cons x ?_
  have e : t = t.take m ++ [t[m]'(by omega)] := by
    rw [← List.take_succ_eq_append_getElem (by omega), List.take_of_length_le (by omega)]
  have h2 : (t[m]'(by omega) :: t.take m).Perm (t.take m ++ [t[m]'(by omega)]) := (List.perm_append_singleton _ _).symm
  exact h2.trans (by rw [← e])
end Go.Proofs.YtdlgehnoiaoneaaGreatDoor

namespace Go.Proofs.YtdlgehnoiaoneaaGreatDoor
open Go.RowKit Go.Maps

/-- Is a cost ahead of another one? -/
def cLtB (x y : Cst) : Bool := decide (x.t < y.t) || (decide (x.t = y.t) && decide (x.c < y.c))
theorem cLtB_iff {x y : Cst} : cLtB x y = true ↔ x.lt y := by simp [cLtB, Cst.lt]
abbrev cstV (x : Cst) : Value := .agg #[.int .i64 x.t, .int .i64 x.c]

theorem before_r (x y : Cst) (r : Bool) (w : World) (h : cLtB x y = r) :
    Calls Tryz.prog 73 #[cstV x, cstV y] w fun e w' => e = .returned (.bool r) ∧ Bel w w' := by
  subst h
  have hB := bel_alloc (bel_alloc (Bel.refl w) (.cells #[.int .i64 x.t, .int .i64 x.c] 112)) (.cells #[.int .i64 y.t, .int .i64 y.c] 112)
  by_cases h1 : x.t < y.t
  · have hr : cLtB x y = true := by simp [cLtB, h1]
    have hd : decide (x.t < y.t) = true := by simp [h1]
    rw [hr]; clear hr
    go_enter Tryz.func73, Tryz.ntmps73
    go_wp2
    go_ret
    exact ⟨rfl, hB⟩
  · have hd : decide (x.t < y.t) = false := by simp [h1]
    by_cases h2 : x.t = y.t
    · have he : (x.t == y.t) = true := by simp [h2]
      by_cases h3 : x.c < y.c
      · have hr : cLtB x y = true := by simp [cLtB, h2, h3]
        have hd3 : decide (x.c < y.c) = true := by simp [h3]
        rw [hr]; clear hr h2
        go_enter Tryz.func73, Tryz.ntmps73
        go_wp2
        go_ret
        exact ⟨rfl, hB⟩
      · have hr : cLtB x y = false := by simp [cLtB, h1, h3]
        have hd3 : decide (x.c < y.c) = false := by simp [h3]
        rw [hr]; clear hr h2
        go_enter Tryz.func73, Tryz.ntmps73
        go_wp2
        go_ret
        exact ⟨rfl, hB⟩
    · have he : (x.t == y.t) = false := by simp [h2]
      have hr : cLtB x y = false := by simp [cLtB, h1, h2]
      rw [hr]; clear hr
      go_enter Tryz.func73, Tryz.ntmps73
      go_wp2
      go_ret
      exact ⟨rfl, hB⟩

theorem plus_any (x : Cst) (d : Int) (w : World) (h1 : -9223372036854775808 ≤ x.t + d ∧ x.t + d ≤ 9223372036854775807) (h2 : -9223372036854775808 ≤ x.c + 1 ∧ x.c + 1 ≤ 9223372036854775807) :
    Calls Tryz.prog 105 #[cstV x, .int .i64 d] w fun e w' => e = .returned (cstV (x.plus d)) ∧ Bel w w' := by
  have hw1 : IntKind.i64.wrap (x.t + d) = x.t + d := by rw [IntKind.wrap_i64]; omega
  have hw2 : IntKind.i64.wrap (x.c + 1) = x.c + 1 := by rw [IntKind.wrap_i64]; omega
  go_enter Tryz.func105, Tryz.ntmps105
  go_wp2
  exact bodyPost_ret (v := cstV (x.plus d)) (by simp [results, Tryz.results105, go_sem, Cst.plus]) rfl ⟨rfl, by first | exact bel_alloc (bel_alloc (Bel.refl _) _) _ | exact bel_set (bel_set (bel_alloc (bel_alloc (Bel.refl _) _) _) (by simp) _) (by simp) _⟩

/-- What of a search does not change. -/
structure SrS where
  a0 : Option Addr
  n0 : Nat
  c0 : Nat
  a1 : Option Addr
  n1 : Nat
  c1 : Nat
  a2 : Option Addr
  n2 : Nat
  c2 : Nat
  Bb : Nat
  Be : Nat
  M : Nat
  Wd : Nat
  back : Bool
  start : Int
/-- A search's fourteen cells. -/
abbrev srL (S : SrS) (P : Nat) (vb vl vo vi : Value) : List Value :=
  [.slice S.a0 S.n0 S.c0, .slice S.a1 S.n1 S.c1, .slice S.a2 S.n2 S.c2, .slice (some ⟨S.Bb, 0, none⟩) S.n0 S.n0, .slice (some ⟨S.Be, 0, none⟩) S.n0 S.n0, .map (some S.M), .slice (some ⟨S.Wd, 0, none⟩) S.n1 S.n1, .bool S.back, .int .i64 S.start, vb, vl, vo, vi, .func (.func 83) #[.pointer (some ⟨P, 0, none⟩)] #[]]
abbrev SrP (base : Nat) (S : SrS) (P : Nat) (w : World) (vb vl vo vi : Value) : Prop := w.ownsRow base 131 14 (.slice (some ⟨P, 0, none⟩) 1 1) 1 (srL S P vb vl vo vi)
theorem SrP.at {base : Nat} {S : SrS} {P : Nat} {w : World} {vb vl vo vi : Value} (h : SrP base S P w vb vl vo vi) (j : Nat) (hj : j < 14) : w.cell? ⟨P, j, none⟩ = some ((srL S P vb vl vo vi)[j]'hj) := by
  rw [h.cellAt j (by omega), List.getElem?_eq_getElem (show j < (srL S P vb vl vo vi).length from hj)]
theorem SrP.lt {base : Nat} {S : SrS} {P : Nat} {w : World} {vb vl vo vi : Value} (h : SrP base S P w vb vl vo vi) : base ≤ P ∧ P < w.heap.size := World.ownsRow.lt h P rfl
/-- An offer. -/
structure OffD where
  c : Cst
  r : Nat
def offCs (d : OffD) : List Value := [.int .i64 d.c.t, .int .i64 d.c.c, .int .i64 (d.r : Int)]
theorem flat_at {α : Type} {cs : α → List Value} {q : Nat} (hq : ∀ d, (cs d).length = q) : ∀ (l : List α) (i : Nat) (h : i < l.length) (j : Nat) (hj : j < q), (l.flatMap cs)[i * q + j]? = some ((cs l[i])[j]'(by rw [hq]; exact hj))
  | d :: l, 0, _, j, hj => by
    rw [List.flatMap_cons, Nat.zero_mul, Nat.zero_add, List.getElem?_append_left (by rw [hq]; exact hj), List.getElem?_eq_getElem (by rw [hq]; exact hj)]
    rfl
  | d :: l, i + 1, h, j, hj => by
    have h' : i < l.length := by simpa using h
    rw [List.flatMap_cons, List.getElem?_append_right (by rw [hq, Nat.add_mul]; omega), hq, show (i + 1) * q + j - q = i * q + j by rw [Nat.add_mul]; omega]
    exact flat_at hq l i h' j hj
abbrev SrO (base : Nat) (w : World) (vo : Value) (l : List OffD) : Prop := w.ownsRow base 114 3 vo l.length (l.flatMap offCs)
theorem SrO.at {base : Nat} {w : World} {g n cap : Nat} {l : List OffD} (h : SrO base w (.slice (some ⟨g, 0, none⟩) n cap) l) (hn : l.length = n) {i : Nat} (hi : i < l.length) :
    w.cell? ⟨g, i * 3, none⟩ = some (.int .i64 l[i].c.t) ∧ w.cell? ⟨g, i * 3 + 1, none⟩ = some (.int .i64 l[i].c.c) ∧ w.cell? ⟨g, i * 3 + 2, none⟩ = some (.int .i64 (l[i].r : Int)) := by
  subst hn
  have h0 := h.cellAt (i * 3) (by omega)
  have h1 := h.cellAt (i * 3 + 1) (by omega)
  have h2 := h.cellAt (i * 3 + 2) (by omega)
  have k0 := flat_at (cs := offCs) (q := 3) (fun _ => rfl) l i hi 0 (by omega)
  have k1 := flat_at (cs := offCs) (q := 3) (fun _ => rfl) l i hi 1 (by omega)
  have k2 := flat_at (cs := offCs) (q := 3) (fun _ => rfl) l i hi 2 (by omega)
  rw [Nat.add_zero] at k0
  exact ⟨h0.trans k0, h1.trans k1, h2.trans k2⟩
/-- A row that is not empty lies in a block. -/
theorem own_in {w : World} {base : Nat} {e : TypeId} {q n : Nat} {v : Value} {xs : List Value} (h : w.ownsRow base e q v n xs) (hn : 0 < n) : ∃ g cap, v = .slice (some ⟨g, 0, none⟩) n cap ∧ base ≤ g ∧ g < w.heap.size := by
  rcases h.2 with ⟨_, h0⟩ | ⟨g, cap, cur, rfl, hb, hg, _⟩
  · omega
  · exact ⟨g, cap, rfl, hb, (Array.getElem?_eq_some_iff.1 hg).1⟩

set_option maxRecDepth 100000 in
set_option maxHeartbeats 2000000 in
theorem ahead_any (base P : Nat) (S : SrS) (vb vl vo vi : Value) (l : List OffD) (i j : Nat) (w : World) (hP : SrP base S P w vb vl vo vi) (hO : SrO base w vo l) (hi : i < l.length) (hj : j < l.length) (hm : l.length ≤ 100000000) :
    Calls Tryz.prog 83 #[.pointer (some ⟨P, 0, none⟩), .int .i64 (i : Int), .int .i64 (j : Int)] w fun e w' => e = .returned (.bool (cLtB l[i].c l[j].c)) ∧ Bel w w' := by
  obtain ⟨g, cap, rfl, _, _⟩ := own_in hO (by omega)
  obtain ⟨n, Hn⟩ : ∃ n, Hid (l.length = n) := ⟨_, (rfl : l.length = _)⟩
  have hi' : i < n := by rw [← Hn.out]; exact hi
  have hj' : j < n := by rw [← Hn.out]; exact hj
  have hnm : n ≤ 100000000 := by rw [← Hn.out]; exact hm
  obtain ⟨x, Hx⟩ : ∃ x, Hid (l[i].c = x) := ⟨_, (rfl : l[i].c = _)⟩
  obtain ⟨y, Hy⟩ : ∃ x, Hid (l[j].c = x) := ⟨_, (rfl : l[j].c = _)⟩
  rw [Hx.out, Hy.out]
  have hS : ∀ w', Bel w w' → w'.cell? ⟨P, 11, none⟩ = some (.slice (some ⟨g, 0, none⟩) n cap) ∧ w'.cell? ⟨g, i * 3, none⟩ = some (.int .i64 x.t) ∧ w'.cell? ⟨g, i * 3 + 1, none⟩ = some (.int .i64 x.c) ∧ w'.cell? ⟨g, j * 3, none⟩ = some (.int .i64 y.t) ∧ w'.cell? ⟨g, j * 3 + 1, none⟩ = some (.int .i64 y.c) := fun w' h => by
    have hP' := SrP.at (own_bel hP h) 11 (by omega)
    obtain ⟨p0, p1, _⟩ := SrO.at (own_bel hO h) rfl hi
    obtain ⟨q0, q1, _⟩ := SrO.at (own_bel hO h) rfl hj
    rw [Hx.out] at p0 p1
    rw [Hy.out] at q0 q1
    rw [← Hn.out]
    exact ⟨hP', p0, p1, q0, q1⟩
  have hiI : (i : Int) < (n : Int) := by omega
  have hjI : (j : Int) < (n : Int) := by omega
  have g0 : Bel w w := Bel.refl _
  clear hP hO
  go_enter Tryz.func83, Tryz.ntmps83
  go_upto_region 1 with fail
  go_region_held3 (fun w' => Bel w w') (with_reducible (repeat (first | assumption | exact g0 | refine Bel.drew ?_ | refine bel_then (by assumption) ?_)))
    ((go_at_call 73; refine (before_r x y _ _ rfl).mono ?_; rintro e w2 ⟨rfl, hb2⟩))
  have hH : Bel w w2 := by assumption
  clear hS
  go_wp2
  go_ret
  exact ⟨rfl, hH⟩
end Go.Proofs.YtdlgehnoiaoneaaGreatDoor

namespace Go.Proofs.YtdlgehnoiaoneaaGreatDoor
open Go.RowKit Go.Maps

/-- An offer's place in the order, as one number. -/
def okey (l : List OffD) (y : Nat) : Nat := match l[y]? with | some o => o.c.t.toNat * 1048576 + o.c.c.toNat | none => 0
/-- The offers' numbers are such that one number tells their order. -/
def okO (l : List OffD) : Prop := ∀ i (h : i < l.length), 0 ≤ l[i].c.t ∧ 0 ≤ l[i].c.c ∧ l[i].c.c < 1048576
theorem okey_lt {l : List OffD} (hk : okO l) {i j : Nat} (hi : i < l.length) (hj : j < l.length) : cLtB l[i].c l[j].c = decide (okey l i < okey l j) := by
  obtain ⟨a0, a1, a2⟩ := hk i hi
  obtain ⟨b0, b1, b2⟩ := hk j hj
  have e1 : okey l i = l[i].c.t.toNat * 1048576 + l[i].c.c.toNat := by simp [okey, hi]
  have e2 : okey l j = l[j].c.t.toNat * 1048576 + l[j].c.c.toNat := by simp [okey, hj]
  rw [e1, e2]
  generalize l[i].c = x at *
  generalize l[j].c = y at *
  unfold cLtB
  by_cases h1 : x.t < y.t
  · rw [decide_eq_true h1, Bool.true_or, eq_comm, decide_eq_true_iff]; omega
  · rw [decide_eq_false h1, Bool.false_or]
    by_cases h2 : x.t = y.t
    · rw [decide_eq_true h2, Bool.true_and, h2]
      exact decide_eq_decide.2 (by omega)
    · rw [decide_eq_false h2, Bool.false_and, eq_comm, decide_eq_false_iff_not]; omega
theorem SrP.set {base : Nat} {S : SrS} {P : Nat} {w : World} {vb vl vo vi : Value} (h : SrP base S P w vb vl vo vi) (u : Value) : SrP base S P (w.setCell ⟨P, 12, none⟩ u) vb vl vo u := (h.stored 12 u).1
/-- A row of another type stays when a cell is stored. -/
theorem own_setO {w : World} {lo lo' : Nat} {e e' : TypeId} {q q' n n' c' : Nat} {v : Value} {g : Nat} {xs xs' : List Value} (h : w.ownsRow lo e q v n xs) (h' : w.ownsRow lo' e' q' (.slice (some ⟨g, 0, none⟩) n' c') n' xs') (hne : e ≠ e') (j : Nat) (u : Value) : (w.setCell ⟨g, j, none⟩ u).ownsRow lo e q v n xs :=
  own_keepO h h' hne (h'.stored j u).2
theorem intsN_len (l : List Nat) : (intsN l).length = l.length := by simp [intsN]
theorem intsN_at {w : World} {base g n cap : Nat} {l : List Nat} (h : w.ownsRow base 3 1 (.slice (some ⟨g, 0, none⟩) n cap) n (intsN l)) (hn : l.length = n) {i : Nat} (hi : i < l.length) : w.cell? ⟨g, i, none⟩ = some (.int .i64 (l[i] : Int)) := by
  rw [h.cellAt i (by omega)]
  simp [intsN, hi]
theorem intsN_set (l : List Nat) (i x : Nat) : intsN (l.set i x) = (intsN l).set i (.int .i64 (x : Int)) := by unfold intsN; rw [List.map_set]
theorem infoIt : (Tryz.prog.info? 3).map (fun i => (i.zero, i.size, i.bytes)) = some (some (.int .i64 0), 1, 8) := by kernel_rfl

/-- What the heap is, and what has stayed. -/
structure HpOut (base P : Nat) (S : SrS) (vb vl vo vi : Value) (l : List OffD) (ys : List Nat) (w w' : World) : Prop where
  out : ∃ vi' ys', SrP base S P w' vb vl vo vi' ∧ SrO base w' vo l ∧ w'.ownsRow base 3 1 vi' ys'.length (intsN ys') ∧ ys'.Perm ys ∧ Hp (okey l) ys' ∧ Frx (fun k => k ≠ P ∧ some k ≠ vi.ownBlock) w w' ∧ ∀ k, vi'.ownBlock = some k → vi.ownBlock = some k ∨ w.heap.size ≤ k
theorem Frx.mono {X Y : Nat → Prop} {a b : World} (h : Frx X a b) (hxy : ∀ k, k < a.heap.size → Y k → X k) : Frx Y a b := ⟨h.os, h.tape, h.output, h.size, fun k hk hy => h.block k hk (hxy k hk hy)⟩
theorem Frx.trans2 {X Y : Nat → Prop} {a b c : World} (h : Frx X a b) (k : Frx Y b c) (hxy : ∀ i, i < a.heap.size → X i → Y i) : Frx X a c :=
  ⟨k.os.trans h.os, k.tape.trans h.tape, k.output.trans h.output, Nat.le_trans h.size k.size, fun i hi hx => (k.block i (Nat.lt_of_lt_of_le hi h.size) (hxy i hi hx)).trans (h.block i hi hx)⟩
theorem Frx.stored {X : Nat → Prop} {w : World} {g o : Nat} {u : Value} (hx : ¬ X g) : Frx X w (w.setCell ⟨g, o, none⟩ u) := Frx.grow (setCell_grown w g o u) (fun x e => by injection e with e; subst e; exact hx)

set_option maxRecDepth 100000 in
set_option maxHeartbeats 4000000 in
theorem push_any (base P : Nat) (S : SrS) (vb vl vo vi : Value) (l : List OffD) (ys : List Nat) (x : Nat) (w : World) (hP : SrP base S P w vb vl vo vi) (hO : SrO base w vo l) (hI : w.ownsRow base 3 1 vi ys.length (intsN ys)) (hk : okO l) (hy : ∀ y ∈ ys, y < l.length) (hx : x < l.length) (hH : Hp (okey l) ys) (hm : l.length ≤ 100000000) (hym : ys.length ≤ 100000000) :
    Calls Tryz.prog 92 #[.pointer (some ⟨P, 12, none⟩), .int .i64 (x : Int)] w fun e w' => e = .returned (.tuple #[]) ∧ HpOut base P S vb vl vo vi l (x :: ys) w w' := by
  obtain ⟨i0, hi0, hz0, hz1, hz2⟩ := info_parts infoIt
  obtain ⟨k, HK⟩ : ∃ k, Hid (ys.length = k) := ⟨_, (rfl : ys.length = _)⟩
  obtain ⟨ia, ic, rfl⟩ := own_shape hI
  rw [HK.out] at hI hym hP ⊢
  have Hk : Hid (okO l) := hk
  have HY : Hid (∀ y ∈ ys, y < l.length) := hy
  have HH : Hid (Hp (okey l) ys) := hH
  have hPl := SrP.lt hP
  obtain ⟨hPb, hPl⟩ := hPl
  have hown1 := World.ownsRow.alloc hI (.cells #[.int .i64 (x : Int)] 3)
  have hP1 := World.ownsRow.alloc hP (.cells #[.int .i64 (x : Int)] 3)
  have hO1 := World.ownsRow.alloc hO (.cells #[.int .i64 (x : Int)] 3)
  have p12 : w.cell? ⟨P, 12, none⟩ = some (.slice ia k ic) := SrP.at hP 12 (by omega)
  have HF1 : Hid (Frx (fun t => t ≠ P ∧ some t ≠ (Value.slice ia k ic).ownBlock) w (w.alloc (.cells #[.int .i64 (x : Int)] 3))) := Frx.bel (bel_alloc (Bel.refl _) _)
  have hbl : base ≤ w.heap.size := by omega
  clear hI hP hO hk hy hH
  go_enter Tryz.func92, Tryz.ntmps92
  go_wp2_with (first
    | (at_builtin; refine wpList_append_lies _ rfl _ _ 126 rfl base 3 i0 (.int .i64 0) 1 8 Tryz.underlying126 hi0 hz0 hz1 hz2 rfl (by decide) _ _ _ rfl hown1 ⟨w.heap.size, 0, none⟩ 1 1 [.int .i64 (x : Int)] rfl rfl (cell_one_new _ _ _) (by simp [Value.oneCell']) (by decide) (by unfold maxLen; omega) (by omega) (by simp; omega) (w.heap.size + 1) (by simp) ?_)
    | go_in)
  intro g cap w2 hown2 hgrow hat _
  have hP2 := own_keepO hP1 hown1 (by decide) hgrow
  have hO2 := own_keepO hO1 hown1 (by decide) hgrow
  have q12 : w2.cell? ⟨P, 12, none⟩ = some (.slice ia k ic) := SrP.at hP2 12 (by omega)
  have f12 : w2.frozen? ⟨P, 12, none⟩ = false := World.ownsRow.frozenAt hP2 12
  have hP2l := (SrP.lt hP2).2
  have hat' : (Value.slice ia k ic).ownBlock = some g ∨ g = w.heap.size + 1 := by simpa using hat
  have HF2 : Hid (Frx (fun t => t ≠ P ∧ some t ≠ (Value.slice ia k ic).ownBlock) w w2) := HF1.out.trans (Frx.grow hgrow (fun t e hh => hh.2 e.symm))
  have HG : Hid (∀ t, t < w.heap.size → some t ≠ (Value.slice ia k ic).ownBlock → t ≠ g) := fun t ht hn e => by
    subst e
    rcases hat' with h | h
    · exact hn h.symm
    · omega
  have HO' : Hid (∀ t, (Value.slice (some ⟨g, 0, none⟩) (k + 1) cap).ownBlock = some t → (Value.slice ia k ic).ownBlock = some t ∨ w.heap.size ≤ t) := fun t e => by
    have e : g = t := by simpa [Value.ownBlock] using e
    subst e
    rcases hat' with h | h
    · exact .inl h
    · exact .inr (by omega)
  clear hP1 hO1 hown1 hgrow hat hat' p12
  go_upto_region 1 with fail
  obtain ⟨w3, Hw3⟩ : ∃ W, Hid (W = w2.setCell ⟨P, 12, none⟩ (.slice (some ⟨g, 0, none⟩) (k + 1) cap)) := ⟨_, (rfl : w2.setCell ⟨P, 12, none⟩ (.slice (some ⟨g, 0, none⟩) (k + 1) cap) = _)⟩
  have hP3 : SrP base S P w3 vb vl vo (.slice (some ⟨g, 0, none⟩) (k + 1) cap) := by rw [Hw3.out]; exact SrP.set hP2 _
  have hO3 : SrO base w3 vo l := by rw [Hw3.out]; exact own_setO hO2 hP2 (by decide) 12 _
  have hI3 : w3.ownsRow base 3 1 (.slice (some ⟨g, 0, none⟩) (k + 1) cap) (k + 1) (intsN (ys ++ [x])) := by
    rw [Hw3.out]
    have h := own_setO hown2 hP2 (by decide) 12 (.slice (some ⟨g, 0, none⟩) (k + 1) cap)
    unfold intsN at h ⊢
    rw [List.map_append]
    exact h
  have HF3 : Hid (Frx (fun t => t ≠ P ∧ some t ≠ (Value.slice ia k ic).ownBlock) w w3) := (by rw [Hw3.out]; exact HF2.out.trans (Frx.stored (fun hh => hh.1 rfl)) : Frx (fun t => t ≠ P ∧ some t ≠ (Value.slice ia k ic).ownBlock) w w3)
  rw [← Hw3.out]
  have r12 : w3.cell? ⟨P, 12, none⟩ = some (.slice (some ⟨g, 0, none⟩) (k + 1) cap) := SrP.at hP3 12 (by omega)
  have r12l := (SrP.lt hP3).2
  clear hP2 hO2 hown2 q12 f12 hP2l Hw3
  have HU : Hid (Up (okey l) ((ys ++ [x]).set k x) k) := (by
    have h := Up.start HH.out x
    rw [HK.out] at h
    rw [show (ys ++ [x]).set k x = ys ++ [x] by rw [← HK.out]; simp]
    exact h : Up (okey l) ((ys ++ [x]).set k x) k)
  have HPm : Hid (((ys ++ [x]).set k x).Perm (x :: ys)) := (by
    rw [show (ys ++ [x]).set k x = ys ++ [x] by rw [← HK.out]; simp]
    exact List.perm_append_singleton _ _ : ((ys ++ [x]).set k x).Perm (x :: ys))
  have HL0 : Hid ((ys ++ [x]).length = k + 1) := (by rw [List.length_append, HK.out]; rfl : (ys ++ [x]).length = k + 1)
  go_wp2
  go_loopw [4] (fun i wr => ∃ (j : Nat) (zs : List Nat), i = .int .i64 j ∧ j ≤ k ∧ Hid (zs.length = k + 1) ∧ SrP base S P wr vb vl vo (.slice (some ⟨g, 0, none⟩) (k + 1) cap) ∧ SrO base wr vo l ∧ wr.ownsRow base 3 1 (.slice (some ⟨g, 0, none⟩) (k + 1) cap) (k + 1) (intsN zs) ∧ Hid (Up (okey l) (zs.set j x) j) ∧ Hid ((zs.set j x).Perm (x :: ys)) ∧ Frx (fun t => t ≠ P ∧ t ≠ g) w3 wr) (fun i _ => (intOf i).toNat)
  case atStart => exact ⟨k, ys ++ [x], by first | rfl | (congr 1; omega), Nat.le_refl _, HL0, hP3, hO3, hI3, HU, HPm, Frx.refl _ _⟩
  case round =>
    clear hP3 hO3 hI3 HU HPm HL0 r12 r12l
    obtain ⟨j, zs, rfl, hj, HZ, hPr, hOr, hIr, HU, HPm, HFr⟩ := hrel
    have hjz : j < zs.length := by rw [HZ.out]; omega
    have s12 : wr.cell? ⟨P, 12, none⟩ = some (.slice (some ⟨g, 0, none⟩) (k + 1) cap) := SrP.at hPr 12 (by omega)
    have s13 : wr.cell? ⟨P, 13, none⟩ = some (.func (.func 83) #[.pointer (some ⟨P, 0, none⟩)] #[]) := SrP.at hPr 13 (by omega)
    have sl := (SrP.lt hPr).2
    have gl := (hIr.lt g rfl).2
    have hne : g ≠ P := fun e => own_apart hIr hPr (by decide) (g := g) rfl (by rw [e]; rfl)
    have cj := intsN_at hIr HZ.out hjz
    have fj := hIr.frozenAt j
    -- the end: the item is laid into the hole
    have HEnd : Hid (∀ w', Bel wr w' → (j = 0 ∨ ∃ h : (j - 1) / 2 < zs.length, okey l zs[(j - 1) / 2] ≤ okey l x) → HpOut base P S vb vl vo (.slice ia k ic) l (x :: ys) w (w'.setCell ⟨g, j, none⟩ (.int .i64 (x : Int)))) := fun w' hb hc => by
      have hI' := own_bel hIr hb
      have hlen : (zs.set j x).length = k + 1 := by rw [List.length_set]; exact HZ.out
      refine ⟨_, zs.set j x, own_setO (own_bel hPr hb) hI' (by decide) j _, own_setO (own_bel hOr hb) hI' (by decide) j _, ?_, HPm.out, HU.out.done ?_, ?_, HO'.out⟩
      · rw [hlen, intsN_set]
        exact (hI'.stored j _).1
      · rcases hc with hc | ⟨h1, hc⟩
        · exact .inl hc
        · by_cases e : j = 0
          · exact .inl e
          · refine .inr ?_
            rw [List.getElem_set_self, List.getElem_set_ne (by omega)]
            exact hc
      · exact HF3.out.trans2 ((HFr.trans (Frx.bel hb)).trans (Frx.stored (fun hh => hh.2 rfl))) fun t ht hX => ⟨hX.1, HG.out t ht hX.2⟩
    have g0 : Bel wr wr := Bel.refl _
    by_cases hj0 : j = 0
    · subst hj0
      have hS : ∀ w', Bel wr w' → w'.cell? ⟨P, 12, none⟩ = some (.slice (some ⟨g, 0, none⟩) (k + 1) cap) := fun w' h => bel_cellM h sl s12
      have HE0 : Hid (HpOut base P S vb vl vo (.slice ia k ic) l (x :: ys) w (wr.drew.setCell ⟨g, 0, none⟩ (.int .i64 (x : Int)))) := HEnd.out _ (Bel.refl _).drew (.inl rfl)
      clear hPr hOr hIr HEnd
      go_upto_region 2 with fail
      refine wp_region_noPanic ?_
      refine wp_region_held_drew (S := fun w' => Bel wr w') (by kernel_rfl) (Bel.drew g0) (fun hHeld => ?_)
      refine tk 0 hHeld ?_; refine tk 1 hHeld ?_; refine tk 2 hHeld ?_; refine sk 3 hHeld ?_; refine sk 4 hHeld ?_; refine sk 5 hHeld ?_
      refine sk 6 hHeld ?_; refine sk 7 hHeld ?_; refine sk 8 hHeld ?_; refine sk 9 hHeld ?_; refine sk 10 hHeld ?_; refine sk 11 hHeld ?_
      refine sk 12 hHeld ?_; refine sk 13 hHeld ?_; refine sk 14 hHeld ?_; refine sk 15 hHeld ?_; refine sk 16 hHeld ?_
      refine sk 17 hHeld ?_; refine tk 18 hHeld ?_
      refine wpAnyH_done (by kernel_rfl) ?_ _
      refine NoPanic.normal ?_
      go_wp2
      go_end0
      exact ⟨rfl, HE0.out⟩
    · obtain ⟨q, Hq⟩ : ∃ q, Hid ((j - 1) / 2 = q) := ⟨_, (rfl : (j - 1) / 2 = _)⟩
      have hqj : q < j := by have := Hq.out; omega
      have hqz : q < zs.length := by omega
      have hjx : j < (zs.set j x).length := by rw [List.length_set]; exact hjz
      have hqx : q < (zs.set j x).length := by rw [List.length_set]; exact hqz
      have HEq : Hid ((zs.set j x)[q] = zs[q]) := List.getElem_set_ne (by omega) _
      have hyl : zs[q] < l.length := by
        have h := HPm.out.mem_iff.1 (List.getElem_mem hqx)
        rw [HEq.out] at h
        rcases List.mem_cons.1 h with h | h
        · rw [h]; exact hx
        · exact HY.out _ h
      have cq := intsN_at hIr HZ.out hqz
      obtain ⟨y, Hy⟩ : ∃ y, Hid (zs[q] = y) := ⟨_, (rfl : zs[q] = _)⟩
      rw [Hy.out] at cq hyl
      obtain ⟨bb, Hbb⟩ : ∃ b, Hid (cLtB l[x].c l[y].c = b) := ⟨_, (rfl : cLtB l[x].c l[y].c = _)⟩
      have cA : ∀ w', Bel wr w' → Calls Tryz.prog 83 #[.pointer (some ⟨P, 0, none⟩), .int .i64 (x : Int), .int .i64 (y : Int)] w' fun e w'' => e = .returned (.bool bb) ∧ Bel w' w'' := fun w' h => by
        rw [← Hbb.out]
        exact ahead_any base P S vb vl vo _ l x y w' (own_bel hPr h) (own_bel hOr h) hx hyl hm
      have hS : ∀ w', Bel wr w' → w'.cell? ⟨P, 12, none⟩ = some (.slice (some ⟨g, 0, none⟩) (k + 1) cap) ∧ w'.cell? ⟨P, 13, none⟩ = some (.func (.func 83) #[.pointer (some ⟨P, 0, none⟩)] #[]) ∧ w'.cell? ⟨g, q, none⟩ = some (.int .i64 (y : Int)) := fun w' h => ⟨bel_cellM h sl s12, bel_cellM h sl s13, bel_cellM h gl cq⟩
      have hd0 : decide ((0 : Int) < (j : Int)) = true := by simp; omega
      have hd0n : decide (0 < j) = true := by simp; omega
      have hd0m : 0 < j := by omega
      have hw1 : IntKind.i64.wrap ((j : Int) - 1) = (j : Int) - 1 := by rw [IntKind.wrap_i64]; omega
      have hq1 : Int.tdiv ((j : Int) - 1) 2 = (q : Int) := by rw [Int.tdiv_eq_ediv_of_nonneg (by omega)]; have := Hq.out; omega
      have hw2 : IntKind.i64.wrap (q : Int) = (q : Int) := by rw [IntKind.wrap_i64]; omega
      have hw3 : IntKind.i64.wrap (Int.tdiv ((j : Int) - 1) 2) = (q : Int) := by rw [hq1, hw2]
      have hqI : (q : Int) < ((k + 1 : Nat) : Int) := by omega
      have hq00 : (0 : Int) ≤ (q : Int) := by omega
      have hqk : q < k + 1 := by omega
      have hqI' : (q : Int) < (k : Int) + 1 := by omega
      have hjI : (j : Int) < (k : Int) + 1 := by omega
      go_upto_region 2 with fail
      go_region_held3 (fun w' => Bel wr w') (with_reducible (repeat (first | assumption | exact g0 | refine Bel.drew ?_ | refine bel_then (by assumption) ?_)))
        ((go_at_call 83; refine (cA _ (by assumption)).mono ?_; rintro e wq ⟨rfl, hbk⟩))
      have hHq : Bel wr wq := by assumption
      have hPq := own_bel hPr hHq
      have hOq := own_bel hOr hHq
      have hIq := own_bel hIr hHq
      have t12 : wq.cell? ⟨P, 12, none⟩ = some (.slice (some ⟨g, 0, none⟩) (k + 1) cap) := SrP.at hPq 12 (by omega)
      have tl := (SrP.lt hPq).2
      have tg := (hIq.lt g rfl).2
      have tj := intsN_at hIq HZ.out hjz
      have tq := intsN_at hIq HZ.out hqz
      rw [Hy.out] at tq
      have tf := hIq.frozenAt j
      have HKL : Hid (cLtB l[x].c l[y].c = decide (okey l x < okey l y)) := okey_lt Hk.out hx hyl
      clear hS cA s12 s13 sl gl cj fj cq
      cases bb
      · have HE0 : Hid (HpOut base P S vb vl vo (.slice ia k ic) l (x :: ys) w (wq.setCell ⟨g, j, none⟩ (.int .i64 (x : Int)))) := HEnd.out _ hHq (.inr (by
          have h1 := HKL.out
          rw [Hbb.out] at h1
          have h2 := of_decide_eq_false h1.symm
          have e := Hq.out
          subst e
          exact ⟨hqz, by rw [Hy.out]; omega⟩))
        clear HEnd hPq hOq hIq hPr hOr hIr
        go_wp2
        go_end0
        exact ⟨rfl, HE0.out⟩
      · have HSw : Hid ((zs.set j y).set q x = swp2 (zs.set j x) j q hjx hqx) := (by
          unfold swp2
          rw [HEq.out, Hy.out, List.getElem_set_self, List.set_set] : (zs.set j y).set q x = swp2 (zs.set j x) j q hjx hqx)
        have HU2 : Hid (Up (okey l) ((zs.set j y).set q x) q) := (by
          rw [HSw.out]
          have e := Hq.out
          subst e
          refine HU.out.step (by omega) ?_
          rw [List.getElem_set_self, HEq.out, Hy.out]
          have h1 := HKL.out
          rw [Hbb.out] at h1
          exact of_decide_eq_true h1.symm : Up (okey l) ((zs.set j y).set q x) q)
        have HPm2 : Hid (((zs.set j y).set q x).Perm (x :: ys)) := (by
          rw [HSw.out]
          exact (swp2_perm hjx hqx).trans HPm.out : ((zs.set j y).set q x).Perm (x :: ys))
        have HZ2 : Hid ((zs.set j y).length = k + 1) := (by rw [List.length_set]; exact HZ.out : (zs.set j y).length = k + 1)
        have HP4 : Hid (SrP base S P (wq.setCell ⟨g, j, none⟩ (.int .i64 (y : Int))).drew vb vl vo (.slice (some ⟨g, 0, none⟩) (k + 1) cap)) := own_setO hPq hIq (by decide) j _
        have HO4 : Hid (SrO base (wq.setCell ⟨g, j, none⟩ (.int .i64 (y : Int))).drew vo l) := own_setO hOq hIq (by decide) j _
        have HI4 : Hid ((wq.setCell ⟨g, j, none⟩ (.int .i64 (y : Int))).drew.ownsRow base 3 1 (.slice (some ⟨g, 0, none⟩) (k + 1) cap) (k + 1) (intsN (zs.set j y))) := (by
          rw [intsN_set]
          exact (hIq.stored j _).1 : (wq.setCell ⟨g, j, none⟩ (.int .i64 (y : Int))).ownsRow base 3 1 (.slice (some ⟨g, 0, none⟩) (k + 1) cap) (k + 1) (intsN (zs.set j y)))
        have HF4 : Hid (Frx (fun t => t ≠ P ∧ t ≠ g) w3 (wq.setCell ⟨g, j, none⟩ (.int .i64 (y : Int))).drew) := ((HFr.trans (Frx.bel hHq)).trans (Frx.stored (fun hh => hh.2 rfl))).trans (Frx.bel (Bel.refl _).drew)
        clear HEnd hPq hOq hIq hPr hOr hIr
        go_upto_region 3 with fail
        go_big_region
        go_wp2
        go_roundw
        case rel => exact ⟨q, zs.set j y, by first | rfl | go_num, by omega, HZ2, HP4.out, HO4.out, HI4.out, HU2, HPm2, HF4.out⟩
        case measure => simp [intOf]; omega
end Go.Proofs.YtdlgehnoiaoneaaGreatDoor
