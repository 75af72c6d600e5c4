/-
  A trip that is late, as mathematics and in memory: calls later from one on, a trip's calls put in place of others, the copy that is being made.
-/
import Derived.Test.YtkmccjjghpnejaaLinI
import Derived.Test.YtkmccjjghpnejaaMarkN
namespace Go.Proofs.Ytkmccjjghpnejaa
open Go.RowKit Go.Maps

def latC (x : Int) (c : CalD) : CalD := ⟨c.stop, c.arr + x, c.dep + x⟩
/-- The calls from lo on, below hi, are later. -/
def latF (lo hi : Nat) (x : Int) (l : List CalD) (i : Nat) : CalD := if lo ≤ i ∧ i < hi then latC x (l.getD i default) else l.getD i default
def latL (lo hi : Nat) (x : Int) (l : List CalD) : List CalD := (List.range l.length).map (latF lo hi x l)
theorem latL_len (lo hi : Nat) (x : Int) (l : List CalD) : (latL lo hi x l).length = l.length := by simp [latL]
theorem latL_at {lo hi : Nat} {x : Int} {l : List CalD} {i : Nat} (h : i < (latL lo hi x l).length) : (latL lo hi x l)[i] = latF lo hi x l i := by simp [latL]
theorem latF_old {lo hi : Nat} {x : Int} {l : List CalD} {i : Nat} (h : ¬ (lo ≤ i ∧ i < hi)) (hi' : i < l.length) : latF lo hi x l i = l[i] := by simp [latF, h, List.getD, hi']
theorem latF_step {lo : Nat} {x : Int} {l : List CalD} {j : Nat} (h : lo ≤ j) (hj : j < l.length) : (fun i => if i = j then latC x l[j] else latF lo j x l i) = latF lo (j + 1) x l := by
 funext i
 by_cases e : i = j
 ·subst e
  rw [if_pos rfl]
  unfold latF
  rw [if_pos ⟨h, by omega⟩]
  simp [List.getD, hj]
 ·rw [if_neg e]
  unfold latF
  by_cases h1 : lo ≤ i ∧ i < j
  ·rw [if_pos h1, if_pos ⟨h1.1, by omega⟩]
  ·rw [if_neg h1, if_neg (fun h2 => h1 ⟨h2.1, by omega⟩)]
/-- The trip with these calls in place of its own. -/
def setT (l : List TrpD) (t : Nat) (cs : List CalD) : List TrpD := (List.range l.length).map fun i => if i = t then ⟨(l.getD i default).line, (l.getD i default).days, cs⟩ else l.getD i default
theorem setT_len (l : List TrpD) (t : Nat) (cs : List CalD) : (setT l t cs).length = l.length := by simp [setT]
theorem setT_same {l : List TrpD} {t : Nat} {cs : List CalD} (h : t < l.length) : (setT l t cs)[t]'(by rw [setT_len]; exact h) = ⟨l[t].line, l[t].days, cs⟩ := by simp [setT, List.getD, h]
theorem setT_other {l : List TrpD} {t i : Nat} {cs : List CalD} (h : i < l.length) (hne : i ≠ t) : (setT l t cs)[i]'(by rw [setT_len]; exact h) = l[i] := by simp [setT, List.getD, h, hne]
theorem trp_set {w w' : World} {b off t : Nat} {l : List TrpD} {f : Nat → List Nat} {a2 : Option Addr} {c2 : Nat} {cs : List CalD} (hb : b < w.heap.size) (hx : ∀ i (h : i < l.length), TrpE w b (off + i * 3) l[i] (f i))
  (hd : (b :: (List.range l.length).flatMap f).Nodup) (ht : t < l.length) (hO : Onl (f t) w w') (hc : w.cell? ⟨b, off + t * 3 + 2, none⟩ = some (.slice a2 l[t].calls.length c2)) (hC : CalL w' a2 cs (f t)) (hl : cs.length = l[t].calls.length) :
  TrpL w' (some ⟨b, off, none⟩) (setT l t cs) (b :: (List.range l.length).flatMap f) := by
 obtain ⟨hdb, hdf⟩ := List.nodup_cons.1 hd
 have hbt : b ∉ f t := fun h => hdb (List.mem_flatMap.2 ⟨t, List.mem_range.2 ht, h⟩)
 have hcl : ∀ o, w'.cell? ⟨b, o, none⟩ = w.cell? ⟨b, o, none⟩ := fun o => hO.cell hb hbt
 refine .inr ⟨b, off, f, rfl, Nat.lt_of_lt_of_le hb hO.size, by rw [setT_len], fun i hi => ?_⟩
 have hi' : i < l.length := by rwa [setT_len] at hi
 by_cases e : i = t
 ·subst e
  rw [setT_same hi']
  obtain ⟨z0, z1, y0, y1, a, c, ml, _, _⟩ := hx i hi'
  exact ⟨z0, z1, by rw [hcl]; exact y0, by rw [hcl]; exact y1, a2, c2, by show cs.length ≤ _; rw [hl]; exact ml, by rw [hcl]; show _ = some (Value.slice a2 cs.length c2); rw [hl]; exact hc, hC⟩
 ·rw [setT_other hi' e]
  exact trpE.alike (hx i hi') (fun o _ => hcl _) (hO.alike (trpE.lt (hx i hi')) (nd_ne hdf hi' ht e))
/-- The timetable in which a trip is late, and what Late tells. -/
def callsN (g : LinesD) (t : Int) : Nat := (g.trips.getD t.toNat default).calls.length
def latG (g : LinesD) (t c x : Int) : LinesD := ⟨g.stops, setT g.trips t.toNat (latL c.toNat (callsN g t) x (g.trips.getD t.toNat default).calls), g.walks⟩
noncomputable def latQ (g : LinesD) (t c x : Int) : LinesD := if (linesB g && inN g.trips.length t && inN (callsN g t) c && upToB x 100000 && linesB (latG g t c x)) = true then latG g t c x else ⟨[], [], []⟩
theorem latG_Q {g : LinesD} {t c x : Int} (h : LinQ g) : LinQ (latG g t c x) := by
 obtain ⟨h0, h1, h2, h3⟩ := h
 refine ⟨h0, by show (setT _ _ _).length ≤ _; rw [setT_len]; exact h1, h2, fun i hi => ?_⟩
 have hi' : i < g.trips.length := by have := hi; simp only [latG, setT_len] at this; exact this
 by_cases e : i = t.toNat
 ·subst e
  have e2 : (latG g t c x).trips[t.toNat]'hi = ⟨g.trips[t.toNat].line, g.trips[t.toNat].days, latL c.toNat (callsN g t) x (g.trips.getD t.toNat default).calls⟩ := setT_same hi'
  rw [e2]
  show (latL _ _ _ _).length ≤ _
  rw [latL_len]
  have := h3 t.toNat hi'
  simpa [List.getD, hi'] using this
 ·have e2 : (latG g t c x).trips[i]'hi = g.trips[i] := setT_other hi' e
  rw [e2]
  exact h3 i hi'
theorem latQ_Q {g : LinesD} {t c x : Int} (h : LinQ g) : LinQ (latQ g t c x) := by
 unfold latQ
 split
 ·exact latG_Q h
 ·exact ⟨by decide, by decide, by decide, fun i hi => nomatch hi⟩
theorem zero_lin (w : World) : LinV w (.agg #[.slice none 0 0, .slice none 0 0, .slice none 0 0]) ⟨[], [], []⟩ [] := ⟨none, 0, none, 0, none, 0, [], [], [], rfl, rfl, Sl.nil, Sl.nil, Sl.nil⟩

abbrev zerL : List Value := [.slice none 0 0, .slice none 0 0, .slice none 0 0]
/-- Where the timetable that is being made lies, apart from its lists. -/
structure NtL (V w : World) (g : Nat) (ds : List Nat) : Prop where
 x : Blk w g zerL
 lo : V.heap.size ≤ g
 off : g ∉ ds
theorem NtL.new {V C w : World} {ds d : List Nat} {t : TypeId} (F : Fresh (C.alloc (.cells #[.slice none 0 0, .slice none 0 0, .slice none 0 0] t)) w d) (hb : Bel (C.alloc (.cells #[.slice none 0 0, .slice none 0 0, .slice none 0 0] t)) w) (hV : V.heap.size ≤ C.heap.size) (hds : ∀ x ∈ ds, x < C.heap.size) : NtL V w C.heap.size (ds ++ d) :=
 ⟨(Blk.new C zerL t).bel hb, hV, fun hm => by
  rcases List.mem_append.1 hm with hm | hm
  ·exact absurd (hds _ hm) (Nat.lt_irrefl _)
  ·have := (F.new _ hm).1
   simp at this
   omega⟩
theorem NtL.on {V w w' : World} {g : Nat} {ds d : List Nat} (h : NtL V w g ds) (F : Fresh w w' d) (hb : Bel w w') : NtL V w' g (ds ++ d) :=
 ⟨h.x.bel hb, h.lo, fun hm => by
  rcases List.mem_append.1 hm with hm | hm
  ·exact h.off hm
  ·have := (F.new _ hm).1
   have := h.x.lt
   omega⟩
theorem NtL.cs {V w : World} {g : Nat} {ds : List Nat} (h : NtL V w g ds) : w.cell? ⟨g, 0, none⟩ = some (.slice none 0 0) ∧ w.cell? ⟨g, 1, none⟩ = some (.slice none 0 0) ∧ w.cell? ⟨g, 2, none⟩ = some (.slice none 0 0) ∧ w.frozen? ⟨g, 0, none⟩ = false ∧ w.frozen? ⟨g, 1, none⟩ = false ∧ w.frozen? ⟨g, 2, none⟩ = false :=
 ⟨h.x.cell 0 (by simp), h.x.cell 1 (by simp), h.x.cell 2 (by simp), h.x.free 0, h.x.free 1, h.x.free 2⟩
/-- A timetable that was copied: its struct in a block of its own, its lists in others. -/
structure CutL (V : World) (g : LinesD) (n0 n1 n2 : Nat) (t : Value) (w : World) : Prop where
 out : ∃ (B : Nat) (p0 : Option Addr) (q0 : Nat) (p1 : Option Addr) (q1 : Nat) (p2 : Option Addr) (q2 : Nat) (d0 d1 d2 : List Nat), t = .pointer (some ⟨B, 0, none⟩) ∧ V.heap.size ≤ B ∧ Blk w B [.slice p0 n0 q0, .slice p1 n1 q1, .slice p2 n2 q2] ∧
  StrL w p0 g.stops d0 ∧ TrpL w p1 g.trips d1 ∧ WlkL w p2 g.walks d2 ∧ Fresh V w (d0 ++ (d1 ++ d2)) ∧ B ∉ d0 ++ (d1 ++ d2) ∧ Bel V w
theorem freshL3 {V w1 w2 w3 : World} {d0 d1 d2 : List Nat} (F1 : Fresh V w1 d0) (B1 : Bel V w1) (F2 : Fresh w1 w2 d1) (B2 : Bel w1 w2) (F3 : Fresh w2 w3 d2) (B3 : Bel w2 w3) : Fresh V w3 (d0 ++ (d1 ++ d2)) :=
 F1.behind B1 (F2.behind B2 F3 B3) (bel_step B2 B3)
theorem CutL.put {V w1 w2 w3 : World} {g : LinesD} {n0 n1 n2 B : Nat} {p0 p1 p2 : Option Addr} {q0 q1 q2 : Nat} {d0 d1 d2 : List Nat} (h : NtL V w3 B ((d0 ++ d1) ++ d2)) (T1 : StrL w1 p0 g.stops d0) (F1 : Fresh V w1 d0) (B1 : Bel V w1) (T2 : TrpL w2 p1 g.trips d1) (F2 : Fresh w1 w2 d1) (B2 : Bel w1 w2) (T3 : WlkL w3 p2 g.walks d2) (F3 : Fresh w2 w3 d2) (B3 : Bel w2 w3) :
  CutL V g n0 n1 n2 (.pointer (some ⟨B, 0, none⟩)) (((w3.setCell ⟨B, 0, none⟩ (.slice p0 n0 q0)).setCell ⟨B, 1, none⟩ (.slice p1 n1 q1)).setCell ⟨B, 2, none⟩ (.slice p2 n2 q2)) := by
 have hx := h.x
 have hoff : B ∉ d0 ++ (d1 ++ d2) := by have := h.off; rwa [List.append_assoc] at this
 have h0 : B ∉ d0 := fun hh => hoff (List.mem_append.2 (.inl hh))
 have h1 : B ∉ d1 := fun hh => hoff (List.mem_append.2 (.inr (List.mem_append.2 (.inl hh))))
 have h2 : B ∉ d2 := fun hh => hoff (List.mem_append.2 (.inr (List.mem_append.2 (.inr hh))))
 have S0 := (T1.bel strE B2).bel strE B3
 have S1 := T2.bel trpE B3
 have al : ∀ ds : List Nat, B ∉ ds → (∀ x ∈ ds, x < w3.heap.size) → Alike w3 (((w3.setCell ⟨B, 0, none⟩ (.slice p0 n0 q0)).setCell ⟨B, 1, none⟩ (.slice p1 n1 q1)).setCell ⟨B, 2, none⟩ (.slice p2 n2 q2)) ds :=
  fun ds hd hl => (((Alike.refl hl).set hd _ _).set hd _ _).set hd _ _
 have hF := freshL3 F1 B1 F2 B2 F3 B3
 refine ⟨B, p0, q0, p1, q1, p2, q2, d0, d1, d2, rfl, h.lo, ((hx.set 0 _ (by simp)).set 1 _ (by simp)).set 2 _ (by simp), S0.alike strE (al d0 h0 (S0.lt strE)), S1.alike trpE (al d1 h1 (S1.lt trpE)), T3.alike wlkE (al d2 h2 (T3.lt wlkE)), ?_, hoff, bel_set (bel_set (bel_set (bel_step B1 (bel_step B2 B3)) h.lo _) h.lo _) h.lo _⟩
 exact ⟨hF.nd, fun b hb => ⟨(hF.new b hb).1, by simpa [World.setCell] using (hF.new b hb).2⟩, fun b hb j => by rw [World.frozen?_setCell, World.frozen?_setCell, World.frozen?_setCell]; exact hF.free b hb j⟩
theorem CutL.fresh {V w1 w2 w3 : World} {g : LinesD} {n0 n1 n2 : Nat} {p0 p1 p2 : Option Addr} {q0 q1 q2 : Nat} {d0 d1 d2 : List Nat} {t : TypeId} (T1 : StrL w1 p0 g.stops d0) (F1 : Fresh V w1 d0) (B1 : Bel V w1) (T2 : TrpL w2 p1 g.trips d1) (F2 : Fresh w1 w2 d1) (B2 : Bel w1 w2) (T3 : WlkL w3 p2 g.walks d2) (F3 : Fresh w2 w3 d2) (B3 : Bel w2 w3) :
  CutL V g n0 n1 n2 (.pointer (some ⟨w3.heap.size, 0, none⟩)) (w3.alloc (.cells #[.slice p0 n0 q0, .slice p1 n1 q1, .slice p2 n2 q2] t)) := by
 have hF := freshL3 F1 B1 F2 B2 F3 B3
 have hA : Bel w3 (w3.alloc (.cells #[.slice p0 n0 q0, .slice p1 n1 q1, .slice p2 n2 q2] t)) := bel_alloc (Bel.refl _) _
 have hV3 := bel_step B1 (bel_step B2 B3)
 exact ⟨w3.heap.size, p0, q0, p1, q1, p2, q2, d0, d1, d2, rfl, hV3.out.size, Blk.new w3 [.slice p0 n0 q0, .slice p1 n1 q1, .slice p2 n2 q2] t, ((T1.bel strE B2).bel strE B3).bel strE hA, (T2.bel trpE B3).bel trpE hA, T3.bel wlkE hA, hF.bel hA, fun hm => absurd (hF.new _ hm).2 (Nat.lt_irrefl _), bel_step hV3 hA⟩

end Go.Proofs.Ytkmccjjghpnejaa
