/-
  Two tables of rows of numbers that grow; what a graph's network is made of.
-/
import Derived.Test.YtponmbjflablcaaDoorBanK
import Derived.Test.YtponmbjflablcaaDoorOwnK
import Derived.Laws.AppendOwnNone
import Derived.Laws.MakeOwn
namespace Go.Proofs.YtponmbjflablcaaDoor
open Go.RowKit Go.Maps

/-- The blocks of which X holds stay. -/
structure Frx (X : Nat → Prop) (w w' : World) : Prop where
  os : w'.os = w.os
  tape : w'.tape = w.tape
  output : w'.output = w.output
  size : w.heap.size ≤ w'.heap.size
  block : ∀ k, k < w.heap.size → X k → w'.heap[k]? = w.heap[k]?
theorem Frx.refl (X : Nat → Prop) (w : World) : Frx X w w := ⟨rfl, rfl, rfl, Nat.le_refl _, fun _ _ _ => rfl⟩
theorem Frx.trans {X : Nat → Prop} {a b c : World} (h : Frx X a b) (k : Frx X b c) : Frx X a c :=
  ⟨k.os.trans h.os, k.tape.trans h.tape, k.output.trans h.output, Nat.le_trans h.size k.size, fun i hi hx => (k.block i (Nat.lt_of_lt_of_le hi h.size) hx).trans (h.block i hi hx)⟩
theorem Frx.grow {X : Nat → Prop} {a b : World} {row : Option Nat} (h : a.grownBy b row) (hr : ∀ x, row = some x → ¬ X x) : Frx X a b :=
  ⟨h.os, h.tape, h.output, h.size, fun k hk hx => h.block k hk fun e => hr k e.symm hx⟩
theorem Frx.bel {X : Nat → Prop} {a b : World} (h : Bel a b) : Frx X a b := ⟨h.out.os, h.out.tape, h.out.output, h.out.size, fun k hk _ => h.out.block k hk⟩
theorem Frx.blk {X : Nat → Prop} {a b : World} {B : Nat} {vs : List Value} (h : Frx X a b) (k : Blk a B vs) (hx : X B) : Blk b B vs :=
  ⟨Nat.lt_of_lt_of_le k.lt h.size, fun j hj => by rw [World.cell?_of_block (h.block B k.lt hx)]; exact k.cell j hj, fun j => by rw [World.frozen?_of_block (h.block B k.lt hx)]; exact k.free j⟩
theorem Frx.sl {α : Type} {q : Nat} {E : Elem α} (hE : Stays q E) {X : Nat → Prop} {w w' : World} {a : Option Addr} {l : List α} {bs : List Nat} (g : Frx X w w') (h : Sl q E w a l bs) (hn : ∀ x ∈ bs, X x) : Sl q E w' a l bs :=
  h.alike hE fun b hb => by
    have hl := h.lt hE b hb
    have e := g.block b hl (hn b hb)
    exact ⟨Nat.lt_of_lt_of_le hl g.size, fun o => World.cell?_of_block e, fun o => World.frozen?_of_block e⟩
theorem Frx.below {X : Nat → Prop} {a b : World} {N : Nat} (h : Frx X a b) (hx : ∀ k, k < N → X k) (hN : N ≤ a.heap.size) : Below N a b :=
  ⟨h.os, h.tape, h.output, h.size, fun k hk => h.block k (by omega) (hx k hk)⟩
theorem Frx.bset {X : Nat → Prop} {a b : World} {M n : Nat} {s : Int → Int → Prop} (h : Frx X a b) (k : BSet a M n s) (hx : X M) : BSet b M n s := by
  obtain ⟨D, ⟨es, clock, h1, h2⟩, h3⟩ := k
  exact ⟨D, ⟨es, clock, by rw [h.block M (by have := World.ownsMap.lt (⟨es, clock, h1, h2⟩ : a.ownsMap Tryd.prog 73 unitElem M n D); exact this) hx]; exact h1, h2⟩, h3⟩

theorem blk_of {w : World} {N : Nat} {vs : List Value} {t : TypeId} (h : w.heap[N]? = some (.cells vs.toArray t)) : Blk w N vs := by
  refine ⟨?_, fun j hj => ?_, fun j => ?_⟩
  · exact (Array.getElem?_eq_some_iff.1 h).1
  · simp [World.cell?, h, hj]
  · simp [World.frozen?, h]

/-- Two tables of n rows of numbers, in the blocks B; their rows of the call's own from lo on. -/
structure Tabs (lo : Nat) (w : World) (B : Bool → Nat) (n : Nat) (V : Bool → Nat → Value) (F : Bool → Nat → List Nat) : Prop where
  lt : ∀ t, B t < lo
  sz : lo ≤ w.heap.size
  ne : B true ≠ B false
  cell : ∀ t p, p < n → w.cell? ⟨B t, p, none⟩ = some (V t p)
  free : ∀ t p, w.frozen? ⟨B t, p, none⟩ = false
  rows : ∀ t p, p < n → w.ownsRow lo 2 1 (V t p) (F t p).length (intsN (F t p))
  dis : ∀ t p t' p', p < n → p' < n → ¬ (t = t' ∧ p = p') → (V t p).ownBlock = none ∨ (V t p).ownBlock ≠ (V t' p').ownBlock
variable {lo : Nat} {w wa wb : World} {B : Bool → Nat} {n : Nat} {V : Bool → Nat → Value} {F : Bool → Nat → List Nat}
theorem Tabs.bel (h : Tabs lo w B n V F) (hb : Bel w wa) : Tabs lo wa B n V F :=
  ⟨h.lt, Nat.le_trans h.sz hb.out.size, h.ne, fun t p hp => by have := h.lt t; have := h.sz; exact bel_cellM hb (by omega) (h.cell t p hp), fun t p => by have := h.lt t; have := h.sz; rw [hb.out.frozen (p := ⟨B t, p, none⟩) (show B t < w.heap.size by omega)]; exact h.free t p,
    fun t p hp => (h.rows t p hp).kept (bel_none hb) (Classical.em _), h.dis⟩
theorem Tabs.row_ne (h : Tabs lo w B n V F) {t : Bool} {p : Nat} (hp : p < n) (k : Nat) (hk : k < lo) : some k ≠ (V t p).ownBlock := fun e => by have := ((h.rows t p hp).lt k e.symm).1; omega
/-- One number more in one row. -/
theorem Tabs.step (h : Tabs lo w B n V F) (hb : Bel w wa) {t : Bool} {p : Nat} (hp : p < n) {i : Nat} {v' : Value}
    (ho : wb.ownsRow lo 2 1 v' ((F t p).length + 1) (intsN (F t p) ++ [.int .i64 (i : Nat)])) (hg : wa.grownBy wb (V t p).ownBlock) (hat : v'.ownBlock = (V t p).ownBlock ∨ v'.ownBlock = some wa.heap.size) :
    ∃ V', Tabs lo (wb.setCell ⟨B t, p, none⟩ v') B n V' (fun t' p' => if t' = t ∧ p' = p then F t p ++ [i] else F t' p') ∧ Frx (fun k => k ≠ B true ∧ k ≠ B false ∧ (k < lo ∨ some k ≠ (V t p).ownBlock)) w (wb.setCell ⟨B t, p, none⟩ v') ∧ ∀ t' p' x, p' < n → (V' t' p').ownBlock = some x → (V t' p').ownBlock = some x ∨ x = wa.heap.size := by
  have ha := h.bel hb
  have hG0 := setCell_grown wb (B t) p v'
  have hBn : ∀ t', B t' < wa.heap.size := fun t' => by have := h.lt t'; have := ha.sz; omega
  have offB : ∀ {v : Value} {m : Nat} {xs : List Value} (t' : Bool), wb.ownsRow lo 2 1 v m xs → v.ownBlock = none ∨ v.ownBlock ≠ some (B t') := fun t' ho => .inr fun e => by have := (ho.lt _ e).1; have := h.lt t'; omega
  have hsame : ∀ t', wb.heap[B t']? = wa.heap[B t']? := fun t' => hg.block (B t') (hBn t') (ha.row_ne hp (B t') (h.lt t'))
  refine ⟨fun t' p' => if t' = t ∧ p' = p then v' else V t' p', ⟨h.lt, ?_, h.ne, fun t' p' hp' => ?_, fun t' p' => ?_, fun t' p' hp' => ?_, fun t1 p1 t2 p2 h1 h2 hd => ?_⟩, ?_, fun t' p' x _ hx => ?_⟩
  · have := hg.size; have := ha.sz; simp [World.setCell]; omega
  · by_cases e : t' = t ∧ p' = p
    · obtain ⟨rfl, rfl⟩ := e
      rw [if_pos ⟨rfl, rfl⟩]
      exact World.cell?_setCell_same _ _ _ (by rw [World.cell?_of_block (a := ⟨B t', p', none⟩) (hsame t')]; exact ha.cell t' p' hp')
    · rw [if_neg e, World.cell?_setCell_other _ _ _ _ (fun e2 => e (by
        have e3 := congrArg Addr.block e2
        have e4 := congrArg Addr.off e2
        simp only at e3 e4
        refine ⟨?_, e4.symm⟩
        have := h.ne
        cases t <;> cases t' <;> first | rfl | exact absurd e3 this | exact absurd e3.symm this)), World.cell?_of_block (a := ⟨B t', p', none⟩) (hsame t')]
      exact ha.cell t' p' hp'
  · rw [World.frozen?_setCell, World.frozen?_of_block (a := ⟨B t', p', none⟩) (hsame t')]; exact ha.free t' p'
  · show (wb.setCell ⟨B t, p, none⟩ v').ownsRow lo 2 1 (if t' = t ∧ p' = p then v' else V t' p') (if t' = t ∧ p' = p then F t p ++ [i] else F t' p').length (intsN (if t' = t ∧ p' = p then F t p ++ [i] else F t' p'))
    by_cases e : t' = t ∧ p' = p
    · rw [if_pos e, if_pos e]
      have e2 : intsN (F t p ++ [i]) = intsN (F t p) ++ [.int .i64 (i : Nat)] := by simp [intsN]
      rw [e2, List.length_append]
      exact ho.kept hG0 (offB t ho)
    · rw [if_neg e, if_neg e]
      have hr := (ha.rows t' p' hp').kept hg (h.dis t' p' t p hp' hp e)
      exact hr.kept hG0 (offB t hr)
  · have hlt : ∀ {t' p'}, p' < n → (V t' p').ownBlock ≠ some wa.heap.size := fun hp' e => by have := ((ha.rows _ _ hp').lt _ e).2; omega
    show (if t1 = t ∧ p1 = p then v' else V t1 p1).ownBlock = none ∨ (if t1 = t ∧ p1 = p then v' else V t1 p1).ownBlock ≠ (if t2 = t ∧ p2 = p then v' else V t2 p2).ownBlock
    by_cases e : t1 = t ∧ p1 = p <;> by_cases e' : t2 = t ∧ p2 = p
    · exact absurd ⟨e.1.trans e'.1.symm, e.2.trans e'.2.symm⟩ hd
    · rw [if_pos e, if_neg e']
      rcases hat with hat | hat
      · rw [hat, ← e.1, ← e.2]; exact h.dis t1 p1 t2 p2 h1 h2 hd
      · rw [hat]; exact .inr (hlt h2).symm
    · rw [if_neg e, if_pos e']
      rcases hat with hat | hat
      · rw [hat, ← e'.1, ← e'.2]; exact h.dis t1 p1 t2 p2 h1 h2 hd
      · rw [hat]; exact .inr (hlt h1)
    · rw [if_neg e, if_neg e']; exact h.dis t1 p1 t2 p2 h1 h2 hd
  · refine (Frx.bel hb).trans ((Frx.grow hg fun x hx hX => ?_).trans (Frx.grow hG0 fun x hx hX => ?_))
    · rcases hX.2.2 with h1 | h1
      · exact ha.row_ne hp x h1 hx.symm
      · exact h1 hx.symm
    · injection hx with hx
      cases t
      · exact hX.2.1 hx.symm
      · exact hX.1 hx.symm
  · change (if t' = t ∧ p' = p then v' else V t' p').ownBlock = some x at hx
    split at hx
    · rename_i e
      rcases hat with hat | hat
      · rw [e.1, e.2, ← hat]; exact .inl hx
      · rw [hat] at hx; injection hx with hx; exact .inr hx.symm
    · exact .inl hx

theorem Frx.then {X Y : Nat → Prop} {a b c : World} (h : Frx X a b) (k : Frx Y b c) (hi : ∀ k, k < a.heap.size → X k → Y k) : Frx X a c :=
  ⟨k.os.trans h.os, k.tape.trans h.tape, k.output.trans h.output, Nat.le_trans h.size k.size, fun i hl hx => (k.block i (Nat.lt_of_lt_of_le hl h.size) (hi i hl hx)).trans (h.block i hl hx)⟩
theorem Tabs.kept (h : Tabs lo w B n V F) {R : Nat} (hg : w.grownBy wa (some R)) (hR : R < lo) (h1 : R ≠ B true) (h2 : R ≠ B false) : Tabs lo wa B n V F := by
  have hs : ∀ t, wa.heap[B t]? = w.heap[B t]? := fun t => hg.block (B t) (by have := h.lt t; have := h.sz; omega) (fun e => by injection e with e; cases t <;> simp_all)
  exact ⟨h.lt, Nat.le_trans h.sz hg.size, h.ne, fun t p hp => by rw [World.cell?_of_block (a := ⟨B t, p, none⟩) (hs t)]; exact h.cell t p hp, fun t p => by rw [World.frozen?_of_block (a := ⟨B t, p, none⟩) (hs t)]; exact h.free t p,
    fun t p hp => (h.rows t p hp).kept hg (.inr fun e => by have := ((h.rows t p hp).lt _ e).1; omega), h.dis⟩
/-- Where a road begins (true), where it ends. -/
def endR (t : Bool) (r : RoadD) : Int := if t then r.fr else r.to
/-- Which of the first k roads begin (end) at p. -/
def bgF (rs : List RoadD) (k : Nat) (t : Bool) (p : Nat) : List Nat := (List.range k).filter fun i => (rs[i]?).any fun r => decide (endR t r = (p : Int))
theorem bgF_zero (rs : List RoadD) (t : Bool) (p : Nat) : bgF rs 0 t p = [] := rfl
theorem bgF_succ {rs : List RoadD} {k : Nat} (hk : k < rs.length) (t : Bool) (p : Nat) : bgF rs (k + 1) t p = if endR t rs[k] = (p : Int) then bgF rs k t p ++ [k] else bgF rs k t p := by
  unfold bgF
  rw [List.range_succ, List.filter_append]
  by_cases h : endR t rs[k] = (p : Int)
  · rw [if_pos h]; simp [hk, h]
  · rw [if_neg h]; simp [hk, h]
theorem bgF_len (rs : List RoadD) (k : Nat) (t : Bool) (p : Nat) : (bgF rs k t p).length ≤ k := by
  unfold bgF
  exact Nat.le_trans (List.length_filter_le _ _) (by simp)
theorem bgF_mem {rs : List RoadD} {k : Nat} {t : Bool} {p i : Nat} (h : i ∈ bgF rs k t p) : i < k := List.mem_range.1 (List.mem_filter.1 h).1
/-- Four blocks more. -/
theorem four0 (w : World) (a b c d : Obj) : ((((w.alloc a).alloc b).alloc c).alloc d).drew.heap[w.heap.size]? = some a := by
  rw [((bel_alloc (bel_alloc (bel_alloc (Bel.refl (w.alloc a)) b) c) d).drew).out.block _ (by simp)]
  exact heap_alloc_new w a
theorem four1 (w : World) (a b c d : Obj) : ((((w.alloc a).alloc b).alloc c).alloc d).drew.heap[w.heap.size + 1]? = some b := by
  rw [((bel_alloc (bel_alloc (Bel.refl ((w.alloc a).alloc b)) c) d).drew).out.block _ (by simp)]
  simpa using heap_alloc_new (w.alloc a) b
theorem four2 (w : World) (a b c d : Obj) : ((((w.alloc a).alloc b).alloc c).alloc d).drew.heap[w.heap.size + 1 + 1]? = some c := by
  rw [((bel_alloc (Bel.refl (((w.alloc a).alloc b).alloc c)) d).drew).out.block _ (by simp)]
  simpa using heap_alloc_new ((w.alloc a).alloc b) c
theorem four3 (w : World) (a b c d : Obj) : ((((w.alloc a).alloc b).alloc c).alloc d).drew.heap[w.heap.size + 1 + 1 + 1]? = some d := by
  rw [((Bel.refl ((((w.alloc a).alloc b).alloc c).alloc d)).drew).out.block _ (by simp)]
  simpa using heap_alloc_new (((w.alloc a).alloc b).alloc c) d
theorem fourB (w : World) (a b c d : Obj) : Bel w ((((w.alloc a).alloc b).alloc c).alloc d).drew := (bel_alloc (bel_alloc (bel_alloc (bel_alloc (Bel.refl w) _) _) _) _).drew
theorem fourS (w : World) (a b c d : Obj) : ((((w.alloc a).alloc b).alloc c).alloc d).drew.heap.size = w.heap.size + 4 := by
  show ((((w.alloc a).alloc b).alloc c).alloc d).heap.size = _
  simp
/-- The network's block, its two tables' blocks and its map, new and empty. -/
structure CutN (w1 : World) (s0 s1 s2 : Value) (n : Nat) (a : Value) (wx : World) : Prop where
  out : ∃ N Bb Be M, a = .pointer (some ⟨N, 0, none⟩) ∧ wx.heap[N]? = some (.cells #[s0, s1, s2, .slice (some ⟨Bb, 0, none⟩) n n, .slice (some ⟨Be, 0, none⟩) n n, .map (some M)] 65) ∧
    wx.heap[Bb]? = some (.cells (madeCells #[.slice none 0 0] n) 37) ∧ wx.heap[Be]? = some (.cells (madeCells #[.slice none 0 0] n) 37) ∧ wx.heap[M]? = some (.map #[] 0) ∧
    Bel w1 wx ∧ wx.heap.size = w1.heap.size + 4 ∧ (w1.heap.size ≤ N ∧ w1.heap.size ≤ Bb ∧ w1.heap.size ≤ Be ∧ w1.heap.size ≤ M) ∧ N ≠ Bb ∧ N ≠ Be ∧ N ≠ M ∧ Bb ≠ Be ∧ Bb ≠ M ∧ Be ≠ M
theorem cell_made {w : World} {B n : Nat} {t : TypeId} (h : w.heap[B]? = some (.cells (madeCells #[.slice none 0 0] n) t)) : (∀ p, p < n → w.cell? ⟨B, p, none⟩ = some (.slice none 0 0)) ∧ (∀ p, w.frozen? ⟨B, p, none⟩ = false) := by
  refine ⟨fun p hp => ?_, fun p => by simp [World.frozen?, h]⟩
  simp only [World.cell?, h]
  rw [← Array.getElem?_toList, toList_madeCells_one]
  simp [hp]
theorem Tabs.new {lo n : Nat} {w : World} {Bb Be : Nat} {t : TypeId} (h1 : w.heap[Bb]? = some (.cells (madeCells #[.slice none 0 0] n) t)) (h2 : w.heap[Be]? = some (.cells (madeCells #[.slice none 0 0] n) t)) (hne : Bb ≠ Be) (hb : Bb < lo) (he : Be < lo) (hlo : lo ≤ w.heap.size) (rs : List RoadD) :
    Tabs lo w (fun t => cond t Bb Be) n (fun _ _ => .slice none 0 0) (bgF rs 0) := by
  obtain ⟨c1, f1⟩ := cell_made h1
  obtain ⟨c2, f2⟩ := cell_made h2
  exact ⟨fun t => by cases t <;> assumption, hlo, hne, fun t p hp => (match t with | false => c2 p hp | true => c1 p hp), fun t p => (match t with | false => f2 p | true => f1 p), fun t p _ => by rw [bgF_zero]; exact World.ownsRow_nil _ _ _ _, fun _ _ _ _ _ _ _ => .inl rfl⟩
theorem BSet.of {w : World} {M : Nat} (h : w.heap[M]? = some (.map #[] 0)) : BSet w M 0 (fun _ _ => False) := by
  obtain ⟨D, ⟨es, clock, h1, h2⟩, h3⟩ := BSet.new w
  have e : (Obj.map es clock) = .map #[] 0 := by
    have := heap_alloc_new w (.map #[] 0)
    rw [this] at h1
    injection h1 with h1
    exact h1.symm
  injection e with e1 e2
  subst e1 e2
  exact ⟨D, ⟨#[], 0, h, h2⟩, h3⟩
end Go.Proofs.YtponmbjflablcaaDoor
