/-
  The grid of rooms in memory.
-/
import Derived.Test.YtpbpnkklnbmkeaaXG
import Derived.Test.YtpbpnkklnbmkeaaOwnK
import Derived.Laws.OwnMore
import Derived.Lib.SliceRun
namespace Go.Proofs.Ytpbpnkklnbmkeaa
open Go.RowKit Go.Maps

structure RmD where
  a : Int
  b : Int
  c : Int
  d : Int
def RmP (d : RmD) : Prop := XOk d.a ∧ XOk d.b ∧ XOk d.c ∧ XOk d.d ∧ d.a ≤ d.c ∧ d.b ≤ d.d
def rmCs (d : RmD) : List Value := [.int .i64 d.a, .int .i64 d.b, .int .i64 d.c, .int .i64 d.d]
abbrev rmV (d : RmD) : Value := .agg #[.int .i64 d.a, .int .i64 d.b, .int .i64 d.c, .int .i64 d.d]
def RmE : Elem RmD := fun w b o d bs => bs = [] ∧ RmP d ∧ w.cell? ⟨b, o, none⟩ = some (.int .i64 d.a) ∧ w.cell? ⟨b, o + 1, none⟩ = some (.int .i64 d.b) ∧ w.cell? ⟨b, o + 2, none⟩ = some (.int .i64 d.c) ∧ w.cell? ⟨b, o + 3, none⟩ = some (.int .i64 d.d)
theorem rmF : Flat 4 RmE RmP rmCs :=
  ⟨fun _ => rfl, fun _ u hu => by simp only [rmCs, List.mem_cons, List.not_mem_nil, or_false] at hu; rcases hu with rfl | rfl | rfl | rfl <;> rfl,
    fun ⟨_, hp, h1, h2, h3, h4⟩ => ⟨hp, fun j hj => by match j, hj with | 0, _ => exact h1 | 1, _ => exact h2 | 2, _ => exact h3 | 3, _ => exact h4⟩,
    fun hp hc => ⟨rfl, hp, hc 0 (by simp [rmCs]), hc 1 (by simp [rmCs]), hc 2 (by simp [rmCs]), hc 3 (by simp [rmCs])⟩⟩
theorem infoRm : (Try.prog.info? 70).map (fun i => (i.zero, i.size, i.bytes)) = some (some (.agg #[.int .i64 0, .int .i64 0, .int .i64 0, .int .i64 0]), 4, 32) := by kernel_rfl
def rmS (d : RmD) : List SqD := sqs d.a d.b d.c d.d
/-- Two rooms meet. -/
def mtB (p q : RmD) : Bool := decide (p.a ≤ q.c) && (decide (q.a ≤ p.c) && (decide (p.b ≤ q.d) && decide (q.b ≤ p.d)))
theorem mtB_iff {p q : RmD} : mtB p q = true ↔ p.a ≤ q.c ∧ q.a ≤ p.c ∧ p.b ≤ q.d ∧ q.b ≤ p.d := by simp [mtB]
theorem sqn_mono {x y : Int} (h : x ≤ y) : sqn x ≤ sqn y := by unfold sqn; omega
/-- Rooms that meet lie together in one square. -/
theorem mt_share {p q : RmD} (hp : RmP p) (hq : RmP q) (h : mtB p q = true) : ∃ s, s ∈ rmS p ∧ s ∈ rmS q := by
  obtain ⟨h1, h2, h3, h4⟩ := mtB_iff.1 h
  obtain ⟨_, _, _, _, p1, p2⟩ := hp
  obtain ⟨_, _, _, _, q1, q2⟩ := hq
  refine ⟨⟨sqn (max p.a q.a), sqn (max p.b q.b)⟩, mem_sqs.2 ⟨⟨sqn_mono (by omega), sqn_mono (by omega)⟩, sqn_mono (by omega), sqn_mono (by omega)⟩, mem_sqs.2 ⟨⟨sqn_mono (by omega), sqn_mono (by omega)⟩, sqn_mono (by omega), sqn_mono (by omega)⟩⟩
/-- The room is free. -/
def frB (rs : List RmD) (p : RmD) : Bool := rs.all fun o => !mtB p o

/-- What the grid is made of. -/
structure GD where
  vr : Value
  va : Value
  V : Int → Int → Value
  R : Nat → List Value
  I : Int → Int → List Nat
  bl : List Bool
structure Grid (N0 G M : Nat) (X : Nat → Prop) (w : World) (rs : List RmD) (n : Nat) (q : GD) : Prop where
  box : Blk w G [q.vr, .map (some M), q.va]
  map : GMap w M n q.V
  rooms : Gr 4 (flatV RmP rmCs) 70 N0 w q.vr rs q.R (fun _ => [])
  asked : w.ownsRow N0 4 1 q.va rs.length (q.bl.map Value.bool)
  rows : ∀ c r, w.ownsRow N0 3 1 (q.V c r) (q.I c r).length (intsN (q.I c r))
  len : ∀ c r, (q.I c r).length ≤ n
  mem : ∀ c r, ∀ i ∈ q.I c r, i < rs.length
  all : ∀ i (h : i < rs.length), ∀ s ∈ rmS rs[i], i ∈ q.I s.c s.r
  lo : N0 ≤ G ∧ N0 ≤ M ∧ G ≠ M ∧ N0 ≤ w.heap.size
  sh : ∀ x, X x → x ≠ G ∧ x ≠ M
  d1 : q.vr.ownBlock = none ∨ q.vr.ownBlock ≠ q.va.ownBlock
  d2 : ∀ c r, (q.V c r).ownBlock = none ∨ ((q.V c r).ownBlock ≠ q.vr.ownBlock ∧ (q.V c r).ownBlock ≠ q.va.ownBlock)
  d3 : ∀ c r c' r', ¬ (c = c' ∧ r = r') → (q.V c r).ownBlock = none ∨ (q.V c r).ownBlock ≠ (q.V c' r').ownBlock
  dr : ∀ x, q.vr.ownBlock = some x → x ≠ G ∧ ¬ X x
  da : ∀ x, q.va.ownBlock = some x → x ≠ G ∧ ¬ X x
  dv : ∀ c r x, (q.V c r).ownBlock = some x → x ≠ G ∧ ¬ X x

theorem own_ne_map {w : World} {base : Nat} {e : TypeId} {q : Nat} {v : Value} {n : Nat} {xs : List Value} {M m : Nat} {V : Int → Int → Value} (h : w.ownsRow base e q v n xs) (hM : GMap w M m V) : ∀ x, v.ownBlock = some x → x ≠ M := by
  intro x hx e
  subst e
  obtain ⟨es, clock, h1⟩ := hM.map
  rcases h.2 with ⟨rfl, _⟩ | ⟨g, cap, cur, rfl, _, h2, _⟩
  · cases hx
  · simp [Value.ownBlock] at hx
    subst hx
    rw [h1] at h2; cases h2
variable {N0 G M : Nat} {X : Nat → Prop} {w w' : World} {rs : List RmD} {n : Nat} {q : GD}
theorem Grid.bl_len (h : Grid N0 G M X w rs n q) : q.bl.length = rs.length := by have := own_len h.asked; simpa using this
theorem Grid.bel (h : Grid N0 G M X w rs n q) (hb : Bel w w') : Grid N0 G M X w' rs n q := by
  have hg := bel_none hb
  have ne : ∀ v : Value, v.ownBlock = none ∨ v.ownBlock ≠ none := fun v => Classical.em _
  exact ⟨h.box.bel hb, h.map.same (hb.out.block M h.map.lt), h.rooms.kept rmF hg (ne _), h.asked.kept hg (ne _), fun c r => (h.rows c r).kept hg (ne _), h.len, h.mem, h.all, ⟨h.lo.1, h.lo.2.1, h.lo.2.2.1, Nat.le_trans h.lo.2.2.2 hg.size⟩, h.sh, h.d1, h.d2, h.d3, h.dr, h.da, h.dv⟩
/-- The marks alone turn. -/
theorem Grid.marks (h : Grid N0 G M X w rs n q) (hg : w.grownBy w' q.va.ownBlock) {bl : List Bool} (ho : w'.ownsRow N0 4 1 q.va rs.length (bl.map Value.bool)) : Grid N0 G M X w' rs n { q with bl := bl } :=
  ⟨h.box.kept hg (fun e => (h.da G e.symm).1 rfl), h.map.same (hg.block M h.map.lt (fun e => own_ne_map h.asked h.map M e.symm rfl)), h.rooms.kept rmF hg h.d1, ho,
    fun c r => (h.rows c r).kept hg ((h.d2 c r).imp id (fun h => h.2)), h.len, h.mem, h.all, ⟨h.lo.1, h.lo.2.1, h.lo.2.2.1, Nat.le_trans h.lo.2.2.2 hg.size⟩, h.sh, h.d1, h.d2, h.d3, h.dr, h.da, h.dv⟩
/-- All marks off. -/
theorem setCells_own {base : Nat} {e : TypeId} {g m cap : Nat} : ∀ (vs : List Value) (o : Nat) (w : World) (xs : List Value), w.ownsRow base e 1 (.slice (some ⟨g, 0, none⟩) m cap) m xs → ∃ ys, (w.setCells g o vs).ownsRow base e 1 (.slice (some ⟨g, 0, none⟩) m cap) m ys ∧ w.grownBy (w.setCells g o vs) (some g)
  | [], _, _, xs, h => ⟨xs, h, World.grownBy.refl _ _⟩
  | v :: r, o, w, xs, h => by
    obtain ⟨h1, h2⟩ := h.stored o v
    obtain ⟨ys, h3, h4⟩ := setCells_own r (o + 1) _ _ h1
    exact ⟨ys, h3, h2.trans h4⟩
set_option maxRecDepth 100000 in
theorem clear_any {base : Nat} {v : Value} {m : Nat} {bl : List Bool} (h : w.ownsRow base 4 1 v m (bl.map Value.bool)) :
    ∃ w', (∀ ty, (Builtin.clear_ #[64] ty #[v]).run Try.prog w = .ok (.tuple #[]) w') ∧ w'.ownsRow base 4 1 v m ((List.replicate m false).map Value.bool) ∧ w.grownBy w' v.ownBlock := by
  have hz : ∀ w, (zeroValue 4).run Try.prog w = .ok (.bool false) w := fun w => by kernel_rfl
  have h0 := h
  rcases h.2 with ⟨rfl, rfl⟩ | ⟨g, cap, cur, rfl, hb, hg, hnc, _⟩
  · exact ⟨w, fun ty => by simp [Builtin.clear_, run_underlying Try.underlying64], World.ownsRow_nil _ _ _ _, World.grownBy.refl _ _⟩
  · by_cases hm : m = 0
    · subst hm
      have e : bl = [] := by have := own_len h; simpa using this
      subst e
      refine ⟨w, fun ty => ?_, h, World.grownBy.refl _ _⟩
      simp [Builtin.clear_, run_underlying Try.underlying64]
    · have hl := own_len h
      have hc : ∀ j, j < m → (w.cell? ⟨g, 0 + j, none⟩).isSome = true := fun j hj => by
        rw [Nat.zero_add, h.cellAt j (by omega), List.getElem?_eq_getElem (by omega)]; rfl
      obtain ⟨ys, h1, h2⟩ := setCells_own (List.replicate m (.bool false)) 0 w _ h
      refine ⟨_, fun ty => Lib.run_clear_slice w _ _ ty _ Try.underlying64 hz rfl rfl g 0 m cap (by omega) hc (fun j _ => h.frozenAt _), ?_, h2⟩
      have hy := own_len h1
      have e : ys = (List.replicate m false).map Value.bool := by
        apply List.ext_getElem
        · simp [hy]
        · intro i h3 h4
          have h5 := h1.cellAt i (by omega)
          rw [List.getElem?_eq_getElem h3] at h5
          have h6 := World.cell?_setCells_in g (List.replicate m (.bool false)) 0 w (by simpa using hc) i (by simpa using (by omega : i < m))
          rw [Nat.zero_add, h5] at h6
          simpa using h6
      rw [← e]; exact h1
end Go.Proofs.Ytpbpnkklnbmkeaa
