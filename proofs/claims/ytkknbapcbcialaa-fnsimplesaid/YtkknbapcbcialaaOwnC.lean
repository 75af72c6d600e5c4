/-
  Rows of the call's own, marked and held: what a law that looks at shared memory wants.
-/
import Derived.Test.YtkknbapcbcialaaMarkC
import Derived.Test.YtkknbapcbcialaaOpenS
namespace Go.Proofs.Ytkknbapcbcialaa
open Go.RowKit

theorem sq_len {s : Int} {n : Nat} {X Y : Nat → Int} : (sq s n X Y).length ≤ n := by
  unfold sq
  split
  · next h =>
    simp only [Bool.and_eq_true, decide_eq_true_eq] at h
    exact sl_len h.2 (Nat.le_refl _)
  · simp
/-- The coordinates of a list of points. -/
def lX (ps : List (Int × Int)) : Nat → Int := fun i => (ps.getD i (0, 0)).1
def lY (ps : List (Int × Int)) : Nat → Int := fun i => (ps.getD i (0, 0)).2
theorem Own.pts {base : Nat} {w : World} {a : Option Addr} {m c : Nat} {ps : List (Int × Int)} (h : Own base w (.slice a m c) ps) : m = ps.length ∧ Pts w a m (lX ps) (lY ps) := by
  obtain ⟨a', c', e⟩ := h.shape
  cases e
  refine ⟨rfl, ?_⟩
  rcases Nat.eq_zero_or_pos ps.length with z | z
  · exact .inl z
  · obtain ⟨g, c, e, _, hg, hc⟩ := h.block z
    cases e
    exact .inr ⟨g, 0, rfl, hg, fun i hi => by rw [Nat.zero_add]; exact hc i hi⟩
theorem Own.room {base : Nat} {w : World} {g m c : Nat} {ps : List (Int × Int)} (h : Own base w (.slice (some ⟨g, 0, none⟩) m c) ps) : Room w g (m * 2) := by
  obtain ⟨a', c', e⟩ := h.shape
  cases e
  rcases h.2 with ⟨e, _⟩ | ⟨g', cap, cur, e, _, e3, _⟩
  · cases e
  · cases e
    have hlt : g < w.heap.size := by
      rcases Nat.lt_or_ge g w.heap.size with h | h
      · exact h
      · rw [Array.getElem?_eq_none h] at e3; cases e3
    refine ⟨hlt, fun j hj => ?_, fun j => by simp [World.frozen?, e3]⟩
    obtain ⟨c0, c1⟩ := cellsP_at ps (j / 2) (by omega)
    rcases (show j = j / 2 * 2 ∨ j = j / 2 * 2 + 1 by omega) with e | e
    · rw [← e] at c0; exact ⟨_, (h.cellAt j hj).trans c0⟩
    · rw [← e] at c1; exact ⟨_, (h.cellAt j hj).trans c1⟩
theorem Row.room {w : World} {B n : Nat} {X Y : Nat → Int} (h : Row w B n n X Y) : Room w B (n * 2) := by
  refine ⟨h.lt, fun j hj => ?_, h.free⟩
  obtain ⟨c0, c1⟩ := h.laid (j / 2) (by omega)
  rcases (show j = j / 2 * 2 ∨ j = j / 2 * 2 + 1 by omega) with e | e
  · rw [← e] at c0; exact ⟨_, c0⟩
  · rw [← e] at c1; exact ⟨_, c1⟩

/-- Where a slice lies: nowhere, if it is empty. -/
def Lies (P : Nat → Prop) (a : Option Addr) (m : Nat) : Prop := m = 0 ∨ ∃ g, a = some ⟨g, 0, none⟩ ∧ P g
theorem Own.lies {base : Nat} {w : World} {a : Option Addr} {m c : Nat} {ps : List (Int × Int)} (h : Own base w (.slice a m c) ps) : Lies (fun g => base ≤ g ∧ g < w.heap.size ∧ Room w g (m * 2)) a m := by
  obtain ⟨a', c', e⟩ := h.shape
  cases e
  rcases Nat.eq_zero_or_pos ps.length with z | z
  · exact .inl z
  · obtain ⟨g, c, e, _, hg, _⟩ := h.block z
    cases e
    exact .inr ⟨g, rfl, h.row g rfl, hg, h.room⟩
/-- All that was stays as it was, but for the blocks where P holds. -/
structure Save (w W : World) (P : Nat → Prop) (a : World) : Prop where
  b : Bel w a
  size : W.heap.size ≤ a.heap.size
  cell : ∀ c o, c < W.heap.size → ¬ P c → a.cell? ⟨c, o, none⟩ = W.cell? ⟨c, o, none⟩
theorem But.save {w W : World} {B m : Nat} {a : World} (h : But w W B m a) : Save w W (fun c => c = B) a := ⟨h.b, h.size, fun c o hc hn => h.cell c o hc hn⟩
theorem Save.bel {w W : World} {P : Nat → Prop} {a b : World} (h : Save w W P a) (k : Bel a b) : Save w W P b :=
  ⟨bel_step h.b k, Nat.le_trans h.size k.out.size, fun c o hc hn => by rw [k.out.cell (p := ⟨c, o, none⟩) (Nat.lt_of_lt_of_le hc h.size)]; exact h.cell c o hc hn⟩
theorem Save.pts {w W : World} {P : Nat → Prop} {a : World} (h : Save w W P a) {d : Option Addr} {n : Nat} {X Y : Nat → Int} (p : Pts W d n X Y) (hn : n ≠ 0 → ∀ b off, d = some ⟨b, off, none⟩ → ¬ P b) : Pts a d n X Y := by
  rcases Nat.eq_zero_or_pos n with z | z
  · exact .inl z
  · rcases p with p | ⟨b, off, e, hb, hc⟩
    · exact .inl p
    · have hn := hn (by omega) b off e
      exact .inr ⟨b, off, e, Nat.lt_of_lt_of_le hb h.size, fun i hi => ⟨by rw [h.cell b _ hb hn]; exact (hc i hi).1, by rw [h.cell b _ hb hn]; exact (hc i hi).2⟩⟩
theorem Lies.at {P : Nat → Prop} {a : Option Addr} {m : Nat} (h : Lies P a m) (hm : m ≠ 0) {b off : Nat} (e : a = some ⟨b, off, none⟩) : P b := by
  rcases h with h | ⟨g, e', hp⟩
  · exact absurd h hm
  · rw [e] at e'
    cases e'
    exact hp
theorem Lies.imp {P Q : Nat → Prop} {a : Option Addr} {m : Nat} (h : Lies P a m) (k : ∀ g, P g → Q g) : Lies Q a m := h.elim .inl fun ⟨g, e, p⟩ => .inr ⟨g, e, k g p⟩

theorem Lies.bel {w w' : World} {a : Option Addr} {m : Nat} (h : Lies (fun g => g < w.heap.size ∧ Mk w g m) a m) (hb : Bel w w') : Lies (fun g => g < w'.heap.size ∧ Mk w' g m) a m := by
  rcases h with h | ⟨g, e, hg, hM⟩
  · exact .inl h
  · exact .inr ⟨g, e, bel_lt hb hg, hM.bel hg hb⟩
end Go.Proofs.Ytkknbapcbcialaa
