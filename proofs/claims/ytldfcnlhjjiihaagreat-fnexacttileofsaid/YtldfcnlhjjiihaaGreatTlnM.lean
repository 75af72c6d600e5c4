/-
  A tile's lines as data and in memory.
-/
import Derived.Test.YtldfcnlhjjiihaaGreatKL
import Derived.Test.YtldfcnlhjjiihaaGreatCD
namespace Go.Proofs.YtldfcnlhjjiihaaGreat
open Go.RowKit Go.Maps

structure LneD where
 way : Int
 row : List PtD
 tags : List TagD

def LneE : Elem LneD := fun w b o d bs => In64 d.way ∧ w.cell? ⟨b, o, none⟩ = some (.int .i64 d.way) ∧
 ∃ a c a' c' bs1 bs2, bs = bs1 ++ bs2 ∧ d.row.length ≤ maxLen ∧ d.tags.length ≤ maxLen ∧ w.cell? ⟨b, o + 1, none⟩ = some (.slice a d.row.length c) ∧ PtL w a d.row bs1 ∧ w.cell? ⟨b, o + 2, none⟩ = some (.slice a' d.tags.length c') ∧ Tags w a' d.tags bs2
theorem lneE : Stays 3 LneE := ⟨fun ⟨h1, h2, a, c, a', c', bs1, bs2, e, hl1, hl2, h3, h4, h5, h6⟩ hc hA => by
  subst e
  exact ⟨h1, same_cell hc 0 (by decide) h2, a, c, a', c', bs1, bs2, rfl, hl1, hl2, same_cell hc 1 (by decide) h3, h4.alike ptE (hA.sub fun _ hx => by simp [hx]), same_cell hc 2 (by decide) h5, h6.alike tagE (hA.sub fun _ hx => by simp [hx])⟩,
 fun ⟨_, _, _, _, _, _, bs1, bs2, e, _, _, _, h4, _, h6⟩ x hx => by
  subst e
  rcases List.mem_append.1 hx with hx | hx
  ·exact h4.lt ptE x hx
  ·exact h6.lt tagE x hx⟩
abbrev LneL := Sl 3 LneE
def mkLne (k : Nat) (d : LneD) : LneD := ⟨(k : Int), mkPoints (k + 1) d.row, mkTags (k + 1 + 2 * d.row.length) d.tags⟩
/-- What is drawn of a tile. -/
structure TdtD where
 tile : TileD
 lines : List LneD
def TdtV (w : World) (v : Value) (g : TdtD) (bs : List Nat) : Prop :=
 ∃ a c, v = .agg #[.int .i64 g.tile.z, .int .i64 g.tile.x, .int .i64 g.tile.y, .slice a g.lines.length c] ∧ LneL w a g.lines bs
theorem TdtV.bel {w w' : World} {v : Value} {g : TdtD} {bs : List Nat} (h : TdtV w v g bs) (hb : Bel w w') : TdtV w' v g bs := by
 obtain ⟨a, c, e, h⟩ := h
 exact ⟨a, c, e, h.bel lneE hb⟩
theorem TdtV.alike {w w' : World} {v : Value} {g : TdtD} {bs : List Nat} (h : TdtV w v g bs) (hA : Alike w w' bs) : TdtV w' v g bs := by
 obtain ⟨a, c, e, h⟩ := h
 exact ⟨a, c, e, h.alike lneE hA⟩
theorem TdtV.lt {w : World} {v : Value} {g : TdtD} {bs : List Nat} (h : TdtV w v g bs) : ∀ x ∈ bs, x < w.heap.size := by
 obtain ⟨a, c, e, h⟩ := h
 exact h.lt lneE
/-- The lines are not too many, nor their rows and tags. -/
def TdtQ (g : TdtD) : Prop := g.lines.length ≤ 1048576 ∧ ∀ i (h : i < g.lines.length), g.lines[i].row.length ≤ 1048576 ∧ g.lines[i].tags.length ≤ 1048576
end Go.Proofs.YtldfcnlhjjiihaaGreat
