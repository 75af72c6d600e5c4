/-
  Whether two labels overlap; whether labels can be: contracts, of the program and of its model.
-/
import Derived.Test.YtfmeooedffcmbaaTk
import Derived.Test.YtfmeooedffcmbaaLblM
import Derived.Test.YtfmeooedffcmbaaGrowC
import Derived.Deep.RegionHeld3
namespace Go.Proofs.Ytfmeooedffcmbaa
open Go.RowKit Go.Maps

theorem lblCan_r (d : LblD) (r : Bool) (w : World) (h : lblK d = r) :
    Calls Try.prog 90 #[lbv d] w fun e w' => e = .returned (.bool r) ∧ Bel w w' := h ▸ lblCan_any d w
theorem l8Ok_r (d : LblD) (r : Bool) (w : World) (h : lblK d = r) :
    Calls Try.prog 84 #[lbv d] w fun e w' => e = .returned (.bool r) ∧ Bel w w' := h ▸ l8Ok_any d w

/-- The world with two labels in boxes. -/
def bxL (w : World) (d e : LblD) : World := (w.alloc (.cells #[.int .i64 d.id, .int .i64 d.x, .int .i64 d.y, .int .i64 d.wd, .int .i64 d.ht, .int .i64 d.rk] 90)).alloc (.cells #[.int .i64 e.id, .int .i64 e.x, .int .i64 e.y, .int .i64 e.wd, .int .i64 e.ht, .int .i64 e.rk] 90)
theorem bxL_bel (w : World) (d e : LblD) : Bel w (bxL w d e) := bel_alloc (bel_alloc (Bel.refl _) _) _
theorem bxL_at (w : World) (d e : LblD) : Blk (bxL w d e) w.heap.size (lblCs d) ∧ Blk (bxL w d e) (w.heap.size + 1) (lblCs e) :=
  ⟨(Blk.new w (lblCs d) 90).bel (bel_alloc (Bel.refl _) _), Blk.new1 w _ (lblCs e) 90⟩
theorem bxL_cells (w : World) (d e : LblD) : ∀ w', Bel (bxL w d e) w' → (w'.cell? ⟨w.heap.size, 0, none⟩ = some (.int .i64 d.id) ∧ w'.cell? ⟨w.heap.size, 1, none⟩ = some (.int .i64 d.x) ∧ w'.cell? ⟨w.heap.size, 2, none⟩ = some (.int .i64 d.y) ∧ w'.cell? ⟨w.heap.size, 3, none⟩ = some (.int .i64 d.wd) ∧ w'.cell? ⟨w.heap.size, 4, none⟩ = some (.int .i64 d.ht) ∧ w'.cell? ⟨w.heap.size, 5, none⟩ = some (.int .i64 d.rk)) ∧
    (w'.cell? ⟨w.heap.size + 1, 0, none⟩ = some (.int .i64 e.id) ∧ w'.cell? ⟨w.heap.size + 1, 1, none⟩ = some (.int .i64 e.x) ∧ w'.cell? ⟨w.heap.size + 1, 2, none⟩ = some (.int .i64 e.y) ∧ w'.cell? ⟨w.heap.size + 1, 3, none⟩ = some (.int .i64 e.wd) ∧ w'.cell? ⟨w.heap.size + 1, 4, none⟩ = some (.int .i64 e.ht) ∧ w'.cell? ⟨w.heap.size + 1, 5, none⟩ = some (.int .i64 e.rk)) := fun w' h => by
  obtain ⟨A, B⟩ := bxL_at w d e
  have A := A.bel h
  have B := B.bel h
  exact ⟨⟨A.cell 0 (by simp [lblCs]), A.cell 1 (by simp [lblCs]), A.cell 2 (by simp [lblCs]), A.cell 3 (by simp [lblCs]), A.cell 4 (by simp [lblCs]), A.cell 5 (by simp [lblCs])⟩, B.cell 0 (by simp [lblCs]), B.cell 1 (by simp [lblCs]), B.cell 2 (by simp [lblCs]), B.cell 3 (by simp [lblCs]), B.cell 4 (by simp [lblCs]), B.cell 5 (by simp [lblCs])⟩

def ovQ (d e : LblD) : Bool := lblK d && (lblK e && ovB d e)
end Go.Proofs.Ytfmeooedffcmbaa

