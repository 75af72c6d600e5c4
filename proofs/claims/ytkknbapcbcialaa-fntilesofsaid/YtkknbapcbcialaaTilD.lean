/-
  Tiles as data in memory.
-/
import Derived.Test.YtkknbapcbcialaaFlat
namespace Go.Proofs.Ytkknbapcbcialaa
open Go.RowKit Go.Maps

structure TileD where
  z : Int
  x : Int
  y : Int
def TileE : Elem TileD := fun w b o d bs => bs = [] ∧ In64 d.z ∧ In64 d.x ∧ In64 d.y ∧ w.cell? ⟨b, o, none⟩ = some (.int .i64 d.z) ∧ w.cell? ⟨b, o + 1, none⟩ = some (.int .i64 d.x) ∧ w.cell? ⟨b, o + 2, none⟩ = some (.int .i64 d.y)
theorem tileE : Stays 3 TileE := ⟨fun ⟨h1, h2, h3, h3', h4, h5, h6⟩ hc _ => ⟨h1, h2, h3, h3', same_cell hc 0 (by decide) h4, same_cell hc 1 (by decide) h5, same_cell hc 2 (by decide) h6⟩, fun ⟨h1, _⟩ x hx => by subst h1; cases hx⟩
abbrev TileL := Sl 3 TileE
def TileP (d : TileD) : Prop := In64 d.z ∧ In64 d.x ∧ In64 d.y
def tileCs (d : TileD) : List Value := [.int .i64 d.z, .int .i64 d.x, .int .i64 d.y]
theorem tileF : Flat 3 TileE TileP tileCs :=
  ⟨fun _ => rfl, fun _ u hu => by simp only [tileCs, List.mem_cons, List.not_mem_nil, or_false] at hu; rcases hu with rfl | rfl | rfl <;> rfl,
    fun ⟨_, h1, h2, h3, h4, h5, h6⟩ => ⟨⟨h1, h2, h3⟩, fun j hj => by match j, hj with | 0, _ => exact h4 | 1, _ => exact h5 | 2, _ => exact h6⟩,
    fun hp hc => ⟨rfl, hp.1, hp.2.1, hp.2.2, hc 0 (by simp [tileCs]), hc 1 (by simp [tileCs]), hc 2 (by simp [tileCs])⟩⟩
theorem infoTl : (Try.prog.info? 42).map (fun i => (i.zero, i.size, i.bytes)) = some (some (.agg #[.int .i64 0, .int .i64 0, .int .i64 0]), 3, 24) := by kernel_rfl
end Go.Proofs.Ytkknbapcbcialaa
