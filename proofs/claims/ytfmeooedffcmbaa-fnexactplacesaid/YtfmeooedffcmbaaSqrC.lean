/-
  The squares that a room lies in.
-/
import Derived.Test.YtfmeooedffcmbaaRowH
import Derived.Test.YtfmeooedffcmbaaGrdM
import Derived.Laws.AppendOwnNone
import Derived.Deep.AppendLies
import Derived.Deep.RegionHeld3
import Derived.Deep.DeepCutAuto
namespace Go.Proofs.Ytfmeooedffcmbaa
open Go.RowKit Go.Maps

structure SqD where
  c : Int
  r : Int
def SqE : Elem SqD := fun w b o d bs => bs = [] ∧ In64 d.c ∧ In64 d.r ∧ w.cell? ⟨b, o, none⟩ = some (.int .i64 d.c) ∧ w.cell? ⟨b, o + 1, none⟩ = some (.int .i64 d.r)
theorem sqE : Stays 2 SqE := ⟨fun ⟨h0, i0, i1, h1, h2⟩ hc _ => ⟨h0, i0, i1, same_cell hc 0 (by decide) h1, same_cell hc 1 (by decide) h2⟩, fun ⟨h1, _⟩ x hx => by subst h1; cases hx⟩
abbrev SqsL := Sl 2 SqE
def SqP (d : SqD) : Prop := In64 d.c ∧ In64 d.r
def sqCs (d : SqD) : List Value := [.int .i64 d.c, .int .i64 d.r]
theorem sqF : Flat 2 SqE SqP sqCs :=
  ⟨fun _ => rfl, fun _ u hu => by simp only [sqCs, List.mem_cons, List.not_mem_nil, or_false] at hu; rcases hu with rfl | rfl <;> rfl,
    fun ⟨_, i0, i1, h1, h2⟩ => ⟨⟨i0, i1⟩, fun j hj => by match j, hj with | 0, _ => exact h1 | 1, _ => exact h2⟩,
    fun hp hc => ⟨rfl, hp.1, hp.2, hc 0 (by simp [sqCs]), hc 1 (by simp [sqCs])⟩⟩
theorem infoSq : (Try.prog.info? 155).map (fun i => (i.zero, i.size, i.bytes)) = some (some (.agg #[.int .i64 0, .int .i64 0]), 2, 16) := by kernel_rfl

/-- The number of the square, from the plane's lowest edge on. -/
def sqn (x : Int) : Int := (x + 10000000) / 100000
def XOk (x : Int) : Prop := -10000000 ≤ x ∧ x ≤ 10100000
theorem sqn_le {x : Int} (h : XOk x) : 0 ≤ sqn x ∧ sqn x ≤ 201 := by
  obtain ⟨h1, h2⟩ := h; unfold sqn; omega
theorem sqn_in {x : Int} (h : XOk x) : In64 (sqn x) := by have := sqn_le h; exact ⟨by omega, by omega⟩
theorem sqn_t {x : Int} (h : XOk x) : (x + 10000000).tdiv 100000 = sqn x := by
  obtain ⟨h1, h2⟩ := h
  rw [Int.tdiv_eq_ediv_of_nonneg (by omega)]; rfl
set_option maxHeartbeats 1000000 in
theorem squareAt_any (x y : Int) (w : World) (hx : XOk x) (hy : XOk y) :
    Calls Try.prog 119 #[.agg #[.int .i64 x, .int .i64 y]] w fun e w' => e = .returned (.agg #[.int .i64 (sqn x), .int .i64 (sqn y)]) ∧ Bel w w' := by
  have hx1 := sqn_t hx
  have hy1 := sqn_t hy
  have hx2 := sqn_le hx
  have hy2 := sqn_le hy
  obtain ⟨x0, x1⟩ := hx
  obtain ⟨y0, y1⟩ := hy
  go_enter Try.func119, Try.ntmps119
  go_wp2
  exact bodyPost_ret (v := .agg #[.int .i64 (sqn x), .int .i64 (sqn y)]) (by simp [results, Try.results119, go_sem]) rfl ⟨rfl, by with_reducible repeat (first | exact Bel.refl _ | refine Bel.drew ?_ | refine bel_alloc ?_ _)⟩
end Go.Proofs.Ytfmeooedffcmbaa
