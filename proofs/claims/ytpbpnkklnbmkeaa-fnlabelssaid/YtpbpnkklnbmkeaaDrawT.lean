/-
  What the model draws for Turn: any three points.
-/
import Derived.Test.YtpbpnkklnbmkeaaDrawC
import Derived.Test.YtpbpnkklnbmkeaaOpen
namespace Go.Proofs.Ytpbpnkklnbmkeaa
open Go.RowKit

theorem big_any (a : Option Addr) (n c : Nat) (w : World) :
    Calls Try.prog 6 #[.slice a n c] w fun e w' => e = .returned (.bool (decide (1048576 < (n : Int)))) ∧ w' = w := by
  go_enter Try.func6, Try.ntmps6
  go_wp2
  go_ret
  exact ⟨rfl, rfl⟩

/-- A point lies in a block that may be written. -/
structure Pa (w : World) (b : Nat) (x y : Int) : Prop where
  c0 : w.cell? ⟨b, 0, none⟩ = some (.int .i64 x)
  c1 : w.cell? ⟨b, 1, none⟩ = some (.int .i64 y)
  fr : ∀ j, w.frozen? ⟨b, j, none⟩ = false
  lt : b < w.heap.size
theorem Pa.new (w : World) (x y : Int) (t : TypeId) : Pa (w.alloc (.cells #[.int .i64 x, .int .i64 y] t)) w.heap.size x y := ⟨by simp [go_sem], by simp [go_sem], fun j => by simp, by simp⟩
theorem Pa.bel {w w' : World} {b : Nat} {x y : Int} (h : Pa w b x y) (k : Bel w w') : Pa w' b x y :=
  ⟨cur_cell k h.lt h.c0, cur_cell k h.lt h.c1, fun j => by rw [k.out.frozen (p := ⟨b, j, none⟩) h.lt]; exact h.fr j, bel_lt k h.lt⟩
theorem Pa.drawn {w w' w0 : World} {b B : Nat} {x y : Int} {a : Option Addr} {n c : Nat} (h : Pa w b x y) (d : Drawn w0 w B a n c w') (hn : b ≠ B) : Pa w' b x y :=
  ⟨(d.o.cell b 0 h.lt hn).trans h.c0, (d.o.cell b 1 h.lt hn).trans h.c1, fun j => (d.o.froz b j h.lt hn).trans (h.fr j), Nat.lt_of_lt_of_le h.lt d.o.size⟩
theorem Pa.far {w : World} {b : Nat} {x y : Int} (h : Pa w b x y) {C : Nat} (hn : b ≠ C) (o : Nat) (u : Value) : Pa (w.setCell ⟨C, o, none⟩ u) b x y := by
  have e : ∀ j, (w.setCell ⟨C, o, none⟩ u).cell? ⟨b, j, none⟩ = w.cell? ⟨b, j, none⟩ := fun j => World.cell?_setCell_other _ _ _ _ (fun e => hn (congrArg Addr.block e).symm)
  exact ⟨by rw [e]; exact h.c0, by rw [e]; exact h.c1, fun j => by rw [World.frozen?_setCell]; exact h.fr j, by simpa [World.setCell] using h.lt⟩
theorem Pa.put {w : World} {b : Nat} {x y : Int} (h : Pa w b x y) (x' y' : Int) : Pa ((w.setCell ⟨b, 0, none⟩ (.int .i64 x')).setCell ⟨b, 1, none⟩ (.int .i64 y')) b x' y' :=
  ⟨by simp [go_sem, h.c0], by simp [go_sem, h.c1], fun j => by rw [World.frozen?_setCell, World.frozen?_setCell]; exact h.fr j, by simpa [World.setCell] using h.lt⟩

end Go.Proofs.Ytpbpnkklnbmkeaa
