/-
  Fleets as data in memory: tasks, what a fleet must be.
-/
import Derived.Test.YtgakdeaniojleaaFlat
import Derived.Test.YtgakdeaniojleaaGphM
namespace Go.Proofs.Ytgakdeaniojleaa
open Go.RowKit Go.Maps

structure TaskD where
  sp : Int
  ld : Int
  op : Int
  cl : Int
  st : Int
structure FleetD where
  depot : Int
  start : Int
  veh : Int
  room : Int
  tasks : List TaskD
def TaskE : Elem TaskD := fun w b o d bs => bs = [] ∧ In64 d.sp ∧ In64 d.ld ∧ In64 d.op ∧ In64 d.cl ∧ In64 d.st ∧ w.cell? ⟨b, o, none⟩ = some (.int .i64 d.sp) ∧ w.cell? ⟨b, o + 1, none⟩ = some (.int .i64 d.ld) ∧ w.cell? ⟨b, o + 2, none⟩ = some (.int .i64 d.op) ∧
  w.cell? ⟨b, o + 3, none⟩ = some (.int .i64 d.cl) ∧ w.cell? ⟨b, o + 4, none⟩ = some (.int .i64 d.st)
theorem taskE : Stays 5 TaskE := ⟨fun ⟨h0, i0, i1, i2, i3, i4, h1, h2, h3, h4, h5⟩ hc _ => ⟨h0, i0, i1, i2, i3, i4, same_cell hc 0 (by decide) h1, same_cell hc 1 (by decide) h2, same_cell hc 2 (by decide) h3, same_cell hc 3 (by decide) h4, same_cell hc 4 (by decide) h5⟩, fun ⟨h1, _⟩ x hx => by subst h1; cases hx⟩
abbrev TaskL := Sl 5 TaskE
/-- A task as a value. -/
abbrev tkv5 (d : TaskD) : Value := .agg #[.int .i64 d.sp, .int .i64 d.ld, .int .i64 d.op, .int .i64 d.cl, .int .i64 d.st]
/-- Not below 0 and at most this. -/
def upB (x m : Int) : Bool := decide (0 ≤ x) && decide (x ≤ m)
/-- A task can be, where there are n places. -/
def taskB (n : Nat) (d : TaskD) : Bool := inN n d.sp && upB d.ld 1000 && upB d.op d.cl && decide (d.cl ≤ 1000000) && upB d.st 100000
/-- A fleet can be. -/
noncomputable def fleetB (g : GraphD) (f : FleetD) : Bool := bP (graphP g) && inN g.places.length f.depot && upB f.start 1000000 && decide (1 ≤ f.veh) && decide (f.veh ≤ 4) && upB f.room 10000 && decide (f.tasks.length ≤ 6) && f.tasks.all (taskB g.places.length)
end Go.Proofs.Ytgakdeaniojleaa
