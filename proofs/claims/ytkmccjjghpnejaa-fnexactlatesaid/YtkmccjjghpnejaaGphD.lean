/-
  Places, roads, bans and graphs as data in memory.
-/
import Derived.Test.YtkmccjjghpnejaaGE
namespace Go.Proofs.Ytkmccjjghpnejaa
open Go.RowKit Go.Maps

structure SpotD where
 id : Int
 x : Int
 y : Int
structure RoadD where
 fr : Int
 «to» : Int
 way : Int
 time : Int
 len : Int
 name : ByteArray
structure BanD where
 fr : Int
 «to» : Int
structure GraphD where
 places : List SpotD
 roads : List RoadD
 bans : List BanD

def SpotE : Elem SpotD := fun w b o d bs => bs = [] ∧ In64 d.id ∧ In64 d.x ∧ In64 d.y ∧ w.cell? ⟨b, o, none⟩ = some (.int .i64 d.id) ∧ w.cell? ⟨b, o + 1, none⟩ = some (.int .i64 d.x) ∧ w.cell? ⟨b, o + 2, none⟩ = some (.int .i64 d.y)
theorem spotE : Stays 3 SpotE := ⟨fun ⟨h0, i0, i1, i2, h1, h2, h3⟩ hc _ => ⟨h0, i0, i1, i2, same_cell hc 0 (by decide) h1, same_cell hc 1 (by decide) h2, same_cell hc 2 (by decide) h3⟩, fun ⟨h1, _⟩ x hx => by subst h1; cases hx⟩
abbrev SpotL := Sl 3 SpotE
def RoadE : Elem RoadD := fun w b o d bs => bs = [] ∧ In64 d.fr ∧ In64 d.to ∧ In64 d.way ∧ In64 d.time ∧ In64 d.len ∧ d.name.size ≤ maxLen ∧ w.cell? ⟨b, o, none⟩ = some (.int .i64 d.fr) ∧ w.cell? ⟨b, o + 1, none⟩ = some (.int .i64 d.to) ∧ w.cell? ⟨b, o + 2, none⟩ = some (.int .i64 d.way) ∧
 w.cell? ⟨b, o + 3, none⟩ = some (.int .i64 d.time) ∧ w.cell? ⟨b, o + 4, none⟩ = some (.int .i64 d.len) ∧ w.cell? ⟨b, o + 5, none⟩ = some (.string d.name)
theorem roadE : Stays 6 RoadE := ⟨fun ⟨h0, i0, i1, i2, i3, i4, i5, h1, h2, h3, h4, h5, h6⟩ hc _ => ⟨h0, i0, i1, i2, i3, i4, i5, same_cell hc 0 (by decide) h1, same_cell hc 1 (by decide) h2, same_cell hc 2 (by decide) h3, same_cell hc 3 (by decide) h4, same_cell hc 4 (by decide) h5, same_cell hc 5 (by decide) h6⟩, fun ⟨h1, _⟩ x hx => by subst h1; cases hx⟩
abbrev RoadL := Sl 6 RoadE
def BanE : Elem BanD := fun w b o d bs => bs = [] ∧ In64 d.fr ∧ In64 d.to ∧ w.cell? ⟨b, o, none⟩ = some (.int .i64 d.fr) ∧ w.cell? ⟨b, o + 1, none⟩ = some (.int .i64 d.to)
theorem banE : Stays 2 BanE := ⟨fun ⟨h0, i0, i1, h1, h2⟩ hc _ => ⟨h0, i0, i1, same_cell hc 0 (by decide) h1, same_cell hc 1 (by decide) h2⟩, fun ⟨h1, _⟩ x hx => by subst h1; cases hx⟩
abbrev BanL := Sl 2 BanE

def roadSz (d : RoadD) : Nat := d.name.size
def roadsSz (l : List RoadD) : Nat := l.length + sumTo roadSz l l.length
instance : Inhabited SpotD := ⟨⟨0, 0, 0⟩⟩
instance : Inhabited RoadD := ⟨⟨0, 0, 0, 0, 0, ⟨#[]⟩⟩⟩
instance : Inhabited BanD := ⟨⟨0, 0⟩⟩
end Go.Proofs.Ytkmccjjghpnejaa
