/-
  Timetables as data in memory: stops' names, trips with their calls, walks, and what they must be.
-/
import Derived.Test.YtonedkibbdbgjaaFlat
import Derived.Test.YtonedkibbdbgjaaWordC
namespace Go.Proofs.Ytonedkibbdbgjaa
open Go.RowKit Go.Maps

structure CalD where
  stop : Int
  arr : Int
  dep : Int
structure TrpD where
  line : ByteArray
  days : Int
  calls : List CalD
structure WlkD where
  fr : Int
  tt : Int
  time : Int
structure LinesD where
  stops : List ByteArray
  trips : List TrpD
  walks : List WlkD
def StrE : Elem ByteArray := fun w b o d bs => bs = [] ∧ d.size ≤ maxLen ∧ w.cell? ⟨b, o, none⟩ = some (.string d)
theorem strE : Stays 1 StrE := ⟨fun ⟨h0, i0, h1⟩ hc _ => ⟨h0, i0, same_cell hc 0 (by decide) h1⟩, fun ⟨h1, _⟩ x hx => by subst h1; cases hx⟩
abbrev StrL := Sl 1 StrE
def CalE : Elem CalD := fun w b o d bs => bs = [] ∧ In64 d.stop ∧ In64 d.arr ∧ In64 d.dep ∧ w.cell? ⟨b, o, none⟩ = some (.int .i64 d.stop) ∧ w.cell? ⟨b, o + 1, none⟩ = some (.int .i64 d.arr) ∧ w.cell? ⟨b, o + 2, none⟩ = some (.int .i64 d.dep)
theorem calE : Stays 3 CalE := ⟨fun ⟨h0, i0, i1, i2, h1, h2, h3⟩ hc _ => ⟨h0, i0, i1, i2, same_cell hc 0 (by decide) h1, same_cell hc 1 (by decide) h2, same_cell hc 2 (by decide) h3⟩, fun ⟨h1, _⟩ x hx => by subst h1; cases hx⟩
abbrev CalL := Sl 3 CalE
def WlkE : Elem WlkD := fun w b o d bs => bs = [] ∧ In64 d.fr ∧ In64 d.tt ∧ In64 d.time ∧ w.cell? ⟨b, o, none⟩ = some (.int .i64 d.fr) ∧ w.cell? ⟨b, o + 1, none⟩ = some (.int .i64 d.tt) ∧ w.cell? ⟨b, o + 2, none⟩ = some (.int .i64 d.time)
theorem wlkE : Stays 3 WlkE := ⟨fun ⟨h0, i0, i1, i2, h1, h2, h3⟩ hc _ => ⟨h0, i0, i1, i2, same_cell hc 0 (by decide) h1, same_cell hc 1 (by decide) h2, same_cell hc 2 (by decide) h3⟩, fun ⟨h1, _⟩ x hx => by subst h1; cases hx⟩
abbrev WlkL := Sl 3 WlkE
def TrpE : Elem TrpD := fun w b o d bs => d.line.size ≤ maxLen ∧ In64 d.days ∧ w.cell? ⟨b, o, none⟩ = some (.string d.line) ∧ w.cell? ⟨b, o + 1, none⟩ = some (.int .i64 d.days) ∧
  ∃ a c, d.calls.length ≤ maxLen ∧ w.cell? ⟨b, o + 2, none⟩ = some (.slice a d.calls.length c) ∧ CalL w a d.calls bs
theorem trpE : Stays 3 TrpE := ⟨fun ⟨i0, i1, h0, h1, a, c, hl, h2, hT⟩ hc hA => ⟨i0, i1, same_cell hc 0 (by decide) h0, same_cell hc 1 (by decide) h1, a, c, hl, same_cell hc 2 (by decide) h2, hT.alike calE hA⟩,
  fun ⟨_, _, _, _, _, _, _, _, hT⟩ => hT.lt calE⟩
abbrev TrpL := Sl 3 TrpE
def strSz (d : ByteArray) : Nat := d.size
def strsSz (l : List ByteArray) : Nat := l.length + sumTo strSz l l.length
def trpSz (d : TrpD) : Nat := d.line.size + d.calls.length
def trpsSz (l : List TrpD) : Nat := l.length + sumTo trpSz l l.length
instance : Inhabited CalD := ⟨⟨0, 0, 0⟩⟩
instance : Inhabited WlkD := ⟨⟨0, 0, 0⟩⟩
instance : Inhabited TrpD := ⟨⟨⟨#[]⟩, 0, []⟩⟩
end Go.Proofs.Ytonedkibbdbgjaa
