/-
  Rings as data: what a list of rings holds, how it is read.
-/
import Derived.Test.YtkpgcnfokohhiaaMem
namespace Go.Proofs.Ytkpgcnfokohhiaa
open Go.RowKit

structure RingD where
  row : List PtD
  inner : Bool
def RingE : Elem RingD := fun w b o d bs => ∃ a c, d.row.length ≤ maxLen ∧ w.cell? ⟨b, o, none⟩ = some (.slice a d.row.length c) ∧ w.cell? ⟨b, o + 1, none⟩ = some (.bool d.inner) ∧ PtL w a d.row bs
theorem ringE : Stays 2 RingE := ⟨fun ⟨a, c, hl, h0, h1, h2⟩ hc hA => ⟨a, c, hl, same_cell hc 0 (by decide) h0, same_cell hc 1 (by decide) h1, h2.alike ptE hA⟩, fun ⟨_, _, _, _, _, h⟩ => Sl.lt ptE h⟩
abbrev RingL := Sl 2 RingE
def ringSz (d : RingD) : Nat := d.row.length
def ringsSz (l : List RingD) : Nat := l.length + sumTo ringSz l l.length
instance : Inhabited RingD := ⟨⟨[], false⟩⟩
instance : Inhabited PtD := ⟨⟨0, 0⟩⟩
end Go.Proofs.Ytkpgcnfokohhiaa
