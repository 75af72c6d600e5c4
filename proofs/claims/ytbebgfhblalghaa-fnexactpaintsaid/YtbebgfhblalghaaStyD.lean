/-
  Tests and rules of a style as data in memory.
-/
import Derived.Test.YtbebgfhblalghaaMem
namespace Go.Proofs.Ytbebgfhblalghaa
open Go.RowKit

structure TestD where
  k : ByteArray
  op : Int
  v : ByteArray
structure RuleD where
  low : Int
  high : Int
  tests : List TestD
  hide : Bool
  col : ByteArray
  wd : Int
  lay : Int
def TestE : Elem TestD := fun w b o d bs => bs = [] ∧ d.k.size ≤ maxLen ∧ In64 d.op ∧ d.v.size ≤ maxLen ∧ w.cell? ⟨b, o, none⟩ = some (.string d.k) ∧ w.cell? ⟨b, o + 1, none⟩ = some (.int .i64 d.op) ∧ w.cell? ⟨b, o + 2, none⟩ = some (.string d.v)
theorem testE : Stays 3 TestE := ⟨fun ⟨h1, i0, i1, i2, h2, h3, h4⟩ hc _ => ⟨h1, i0, i1, i2, same_cell hc 0 (by decide) h2, same_cell hc 1 (by decide) h3, same_cell hc 2 (by decide) h4⟩, fun ⟨h1, _⟩ x hx => by subst h1; cases hx⟩
abbrev Tests := Sl 3 TestE
def RuleE : Elem RuleD := fun w b o d bs => In64 d.low ∧ In64 d.high ∧ d.col.size ≤ maxLen ∧ In64 d.wd ∧ In64 d.lay ∧ w.cell? ⟨b, o, none⟩ = some (.int .i64 d.low) ∧ w.cell? ⟨b, o + 1, none⟩ = some (.int .i64 d.high) ∧
  w.cell? ⟨b, o + 3, none⟩ = some (.bool d.hide) ∧ w.cell? ⟨b, o + 4, none⟩ = some (.string d.col) ∧ w.cell? ⟨b, o + 5, none⟩ = some (.int .i64 d.wd) ∧ w.cell? ⟨b, o + 6, none⟩ = some (.int .i64 d.lay) ∧
  ∃ a c, d.tests.length ≤ maxLen ∧ w.cell? ⟨b, o + 2, none⟩ = some (.slice a d.tests.length c) ∧ Tests w a d.tests bs
theorem ruleE : Stays 7 RuleE := ⟨fun ⟨i0, i1, i4, i5, i6, h0, h1, h3, h4, h5, h6, a, c, hl, h2, hT⟩ hc hA => ⟨i0, i1, i4, i5, i6, same_cell hc 0 (by decide) h0, same_cell hc 1 (by decide) h1, same_cell hc 3 (by decide) h3, same_cell hc 4 (by decide) h4, same_cell hc 5 (by decide) h5, same_cell hc 6 (by decide) h6, a, c, hl, same_cell hc 2 (by decide) h2, hT.alike testE hA⟩,
  fun ⟨_, _, _, _, _, _, _, _, _, _, _, _, _, _, _, hT⟩ => hT.lt testE⟩
abbrev Rules := Sl 7 RuleE
def testSz (d : TestD) : Nat := d.k.size + d.v.size
def testsSz (l : List TestD) : Nat := l.length + sumTo testSz l l.length
def ruleSz (d : RuleD) : Nat := testsSz d.tests + d.col.size
def rulesSz (l : List RuleD) : Nat := l.length + sumTo ruleSz l l.length
end Go.Proofs.Ytbebgfhblalghaa
