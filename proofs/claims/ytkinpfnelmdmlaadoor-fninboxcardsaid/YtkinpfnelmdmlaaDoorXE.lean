/-
  Contracts of TagsOk, in the program and in its model: for every list of tags.
  The program's records in memory; what it asks of their headers: contracts.
-/
import Derived.Test.YtkinpfnelmdmlaaDoorTagM
import Derived.Test.YtkinpfnelmdmlaaDoorMapM
namespace Go.Proofs.YtkinpfnelmdmlaaDoor
open Go.RowKit

end Go.Proofs.YtkinpfnelmdmlaaDoor

namespace Go.Proofs.YtkinpfnelmdmlaaDoor
open Go.RowKit

def NRecE : Elem NodeD := fun w b o d bs => In64 d.id ∧ In64 d.x ∧ In64 d.y ∧ w.cell? ⟨b, o, none⟩ = some (.int .i64 d.id) ∧ w.cell? ⟨b, o + 2, none⟩ = some (.int .i64 d.x) ∧ w.cell? ⟨b, o + 3, none⟩ = some (.int .i64 d.y) ∧
  ∃ a c, d.tags.length ≤ maxLen ∧ w.cell? ⟨b, o + 1, none⟩ = some (.slice a d.tags.length c) ∧ Tags w a d.tags bs
theorem nRecE : Stays 4 NRecE := ⟨fun ⟨h1, h2, h3, h4, h5, h6, a, c, hl, h7, h8⟩ hc hA => ⟨h1, h2, h3, same_cell hc 0 (by decide) h4, same_cell hc 2 (by decide) h5, same_cell hc 3 (by decide) h6, a, c, hl, same_cell hc 1 (by decide) h7, h8.alike tagE hA⟩,
  fun ⟨_, _, _, _, _, _, _, _, _, _, h8⟩ => h8.lt tagE⟩
abbrev NRecs := Sl 4 NRecE

def WRecE : Elem WayD := fun w b o d bs => In64 d.id ∧ w.cell? ⟨b, o, none⟩ = some (.int .i64 d.id) ∧
  ∃ a c a' c' bs1 bs2, bs = bs1 ++ bs2 ∧ d.nodes.length ≤ maxLen ∧ d.tags.length ≤ maxLen ∧ w.cell? ⟨b, o + 2, none⟩ = some (.slice a d.nodes.length c) ∧ Ints w a d.nodes bs1 ∧ w.cell? ⟨b, o + 1, none⟩ = some (.slice a' d.tags.length c') ∧ Tags w a' d.tags bs2
theorem wRecE : Stays 3 WRecE := ⟨fun ⟨h1, h2, a, c, a', c', bs1, bs2, e, hl1, hl2, h3, h4, h5, h6⟩ hc hA => by
    subst e
    exact ⟨h1, same_cell hc 0 (by decide) h2, a, c, a', c', bs1, bs2, rfl, hl1, hl2, same_cell hc 2 (by decide) h3, h4.alike intE (hA.sub fun _ hx => by simp [hx]), same_cell hc 1 (by decide) h5, h6.alike tagE (hA.sub fun _ hx => by simp [hx])⟩,
  fun ⟨_, _, _, _, _, _, bs1, bs2, e, _, _, _, h4, _, h6⟩ x hx => by
    subst e
    rcases List.mem_append.1 hx with hx | hx
    · exact h4.lt intE x hx
    · exact h6.lt tagE x hx⟩
abbrev WRecs := Sl 3 WRecE

def ARecE : Elem AreaD := fun w b o d bs => In64 d.id ∧ w.cell? ⟨b, o, none⟩ = some (.int .i64 d.id) ∧
  ∃ a c a' c' bs1 bs2, bs = bs1 ++ bs2 ∧ d.parts.length ≤ maxLen ∧ d.tags.length ≤ maxLen ∧ w.cell? ⟨b, o + 2, none⟩ = some (.slice a d.parts.length c) ∧ Parts w a d.parts bs1 ∧ w.cell? ⟨b, o + 1, none⟩ = some (.slice a' d.tags.length c') ∧ Tags w a' d.tags bs2
theorem aRecE : Stays 3 ARecE := ⟨fun ⟨h1, h2, a, c, a', c', bs1, bs2, e, hl1, hl2, h3, h4, h5, h6⟩ hc hA => by
    subst e
    exact ⟨h1, same_cell hc 0 (by decide) h2, a, c, a', c', bs1, bs2, rfl, hl1, hl2, same_cell hc 2 (by decide) h3, h4.alike partE (hA.sub fun _ hx => by simp [hx]), same_cell hc 1 (by decide) h5, h6.alike tagE (hA.sub fun _ hx => by simp [hx])⟩,
  fun ⟨_, _, _, _, _, _, bs1, bs2, e, _, _, _, h4, _, h6⟩ x hx => by
    subst e
    rcases List.mem_append.1 hx with hx | hx
    · exact h4.lt partE x hx
    · exact h6.lt tagE x hx⟩
abbrev ARecs := Sl 3 ARecE

/-- An Id can be. -/
def idK (id : Int) : Bool := decide (0 < id) && decide (id ≤ 1000000000)
/-- A header follows what stands ahead. -/
def folB (ahead id : Int) (t : Bool) : Bool := decide (ahead < id) && (idK id && t)
end Go.Proofs.YtkinpfnelmdmlaaDoor
