/-
  Contracts of TagsOk, in the program and in its model: for every list of tags.
  The program's records in memory; what it asks of their headers: contracts.
  Maps of the call's own, as functions: what is looked up, what is put; sets of Ids.
  Contracts of what is asked of every node and of every way: for every list.
  Worlds that are alike but for one block; a set that is added to: contract.
  Contract of what is asked of an area: for every area.
  Contracts of the question whether Ids ascend, for nodes, ways and areas: for every list.
  Contracts: what is asked of every way and of every area; at which places Ids stand.
-/
import Derived.Test.YtiagdabikbjbiaaXA
import Derived.Maps.OwnSet
import Derived.Maps.OwnOps
import Derived.Deep.LoopGhost
import Derived.OwnWalk
import Derived.Maps.AppendAt
import Derived.Maps.Range
namespace Go.Proofs.Ytiagdabikbjbiaa
open Go.RowKit

end Go.Proofs.Ytiagdabikbjbiaa

namespace Go.Proofs.Ytiagdabikbjbiaa
open Go.RowKit

def NRecE : Elem NodeD := fun w b o d bs => In64 d.id ∧ In64 d.x ∧ In64 d.y ∧ w.cell? ⟨b, o, none⟩ = some (.int .i64 d.id) ∧ w.cell? ⟨b, o + 2, none⟩ = some (.int .i64 d.x) ∧ w.cell? ⟨b, o + 3, none⟩ = some (.int .i64 d.y) ∧
  ∃ a c, d.tags.length ≤ maxLen ∧ w.cell? ⟨b, o + 1, none⟩ = some (.slice a d.tags.length c) ∧ Tags w a d.tags bs
theorem nRecE : Stays 4 NRecE := ⟨fun ⟨h1, h2, h3, h4, h5, h6, a, c, hl, h7, h8⟩ hc hA => ⟨h1, h2, h3, same_cell hc 0 (by decide) h4, same_cell hc 2 (by decide) h5, same_cell hc 3 (by decide) h6, a, c, hl, same_cell hc 1 (by decide) h7, h8.alike tagE hA⟩,
  fun ⟨_, _, _, _, _, _, _, _, _, _, h8⟩ => h8.lt tagE⟩
abbrev NRecs := Sl 4 NRecE

def WRecE : Elem WayD := fun w b o d bs => In64 d.id ∧ w.cell? ⟨b, o, none⟩ = some (.int .i64 d.id) ∧
  ∃ a c a' c' bs1 bs2, bs = bs1 ++ bs2 ∧ d.nodes.length ≤ maxLen ∧ d.tags.length ≤ maxLen ∧ w.cell? ⟨b, o + 2, none⟩ = some (.slice a d.nodes.length c) ∧ Ints w a d.nodes bs1 ∧ w.cell? ⟨b, o + 1, none⟩ = some (.slice a' d.tags.length c') ∧ Tags w a' d.tags bs2
theorem wRecE : Stays 3 WRecE := ⟨fun ⟨h1, h2, a, c, a', c', bs1, bs2, e, hl1, hl2, h3, h4, h5, h6⟩ hc hA => by
    subst e
    exact ⟨h1, same_cell hc 0 (by decide) h2, a, c, a', c', bs1, bs2, rfl, hl1, hl2, same_cell hc 2 (by decide) h3, h4.alike intE (hA.sub fun _ hx => by simp [hx]), same_cell hc 1 (by decide) h5, h6.alike tagE (hA.sub fun _ hx => by simp [hx])⟩,
  fun ⟨_, _, _, _, _, _, bs1, bs2, e, _, _, _, h4, _, h6⟩ x hx => by
    subst e
    rcases List.mem_append.1 hx with hx | hx
    · exact h4.lt intE x hx
    · exact h6.lt tagE x hx⟩
abbrev WRecs := Sl 3 WRecE

def ARecE : Elem AreaD := fun w b o d bs => In64 d.id ∧ w.cell? ⟨b, o, none⟩ = some (.int .i64 d.id) ∧
  ∃ a c a' c' bs1 bs2, bs = bs1 ++ bs2 ∧ d.parts.length ≤ maxLen ∧ d.tags.length ≤ maxLen ∧ w.cell? ⟨b, o + 2, none⟩ = some (.slice a d.parts.length c) ∧ Parts w a d.parts bs1 ∧ w.cell? ⟨b, o + 1, none⟩ = some (.slice a' d.tags.length c') ∧ Tags w a' d.tags bs2
theorem aRecE : Stays 3 ARecE := ⟨fun ⟨h1, h2, a, c, a', c', bs1, bs2, e, hl1, hl2, h3, h4, h5, h6⟩ hc hA => by
    subst e
    exact ⟨h1, same_cell hc 0 (by decide) h2, a, c, a', c', bs1, bs2, rfl, hl1, hl2, same_cell hc 2 (by decide) h3, h4.alike partE (hA.sub fun _ hx => by simp [hx]), same_cell hc 1 (by decide) h5, h6.alike tagE (hA.sub fun _ hx => by simp [hx])⟩,
  fun ⟨_, _, _, _, _, _, bs1, bs2, e, _, _, _, h4, _, h6⟩ x hx => by
    subst e
    rcases List.mem_append.1 hx with hx | hx
    · exact h4.lt partE x hx
    · exact h6.lt tagE x hx⟩
abbrev ARecs := Sl 3 ARecE

/-- An Id can be. -/
def idK (id : Int) : Bool := decide (0 < id) && decide (id ≤ 1000000000)
theorem idOk_any (id : Int) (r : Bool) (w : World) (h : idK id = r) :
    Calls Try.prog 80 #[.int .i64 id] w fun e w' => e = .returned (.bool r) ∧ w' = w := by
  subst h
  by_cases h0 : 0 < id
  · have HF : Hid (idK id = decide (id ≤ 1000000000)) := (by simp [idK, h0] : idK id = decide (id ≤ 1000000000))
    go_enter Try.func80, Try.ntmps80
    go_wp2
    go_ret
    exact ⟨ret_bl HF.out.symm, rfl⟩
  · have HF : Hid (idK id = false) := (by simp [idK, h0] : idK id = false)
    go_enter Try.func80, Try.ntmps80
    go_wp2
    go_ret
    exact ⟨ret_bl HF.out.symm, rfl⟩

/-- A header follows what stands ahead. -/
def folB (ahead id : Int) (t : Bool) : Bool := decide (ahead < id) && (idK id && t)
end Go.Proofs.Ytiagdabikbjbiaa

namespace Go.Proofs.Ytiagdabikbjbiaa
open Go.RowKit Go.Maps

theorem lawI : Keyed Try.prog 2 := int_keyed Try.underlying2
theorem zeroI (w : World) : (zeroValue 3).run Try.prog w = .ok (.int .i64 0) w := by kernel_rfl
theorem wf_in {x : Int} (h : In64 x) : (Lit.int .i64 x).wf = true := by
  obtain ⟨h1, h2⟩ := h
  simp [Lit.wf, IntKind.min, IntKind.max, IntKind.signed, IntKind.bits]
  omega
theorem keyI {x : Int} (h : In64 x) : keyOf Try.prog 2 (.int .i64 x) = some (kI x) := keyOf_int_mk Try.underlying2 (wf_in h)
theorem kI_key (x : Int) : WideAt.IsKeyLit (kI x) := trivial
theorem kI_ne {x y : Int} (h : x ≠ y) : kI x ≠ kI y := fun e => h (by injection e)

/-- A map from Ids to places: at x it has what g says. -/
def MapAt (w : World) (b n : Nat) (g : Int → Option Int) : Prop :=
  ∃ D : DataW Unit, w.ownsMap Try.prog 2 (plainElem Try.prog 3) b n D ∧ ∀ x, Maps.has D (kI x) = (g x).isSome ∧ D.atKey (kI x) (.lit (.int .i64 0)) = .lit (.int .i64 ((g x).getD 0))
theorem MapAt.new (w : World) : MapAt (w.alloc (.map #[] 0)) w.heap.size 0 (fun _ => none) :=
  ⟨.map [], World.ownsMap_made w _ _ _, fun _ => ⟨rfl, rfl⟩⟩
theorem ownsMap_bel {w w' : World} {P : Program} {k : TypeId} {R : Value → Option (DataW Unit × List MemPlace)} {b n : Nat} {D : DataW Unit} (h : w.ownsMap P k R b n D) (hb : Bel w w') : w'.ownsMap P k R b n D := by
  have hl := h.lt
  obtain ⟨es, clock, h1, h2⟩ := h
  exact ⟨es, clock, by rw [hb.out.block b hl]; exact h1, h2⟩
theorem MapAt.bel {w w' : World} {b n : Nat} {g : Int → Option Int} (h : MapAt w b n g) (hb : Bel w w') : MapAt w' b n g := by
  obtain ⟨D, h1, h2⟩ := h
  exact ⟨D, ownsMap_bel h1 hb, h2⟩
theorem MapAt.lt {w : World} {b n : Nat} {g : Int → Option Int} (h : MapAt w b n g) : b < w.heap.size := by
  obtain ⟨D, h1, _⟩ := h; exact h1.lt
/-- A set of Ids. -/
def SetAt (w : World) (b n : Nat) (s : Int → Prop) : Prop :=
  ∃ D : DataW Unit, w.ownsMap Try.prog 2 unitElem b n D ∧ ∀ x, Maps.has D (kI x) = bP (s x)
theorem SetAt.new (w : World) : SetAt (w.alloc (.map #[] 0)) w.heap.size 0 (fun _ => False) :=
  ⟨.map [], World.ownsMap_made w _ _ _, fun _ => (bP_false fun h => h).symm⟩
theorem SetAt.bel {w w' : World} {b n : Nat} {s : Int → Prop} (h : SetAt w b n s) (hb : Bel w w') : SetAt w' b n s := by
  obtain ⟨D, h1, h2⟩ := h
  exact ⟨D, ownsMap_bel h1 hb, h2⟩
theorem SetAt.lt {w : World} {b n : Nat} {s : Int → Prop} (h : SetAt w b n s) : b < w.heap.size := by
  obtain ⟨D, h1, _⟩ := h; exact h1.lt
theorem zeroU (w : World) : (zeroValue 103).run Try.prog w = .ok (.agg #[]) w := by kernel_rfl
end Go.Proofs.Ytiagdabikbjbiaa

namespace Go.Proofs.Ytiagdabikbjbiaa
open Go.RowKit Go.Maps

/-- The program's chart as a value. -/
abbrev chV (an : Option Addr) (nn cn : Nat) (aw : Option Addr) (nw cw : Nat) (aa : Option Addr) (na ca : Nat) (bN bW : Nat) : Value :=
  .agg #[.slice an nn cn, .slice aw nw cw, .slice aa na ca, .map (some bN), .map (some bW)]

theorem wayP_few {n : Nat} {I : Nat → Int} {ns : List Int} (h : ¬ (2 ≤ ns.length ∧ ns.length ≤ 2000)) : bP (WayP n I ns) = false := bP_false fun hh => h ⟨hh.1, hh.2.1⟩
theorem wayP_no {n : Nat} {I : Nat → Int} {ns : List Int} {k : Nat} (hk : k < ns.length) (h : ¬ HasI n I ns[k]) : bP (WayP n I ns) = false := bP_false fun hh => h (hh.2.2 k hk).1
theorem wayP_two {n : Nat} {I : Nat → Int} {ns : List Int} {m : Nat} (hk : m + 1 < ns.length) (h : ns[m + 1] = ns[m]) : bP (WayP n I ns) = false :=
  bP_false fun hh => (hh.2.2 (m + 1) hk).2 (Nat.succ_pos _) (by simpa using h)

end Go.Proofs.Ytiagdabikbjbiaa

namespace Go.Proofs.Ytiagdabikbjbiaa
open Go.RowKit Go.Maps

theorem grown_of_bel {w w' : World} (h : Bel w w') (row : Option Nat) : w.grownBy w' row := ⟨h.out.os, h.out.tape, h.out.output, h.out.size, fun i hi _ => h.out.block i hi⟩
theorem bel_grow {w a b : World} {row : Option Nat} (h : Bel w a) (g : a.grownBy b row) (hr : ∀ k, row = some k → w.heap.size ≤ k) : Bel w b := Below.grown h g h.out.size hr
theorem grown_step {w a b : World} {row : Option Nat} (h : w.grownBy a row) (k : Bel a b) : w.grownBy b row := h.trans (grown_of_bel k row)
theorem grown_set {w a : World} {C : Nat} (h : w.grownBy a (some C)) (o : Nat) (v : Value) : w.grownBy (a.setCell ⟨C, o, none⟩ v) (some C) :=
  h.trans ⟨rfl, rfl, rfl, by simp [World.setCell], fun i _ hi => Below.heap_setCell a ⟨C, o, none⟩ v i (fun e => hi (by rw [e]))⟩
theorem grown_alike {w w' : World} {C : Nat} (h : w.grownBy w' (some C)) {bs : List Nat} (hs : ∀ x ∈ bs, x < w.heap.size) (hC : C ∉ bs) : Alike w w' bs := by
  intro b hb
  have e : w'.heap[b]? = w.heap[b]? := h.block b (hs b hb) (fun e => hC (by injection e with e; exact e ▸ hb))
  exact ⟨Nat.lt_of_lt_of_le (hs b hb) h.size, fun o => World.cell?_of_block (a := ⟨b, o, none⟩) e, fun o => World.frozen?_of_block (a := ⟨b, o, none⟩) e⟩
theorem Sl.grown {α : Type} {q : Nat} {E : Elem α} (hE : Stays q E) {w w' : World} {C : Nat} {a : Option Addr} {l : List α} {bs : List Nat} (h : Sl q E w a l bs) (hg : w.grownBy w' (some C)) (hC : C ∉ bs) : Sl q E w' a l bs :=
  h.alike hE (grown_alike hg (h.lt hE) hC)
theorem Blk.grown {w w' : World} {C B : Nat} {vs : List Value} (h : Blk w B vs) (hg : w.grownBy w' (some C)) (hne : B ≠ C) : Blk w' B vs := by
  have e : w'.heap[B]? = w.heap[B]? := hg.block B h.lt (fun e => hne (by injection e))
  exact ⟨Nat.lt_of_lt_of_le h.lt hg.size, fun j hj => (World.cell?_of_block (a := ⟨B, j, none⟩) e).trans (h.cell j hj), fun j => (World.frozen?_of_block (a := ⟨B, j, none⟩) e).trans (h.free j)⟩
theorem MapAt.grown {w w' : World} {C b n : Nat} {g : Int → Option Int} (h : MapAt w b n g) (hg : w.grownBy w' (some C)) (hne : b ≠ C) : MapAt w' b n g := by
  obtain ⟨D, h1, h2⟩ := h
  exact ⟨D, h1.kept hg (fun e => hne (by injection e)), h2⟩

end Go.Proofs.Ytiagdabikbjbiaa

namespace Go.Proofs.Ytiagdabikbjbiaa
open Go.RowKit Go.Maps

theorem areaP_few {n : Nat} {I : Nat → Int} {ps : List PartD} (h : ¬ (1 ≤ ps.length ∧ ps.length ≤ 30)) : bP (AreaP n I ps) = false := bP_false fun hh => h ⟨hh.1, hh.2.1⟩
theorem areaP_no {n : Nat} {I : Nat → Int} {ps : List PartD} {k : Nat} (hk : k < ps.length) (h : ¬ HasI n I ps[k].way) : bP (AreaP n I ps) = false := bP_false fun hh => h (hh.2.2 k hk).1
/-- The ways of the first k parts. -/
def waysTo (ps : List PartD) (k : Nat) (y : Int) : Prop := ∃ j, ∃ h : j < ps.length, j < k ∧ ps[j].way = y
theorem areaP_two {n : Nat} {I : Nat → Int} {ps : List PartD} {k : Nat} (hk : k < ps.length) (h : waysTo ps k ps[k].way) : bP (AreaP n I ps) = false :=
  bP_false fun hh => by
    obtain ⟨j, hj, hjk, e⟩ := h
    exact (hh.2.2 k hk).2 j hjk e
theorem ints_one (w : World) (x : Int) (hx : In64 x) (t : TypeId) : Ints (w.alloc (.cells #[.int .i64 x] t)) (some ⟨w.heap.size, 0, none⟩) [x] [w.heap.size] :=
  .inr ⟨w.heap.size, 0, fun _ => [], rfl, by simp, by simp, fun i hi => by
    obtain rfl : i = 0 := by simp at hi; omega
    exact ⟨rfl, hx, by simp [go_sem]⟩⟩

end Go.Proofs.Ytiagdabikbjbiaa

namespace Go.Proofs.Ytiagdabikbjbiaa
open Go.RowKit

theorem asc_pos {n : Nat} {I : Nat → Int} {T : Nat → Bool} (h : AscP n I T) : ∀ k, k < n → 0 < I k
  | 0, hk => (h 0 hk).1
  | k + 1, hk => Int.lt_trans (asc_pos h k (by omega)) (h (k + 1) hk).1
theorem folB_at {n k : Nat} {I : Nat → Int} {T : Nat → Bool} (hk : k < n) (h : folB (prevI I k) (I k) (T k) = false) : bP (AscP n I T) = false :=
  bP_false fun hh => by have := hh k hk; have := asc_pos hh k hk; simp_all [folB, idK]
theorem folB_out {p i : Int} {t : Bool} (h : folB p i t = true) : p < i ∧ i ≤ 1000000000 ∧ t = true := by
  have h' : p < i ∧ (0 < i ∧ i ≤ 1000000000) ∧ t = true := by simpa [folB, idK] using h
  exact ⟨h'.1, h'.2.1.2, h'.2.2⟩

end Go.Proofs.Ytiagdabikbjbiaa

namespace Go.Proofs.Ytiagdabikbjbiaa
open Go.RowKit Go.Maps

/-- At which place an Id stands last. -/
def plc (I : Nat → Int) : Nat → Int → Option Int
  | 0, _ => none
  | k + 1, y => if y = I k then some (k : Int) else plc I k y
theorem plc_some (I : Nat → Int) (x : Int) : ∀ n, (plc I n x).isSome = bP (HasI n I x)
  | 0 => (bP_false fun ⟨i, hi, _⟩ => absurd hi (Nat.not_lt_zero _)).symm
  | n + 1 => by
    simp only [plc]
    split
    · next h => exact (bP_true ⟨n, Nat.lt_succ_self _, h.symm⟩).symm
    · next h =>
      rw [plc_some I x n]
      by_cases hh : HasI n I x
      · rw [bP_true hh]
        obtain ⟨i, hi, e⟩ := hh
        exact (bP_true ⟨i, by omega, e⟩).symm
      · rw [bP_false hh]
        refine (bP_false fun ⟨i, hi, e⟩ => ?_).symm
        by_cases en : i = n
        · subst en; exact h e.symm
        · exact hh ⟨i, by omega, e⟩
theorem plc_at {I : Nat → Int} {i : Nat} : ∀ {n : Nat}, i < n → (∀ j, i < j → j < n → I j ≠ I i) → plc I n (I i) = some (i : Int)
  | 0, h, _ => absurd h (Nat.not_lt_zero _)
  | n + 1, h, hu => by
    simp only [plc]
    by_cases e : i = n
    · subst e; simp
    · rw [if_neg (fun h' => hu n (by omega) (by omega) h'.symm)]
      exact plc_at (by omega) (fun j h1 h2 => hu j h1 (by omega))

end Go.Proofs.Ytiagdabikbjbiaa
