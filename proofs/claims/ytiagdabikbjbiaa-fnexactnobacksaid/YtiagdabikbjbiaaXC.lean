/-
  Places, roads, bans and graphs as data in memory.
  When a graph can be: plain mathematics.
  cmp.Compare at numbers, cmp.Or of two; worlds that have grown: contracts.
  The small questions about a graph: an Id, a number of a list, two bans: contracts in the program.
  How data with depth that is handed in is read: a slice's value, and what its cells hold, down to the last text.
  How a graph that is handed in is read: its value, and what its lists hold.
-/
import Derived.Test.YtiagdabikbjbiaaFlat
import Derived.Test.YtiagdabikbjbiaaXA
import Derived.Sort.Grow
import Derived.Deep.RegionHeld3
import Derived.Deep.LoopGhost
import Derived.ProofKit
import Derived.Carry
import Derived.Lib.SmallJoins
import Derived.Deep.Slices
import Derived.Deep.SlicePairs
import Derived.Deep.Strs
namespace Go.Proofs.Ytiagdabikbjbiaa
open Go.RowKit Go.Maps

structure SpotD where
  id : Int
  x : Int
  y : Int
structure RoadD where
  fr : Int
  «to» : Int
  way : Int
  time : Int
  len : Int
  name : ByteArray
structure BanD where
  fr : Int
  «to» : Int
structure GraphD where
  places : List SpotD
  roads : List RoadD
  bans : List BanD

def SpotE : Elem SpotD := fun w b o d bs => bs = [] ∧ In64 d.id ∧ In64 d.x ∧ In64 d.y ∧ w.cell? ⟨b, o, none⟩ = some (.int .i64 d.id) ∧ w.cell? ⟨b, o + 1, none⟩ = some (.int .i64 d.x) ∧ w.cell? ⟨b, o + 2, none⟩ = some (.int .i64 d.y)
theorem spotE : Stays 3 SpotE := ⟨fun ⟨h0, i0, i1, i2, h1, h2, h3⟩ hc _ => ⟨h0, i0, i1, i2, same_cell hc 0 (by decide) h1, same_cell hc 1 (by decide) h2, same_cell hc 2 (by decide) h3⟩, fun ⟨h1, _⟩ x hx => by subst h1; cases hx⟩
abbrev SpotL := Sl 3 SpotE
def RoadE : Elem RoadD := fun w b o d bs => bs = [] ∧ In64 d.fr ∧ In64 d.to ∧ In64 d.way ∧ In64 d.time ∧ In64 d.len ∧ d.name.size ≤ maxLen ∧ w.cell? ⟨b, o, none⟩ = some (.int .i64 d.fr) ∧ w.cell? ⟨b, o + 1, none⟩ = some (.int .i64 d.to) ∧ w.cell? ⟨b, o + 2, none⟩ = some (.int .i64 d.way) ∧
  w.cell? ⟨b, o + 3, none⟩ = some (.int .i64 d.time) ∧ w.cell? ⟨b, o + 4, none⟩ = some (.int .i64 d.len) ∧ w.cell? ⟨b, o + 5, none⟩ = some (.string d.name)
theorem roadE : Stays 6 RoadE := ⟨fun ⟨h0, i0, i1, i2, i3, i4, i5, h1, h2, h3, h4, h5, h6⟩ hc _ => ⟨h0, i0, i1, i2, i3, i4, i5, same_cell hc 0 (by decide) h1, same_cell hc 1 (by decide) h2, same_cell hc 2 (by decide) h3, same_cell hc 3 (by decide) h4, same_cell hc 4 (by decide) h5, same_cell hc 5 (by decide) h6⟩, fun ⟨h1, _⟩ x hx => by subst h1; cases hx⟩
abbrev RoadL := Sl 6 RoadE
def BanE : Elem BanD := fun w b o d bs => bs = [] ∧ In64 d.fr ∧ In64 d.to ∧ w.cell? ⟨b, o, none⟩ = some (.int .i64 d.fr) ∧ w.cell? ⟨b, o + 1, none⟩ = some (.int .i64 d.to)
theorem banE : Stays 2 BanE := ⟨fun ⟨h0, i0, i1, h1, h2⟩ hc _ => ⟨h0, i0, i1, same_cell hc 0 (by decide) h1, same_cell hc 1 (by decide) h2⟩, fun ⟨h1, _⟩ x hx => by subst h1; cases hx⟩
abbrev BanL := Sl 2 BanE

def roadSz (d : RoadD) : Nat := d.name.size
def roadsSz (l : List RoadD) : Nat := l.length + sumTo roadSz l l.length
instance : Inhabited SpotD := ⟨⟨0, 0, 0⟩⟩
instance : Inhabited RoadD := ⟨⟨0, 0, 0, 0, 0, ⟨#[]⟩⟩⟩
instance : Inhabited BanD := ⟨⟨0, 0⟩⟩
end Go.Proofs.Ytiagdabikbjbiaa

namespace Go.Proofs.Ytiagdabikbjbiaa
open Go.RowKit Go.Maps

/-- An Id can be. -/
def idk (x : Int) : Bool := decide (0 < x) && decide (x ≤ 1000000000)
theorem idk_iff {x : Int} : idk x = true ↔ 0 < x ∧ x ≤ 1000000000 := by simp [idk]
theorem idk_not {x : Int} : idk x = false ↔ ¬ (0 < x ∧ x ≤ 1000000000) := by simp only [idk, Bool.and_eq_false_iff, decide_eq_false_iff_not]; omega

def spotsP (l : List SpotD) : Prop := ∀ i (h : i < l.length), idk l[i].id = true ∧ pok l[i].x l[i].y = true ∧ (0 < i → (l[i - 1]'(by omega)).id < l[i].id)
/-- A number of something in a list of n. -/
def inN (n : Nat) (x : Int) : Bool := decide (0 ≤ x) && decide (x < n)
theorem inN_iff {n : Nat} {x : Int} : inN n x = true ↔ 0 ≤ x ∧ x < n := by simp [inN]
theorem inN_not {n : Nat} {x : Int} : inN n x = false ↔ ¬ (0 ≤ x ∧ x < n) := by simp only [inN, Bool.and_eq_false_iff, decide_eq_false_iff_not]; omega
theorem inN_nat {n : Nat} {x : Int} (h : inN n x = true) : ∃ i : Nat, i < n ∧ x = i := by
  obtain ⟨h1, h2⟩ := inN_iff.1 h
  exact ⟨x.toNat, by omega, by omega⟩
def roadB (n : Nat) (r : RoadD) : Bool := inN n r.fr && (inN n r.to && (idk r.way && (decide (1 ≤ r.time) && (decide (r.time ≤ 1000000) && (decide (0 ≤ r.len) && decide (r.len ≤ 1000000000))))))
def roadsP (n : Nat) (l : List RoadD) : Prop := ∀ i (h : i < l.length), roadB n l[i] = true
theorem roadB_out {n : Nat} {r : RoadD} (h : roadB n r = true) : (0 ≤ r.fr ∧ r.fr < n) ∧ (0 ≤ r.to ∧ r.to < n) ∧ (0 < r.way ∧ r.way ≤ 1000000000) ∧ (1 ≤ r.time ∧ r.time ≤ 1000000) ∧ 0 ≤ r.len ∧ r.len ≤ 1000000000 := by
  simp only [roadB, inN, idk, Bool.and_eq_true, decide_eq_true_eq] at h
  omega
def banLt (a b : BanD) : Prop := a.fr < b.fr ∨ a.fr = b.fr ∧ a.to < b.to
/-- A ban of roads that meet. -/
def meetsP (rs : List RoadD) (b : BanD) : Prop := ∃ i j, ∃ hi : i < rs.length, ∃ hj : j < rs.length, b.fr = i ∧ b.to = j ∧ rs[i].to = rs[j].fr
def bansP (rs : List RoadD) (l : List BanD) : Prop := ∀ i (h : i < l.length), meetsP rs l[i] ∧ (0 < i → banLt (l[i - 1]'(by omega)) l[i])
def graphP (g : GraphD) : Prop := (g.places.length ≤ 5000 ∧ g.roads.length ≤ 8000 ∧ g.bans.length ≤ 2000) ∧ spotsP g.places ∧ roadsP g.places.length g.roads ∧ bansP g.roads g.bans

theorem spotsP_at {l : List SpotD} {k : Nat} (hk : k < l.length) (h : idk l[k].id = false ∨ pok l[k].x l[k].y = false ∨ ∃ m, ∃ e : k = m + 1, l[k].id ≤ (l[m]'(by omega)).id) : bP (spotsP l) = false := bP_false fun hh => by
  obtain ⟨h1, h2, h3⟩ := hh k hk
  rcases h with h | h | ⟨m, rfl, h⟩
  · rw [h] at h1; cases h1
  · rw [h] at h2; cases h2
  · have := h3 (Nat.succ_pos _)
    simp only [Nat.add_sub_cancel] at this
    omega
theorem meetsP_fr {rs : List RoadD} {b : BanD} (h : inN rs.length b.fr = false) : ¬ meetsP rs b := by
  rintro ⟨i, j, hi, hj, e, _⟩
  exact inN_not.1 h (by rw [e]; omega)
theorem meetsP_to {rs : List RoadD} {b : BanD} (h : inN rs.length b.to = false) : ¬ meetsP rs b := by
  rintro ⟨i, j, hi, hj, _, e, _⟩
  exact inN_not.1 h (by rw [e]; omega)
theorem meetsP_at {rs : List RoadD} {b : BanD} {i j : Nat} (hi : i < rs.length) (hj : j < rs.length) (e1 : b.fr = i) (e2 : b.to = j) : meetsP rs b ↔ rs[i].to = rs[j].fr := by
  constructor
  · rintro ⟨i', j', hi', hj', a1, a2, a3⟩
    obtain rfl : i' = i := by omega
    obtain rfl : j' = j := by omega
    exact a3
  · exact fun h => ⟨i, j, hi, hj, e1, e2, h⟩
theorem bansP_at {rs : List RoadD} {l : List BanD} {k : Nat} (hk : k < l.length) (h : ¬ meetsP rs l[k] ∨ ∃ m, ∃ e : k = m + 1, ¬ banLt (l[m]'(by omega)) l[k]) : bP (bansP rs l) = false := bP_false fun hh => by
  obtain ⟨h1, h2⟩ := hh k hk
  rcases h with h | ⟨m, rfl, h⟩
  · exact h h1
  · have := h2 (Nat.succ_pos _)
    simp only [Nat.add_sub_cancel] at this
    exact h this
end Go.Proofs.Ytiagdabikbjbiaa

namespace Go.Proofs.Ytiagdabikbjbiaa
open Go.RowKit Go.Sort

/-- -1, 0, 1: below, the same, above. -/
def cpz (x y : Int) : Int := if x < y then -1 else if y < x then 1 else 0
def orz (a b : Int) : Int := if a = 0 then b else a

/-- Some draws, some blocks more. -/
def Gw (w w' : World) : Prop := ∃ (q : Nat) (os : Array Obj), w' = grow (w.drewN q) os
theorem Gw.refl (w : World) : Gw w w := ⟨0, #[], by rw [grow_empty]; rfl⟩
theorem Gw.drew {w a : World} (h : Gw w a) : Gw w a.drew := by
  obtain ⟨q, os, rfl⟩ := h
  exact ⟨q + 1, os, rfl⟩
theorem Gw.alloc {w a : World} (h : Gw w a) (o : Obj) : Gw w (a.alloc o) := by
  obtain ⟨q, os, rfl⟩ := h
  exact ⟨q, os ++ #[o], by rw [alloc_eq_grow, grow_grow]⟩
theorem drewN_grow (w : World) (os : Array Obj) (n : Nat) : (grow w os).drewN n = grow (w.drewN n) os := rfl
theorem Gw.step {w a b : World} (h : Gw w a) (k : Gw a b) : Gw w b := by
  obtain ⟨q, os, rfl⟩ := h
  obtain ⟨q', os', rfl⟩ := k
  exact ⟨q + q', os ++ os', by rw [drewN_grow, grow_grow, World.drewN_drewN]⟩
theorem gw_then {w a b : World} (k : Gw a b) (h : Gw w a) : Gw w b := h.step k
theorem bel_grows (w : World) (os : Array Obj) : Bel w (grow w os) :=
  ⟨rfl, rfl, rfl, by simp [grow], fun k hk => by simp [grow, Array.getElem?_append_left hk]⟩
theorem Gw.bel {w a : World} (h : Gw w a) : Bel w a := by
  obtain ⟨q, os, rfl⟩ := h
  exact bel_step (bel_drewN (Bel.refl w) q) (bel_grows _ os)

theorem isNaN64_any (x : Int) (w : World) : Calls Try.prog 84 #[.int .i64 x] w fun e w' => e = .returned (.bool false) ∧ w' = w := by
  go_enter Try.func84, Try.ntmps84
  go_wp2
  go_ret
  exact ⟨by simp, rfl⟩
set_option maxHeartbeats 1000000 in
theorem compare64_any (x y : Int) (w : World) : Calls Try.prog 74 #[.int .i64 x, .int .i64 y] w fun e w' => e = .returned (.int .i64 (cpz x y)) ∧ w' = w := by
  by_cases h1 : x < y
  · have HZ : Hid (cpz x y = -1) := if_pos h1
    go_enter Try.func74, Try.ntmps74
    go_wp2_with (first | (go_at_call 84; refine (isNaN64_any _ _).mono ?_; rintro e w' ⟨rfl, rfl⟩))
    go_ret
    exact ⟨by rw [HZ.out]; rfl, rfl⟩
  · by_cases h2 : y < x
    · have HZ : Hid (cpz x y = 1) := (by unfold cpz; rw [if_neg h1, if_pos h2] : cpz x y = 1)
      go_enter Try.func74, Try.ntmps74
      go_wp2_with (first | (go_at_call 84; refine (isNaN64_any _ _).mono ?_; rintro e w' ⟨rfl, rfl⟩))
      go_ret
      exact ⟨by rw [HZ.out]; rfl, rfl⟩
    · have HZ : Hid (cpz x y = 0) := (by unfold cpz; rw [if_neg h1, if_neg h2] : cpz x y = 0)
      go_enter Try.func74, Try.ntmps74
      go_wp2_with (first | (go_at_call 84; refine (isNaN64_any _ _).mono ?_; rintro e w' ⟨rfl, rfl⟩))
      go_ret
      exact ⟨by rw [HZ.out]; rfl, rfl⟩
/-- How far cmp.Or has come. -/
def OrP (k : Nat) (a b : Int) : Prop := (1 ≤ k → a = 0) ∧ (2 ≤ k → b = 0)
set_option maxHeartbeats 1000000 in
theorem or2_any (B : Nat) (a b : Int) (w : World) (h0 : w.cell? ⟨B, 0, none⟩ = some (.int .i64 a)) (h1 : w.cell? ⟨B, 1, none⟩ = some (.int .i64 b)) :
    Calls Try.prog 78 #[.slice (some ⟨B, 0, none⟩) 2 2] w fun e w' => e = .returned (.int .i64 (orz a b)) ∧ w' = w := by
  go_enter Try.func78, Try.ntmps78
  go_wp2
  go_loopw [5, 8] (fun _ i wr => ∃ k : Nat, k ≤ 2 ∧ i = .int .i64 k ∧ Hid (OrP k a b) ∧ wr = w) (fun _ i _ => 2 - (intOf i).toNat)
  case atStart => exact ⟨0, by omega, rfl, (⟨fun h => by omega, fun h => by omega⟩ : OrP 0 a b), rfl⟩
  case round =>
    obtain ⟨k, hk, rfl, HK, rfl⟩ := hrel
    match k, hk, HK with
    | 0, _, HK =>
      by_cases ha : a = 0
      · subst ha
        have HK1 : Hid (OrP 1 0 b) := ⟨fun _ => rfl, fun h => by omega⟩
        go_wp2
        go_roundw
        case rel => exact ⟨1, by omega, by go_num, HK1, trivial⟩
        case measure => simp [intOf]
      · have HR : Hid (orz a b = a) := if_neg ha
        have hne : (a != 0) = true := by simp [ha]
        have hne' : (a == 0) = false := by simp [ha]
        go_wp2
        go_ret
        exact ⟨ret_num HR.out.symm, rfl⟩
    | 1, _, HK =>
      have ha : a = 0 := HK.out.1 (by omega)
      by_cases hb : b = 0
      · subst hb
        have HK1 : Hid (OrP 2 a 0) := ⟨fun _ => ha, fun _ => rfl⟩
        clear ha
        go_wp2
        go_roundw
        case rel => exact ⟨2, by omega, by go_num, HK1, trivial⟩
        case measure => simp [intOf]
      · have HR : Hid (orz a b = b) := if_pos ha
        have hne : (b != 0) = true := by simp [hb]
        have hne' : (b == 0) = false := by simp [hb]
        clear ha
        go_wp2
        go_ret
        exact ⟨ret_num HR.out.symm, rfl⟩
    | 2, _, HK =>
      have HR : Hid (orz a b = 0) := by
        have h1 := HK.out.1 (by omega)
        have h2 := HK.out.2 (by omega)
        unfold orz; rw [if_pos h1]; exact h2
      go_wp2
      go_ret
      exact ⟨ret_num HR.out.symm, rfl⟩
end Go.Proofs.Ytiagdabikbjbiaa

namespace Go.Proofs.Ytiagdabikbjbiaa
open Go.RowKit Go.Maps

theorem idG_r (x : Int) (r : Bool) (w : World) (h : idk x = r) :
    Calls Try.prog 80 #[.int .i64 x] w fun e w' => e = .returned (.bool r) ∧ w' = w := by
  subst h
  by_cases h1 : 0 < x <;> by_cases h2 : x ≤ 1000000000 <;> (
    go_enter Try.func80, Try.ntmps80
    go_wp2
    go_ret
    exact ⟨ret_bl (by unfold idk; simp <;> omega), rfl⟩)
theorem l2IdG_r (x : Int) (r : Bool) (w : World) (h : idk x = r) :
    Calls Try.prog 48 #[.int .i64 x] w fun e w' => e = .returned (.bool r) ∧ w' = w := by
  subst h
  by_cases h1 : 1 ≤ x <;> by_cases h2 : x ≤ 1000000000 <;> (
    go_enter Try.func48, Try.ntmps48
    go_wp2
    go_ret
    exact ⟨ret_bl (by unfold idk; simp <;> omega), rfl⟩)
theorem pointG_r (x y : Int) (r : Bool) (w : World) (h : pok x y = r) :
    Calls Try.prog 81 #[pt x y] w fun e w' => e = .returned (.bool r) ∧ Bel w w' := by
  subst h; exact pointOk_any x y w
theorem specPointG_r (x y : Int) (r : Bool) (w : World) (h : pok x y = r) :
    Calls Try.prog 49 #[pt x y] w fun e w' => e = .returned (.bool r) ∧ Bel w w' := by
  subst h; exact specPointOk_any x y w
theorem inSpot_r (i : Int) (a : Option Addr) (n c : Nat) (r : Bool) (w : World) (h : inN n i = r) :
    Calls Try.prog 82 #[.int .i64 i, .slice a n c] w fun e w' => e = .returned (.bool r) ∧ w' = w := by
  subst h
  by_cases h1 : 0 ≤ i
  · by_cases h2 : i < n
    · have HR : Hid (true = inN n i) := (inN_iff.2 ⟨h1, h2⟩).symm
      go_enter Try.func82, Try.ntmps82
      go_wp2
      go_ret
      exact ⟨ret_bl HR.out, rfl⟩
    · have HR : Hid (false = inN n i) := (inN_not.2 fun h => h2 h.2).symm
      go_enter Try.func82, Try.ntmps82
      go_wp2
      go_ret
      exact ⟨ret_bl HR.out, rfl⟩
  · have HR : Hid (false = inN n i) := (inN_not.2 fun h => h1 h.1).symm
    go_enter Try.func82, Try.ntmps82
    go_wp2
    go_ret
    exact ⟨ret_bl HR.out, rfl⟩
theorem inRoad_r (i : Int) (a : Option Addr) (n c : Nat) (r : Bool) (w : World) (h : inN n i = r) :
    Calls Try.prog 83 #[.int .i64 i, .slice a n c] w fun e w' => e = .returned (.bool r) ∧ w' = w := by
  subst h
  by_cases h1 : 0 ≤ i
  · by_cases h2 : i < n
    · have HR : Hid (true = inN n i) := (inN_iff.2 ⟨h1, h2⟩).symm
      go_enter Try.func83, Try.ntmps83
      go_wp2
      go_ret
      exact ⟨ret_bl HR.out, rfl⟩
    · have HR : Hid (false = inN n i) := (inN_not.2 fun h => h2 h.2).symm
      go_enter Try.func83, Try.ntmps83
      go_wp2
      go_ret
      exact ⟨ret_bl HR.out, rfl⟩
  · have HR : Hid (false = inN n i) := (inN_not.2 fun h => h1 h.1).symm
    go_enter Try.func83, Try.ntmps83
    go_wp2
    go_ret
    exact ⟨ret_bl HR.out, rfl⟩

/-- Two bans, held against each other. -/
def bnz (a b : BanD) : Int := orz (cpz a.fr b.fr) (cpz a.to b.to)
theorem bnz_lt {a b : BanD} : bnz a b < 0 ↔ banLt a b := by
  unfold bnz orz cpz banLt
  by_cases h1 : a.fr < b.fr
  · simp [h1]
  · by_cases h2 : b.fr < a.fr
    · simp [h1, h2]; omega
    · have : a.fr = b.fr := by omega
      by_cases h3 : a.to < b.to
      · simp [h3, this]
      · by_cases h4 : b.to < a.to <;> simp [h3, h4, this]
set_option maxRecDepth 100000 in
set_option maxHeartbeats 1000000 in
theorem banCmp_any (a b : BanD) (w : World) :
    Calls Try.prog 61 #[.agg #[.int .i64 a.fr, .int .i64 a.to], .agg #[.int .i64 b.fr, .int .i64 b.to]] w fun e w' => e = .returned (.int .i64 (bnz a b)) ∧ Gw w w' := by
  obtain ⟨W, HW⟩ : ∃ W, Hid (W = (w.alloc (.cells #[.int .i64 a.fr, .int .i64 a.to] 75)).alloc (.cells #[.int .i64 b.fr, .int .i64 b.to] 75)) := ⟨_, (rfl : (w.alloc (.cells #[.int .i64 a.fr, .int .i64 a.to] 75)).alloc (.cells #[.int .i64 b.fr, .int .i64 b.to] 75) = _)⟩
  have hG : Gw w W := by rw [HW.out]; exact ((Gw.refl w).alloc _).alloc _
  have X0 : Blk W w.heap.size [.int .i64 a.fr, .int .i64 a.to] := by rw [HW.out]; exact (Blk.new w [.int .i64 a.fr, .int .i64 a.to] _).bel (bel_alloc (Bel.refl _) _)
  have X1 : Blk W (w.heap.size + 1) [.int .i64 b.fr, .int .i64 b.to] := by rw [HW.out]; exact Blk.new1 w _ [.int .i64 b.fr, .int .i64 b.to] _
  have hR : ∀ w', Gw W w' → w'.cell? ⟨w.heap.size, 0, none⟩ = some (.int .i64 a.fr) ∧ w'.cell? ⟨w.heap.size, 1, none⟩ = some (.int .i64 a.to) ∧ w'.cell? ⟨w.heap.size + 1, 0, none⟩ = some (.int .i64 b.fr) ∧ w'.cell? ⟨w.heap.size + 1, 1, none⟩ = some (.int .i64 b.to) := fun w' h =>
    ⟨(X0.bel h.bel).cell 0 (by simp), (X0.bel h.bel).cell 1 (by simp), (X1.bel h.bel).cell 0 (by simp), (X1.bel h.bel).cell 1 (by simp)⟩
  obtain ⟨p, Hp⟩ : ∃ p, Hid (cpz a.fr b.fr = p) := ⟨_, (rfl : cpz a.fr b.fr = _)⟩
  obtain ⟨q, Hq⟩ : ∃ p, Hid (cpz a.to b.to = p) := ⟨_, (rfl : cpz a.to b.to = _)⟩
  have HO : Hid (orz p q = bnz a b) := (by unfold bnz; rw [Hp.out, Hq.out] : orz p q = bnz a b)
  have c1 : ∀ w, Calls Try.prog 74 #[.int .i64 a.fr, .int .i64 b.fr] w fun e w' => e = .returned (.int .i64 p) ∧ w' = w := fun w => by rw [← Hp.out]; exact compare64_any _ _ _
  have c2 : ∀ w, Calls Try.prog 74 #[.int .i64 a.to, .int .i64 b.to] w fun e w' => e = .returned (.int .i64 q) ∧ w' = w := fun w => by rw [← Hq.out]; exact compare64_any _ _ _
  have g0 : Gw W W := Gw.refl _
  clear X0 X1
  go_enter Try.func61, Try.ntmps61
  go_wp2
  rw [← HW.out]
  go_region_held3 (fun w' => Gw W w') (with_reducible (repeat (first | assumption | exact g0 | refine Gw.drew ?_ | refine Gw.alloc ?_ _ | refine gw_then (by assumption) ?_)))
    (first
      | (go_at_call 74; with_reducible refine (c1 _).mono ?_; rintro e w' ⟨rfl, rfl⟩)
      | (go_at_call 74; with_reducible refine (c2 _).mono ?_; rintro e w' ⟨rfl, rfl⟩)
      | (go_at_call 78; refine (or2_any _ p q _ (by simp) (by simp)).mono ?_; rintro e w' ⟨rfl, rfl⟩))
  have hH : Gw W (W.alloc (.cells #[.int .i64 p, .int .i64 q] 3)).drew := by assumption
  go_wp2
  go_ret
  exact ⟨ret_num HO.out, hG.step hH⟩
end Go.Proofs.Ytiagdabikbjbiaa

namespace Go.Proofs.Ytiagdabikbjbiaa
open Go.ChangeShapes Go.WideShapes Go.ChangeAt Go.RowKit Go.Deep Go.Joins

theorem in64_of_wf {x : Int} (h : (Lit.int .i64 x).wf = true) : In64 x := by
  simp [Lit.wf, IntKind.min, IntKind.max, IntKind.signed, IntKind.bits] at h
  exact ⟨by omega, by omega⟩

section
variable {H : Type} {enc : TypeId × Value → H} {P : Program} {W : World} {base : Nat} {spare : Nat → Bool} {held : Bool}

/-- A slice of whatever elements: each as the given reading says. -/
theorem open_sl {α : Type} [Inhabited α] {q : Nat} {E : Elem α} {t e : TypeId} (hq : 0 < q) (ht : P.underlying t = some (.slice e)) (ce : P.cellsOf e = q)
    (hel : ∀ (b o n : Nat) (cs : List Value) (x : DataW H × List MemPlace), cs.length = q → (∀ j (h : j < cs.length), W.cell? ⟨b, o + j, none⟩ = some cs[j]) → DataW.trod enc P W base spare held n e cs = some x → ∃ d bs, E W b o d bs)
    {fuel : Nat} {cs : List Value} {x : DataW H × List MemPlace} (h : DataW.trod enc P W base spare held fuel t cs = some x) :
    ∃ a c l bs, cs = [.slice a l.length c] ∧ Sl q E W a l bs ∧ l.length ≤ maxLen := by
  rcases open_slice ht h with ⟨hcs, _⟩ | ⟨a, len, cap, m, n, D, Pl, hcs, _, hl, hm, hmm, _, hx⟩
  · exact ⟨none, 0, [], [], hcs, .inl ⟨rfl, rfl⟩, by simp⟩
  · have hlm : len ≤ m := by rw [hmm]; split <;> omega
    by_cases h0 : len = 0
    · subst h0
      exact ⟨some a, cap, [], [], hcs, .inl ⟨rfl, rfl⟩, by simp⟩
    · obtain ⟨b, off, spot⟩ := a
      have key : ∀ i, i < len → ∃ cs' : List Value, cs'.length = q ∧ (∀ j (h : j < cs'.length), W.cell? ((Addr.add ⟨b, off, spot⟩ (i * q)).add j) = some cs'[j]) ∧ DataW.trod enc P W base spare held n e cs' = some (D i, Pl i) := fun i hi => by
        obtain ⟨cs', h1, h2⟩ := hx i (by omega)
        rw [ce] at h1
        obtain ⟨_, hlen, hcell⟩ := World.cells?_some h1
        exact ⟨cs', hlen, fun j hj => by rw [hcell j (by omega)]; simp, h2⟩
      have hspot : spot = none := by
        obtain ⟨cs', h1, h2, _⟩ := key 0 (by omega)
        have := h2 0 (by omega)
        simpa [Addr.add] using World.cell?_spot this
      subst hspot
      have key2 : ∀ i, i < len → ∃ p : α × List Nat, E W b (off + i * q) p.1 p.2 := fun i hi => by
        obtain ⟨cs', h1, h2, h3⟩ := key i hi
        obtain ⟨d, bs, hd⟩ := hel b (off + i * q) n cs' _ h1 (fun j hj => by have := h2 j hj; rw [add_add, add_plain] at this; rw [Nat.add_assoc]; exact this) h3
        exact ⟨(d, bs), hd⟩
      obtain ⟨f, hf⟩ := choose_lt key2
      have hlen : ((List.range len).map fun i => (f i).1).length = len := by simp
      refine ⟨_, cap, (List.range len).map fun i => (f i).1, _, by rw [hlen]; exact hcs, .inr ⟨b, off, fun i => (f i).2, rfl, ?_, rfl, fun i hi => ?_⟩, by rw [hlen]; omega⟩
      · obtain ⟨cs', h1, h2, _⟩ := key 0 (by omega)
        have := World.block_lt_of_cell? W _ (h2 0 (by omega))
        simpa [Addr.add] using this
      · rw [hlen] at hi
        simpa using hf i hi
end

instance : Inhabited TagD := ⟨⟨⟨#[]⟩, ⟨#[]⟩⟩⟩
instance : Inhabited PartD := ⟨⟨0, false⟩⟩
instance : Inhabited NodeD := ⟨⟨0, 0, 0, []⟩⟩
instance : Inhabited WayD := ⟨⟨0, [], []⟩⟩
instance : Inhabited AreaD := ⟨⟨0, [], []⟩⟩

section
variable {H : Type} {enc : TypeId × Value → H} {W : World} {base : Nat} {spare : Nat → Bool} {held : Bool}
theorem cellsStr : Try.prog.cellsOf 9 = 1 := by kernel_rfl
theorem cellsI64 : Try.prog.cellsOf 2 = 1 := by kernel_rfl
end

set_option maxRecDepth 100000 in
theorem open_str {H : Type} {enc : TypeId × Value → H} {W : World} {base : Nat} {v : Value} {d : DataW H} {p : List MemPlace}
    (hv : Value.okWide Try.prog W .any base 9 v) (h : DataW.Trod enc Try.prog W 0 (fun _ => true) true 9 v d p) :
    ∃ s : ByteArray, v = .string s ∧ s.size ≤ maxLen := by
  obtain ⟨s', rfl⟩ := okWide_string Try.underlying9 hv
  obtain ⟨fuel, hf⟩ := h
  obtain ⟨s, e0, _, z0⟩ := DataW.trod_string Try.underlying9 hf
  simp [Value.cells] at e0
  subst e0
  exact ⟨_, rfl, z0⟩
end Go.Proofs.Ytiagdabikbjbiaa

namespace Go.Proofs.Ytiagdabikbjbiaa
open Go.ChangeShapes Go.WideShapes Go.ChangeAt Go.RowKit Go.Deep Go.Joins

/-- The value reads as this graph and lies in these blocks. -/
def GphV (w : World) (v : Value) (g : GraphD) (bs : List Nat) : Prop :=
  ∃ a0 c0 a1 c1 a2 c2 b0 b1 b2, bs = b0 ++ (b1 ++ b2) ∧ v = .agg #[.slice a0 g.places.length c0, .slice a1 g.roads.length c1, .slice a2 g.bans.length c2] ∧ SpotL w a0 g.places b0 ∧ RoadL w a1 g.roads b1 ∧ BanL w a2 g.bans b2
theorem GphV.bel {w w' : World} {v : Value} {g : GraphD} {bs : List Nat} (h : GphV w v g bs) (hb : Bel w w') : GphV w' v g bs := by
  obtain ⟨a0, c0, a1, c1, a2, c2, b0, b1, b2, e1, e2, h0, h1, h2⟩ := h
  exact ⟨a0, c0, a1, c1, a2, c2, b0, b1, b2, e1, e2, h0.bel spotE hb, h1.bel roadE hb, h2.bel banE hb⟩
theorem GphV.lt {w : World} {v : Value} {g : GraphD} {bs : List Nat} (h : GphV w v g bs) : ∀ x ∈ bs, x < w.heap.size := by
  obtain ⟨a0, c0, a1, c1, a2, c2, b0, b1, b2, e1, _, h0, h1, h2⟩ := h
  subst e1
  intro x hx
  rcases List.mem_append.1 hx with hx | hx
  · exact h0.lt spotE x hx
  · rcases List.mem_append.1 hx with hx | hx
    · exact h1.lt roadE x hx
    · exact h2.lt banE x hx
theorem GphV.alike {w w' : World} {v : Value} {g : GraphD} {bs : List Nat} (h : GphV w v g bs) (hA : Alike w w' bs) : GphV w' v g bs := by
  obtain ⟨a0, c0, a1, c1, a2, c2, b0, b1, b2, e1, e2, h0, h1, h2⟩ := h
  subst e1
  exact ⟨a0, c0, a1, c1, a2, c2, b0, b1, b2, rfl, e2, h0.alike spotE (hA.sub fun _ hx => by simp [hx]), h1.alike roadE (hA.sub fun _ hx => by simp [hx]), h2.alike banE (hA.sub fun _ hx => by simp [hx])⟩
/-- The lists of a graph have lengths within int. -/
def GphN (g : GraphD) : Prop := g.places.length ≤ maxLen ∧ g.roads.length ≤ maxLen ∧ g.bans.length ≤ maxLen
/-- .. and within what the laws let by. -/
def GphQ (g : GraphD) : Prop := g.places.length ≤ 1048576 ∧ g.roads.length ≤ 1048576 ∧ g.bans.length ≤ 1048576

section
variable {H : Type} {enc : TypeId × Value → H} {P : Program} {W : World} {base : Nat} {spare : Nat → Bool} {held : Bool}
theorem trod_struct6 {t : TypeId} {f0 f1 f2 f3 f4 f5 : Field} {fuel : Nat} {cs : List Value} {x : DataW H × List MemPlace} (ht : P.underlying t = some (.struct #[f0, f1, f2, f3, f4, f5])) (h : DataW.trod enc P W base spare held fuel t cs = some x) :
    ∃ y0 y1 y2 y3 y4 y5 n, DataW.trod enc P W base spare held n f0.type ((cs.drop f0.offset).take (P.cellsOf f0.type)) = some y0 ∧
      DataW.trod enc P W base spare held n f1.type ((cs.drop f1.offset).take (P.cellsOf f1.type)) = some y1 ∧ DataW.trod enc P W base spare held n f2.type ((cs.drop f2.offset).take (P.cellsOf f2.type)) = some y2 ∧
      DataW.trod enc P W base spare held n f3.type ((cs.drop f3.offset).take (P.cellsOf f3.type)) = some y3 ∧ DataW.trod enc P W base spare held n f4.type ((cs.drop f4.offset).take (P.cellsOf f4.type)) = some y4 ∧
      DataW.trod enc P W base spare held n f5.type ((cs.drop f5.offset).take (P.cellsOf f5.type)) = some y5 := by
  obtain ⟨xs, n, _, _, _, hlen, hf⟩ := DataW.trod_struct ht h
  match xs, hlen with
  | [y0, y1, y2, y3, y4, y5], _ => exact ⟨y0, y1, y2, y3, y4, y5, n, by simpa using hf 0 f0 rfl, by simpa using hf 1 f1 rfl, by simpa using hf 2 f2 rfl, by simpa using hf 3 f3 rfl, by simpa using hf 4 f4 rfl, by simpa using hf 5 f5 rfl⟩
end
section
variable {H : Type} {enc : TypeId × Value → H} {W : World} {base : Nat} {spare : Nat → Bool} {held : Bool}
theorem cellsLPg : Try.prog.cellsOf 88 = 2 := by kernel_rfl

theorem cellsSpot : Try.prog.cellsOf 90 = 3 := by kernel_rfl
theorem cellsRoad : Try.prog.cellsOf 79 = 6 := by kernel_rfl
theorem cellsBan : Try.prog.cellsOf 93 = 2 := by kernel_rfl
theorem cellsGraph : Try.prog.cellsOf 26 = 3 := by kernel_rfl
theorem cellsSlS : Try.prog.cellsOf 22 = 1 := by kernel_rfl
theorem cellsSlR : Try.prog.cellsOf 23 = 1 := by kernel_rfl
theorem cellsSlB : Try.prog.cellsOf 24 = 1 := by kernel_rfl
set_option maxRecDepth 100000 in
theorem openSpots {fuel : Nat} {cs : List Value} {x : DataW H × List MemPlace} (h : DataW.trod enc Try.prog W base spare held fuel 22 cs = some x) :
    ∃ a c l bs, cs = [.slice a l.length c] ∧ SpotL W a l bs ∧ l.length ≤ maxLen := by
  refine open_sl (by decide) Try.underlying22 cellsSpot ?_ h
  intro b o n cs x hl hc hx
  obtain ⟨y0, y1, m, _, _, g0, g1⟩ := trod_struct2 Try.underlying90 hx
  match cs, hl with
  | [v0, v1, v2], _ =>
    obtain ⟨p0, p1, m', _, _, k0, k1⟩ := trod_struct2 (t := 88) Try.underlying88 g1
    obtain ⟨s0, e0, _, z0⟩ := DataW.trod_int (t := 2) Try.underlying2 g0
    obtain ⟨s1, e1, _, z1⟩ := DataW.trod_int (t := 2) Try.underlying2 k0
    obtain ⟨s2, e2, _, z2⟩ := DataW.trod_int (t := 2) Try.underlying2 k1
    have e0 : v0 = .int .i64 s0 := by simpa [cellsI64, cellsLPg] using e0
    have e1 : v1 = .int .i64 s1 := by simpa [cellsI64, cellsLPg] using e1
    have e2 : v2 = .int .i64 s2 := by simpa [cellsI64, cellsLPg] using e2
    rw [e0, e1, e2] at hc
    exact ⟨⟨s0, s1, s2⟩, [], rfl, in64_of_wf z0, in64_of_wf z1, in64_of_wf z2, hc 0 (by simp), hc 1 (by simp), hc 2 (by simp)⟩
set_option maxRecDepth 100000 in
theorem openRoads {fuel : Nat} {cs : List Value} {x : DataW H × List MemPlace} (h : DataW.trod enc Try.prog W base spare held fuel 23 cs = some x) :
    ∃ a c l bs, cs = [.slice a l.length c] ∧ RoadL W a l bs ∧ l.length ≤ maxLen := by
  refine open_sl (by decide) Try.underlying23 cellsRoad ?_ h
  intro b o n cs x hl hc hx
  obtain ⟨y0, y1, y2, y3, y4, y5, m, g0, g1, g2, g3, g4, g5⟩ := trod_struct6 Try.underlying79 hx
  match cs, hl with
  | [v0, v1, v2, v3, v4, v5], _ =>
    obtain ⟨s0, e0, _, z0⟩ := DataW.trod_int (t := 2) Try.underlying2 g0
    obtain ⟨s1, e1, _, z1⟩ := DataW.trod_int (t := 2) Try.underlying2 g1
    obtain ⟨s2, e2, _, z2⟩ := DataW.trod_int (t := 2) Try.underlying2 g2
    obtain ⟨s3, e3, _, z3⟩ := DataW.trod_int (t := 2) Try.underlying2 g3
    obtain ⟨s4, e4, _, z4⟩ := DataW.trod_int (t := 2) Try.underlying2 g4
    obtain ⟨s5, e5, _, z5⟩ := DataW.trod_string (t := 9) Try.underlying9 g5
    have e0 : v0 = .int .i64 s0 := by simpa [cellsI64] using e0
    have e1 : v1 = .int .i64 s1 := by simpa [cellsI64] using e1
    have e2 : v2 = .int .i64 s2 := by simpa [cellsI64] using e2
    have e3 : v3 = .int .i64 s3 := by simpa [cellsI64] using e3
    have e4 : v4 = .int .i64 s4 := by simpa [cellsI64] using e4
    have e5 : v5 = .string s5 := by simpa [cellsStr] using e5
    rw [e0, e1, e2, e3, e4, e5] at hc
    exact ⟨⟨s0, s1, s2, s3, s4, s5⟩, [], rfl, in64_of_wf z0, in64_of_wf z1, in64_of_wf z2, in64_of_wf z3, in64_of_wf z4, z5, hc 0 (by simp), hc 1 (by simp), hc 2 (by simp), hc 3 (by simp), hc 4 (by simp), hc 5 (by simp)⟩
set_option maxRecDepth 100000 in
theorem openBans {fuel : Nat} {cs : List Value} {x : DataW H × List MemPlace} (h : DataW.trod enc Try.prog W base spare held fuel 24 cs = some x) :
    ∃ a c l bs, cs = [.slice a l.length c] ∧ BanL W a l bs ∧ l.length ≤ maxLen := by
  refine open_sl (by decide) Try.underlying24 cellsBan ?_ h
  intro b o n cs x hl hc hx
  obtain ⟨y0, y1, m, _, _, g0, g1⟩ := trod_struct2 Try.underlying93 hx
  match cs, hl with
  | [v0, v1], _ =>
    obtain ⟨s0, e0, _, z0⟩ := DataW.trod_int (t := 2) Try.underlying2 g0
    obtain ⟨s1, e1, _, z1⟩ := DataW.trod_int (t := 2) Try.underlying2 g1
    have e0 : v0 = .int .i64 s0 := by simpa [cellsI64] using e0
    have e1 : v1 = .int .i64 s1 := by simpa [cellsI64] using e1
    rw [e0, e1] at hc
    exact ⟨⟨s0, s1⟩, [], rfl, in64_of_wf z0, in64_of_wf z1, hc 0 (by simp), hc 1 (by simp)⟩
end
set_option maxRecDepth 100000 in
theorem open_graph {H : Type} {enc : TypeId × Value → H} {W : World} {base : Nat} {v : Value} {d : DataW H} {p : List MemPlace}
    (hv : Value.okWide Try.prog W .any base 26 v) (h : DataW.Trod enc Try.prog W 0 (fun _ => true) true 26 v d p) :
    ∃ g bs, GphV W v g bs ∧ GphN g := by
  obtain ⟨cs, rfl, hcs⟩ := okWide_struct Try.underlying26 hv
  obtain ⟨fuel, hf⟩ := h
  rw [cellsGraph] at hcs
  obtain ⟨y0, y1, y2, m, _, _, g0, g1, g2⟩ := trod_struct3 Try.underlying26 hf
  obtain ⟨l⟩ := cs
  match l, hcs with
  | [v0, v1, v2], _ =>
    obtain ⟨na, nc, nl, nb, e0, t0, l0⟩ := openSpots g0
    have q0 : v0 = .slice na nl.length nc := by simpa [cellsSlS, Value.cells] using e0
    obtain ⟨wa, wc, wl, wb, e1, t1, l1⟩ := openRoads g1
    have q1 : v1 = .slice wa wl.length wc := by simpa [cellsSlR, Value.cells] using e1
    obtain ⟨aa, ac, al, ab, e2, t2, l2⟩ := openBans g2
    have q2 : v2 = .slice aa al.length ac := by simpa [cellsSlB, Value.cells] using e2
    subst q0
    subst q1
    subst q2
    exact ⟨⟨nl, wl, al⟩, _, ⟨na, nc, wa, wc, aa, ac, nb, wb, ab, rfl, rfl, t0, t1, t2⟩, l0, l1, l2⟩
end Go.Proofs.Ytiagdabikbjbiaa
