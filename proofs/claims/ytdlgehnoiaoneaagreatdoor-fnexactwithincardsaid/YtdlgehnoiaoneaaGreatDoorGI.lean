/-
  cmp.Compare at numbers, cmp.Or of two; worlds that have grown: contracts.
  The small questions about a graph: an Id, a number of a list, two bans: contracts in the program.
  How data with depth that is handed in is read: a slice's value, and what its cells hold, down to the last text.
  How a graph that is handed in is read: its value, and what its lists hold.
  Whether a graph can be, in the program: its places, its roads, its bans: contracts.
-/
import Derived.Test.YtdlgehnoiaoneaaGreatDoorGB
import Derived.Sort.Grow
import Derived.Deep.RegionHeld3
import Derived.Deep.LoopGhost
import Derived.Test.YtdlgehnoiaoneaaGreatDoorGF
import Derived.ProofKit
import Derived.Carry
import Derived.Lib.SmallJoins
import Derived.Deep.Slices
import Derived.Deep.SlicePairs
import Derived.Deep.Strs
import Derived.Deep.DeepCutAuto
namespace Go.Proofs.YtdlgehnoiaoneaaGreatDoor
open Go.RowKit Go.Sort

/-- -1, 0, 1: below, the same, above. -/
def cpz (x y : Int) : Int := if x < y then -1 else if y < x then 1 else 0
def orz (a b : Int) : Int := if a = 0 then b else a

/-- Some draws, some blocks more. -/
def Gw (w w' : World) : Prop := ∃ (q : Nat) (os : Array Obj), w' = grow (w.drewN q) os
theorem Gw.refl (w : World) : Gw w w := ⟨0, #[], by rw [grow_empty]; rfl⟩
theorem Gw.drew {w a : World} (h : Gw w a) : Gw w a.drew := by
  obtain ⟨q, os, rfl⟩ := h
  exact ⟨q + 1, os, rfl⟩
theorem Gw.alloc {w a : World} (h : Gw w a) (o : Obj) : Gw w (a.alloc o) := by
  obtain ⟨q, os, rfl⟩ := h
  exact ⟨q, os ++ #[o], by rw [alloc_eq_grow, grow_grow]⟩
theorem drewN_grow (w : World) (os : Array Obj) (n : Nat) : (grow w os).drewN n = grow (w.drewN n) os := rfl
theorem Gw.step {w a b : World} (h : Gw w a) (k : Gw a b) : Gw w b := by
  obtain ⟨q, os, rfl⟩ := h
  obtain ⟨q', os', rfl⟩ := k
  exact ⟨q + q', os ++ os', by rw [drewN_grow, grow_grow, World.drewN_drewN]⟩
theorem gw_then {w a b : World} (k : Gw a b) (h : Gw w a) : Gw w b := h.step k
theorem bel_grows (w : World) (os : Array Obj) : Bel w (grow w os) :=
  ⟨rfl, rfl, rfl, by simp [grow], fun k hk => by simp [grow, Array.getElem?_append_left hk]⟩
theorem Gw.bel {w a : World} (h : Gw w a) : Bel w a := by
  obtain ⟨q, os, rfl⟩ := h
  exact bel_step (bel_drewN (Bel.refl w) q) (bel_grows _ os)

theorem isNaN64_any (x : Int) (w : World) : Calls Tryz.prog 61 #[.int .i64 x] w fun e w' => e = .returned (.bool false) ∧ w' = w := by
  go_enter Tryz.func61, Tryz.ntmps61
  go_wp2
  go_ret
  exact ⟨by simp, rfl⟩
set_option maxHeartbeats 1000000 in
theorem compare64_any (x y : Int) (w : World) : Calls Tryz.prog 46 #[.int .i64 x, .int .i64 y] w fun e w' => e = .returned (.int .i64 (cpz x y)) ∧ w' = w := by
  by_cases h1 : x < y
  · have HZ : Hid (cpz x y = -1) := if_pos h1
    go_enter Tryz.func46, Tryz.ntmps46
    go_wp2_with (first | (go_at_call 61; refine (isNaN64_any _ _).mono ?_; rintro e w' ⟨rfl, rfl⟩))
    go_ret
    exact ⟨by rw [HZ.out]; rfl, rfl⟩
  · by_cases h2 : y < x
    · have HZ : Hid (cpz x y = 1) := (by unfold cpz; rw [if_neg h1, if_pos h2] : cpz x y = 1)
      go_enter Tryz.func46, Tryz.ntmps46
      go_wp2_with (first | (go_at_call 61; refine (isNaN64_any _ _).mono ?_; rintro e w' ⟨rfl, rfl⟩))
      go_ret
      exact ⟨by rw [HZ.out]; rfl, rfl⟩
    · have HZ : Hid (cpz x y = 0) := (by unfold cpz; rw [if_neg h1, if_neg h2] : cpz x y = 0)
      go_enter Tryz.func46, Tryz.ntmps46
      go_wp2_with (first | (go_at_call 61; refine (isNaN64_any _ _).mono ?_; rintro e w' ⟨rfl, rfl⟩))
      go_ret
      exact ⟨by rw [HZ.out]; rfl, rfl⟩
/-- How far cmp.Or has come. -/
def OrP (k : Nat) (a b : Int) : Prop := (1 ≤ k → a = 0) ∧ (2 ≤ k → b = 0)
set_option maxHeartbeats 1000000 in
theorem or2_any (B : Nat) (a b : Int) (w : World) (h0 : w.cell? ⟨B, 0, none⟩ = some (.int .i64 a)) (h1 : w.cell? ⟨B, 1, none⟩ = some (.int .i64 b)) :
    Calls Tryz.prog 98 #[.slice (some ⟨B, 0, none⟩) 2 2] w fun e w' => e = .returned (.int .i64 (orz a b)) ∧ w' = w := by
  go_enter Tryz.func98, Tryz.ntmps98
  go_wp2
  go_loopw [5, 8] (fun _ i wr => ∃ k : Nat, k ≤ 2 ∧ i = .int .i64 k ∧ Hid (OrP k a b) ∧ wr = w) (fun _ i _ => 2 - (intOf i).toNat)
  case atStart => exact ⟨0, by omega, rfl, (⟨fun h => by omega, fun h => by omega⟩ : OrP 0 a b), rfl⟩
  case round =>
    obtain ⟨k, hk, rfl, HK, rfl⟩ := hrel
    match k, hk, HK with
    | 0, _, HK =>
      by_cases ha : a = 0
      · subst ha
        have HK1 : Hid (OrP 1 0 b) := ⟨fun _ => rfl, fun h => by omega⟩
        go_wp2
        go_roundw
        case rel => exact ⟨1, by omega, by go_num, HK1, trivial⟩
        case measure => simp [intOf]
      · have HR : Hid (orz a b = a) := if_neg ha
        have hne : (a != 0) = true := by simp [ha]
        have hne' : (a == 0) = false := by simp [ha]
        go_wp2
        go_ret
        exact ⟨ret_num HR.out.symm, rfl⟩
    | 1, _, HK =>
      have ha : a = 0 := HK.out.1 (by omega)
      by_cases hb : b = 0
      · subst hb
        have HK1 : Hid (OrP 2 a 0) := ⟨fun _ => ha, fun _ => rfl⟩
        clear ha
        go_wp2
        go_roundw
        case rel => exact ⟨2, by omega, by go_num, HK1, trivial⟩
        case measure => simp [intOf]
      · have HR : Hid (orz a b = b) := if_pos ha
        have hne : (b != 0) = true := by simp [hb]
        have hne' : (b == 0) = false := by simp [hb]
        clear ha
        go_wp2
        go_ret
        exact ⟨ret_num HR.out.symm, rfl⟩
    | 2, _, HK =>
      have HR : Hid (orz a b = 0) := by
        have h1 := HK.out.1 (by omega)
        have h2 := HK.out.2 (by omega)
        unfold orz; rw [if_pos h1]; exact h2
      go_wp2
      go_ret
      exact ⟨ret_num HR.out.symm, rfl⟩
end Go.Proofs.YtdlgehnoiaoneaaGreatDoor

namespace Go.Proofs.YtdlgehnoiaoneaaGreatDoor
open Go.RowKit Go.Maps

theorem idG_r (x : Int) (r : Bool) (w : World) (h : idk x = r) :
    Calls Tryz.prog 89 #[.int .i64 x] w fun e w' => e = .returned (.bool r) ∧ w' = w := by
  subst h
  by_cases h1 : 0 < x <;> by_cases h2 : x ≤ 1000000000 <;> (
    go_enter Tryz.func89, Tryz.ntmps89
    go_wp2
    go_ret
    exact ⟨ret_bl (by unfold idk; simp <;> omega), rfl⟩)
theorem l2IdG_r (x : Int) (r : Bool) (w : World) (h : idk x = r) :
    Calls Tryz.prog 33 #[.int .i64 x] w fun e w' => e = .returned (.bool r) ∧ w' = w := by
  subst h
  by_cases h1 : 1 ≤ x <;> by_cases h2 : x ≤ 1000000000 <;> (
    go_enter Tryz.func33, Tryz.ntmps33
    go_wp2
    go_ret
    exact ⟨ret_bl (by unfold idk; simp <;> omega), rfl⟩)
theorem pointG_r (x y : Int) (r : Bool) (w : World) (h : pok x y = r) :
    Calls Tryz.prog 66 #[pt x y] w fun e w' => e = .returned (.bool r) ∧ Bel w w' := by
  subst h; exact pointOk_any x y w
theorem specPointG_r (x y : Int) (r : Bool) (w : World) (h : pok x y = r) :
    Calls Tryz.prog 34 #[pt x y] w fun e w' => e = .returned (.bool r) ∧ Bel w w' := by
  subst h; exact specPointOk_any x y w
theorem inSpot_r (i : Int) (a : Option Addr) (n c : Nat) (r : Bool) (w : World) (h : inN n i = r) :
    Calls Tryz.prog 42 #[.int .i64 i, .slice a n c] w fun e w' => e = .returned (.bool r) ∧ w' = w := by
  subst h
  by_cases h1 : 0 ≤ i
  · by_cases h2 : i < n
    · have HR : Hid (true = inN n i) := (inN_iff.2 ⟨h1, h2⟩).symm
      go_enter Tryz.func42, Tryz.ntmps42
      go_wp2
      go_ret
      exact ⟨ret_bl HR.out, rfl⟩
    · have HR : Hid (false = inN n i) := (inN_not.2 fun h => h2 h.2).symm
      go_enter Tryz.func42, Tryz.ntmps42
      go_wp2
      go_ret
      exact ⟨ret_bl HR.out, rfl⟩
  · have HR : Hid (false = inN n i) := (inN_not.2 fun h => h1 h.1).symm
    go_enter Tryz.func42, Tryz.ntmps42
    go_wp2
    go_ret
    exact ⟨ret_bl HR.out, rfl⟩
theorem inRoad_r (i : Int) (a : Option Addr) (n c : Nat) (r : Bool) (w : World) (h : inN n i = r) :
    Calls Tryz.prog 90 #[.int .i64 i, .slice a n c] w fun e w' => e = .returned (.bool r) ∧ w' = w := by
  subst h
  by_cases h1 : 0 ≤ i
  · by_cases h2 : i < n
    · have HR : Hid (true = inN n i) := (inN_iff.2 ⟨h1, h2⟩).symm
      go_enter Tryz.func90, Tryz.ntmps90
      go_wp2
      go_ret
      exact ⟨ret_bl HR.out, rfl⟩
    · have HR : Hid (false = inN n i) := (inN_not.2 fun h => h2 h.2).symm
      go_enter Tryz.func90, Tryz.ntmps90
      go_wp2
      go_ret
      exact ⟨ret_bl HR.out, rfl⟩
  · have HR : Hid (false = inN n i) := (inN_not.2 fun h => h1 h.1).symm
    go_enter Tryz.func90, Tryz.ntmps90
    go_wp2
    go_ret
    exact ⟨ret_bl HR.out, rfl⟩

/-- Two bans, held against each other. -/
def bnz (a b : BanD) : Int := orz (cpz a.fr b.fr) (cpz a.to b.to)
theorem bnz_lt {a b : BanD} : bnz a b < 0 ↔ banLt a b := by
  unfold bnz orz cpz banLt
  by_cases h1 : a.fr < b.fr
  · simp [h1]
  · by_cases h2 : b.fr < a.fr
    · simp [h1, h2]; omega
    · have : a.fr = b.fr := by omega
      by_cases h3 : a.to < b.to
      · simp [h3, this]
      · by_cases h4 : b.to < a.to <;> simp [h3, h4, this]
set_option maxRecDepth 100000 in
set_option maxHeartbeats 1000000 in
theorem banCmp_any (a b : BanD) (w : World) :
    Calls Tryz.prog 91 #[.agg #[.int .i64 a.fr, .int .i64 a.to], .agg #[.int .i64 b.fr, .int .i64 b.to]] w fun e w' => e = .returned (.int .i64 (bnz a b)) ∧ Gw w w' := by
  obtain ⟨W, HW⟩ : ∃ W, Hid (W = (w.alloc (.cells #[.int .i64 a.fr, .int .i64 a.to] 73)).alloc (.cells #[.int .i64 b.fr, .int .i64 b.to] 73)) := ⟨_, (rfl : (w.alloc (.cells #[.int .i64 a.fr, .int .i64 a.to] 73)).alloc (.cells #[.int .i64 b.fr, .int .i64 b.to] 73) = _)⟩
  have hG : Gw w W := by rw [HW.out]; exact ((Gw.refl w).alloc _).alloc _
  have X0 : Blk W w.heap.size [.int .i64 a.fr, .int .i64 a.to] := by rw [HW.out]; exact (Blk.new w [.int .i64 a.fr, .int .i64 a.to] _).bel (bel_alloc (Bel.refl _) _)
  have X1 : Blk W (w.heap.size + 1) [.int .i64 b.fr, .int .i64 b.to] := by rw [HW.out]; exact Blk.new1 w _ [.int .i64 b.fr, .int .i64 b.to] _
  have hR : ∀ w', Gw W w' → w'.cell? ⟨w.heap.size, 0, none⟩ = some (.int .i64 a.fr) ∧ w'.cell? ⟨w.heap.size, 1, none⟩ = some (.int .i64 a.to) ∧ w'.cell? ⟨w.heap.size + 1, 0, none⟩ = some (.int .i64 b.fr) ∧ w'.cell? ⟨w.heap.size + 1, 1, none⟩ = some (.int .i64 b.to) := fun w' h =>
    ⟨(X0.bel h.bel).cell 0 (by simp), (X0.bel h.bel).cell 1 (by simp), (X1.bel h.bel).cell 0 (by simp), (X1.bel h.bel).cell 1 (by simp)⟩
  obtain ⟨p, Hp⟩ : ∃ p, Hid (cpz a.fr b.fr = p) := ⟨_, (rfl : cpz a.fr b.fr = _)⟩
  obtain ⟨q, Hq⟩ : ∃ p, Hid (cpz a.to b.to = p) := ⟨_, (rfl : cpz a.to b.to = _)⟩
  have HO : Hid (orz p q = bnz a b) := (by unfold bnz; rw [Hp.out, Hq.out] : orz p q = bnz a b)
  have c1 : ∀ w, Calls Tryz.prog 46 #[.int .i64 a.fr, .int .i64 b.fr] w fun e w' => e = .returned (.int .i64 p) ∧ w' = w := fun w => by rw [← Hp.out]; exact compare64_any _ _ _
  have c2 : ∀ w, Calls Tryz.prog 46 #[.int .i64 a.to, .int .i64 b.to] w fun e w' => e = .returned (.int .i64 q) ∧ w' = w := fun w => by rw [← Hq.out]; exact compare64_any _ _ _
  have g0 : Gw W W := Gw.refl _
  clear X0 X1
  go_enter Tryz.func91, Tryz.ntmps91
  go_wp2
  rw [← HW.out]
  go_region_held3 (fun w' => Gw W w') (with_reducible (repeat (first | assumption | exact g0 | refine Gw.drew ?_ | refine Gw.alloc ?_ _ | refine gw_then (by assumption) ?_)))
    (first
      | (go_at_call 46; with_reducible refine (c1 _).mono ?_; rintro e w' ⟨rfl, rfl⟩)
      | (go_at_call 46; with_reducible refine (c2 _).mono ?_; rintro e w' ⟨rfl, rfl⟩)
      | (go_at_call 98; refine (or2_any _ p q _ (by simp) (by simp)).mono ?_; rintro e w' ⟨rfl, rfl⟩))
  have hH : Gw W (W.alloc (.cells #[.int .i64 p, .int .i64 q] 3)).drew := by assumption
  go_wp2
  go_ret
  exact ⟨ret_num HO.out, hG.step hH⟩
end Go.Proofs.YtdlgehnoiaoneaaGreatDoor

namespace Go.Proofs.YtdlgehnoiaoneaaGreatDoor
open Go.ChangeShapes Go.WideShapes Go.ChangeAt Go.RowKit Go.Deep Go.Joins

theorem in64_of_wf {x : Int} (h : (Lit.int .i64 x).wf = true) : In64 x := by
  simp [Lit.wf, IntKind.min, IntKind.max, IntKind.signed, IntKind.bits] at h
  exact ⟨by omega, by omega⟩

section
variable {H : Type} {enc : TypeId × Value → H} {P : Program} {W : World} {base : Nat} {spare : Nat → Bool} {held : Bool}

/-- A slice of whatever elements: each as the given reading says. -/
theorem open_sl {α : Type} [Inhabited α] {q : Nat} {E : Elem α} {t e : TypeId} (hq : 0 < q) (ht : P.underlying t = some (.slice e)) (ce : P.cellsOf e = q)
    (hel : ∀ (b o n : Nat) (cs : List Value) (x : DataW H × List MemPlace), cs.length = q → (∀ j (h : j < cs.length), W.cell? ⟨b, o + j, none⟩ = some cs[j]) → DataW.trod enc P W base spare held n e cs = some x → ∃ d bs, E W b o d bs)
    {fuel : Nat} {cs : List Value} {x : DataW H × List MemPlace} (h : DataW.trod enc P W base spare held fuel t cs = some x) :
    ∃ a c l bs, cs = [.slice a l.length c] ∧ Sl q E W a l bs ∧ l.length ≤ maxLen := by
  rcases open_slice ht h with ⟨hcs, _⟩ | ⟨a, len, cap, m, n, D, Pl, hcs, _, hl, hm, hmm, _, hx⟩
  · exact ⟨none, 0, [], [], hcs, .inl ⟨rfl, rfl⟩, by simp⟩
  · have hlm : len ≤ m := by rw [hmm]; split <;> omega
    by_cases h0 : len = 0
    · subst h0
      exact ⟨some a, cap, [], [], hcs, .inl ⟨rfl, rfl⟩, by simp⟩
    · obtain ⟨b, off, spot⟩ := a
      have key : ∀ i, i < len → ∃ cs' : List Value, cs'.length = q ∧ (∀ j (h : j < cs'.length), W.cell? ((Addr.add ⟨b, off, spot⟩ (i * q)).add j) = some cs'[j]) ∧ DataW.trod enc P W base spare held n e cs' = some (D i, Pl i) := fun i hi => by
        obtain ⟨cs', h1, h2⟩ := hx i (by omega)
        rw [ce] at h1
        obtain ⟨_, hlen, hcell⟩ := World.cells?_some h1
        exact ⟨cs', hlen, fun j hj => by rw [hcell j (by omega)]; simp, h2⟩
      have hspot : spot = none := by
        obtain ⟨cs', h1, h2, _⟩ := key 0 (by omega)
        have := h2 0 (by omega)
        simpa [Addr.add] using World.cell?_spot this
      subst hspot
      have key2 : ∀ i, i < len → ∃ p : α × List Nat, E W b (off + i * q) p.1 p.2 := fun i hi => by
        obtain ⟨cs', h1, h2, h3⟩ := key i hi
        obtain ⟨d, bs, hd⟩ := hel b (off + i * q) n cs' _ h1 (fun j hj => by have := h2 j hj; rw [add_add, add_plain] at this; rw [Nat.add_assoc]; exact this) h3
        exact ⟨(d, bs), hd⟩
      obtain ⟨f, hf⟩ := choose_lt key2
      have hlen : ((List.range len).map fun i => (f i).1).length = len := by simp
      refine ⟨_, cap, (List.range len).map fun i => (f i).1, _, by rw [hlen]; exact hcs, .inr ⟨b, off, fun i => (f i).2, rfl, ?_, rfl, fun i hi => ?_⟩, by rw [hlen]; omega⟩
      · obtain ⟨cs', h1, h2, _⟩ := key 0 (by omega)
        have := World.block_lt_of_cell? W _ (h2 0 (by omega))
        simpa [Addr.add] using this
      · rw [hlen] at hi
        simpa using hf i hi
end

instance : Inhabited TagD := ⟨⟨⟨#[]⟩, ⟨#[]⟩⟩⟩
instance : Inhabited PartD := ⟨⟨0, false⟩⟩
instance : Inhabited NodeD := ⟨⟨0, 0, 0, []⟩⟩
instance : Inhabited WayD := ⟨⟨0, [], []⟩⟩
instance : Inhabited AreaD := ⟨⟨0, [], []⟩⟩

section
variable {H : Type} {enc : TypeId × Value → H} {W : World} {base : Nat} {spare : Nat → Bool} {held : Bool}
theorem cellsStr : Tryz.prog.cellsOf 9 = 1 := by kernel_rfl
theorem cellsI64 : Tryz.prog.cellsOf 2 = 1 := by kernel_rfl
end

end Go.Proofs.YtdlgehnoiaoneaaGreatDoor

namespace Go.Proofs.YtdlgehnoiaoneaaGreatDoor
open Go.ChangeShapes Go.WideShapes Go.ChangeAt Go.RowKit Go.Deep Go.Joins

/-- The value reads as this graph and lies in these blocks. -/
def GphV (w : World) (v : Value) (g : GraphD) (bs : List Nat) : Prop :=
  ∃ a0 c0 a1 c1 a2 c2 b0 b1 b2, bs = b0 ++ (b1 ++ b2) ∧ v = .agg #[.slice a0 g.places.length c0, .slice a1 g.roads.length c1, .slice a2 g.bans.length c2] ∧ SpotL w a0 g.places b0 ∧ RoadL w a1 g.roads b1 ∧ BanL w a2 g.bans b2
theorem GphV.bel {w w' : World} {v : Value} {g : GraphD} {bs : List Nat} (h : GphV w v g bs) (hb : Bel w w') : GphV w' v g bs := by
  obtain ⟨a0, c0, a1, c1, a2, c2, b0, b1, b2, e1, e2, h0, h1, h2⟩ := h
  exact ⟨a0, c0, a1, c1, a2, c2, b0, b1, b2, e1, e2, h0.bel spotE hb, h1.bel roadE hb, h2.bel banE hb⟩
theorem GphV.lt {w : World} {v : Value} {g : GraphD} {bs : List Nat} (h : GphV w v g bs) : ∀ x ∈ bs, x < w.heap.size := by
  obtain ⟨a0, c0, a1, c1, a2, c2, b0, b1, b2, e1, _, h0, h1, h2⟩ := h
  subst e1
  intro x hx
  rcases List.mem_append.1 hx with hx | hx
  · exact h0.lt spotE x hx
  · rcases List.mem_append.1 hx with hx | hx
    · exact h1.lt roadE x hx
    · exact h2.lt banE x hx
theorem GphV.alike {w w' : World} {v : Value} {g : GraphD} {bs : List Nat} (h : GphV w v g bs) (hA : Alike w w' bs) : GphV w' v g bs := by
  obtain ⟨a0, c0, a1, c1, a2, c2, b0, b1, b2, e1, e2, h0, h1, h2⟩ := h
  subst e1
  exact ⟨a0, c0, a1, c1, a2, c2, b0, b1, b2, rfl, e2, h0.alike spotE (hA.sub fun _ hx => by simp [hx]), h1.alike roadE (hA.sub fun _ hx => by simp [hx]), h2.alike banE (hA.sub fun _ hx => by simp [hx])⟩
/-- The lists of a graph have lengths within int. -/
def GphN (g : GraphD) : Prop := g.places.length ≤ maxLen ∧ g.roads.length ≤ maxLen ∧ g.bans.length ≤ maxLen
/-- .. and within what the laws let by. -/
def GphQ (g : GraphD) : Prop := g.places.length ≤ 1048576 ∧ g.roads.length ≤ 1048576 ∧ g.bans.length ≤ 1048576

section
variable {H : Type} {enc : TypeId × Value → H} {P : Program} {W : World} {base : Nat} {spare : Nat → Bool} {held : Bool}
theorem trod_struct6 {t : TypeId} {f0 f1 f2 f3 f4 f5 : Field} {fuel : Nat} {cs : List Value} {x : DataW H × List MemPlace} (ht : P.underlying t = some (.struct #[f0, f1, f2, f3, f4, f5])) (h : DataW.trod enc P W base spare held fuel t cs = some x) :
    ∃ y0 y1 y2 y3 y4 y5 n, DataW.trod enc P W base spare held n f0.type ((cs.drop f0.offset).take (P.cellsOf f0.type)) = some y0 ∧
      DataW.trod enc P W base spare held n f1.type ((cs.drop f1.offset).take (P.cellsOf f1.type)) = some y1 ∧ DataW.trod enc P W base spare held n f2.type ((cs.drop f2.offset).take (P.cellsOf f2.type)) = some y2 ∧
      DataW.trod enc P W base spare held n f3.type ((cs.drop f3.offset).take (P.cellsOf f3.type)) = some y3 ∧ DataW.trod enc P W base spare held n f4.type ((cs.drop f4.offset).take (P.cellsOf f4.type)) = some y4 ∧
      DataW.trod enc P W base spare held n f5.type ((cs.drop f5.offset).take (P.cellsOf f5.type)) = some y5 := by
  obtain ⟨xs, n, _, _, _, hlen, hf⟩ := DataW.trod_struct ht h
  match xs, hlen with
  | [y0, y1, y2, y3, y4, y5], _ => exact ⟨y0, y1, y2, y3, y4, y5, n, by simpa using hf 0 f0 rfl, by simpa using hf 1 f1 rfl, by simpa using hf 2 f2 rfl, by simpa using hf 3 f3 rfl, by simpa using hf 4 f4 rfl, by simpa using hf 5 f5 rfl⟩
end
section
variable {H : Type} {enc : TypeId × Value → H} {W : World} {base : Nat} {spare : Nat → Bool} {held : Bool}
theorem cellsLPg : Tryz.prog.cellsOf 80 = 2 := by kernel_rfl

theorem cellsSpot : Tryz.prog.cellsOf 82 = 3 := by kernel_rfl
theorem cellsRoad : Tryz.prog.cellsOf 64 = 6 := by kernel_rfl
theorem cellsBan : Tryz.prog.cellsOf 85 = 2 := by kernel_rfl
theorem cellsGraph : Tryz.prog.cellsOf 26 = 3 := by kernel_rfl
theorem cellsSlS : Tryz.prog.cellsOf 22 = 1 := by kernel_rfl
theorem cellsSlR : Tryz.prog.cellsOf 23 = 1 := by kernel_rfl
theorem cellsSlB : Tryz.prog.cellsOf 24 = 1 := by kernel_rfl
set_option maxRecDepth 100000 in
theorem openSpots {fuel : Nat} {cs : List Value} {x : DataW H × List MemPlace} (h : DataW.trod enc Tryz.prog W base spare held fuel 22 cs = some x) :
    ∃ a c l bs, cs = [.slice a l.length c] ∧ SpotL W a l bs ∧ l.length ≤ maxLen := by
  refine open_sl (by decide) Tryz.underlying22 cellsSpot ?_ h
  intro b o n cs x hl hc hx
  obtain ⟨y0, y1, m, _, _, g0, g1⟩ := trod_struct2 Tryz.underlying82 hx
  match cs, hl with
  | [v0, v1, v2], _ =>
    obtain ⟨p0, p1, m', _, _, k0, k1⟩ := trod_struct2 (t := 80) Tryz.underlying80 g1
    obtain ⟨s0, e0, _, z0⟩ := DataW.trod_int (t := 2) Tryz.underlying2 g0
    obtain ⟨s1, e1, _, z1⟩ := DataW.trod_int (t := 2) Tryz.underlying2 k0
    obtain ⟨s2, e2, _, z2⟩ := DataW.trod_int (t := 2) Tryz.underlying2 k1
    have e0 : v0 = .int .i64 s0 := by simpa [cellsI64, cellsLPg] using e0
    have e1 : v1 = .int .i64 s1 := by simpa [cellsI64, cellsLPg] using e1
    have e2 : v2 = .int .i64 s2 := by simpa [cellsI64, cellsLPg] using e2
    rw [e0, e1, e2] at hc
    exact ⟨⟨s0, s1, s2⟩, [], rfl, in64_of_wf z0, in64_of_wf z1, in64_of_wf z2, hc 0 (by simp), hc 1 (by simp), hc 2 (by simp)⟩
set_option maxRecDepth 100000 in
theorem openRoads {fuel : Nat} {cs : List Value} {x : DataW H × List MemPlace} (h : DataW.trod enc Tryz.prog W base spare held fuel 23 cs = some x) :
    ∃ a c l bs, cs = [.slice a l.length c] ∧ RoadL W a l bs ∧ l.length ≤ maxLen := by
  refine open_sl (by decide) Tryz.underlying23 cellsRoad ?_ h
  intro b o n cs x hl hc hx
  obtain ⟨y0, y1, y2, y3, y4, y5, m, g0, g1, g2, g3, g4, g5⟩ := trod_struct6 Tryz.underlying64 hx
  match cs, hl with
  | [v0, v1, v2, v3, v4, v5], _ =>
    obtain ⟨s0, e0, _, z0⟩ := DataW.trod_int (t := 2) Tryz.underlying2 g0
    obtain ⟨s1, e1, _, z1⟩ := DataW.trod_int (t := 2) Tryz.underlying2 g1
    obtain ⟨s2, e2, _, z2⟩ := DataW.trod_int (t := 2) Tryz.underlying2 g2
    obtain ⟨s3, e3, _, z3⟩ := DataW.trod_int (t := 2) Tryz.underlying2 g3
    obtain ⟨s4, e4, _, z4⟩ := DataW.trod_int (t := 2) Tryz.underlying2 g4
    obtain ⟨s5, e5, _, z5⟩ := DataW.trod_string (t := 9) Tryz.underlying9 g5
    have e0 : v0 = .int .i64 s0 := by simpa [cellsI64] using e0
    have e1 : v1 = .int .i64 s1 := by simpa [cellsI64] using e1
    have e2 : v2 = .int .i64 s2 := by simpa [cellsI64] using e2
    have e3 : v3 = .int .i64 s3 := by simpa [cellsI64] using e3
    have e4 : v4 = .int .i64 s4 := by simpa [cellsI64] using e4
    have e5 : v5 = .string s5 := by simpa [cellsStr] using e5
    rw [e0, e1, e2, e3, e4, e5] at hc
    exact ⟨⟨s0, s1, s2, s3, s4, s5⟩, [], rfl, in64_of_wf z0, in64_of_wf z1, in64_of_wf z2, in64_of_wf z3, in64_of_wf z4, z5, hc 0 (by simp), hc 1 (by simp), hc 2 (by simp), hc 3 (by simp), hc 4 (by simp), hc 5 (by simp)⟩
set_option maxRecDepth 100000 in
theorem openBans {fuel : Nat} {cs : List Value} {x : DataW H × List MemPlace} (h : DataW.trod enc Tryz.prog W base spare held fuel 24 cs = some x) :
    ∃ a c l bs, cs = [.slice a l.length c] ∧ BanL W a l bs ∧ l.length ≤ maxLen := by
  refine open_sl (by decide) Tryz.underlying24 cellsBan ?_ h
  intro b o n cs x hl hc hx
  obtain ⟨y0, y1, m, _, _, g0, g1⟩ := trod_struct2 Tryz.underlying85 hx
  match cs, hl with
  | [v0, v1], _ =>
    obtain ⟨s0, e0, _, z0⟩ := DataW.trod_int (t := 2) Tryz.underlying2 g0
    obtain ⟨s1, e1, _, z1⟩ := DataW.trod_int (t := 2) Tryz.underlying2 g1
    have e0 : v0 = .int .i64 s0 := by simpa [cellsI64] using e0
    have e1 : v1 = .int .i64 s1 := by simpa [cellsI64] using e1
    rw [e0, e1] at hc
    exact ⟨⟨s0, s1⟩, [], rfl, in64_of_wf z0, in64_of_wf z1, hc 0 (by simp), hc 1 (by simp)⟩
end
set_option maxRecDepth 100000 in
theorem open_graph {H : Type} {enc : TypeId × Value → H} {W : World} {base : Nat} {v : Value} {d : DataW H} {p : List MemPlace}
    (hv : Value.okWide Tryz.prog W .any base 26 v) (h : DataW.Trod enc Tryz.prog W 0 (fun _ => true) true 26 v d p) :
    ∃ g bs, GphV W v g bs ∧ GphN g := by
  obtain ⟨cs, rfl, hcs⟩ := okWide_struct Tryz.underlying26 hv
  obtain ⟨fuel, hf⟩ := h
  rw [cellsGraph] at hcs
  obtain ⟨y0, y1, y2, m, _, _, g0, g1, g2⟩ := trod_struct3 Tryz.underlying26 hf
  obtain ⟨l⟩ := cs
  match l, hcs with
  | [v0, v1, v2], _ =>
    obtain ⟨na, nc, nl, nb, e0, t0, l0⟩ := openSpots g0
    have q0 : v0 = .slice na nl.length nc := by simpa [cellsSlS, Value.cells] using e0
    obtain ⟨wa, wc, wl, wb, e1, t1, l1⟩ := openRoads g1
    have q1 : v1 = .slice wa wl.length wc := by simpa [cellsSlR, Value.cells] using e1
    obtain ⟨aa, ac, al, ab, e2, t2, l2⟩ := openBans g2
    have q2 : v2 = .slice aa al.length ac := by simpa [cellsSlB, Value.cells] using e2
    subst q0
    subst q1
    subst q2
    exact ⟨⟨nl, wl, al⟩, _, ⟨na, nc, wa, wc, aa, ac, nb, wb, ab, rfl, rfl, t0, t1, t2⟩, l0, l1, l2⟩
end Go.Proofs.YtdlgehnoiaoneaaGreatDoor

namespace Go.Proofs.YtdlgehnoiaoneaaGreatDoor
open Go.RowKit Go.Maps

/-- A graph as a value. -/
abbrev gphV (a0 : Option Addr) (n0 c0 : Nat) (a1 : Option Addr) (n1 c1 : Nat) (a2 : Option Addr) (n2 c2 : Nat) : Value := .agg #[.slice a0 n0 c0, .slice a1 n1 c1, .slice a2 n2 c2]
/-- The Id ahead of the k-th place. -/
def aheadI (l : List SpotD) (k : Nat) : Int := if h : 0 < k ∧ k ≤ l.length then (l[k - 1]'(by omega)).id else 0
theorem aheadI_succ {l : List SpotD} {m : Nat} (h : m < l.length) : aheadI l (m + 1) = l[m].id := by
  unfold aheadI; rw [dif_pos ⟨by omega, by omega⟩]; simp
def SpotAt (l : List SpotD) (i : Nat) (h : i < l.length) : Prop := idk l[i].id = true ∧ pok l[i].x l[i].y = true ∧ (0 < i → (l[i - 1]'(by omega)).id < l[i].id)

set_option maxRecDepth 100000 in
set_option maxHeartbeats 2000000 in
theorem placesOk_any (a0 : Option Addr) (n c0 : Nat) (a1 : Option Addr) (n1 c1 : Nat) (a2 : Option Addr) (n2 c2 : Nat) (l : List SpotD) (bs : List Nat) (w : World) (hT : SpotL w a0 l bs) (hn : l.length = n) (hm : n ≤ 1048576) :
    Calls Tryz.prog 77 #[gphV a0 n c0 a1 n1 c1 a2 n2 c2] w fun e w' => e = .returned (.bool (bP (spotsP l))) ∧ Bel w w' := by
  have Hn : Hid (l.length = n) := hn
  clear hn
  obtain ⟨W, HW⟩ : ∃ W, Hid (W = w.alloc (.cells #[.slice a0 n c0, .slice a1 n1 c1, .slice a2 n2 c2] 34)) := ⟨_, (rfl : w.alloc (.cells #[.slice a0 n c0, .slice a1 n1 c1, .slice a2 n2 c2] 34) = _)⟩
  have hBW : Bel w W := by rw [HW.out]; exact bel_alloc (Bel.refl _) _
  have hTW := hT.bel spotE hBW
  have X0 : Blk W w.heap.size [.slice a0 n c0, .slice a1 n1 c1, .slice a2 n2 c2] := by rw [HW.out]; exact Blk.new w [.slice a0 n c0, .slice a1 n1 c1, .slice a2 n2 c2] _
  have x0 : W.cell? ⟨w.heap.size, 0, none⟩ = some (.slice a0 n c0) := X0.cell 0 (by simp)
  have xl := X0.lt
  clear hT
  go_enter Tryz.func77, Tryz.ntmps77
  go_wp2
  rw [← HW.out]
  go_wp2
  go_loopw [3, 5, 9] (fun p _ i wr => ∃ (k : Nat) (y : Int), k ≤ n ∧ i = .int .i64 k ∧ p = .int .i64 y ∧ Hid (y = aheadI l k) ∧ (∀ j (h : j < l.length), j < k → SpotAt l j h) ∧ Bel W wr) (fun _ _ i _ => n - (intOf i).toNat)
  case atStart => exact ⟨0, 0, Nat.zero_le _, rfl, rfl, (by unfold aheadI; simp : (0 : Int) = aheadI l 0), fun j _ hj => absurd hj (Nat.not_lt_zero _), Bel.refl _⟩
  case round =>
    obtain ⟨k, y, hk, rfl, rfl, HY, hall, hbel⟩ := hrel
    have H : Hid (∀ j (h : j < l.length), j < k → SpotAt l j h) := hall
    clear hall x0 xl X0
    by_cases hlt : k < n
    · have hkl : k < l.length := by rw [Hn.out]; exact hlt
      obtain ⟨b, off, f, rfl, hb, hx⟩ := (hTW.bel spotE hbel).out hkl
      obtain ⟨_, i0, i1, i2, c0, c1, c2⟩ := hx k hkl
      obtain ⟨d, Hd⟩ : ∃ d, Hid (d = l[k]) := ⟨_, (rfl : l[k] = _)⟩
      rw [← Hd.out] at c0 c1 c2
      obtain ⟨V, HV⟩ : ∃ V, Hid (V = wr.alloc (.cells #[.int .i64 d.id, .int .i64 d.x, .int .i64 d.y] 68)) := ⟨_, (rfl : wr.alloc (.cells #[.int .i64 d.id, .int .i64 d.x, .int .i64 d.y] 68) = _)⟩
      have hbV : Bel wr V := by rw [HV.out]; exact bel_alloc (Bel.refl _) _
      have XV : Blk V wr.heap.size [.int .i64 d.id, .int .i64 d.x, .int .i64 d.y] := by rw [HV.out]; exact Blk.new wr [.int .i64 d.id, .int .i64 d.x, .int .i64 d.y] _
      have v0 : V.cell? ⟨wr.heap.size, 0, none⟩ = some (.int .i64 d.id) := XV.cell 0 (by simp)
      have v1 : V.cell? ⟨wr.heap.size, 1, none⟩ = some (.int .i64 d.x) := XV.cell 1 (by simp)
      have v2 : V.cell? ⟨wr.heap.size, 2, none⟩ = some (.int .i64 d.y) := XV.cell 2 (by simp)
      have vl := XV.lt
      have hBV := bel_step hBW (bel_step hbel hbV)
      have HN : Hid (d.id ≤ y → spotsP l → False) := fun h hs => by
        have h1 := hs k hkl
        rw [HY.out] at h
        rcases k with _ | m
        · have h2 := idk_iff.1 h1.1
          rw [← Hd.out] at h2
          unfold aheadI at h
          simp at h
          omega
        · rw [aheadI_succ (by omega), Hd.out] at h
          have h3 := h1.2.2 (Nat.succ_pos _)
          simp only [Nat.add_sub_cancel] at h3
          omega
      clear hx hTW i0 i1 i2
      by_cases hy : d.id ≤ y
      · have HF : Hid (false = bP (spotsP l)) := (bP_false (HN.out hy)).symm
        go_wp2
        go_ret
        exact ⟨ret_bl HF.out, bel_step hBW (bel_alloc hbel _)⟩
      · rcases Bool.eq_false_or_eq_true (idk d.id) with hi | hi
        · rcases Bool.eq_false_or_eq_true (pok d.x d.y) with hp | hp
          · have HA : Hid (SpotAt l k hkl) := ⟨by rw [← Hd.out]; exact hi, by rw [← Hd.out]; exact hp, fun h0 => by
              have h1 := HY.out
              have h2 : aheadI l k = (l[k - 1]'(by omega)).id := by unfold aheadI; rw [dif_pos ⟨h0, by omega⟩]
              rw [← h2, ← h1, ← Hd.out]; omega⟩
            have HY2 : Hid (d.id = aheadI l (k + 1)) := by rw [aheadI_succ hkl, ← Hd.out]; exact rfl
            go_wp2_with fail
            rw [← HV.out]
            refine (idG_r _ _ _ hi).mono ?_
            rintro e w' ⟨rfl, rfl⟩
            go_wp2_with fail
            refine (pointG_r _ _ _ _ hp).mono ?_
            rintro e w1 ⟨rfl, hb1⟩
            have u0 : w1.cell? ⟨wr.heap.size, 0, none⟩ = some (.int .i64 d.id) := (XV.bel hb1).cell 0 (by simp)
            have ul := (XV.bel hb1).lt
            have hB1 := bel_step hbel (bel_step hbV hb1)
            clear c0 c1 c2 hb v0 v1 v2 vl XV hb1 hbV
            go_wp2
            go_roundw
            case rel => exact ⟨k + 1, d.id, by omega, by go_num, rfl, HY2, fun j h hj => by
                            (by_cases e : j = k)
                            · subst e; exact HA.out
                            · exact H.out j h (by omega), hB1⟩
            case measure => simp [intOf]; omega
          · have HF : Hid (false = bP (spotsP l)) := (spotsP_at hkl (.inr (.inl (by rw [← Hd.out]; exact hp)))).symm
            go_wp2_with fail
            rw [← HV.out]
            refine (idG_r _ _ _ hi).mono ?_
            rintro e w' ⟨rfl, rfl⟩
            go_wp2_with fail
            refine (pointG_r _ _ _ _ hp).mono ?_
            rintro e w1 ⟨rfl, hb1⟩
            have hB1 := bel_step hBV hb1
            clear c0 c1 c2 hb v0 v1 v2 vl XV hb1 hbV
            go_wp2
            go_ret
            exact ⟨ret_bl HF.out, hB1⟩
        · have HF : Hid (false = bP (spotsP l)) := (spotsP_at hkl (.inl (by rw [← Hd.out]; exact hi))).symm
          go_wp2_with fail
          rw [← HV.out]
          refine (idG_r _ _ _ hi).mono ?_
          rintro e w' ⟨rfl, rfl⟩
          go_wp2
          go_ret
          exact ⟨ret_bl HF.out, hBV⟩
    · have HT : Hid (true = bP (spotsP l)) := (bP_true fun i h => H.out i h (by rw [Hn.out] at h; omega)).symm
      go_wp2
      go_ret
      exact ⟨ret_bl HT.out, bel_step hBW hbel⟩

set_option maxRecDepth 100000 in
set_option maxHeartbeats 2000000 in
theorem roadOk_any (a0 : Option Addr) (n c0 : Nat) (a1 : Option Addr) (n1 c1 : Nat) (a2 : Option Addr) (n2 c2 : Nat) (d : RoadD) (w : World) :
    Calls Tryz.prog 79 #[gphV a0 n c0 a1 n1 c1 a2 n2 c2, .agg #[.int .i64 d.fr, .int .i64 d.to, .int .i64 d.way, .int .i64 d.time, .int .i64 d.len, .string d.name]] w fun e w' => e = .returned (.bool (roadB n d)) ∧ Bel w w' := by
  have hB : Bel w ((w.alloc (.cells #[.slice a0 n c0, .slice a1 n1 c1, .slice a2 n2 c2] 34)).alloc (.cells #[.int .i64 d.fr, .int .i64 d.to, .int .i64 d.way, .int .i64 d.time, .int .i64 d.len, .string d.name] 71)) := bel_alloc (bel_alloc (Bel.refl _) _) _
  rcases Bool.eq_false_or_eq_true (inN n d.fr) with k0 | k0
  · rcases Bool.eq_false_or_eq_true (inN n d.to) with k1 | k1
    · rcases Bool.eq_false_or_eq_true (idk d.way) with k2 | k2
      · by_cases k3 : 1 ≤ d.time
        · by_cases k4 : d.time ≤ 1000000
          · by_cases k5 : 0 ≤ d.len
            · by_cases k6 : d.len ≤ 1000000000
              · have q0 := fun w => inSpot_r d.fr a0 n c0 _ w k0
                have q1 := fun w => inSpot_r d.to a0 n c0 _ w k1
                have HR : Hid (true = roadB n d) := (by symm; simp only [roadB, Bool.and_eq_true, decide_eq_true_eq]; exact ⟨k0, k1, k2, k3, k4, k5, k6⟩ : true = roadB n d)
                go_enter Tryz.func79, Tryz.ntmps79
                go_wp2_with (first | (go_at_call 42; with_reducible refine (q0 _).mono ?_; rintro e w' ⟨rfl, rfl⟩) | (go_at_call 42; with_reducible refine (q1 _).mono ?_; rintro e w' ⟨rfl, rfl⟩) | (go_at_call 89; refine (idG_r _ _ _ k2).mono ?_; rintro e w' ⟨rfl, rfl⟩))
                go_ret
                first | exact ⟨ret_bl HR.out, hB⟩ | exact ⟨ret_bl (by rw [← HR.out]; simp; omega), hB⟩
              · have q0 := fun w => inSpot_r d.fr a0 n c0 _ w k0
                have q1 := fun w => inSpot_r d.to a0 n c0 _ w k1
                have HR : Hid (false = roadB n d) := (by symm; simp [roadB, k6] : false = roadB n d)
                go_enter Tryz.func79, Tryz.ntmps79
                go_wp2_with (first | (go_at_call 42; with_reducible refine (q0 _).mono ?_; rintro e w' ⟨rfl, rfl⟩) | (go_at_call 42; with_reducible refine (q1 _).mono ?_; rintro e w' ⟨rfl, rfl⟩) | (go_at_call 89; refine (idG_r _ _ _ k2).mono ?_; rintro e w' ⟨rfl, rfl⟩))
                go_ret
                first | exact ⟨ret_bl HR.out, hB⟩ | exact ⟨ret_bl (by rw [← HR.out]; simp; omega), hB⟩
            · have q0 := fun w => inSpot_r d.fr a0 n c0 _ w k0
              have q1 := fun w => inSpot_r d.to a0 n c0 _ w k1
              have HR : Hid (false = roadB n d) := (by symm; simp [roadB, k5] : false = roadB n d)
              go_enter Tryz.func79, Tryz.ntmps79
              go_wp2_with (first | (go_at_call 42; with_reducible refine (q0 _).mono ?_; rintro e w' ⟨rfl, rfl⟩) | (go_at_call 42; with_reducible refine (q1 _).mono ?_; rintro e w' ⟨rfl, rfl⟩) | (go_at_call 89; refine (idG_r _ _ _ k2).mono ?_; rintro e w' ⟨rfl, rfl⟩))
              go_ret
              first | exact ⟨ret_bl HR.out, hB⟩ | exact ⟨ret_bl (by rw [← HR.out]; simp; omega), hB⟩
          · have q0 := fun w => inSpot_r d.fr a0 n c0 _ w k0
            have q1 := fun w => inSpot_r d.to a0 n c0 _ w k1
            have HR : Hid (false = roadB n d) := (by symm; simp [roadB, k4] : false = roadB n d)
            go_enter Tryz.func79, Tryz.ntmps79
            go_wp2_with (first | (go_at_call 42; with_reducible refine (q0 _).mono ?_; rintro e w' ⟨rfl, rfl⟩) | (go_at_call 42; with_reducible refine (q1 _).mono ?_; rintro e w' ⟨rfl, rfl⟩) | (go_at_call 89; refine (idG_r _ _ _ k2).mono ?_; rintro e w' ⟨rfl, rfl⟩))
            go_ret
            first | exact ⟨ret_bl HR.out, hB⟩ | exact ⟨ret_bl (by rw [← HR.out]; simp; omega), hB⟩
        · have q0 := fun w => inSpot_r d.fr a0 n c0 _ w k0
          have q1 := fun w => inSpot_r d.to a0 n c0 _ w k1
          have HR : Hid (false = roadB n d) := (by symm; simp [roadB, k3] : false = roadB n d)
          go_enter Tryz.func79, Tryz.ntmps79
          go_wp2_with (first | (go_at_call 42; with_reducible refine (q0 _).mono ?_; rintro e w' ⟨rfl, rfl⟩) | (go_at_call 42; with_reducible refine (q1 _).mono ?_; rintro e w' ⟨rfl, rfl⟩) | (go_at_call 89; refine (idG_r _ _ _ k2).mono ?_; rintro e w' ⟨rfl, rfl⟩))
          go_ret
          first | exact ⟨ret_bl HR.out, hB⟩ | exact ⟨ret_bl (by rw [← HR.out]; simp; omega), hB⟩
      · have q0 := fun w => inSpot_r d.fr a0 n c0 _ w k0
        have q1 := fun w => inSpot_r d.to a0 n c0 _ w k1
        have HR : Hid (false = roadB n d) := (by symm; simp [roadB, k2] : false = roadB n d)
        go_enter Tryz.func79, Tryz.ntmps79
        go_wp2_with (first | (go_at_call 42; with_reducible refine (q0 _).mono ?_; rintro e w' ⟨rfl, rfl⟩) | (go_at_call 42; with_reducible refine (q1 _).mono ?_; rintro e w' ⟨rfl, rfl⟩) | (go_at_call 89; refine (idG_r _ _ _ k2).mono ?_; rintro e w' ⟨rfl, rfl⟩))
        go_ret
        first | exact ⟨ret_bl HR.out, hB⟩ | exact ⟨ret_bl (by rw [← HR.out]; simp; omega), hB⟩
    · have q0 := fun w => inSpot_r d.fr a0 n c0 _ w k0
      have q1 := fun w => inSpot_r d.to a0 n c0 _ w k1
      have HR : Hid (false = roadB n d) := (by symm; simp [roadB, k1] : false = roadB n d)
      go_enter Tryz.func79, Tryz.ntmps79
      go_wp2_with (first | (go_at_call 42; with_reducible refine (q0 _).mono ?_; rintro e w' ⟨rfl, rfl⟩) | (go_at_call 42; with_reducible refine (q1 _).mono ?_; rintro e w' ⟨rfl, rfl⟩))
      go_ret
      first | exact ⟨ret_bl HR.out, hB⟩ | exact ⟨ret_bl (by rw [← HR.out]; simp; omega), hB⟩
  · have q0 := fun w => inSpot_r d.fr a0 n c0 _ w k0
    have HR : Hid (false = roadB n d) := (by symm; simp [roadB, k0] : false = roadB n d)
    go_enter Tryz.func79, Tryz.ntmps79
    go_wp2_with (first | (go_at_call 42; with_reducible refine (q0 _).mono ?_; rintro e w' ⟨rfl, rfl⟩))
    go_ret
    first | exact ⟨ret_bl HR.out, hB⟩ | exact ⟨ret_bl (by rw [← HR.out]; simp; omega), hB⟩
theorem roadOk_r (a0 : Option Addr) (n c0 : Nat) (a1 : Option Addr) (n1 c1 : Nat) (a2 : Option Addr) (n2 c2 : Nat) (d : RoadD) (r : Bool) (w : World) (h : roadB n d = r) :
    Calls Tryz.prog 79 #[gphV a0 n c0 a1 n1 c1 a2 n2 c2, .agg #[.int .i64 d.fr, .int .i64 d.to, .int .i64 d.way, .int .i64 d.time, .int .i64 d.len, .string d.name]] w fun e w' => e = .returned (.bool r) ∧ Bel w w' := by
  subst h; exact roadOk_any a0 n c0 a1 n1 c1 a2 n2 c2 d w

set_option maxRecDepth 100000 in
set_option maxHeartbeats 2000000 in
theorem allR_any (a0 : Option Addr) (n0 c0 : Nat) (a1 : Option Addr) (n1 c1 : Nat) (a2 : Option Addr) (n2 c2 : Nat) (a : Option Addr) (n c : Nat) (l : List RoadD) (bs : List Nat) (w : World) (hT : RoadL w a l bs) (hn : l.length = n) (hm : n ≤ 1048576) :
    Calls Tryz.prog 78 #[.slice a n c, .func (.func 79) #[gphV a0 n0 c0 a1 n1 c1 a2 n2 c2] #[]] w fun e w' => e = .returned (.bool (bP (roadsP n0 l))) ∧ Bel w w' := by
  have Hn : Hid (l.length = n) := hn
  clear hn
  go_enter Tryz.func78, Tryz.ntmps78
  go_wp2
  go_loopw [6, 9] (fun _ i wr => ∃ k : Nat, k ≤ n ∧ i = .int .i64 k ∧ (∀ j (h : j < l.length), j < k → roadB n0 l[j] = true) ∧ Bel w wr) (fun _ i _ => n - (intOf i).toNat)
  case atStart => exact ⟨0, Nat.zero_le _, rfl, fun j _ hj => absurd hj (Nat.not_lt_zero _), Bel.refl _⟩
  case round =>
    obtain ⟨k, hk, rfl, hall, hbel⟩ := hrel
    have H : Hid (∀ j (h : j < l.length), j < k → roadB n0 l[j] = true) := hall
    clear hall
    by_cases hlt : k < n
    · have hkl : k < l.length := by rw [Hn.out]; exact hlt
      obtain ⟨b, off, f, rfl, hb, hx⟩ := (hT.bel roadE hbel).out hkl
      obtain ⟨_, i0, i1, i2, i3, i4, i5, c0, c1, c2, c3, c4, c5⟩ := hx k hkl
      obtain ⟨d, Hd⟩ : ∃ d, Hid (d = l[k]) := ⟨_, (rfl : l[k] = _)⟩
      rw [← Hd.out] at c0 c1 c2 c3 c4 c5
      clear hx hT i0 i1 i2 i3 i4 i5
      rcases Bool.eq_false_or_eq_true (roadB n0 d) with hf | hf
      · have HA : Hid (roadB n0 l[k] = true) := by rw [← Hd.out]; exact hf
        go_wp2_with fail
        refine (roadOk_r _ _ _ _ _ _ _ _ _ d true _ hf).mono ?_
        rintro e w1 ⟨rfl, hb1⟩
        have hB1 := bel_step (bel_alloc hbel _) hb1
        clear c0 c1 c2 c3 c4 c5 hb
        go_wp2
        go_roundw
        case rel => exact ⟨k + 1, by omega, by go_num, fun j h hj => by
                        (by_cases e : j = k)
                        · subst e; exact HA.out
                        · exact H.out j h (by omega), hB1⟩
        case measure => simp [intOf]; omega
      · have HF : Hid (false = bP (roadsP n0 l)) := (bP_false fun h => by have := h k hkl; rw [← Hd.out, hf] at this; cases this).symm
        go_wp2_with fail
        refine (roadOk_r _ _ _ _ _ _ _ _ _ d false _ hf).mono ?_
        rintro e w1 ⟨rfl, hb1⟩
        have hB1 := bel_step (bel_alloc hbel _) hb1
        clear c0 c1 c2 c3 c4 c5 hb
        go_wp2
        go_ret
        exact ⟨ret_bl HF.out, hB1⟩
    · have HT : Hid (true = bP (roadsP n0 l)) := (bP_true fun i h => H.out i h (by rw [Hn.out] at h; omega)).symm
      go_wp2
      go_ret
      exact ⟨ret_bl HT.out, hbel⟩
end Go.Proofs.YtdlgehnoiaoneaaGreatDoor
