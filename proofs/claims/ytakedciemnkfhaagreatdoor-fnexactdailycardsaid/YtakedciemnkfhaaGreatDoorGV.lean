/-
  Roads that are slower: plain mathematics, and what a store of a Time does to a list of Roads.
  Lists of places, of roads and of bans, copied by append: contracts.
  Graphs that are copied and slowed whole (Daily), in the program: contracts.
-/
import Derived.Test.YtakedciemnkfhaaGreatDoorGF
import Derived.Test.YtakedciemnkfhaaGreatDoorGC
import Derived.Test.YtakedciemnkfhaaGreatDoorGE
import Derived.Test.YtakedciemnkfhaaGreatDoorGphC
import Derived.Deep.RegionHeld3
import Derived.Deep.DeepCutAuto
namespace Go.Proofs.YtakedciemnkfhaaGreatDoor
open Go.RowKit Go.Maps

/-- A Time times percent divided by 100, rounded up, but at most MaxTime. -/
def slwT (t p : Int) : Int := if (t * p + 99) / 100 ≤ 1000000 then (t * p + 99) / 100 else 1000000
theorem mul_bd {t p : Int} (ht : 1 ≤ t ∧ t ≤ 1000000) (hp : 1 ≤ p ∧ p ≤ 10000) : 1 ≤ t * p ∧ t * p ≤ 10000000000 := by
 have h1 : 1 * 1 ≤ t * p := Int.mul_le_mul ht.1 hp.1 (by omega) (by omega)
 have h2 : t * p ≤ 1000000 * 10000 := Int.mul_le_mul ht.2 hp.2 (by omega) (by omega)
 omega
theorem slwT_bd {t p : Int} (ht : 1 ≤ t ∧ t ≤ 1000000) (hp : 1 ≤ p ∧ p ≤ 10000) : 1 ≤ slwT t p ∧ slwT t p ≤ 1000000 := by
 have := mul_bd ht hp
 unfold slwT
 split <;> omega
theorem slwT_lo {t p : Int} (h : (t * p + 99) / 100 ≤ 1000000) : slwT t p = (t * p + 99) / 100 := if_pos h
theorem slwT_hi {t p : Int} (h : ¬ (t * p + 99) / 100 ≤ 1000000) : slwT t p = 1000000 := if_neg h

def slwD (p : Int) (d : RoadD) : RoadD := { d with time := slwT d.time p }
def slw1 (S : Int → Bool) (p : Int) (d : RoadD) : RoadD := if S d.way = true then slwD p d else d
/-- The first k Roads are slowed. -/
def slL (S : Int → Bool) (p : Int) (l : List RoadD) (k : Nat) : List RoadD := (l.take k).map (slw1 S p) ++ l.drop k
theorem slL_len {S : Int → Bool} {p : Int} {l : List RoadD} {k : Nat} : (slL S p l k).length = l.length := by
 unfold slL
 rw [List.length_append, List.length_map, List.length_take, List.length_drop]
 omega
theorem slL_zero (S : Int → Bool) (p : Int) (l : List RoadD) : slL S p l 0 = l := by simp [slL]
theorem slL_all (S : Int → Bool) (p : Int) (l : List RoadD) : slL S p l l.length = l.map (slw1 S p) := by simp [slL]
theorem slL_lt {S : Int → Bool} {p : Int} {l : List RoadD} {k i : Nat} (h : i < l.length) (hi : i < k) : (slL S p l k)[i]'(by rw [slL_len]; exact h) = slw1 S p l[i] := by
 have h1 : i < ((l.take k).map (slw1 S p)).length := by rw [List.length_map, List.length_take]; omega
 show ((l.take k).map (slw1 S p) ++ l.drop k)[i]'(by have := slL_len (S := S) (p := p) (l := l) (k := k); unfold slL at this; omega) = _
 rw [List.getElem_append_left h1, List.getElem_map, List.getElem_take]
theorem slL_ge {S : Int → Bool} {p : Int} {l : List RoadD} {k i : Nat} (h : i < l.length) (hi : k ≤ i) : (slL S p l k)[i]'(by rw [slL_len]; exact h) = l[i] := by
 have h1 : ((l.take k).map (slw1 S p)).length = k := by rw [List.length_map, List.length_take]; omega
 show ((l.take k).map (slw1 S p) ++ l.drop k)[i]'(by have := slL_len (S := S) (p := p) (l := l) (k := k); unfold slL at this; omega) = _
 rw [List.getElem_append_right (by omega), List.getElem_drop]
 congr 1
 omega
theorem slL_yes {S : Int → Bool} {p : Int} {l : List RoadD} {k : Nat} (h : k < l.length) (hs : S l[k].way = true) : (slL S p l k).set k (slwD p l[k]) = slL S p l (k + 1) := by
 refine List.ext_getElem (by rw [List.length_set, slL_len, slL_len]) fun i h1 h2 => ?_
 rw [List.length_set, slL_len] at h1
 rw [List.getElem_set]
 by_cases e : k = i
 ·subst e
  rw [if_pos rfl, slL_lt h (Nat.lt_succ_self _)]
  unfold slw1
  rw [if_pos hs]
 ·rw [if_neg e]
  by_cases e2 : i < k
  ·rw [slL_lt h1 e2, slL_lt h1 (by omega)]
  ·rw [slL_ge h1 (by omega), slL_ge h1 (by omega)]
theorem slL_no {S : Int → Bool} {p : Int} {l : List RoadD} {k : Nat} (h : k < l.length) (hs : S l[k].way = false) : slL S p l k = slL S p l (k + 1) := by
 refine List.ext_getElem (by rw [slL_len, slL_len]) fun i h1 h2 => ?_
 rw [slL_len] at h1
 by_cases e2 : i < k
 ·rw [slL_lt h1 e2, slL_lt h1 (by omega)]
 ·rw [slL_ge h1 (by omega)]
  by_cases e : i = k
  ·subst e
   rw [slL_lt h (Nat.lt_succ_self _)]
   unfold slw1
   rw [hs]
   rfl
  ·rw [slL_ge h1 (by omega)]

/-- A Road's Time is stored. -/
theorem road_set {w : World} {b off : Nat} {l : List RoadD} {bs : List Nat} (h : RoadL w (some ⟨b, off, none⟩) l bs) {i : Nat} (hi : i < l.length) {d : RoadD} (e : l[i] = d) {t : Int} (ht : In64 t) :
  RoadL (w.setCell ⟨b, off + i * 6 + 3, none⟩ (.int .i64 t)) (some ⟨b, off, none⟩) (l.set i { d with time := t }) bs := by
 subst e
 rcases h with ⟨rfl, _⟩ | ⟨b', off', f, e, hb, rfl, hx⟩
 ·simp at hi
 injection e with e
 injection e with e1 e2
 subst e1 e2
 refine .inr ⟨b, off, f, rfl, by simpa [World.setCell] using hb, by rw [List.length_set], fun j hj => ?_⟩
 rw [List.length_set] at hj
 have oth : ∀ o, o ≠ off + i * 6 + 3 → (w.setCell ⟨b, off + i * 6 + 3, none⟩ (.int .i64 t)).cell? ⟨b, o, none⟩ = w.cell? ⟨b, o, none⟩ := fun o ho => World.cell?_setCell_other _ _ _ _ (fun e => ho (by have := congrArg Addr.off e; simpa using this.symm))
 obtain ⟨g0, g1, g2, g3, g4, g5, g6, c0, c1, c2, c3, c4, c5⟩ := hx j hj
 rw [List.getElem_set]
 by_cases e : i = j
 ·subst e
  rw [if_pos rfl]
  exact ⟨g0, g1, g2, g3, ht, g5, g6, by rw [oth _ (by omega)]; exact c0, by rw [oth _ (by omega)]; exact c1, by rw [oth _ (by omega)]; exact c2, World.cell?_setCell_same _ _ _ c3, by rw [oth _ (by omega)]; exact c4, by rw [oth _ (by omega)]; exact c5⟩
 ·rw [if_neg e]
  exact ⟨g0, g1, g2, g3, g4, g5, g6, by rw [oth _ (by omega)]; exact c0, by rw [oth _ (by omega)]; exact c1, by rw [oth _ (by omega)]; exact c2, by rw [oth _ (by omega)]; exact c3, by rw [oth _ (by omega)]; exact c4, by rw [oth _ (by omega)]; exact c5⟩

/-- The slower graph. -/
noncomputable def slQ (g : GraphD) (l : List Int) (p : Int) : GraphD :=
 if bP (graphP g) = true ∧ (1 ≤ p ∧ p ≤ 10000) ∧ l.length ≤ 1000 then ⟨g.places, g.roads.map (slw1 (fun x => decide (x ∈ l)) p), g.bans⟩ else ⟨[], [], []⟩
theorem slQ_no {g : GraphD} {l : List Int} {p : Int} (h : ¬ (graphP g ∧ (1 ≤ p ∧ p ≤ 10000) ∧ l.length ≤ 1000)) : slQ g l p = ⟨[], [], []⟩ := by
 unfold slQ
 rw [if_neg fun hh => h ⟨bP_out hh.1, hh.2⟩]
theorem slQ_at {g : GraphD} {l : List Int} {p : Int} (hP : graphP g) (hp : 1 ≤ p ∧ p ≤ 10000) (hl : l.length ≤ 1000) : slQ g l p = ⟨g.places, g.roads.map (slw1 (fun x => decide (x ∈ l)) p), g.bans⟩ := by
 unfold slQ
 rw [if_pos ⟨bP_true hP, hp, hl⟩]
end Go.Proofs.YtakedciemnkfhaaGreatDoor

namespace Go.Proofs.YtakedciemnkfhaaGreatDoor
open Go.RowKit Go.Maps

def sptP (d : SpotD) : Prop := In64 d.id ∧ In64 d.x ∧ In64 d.y
def sptCs (d : SpotD) : List Value := [.int .i64 d.id, .int .i64 d.x, .int .i64 d.y]
theorem sptF : Flat 3 SpotE sptP sptCs :=
 ⟨fun _ => rfl, fun _ u hu => by simp only [sptCs, List.mem_cons, List.not_mem_nil, or_false] at hu; rcases hu with rfl | rfl | rfl <;> rfl,
  fun ⟨_, h0, h1, h2, c0, c1, c2⟩ => ⟨⟨h0, h1, h2⟩, fun j hj => by match j, hj with | 0, _ => exact c0 | 1, _ => exact c1 | 2, _ => exact c2⟩,
  fun hp hc => ⟨rfl, hp.1, hp.2.1, hp.2.2, hc 0 (by simp [sptCs]), hc 1 (by simp [sptCs]), hc 2 (by simp [sptCs])⟩⟩
def rodP (d : RoadD) : Prop := In64 d.fr ∧ In64 d.to ∧ In64 d.way ∧ In64 d.time ∧ In64 d.len ∧ d.name.size ≤ maxLen
def rodCs (d : RoadD) : List Value := [.int .i64 d.fr, .int .i64 d.to, .int .i64 d.way, .int .i64 d.time, .int .i64 d.len, .string d.name]
theorem rodF : Flat 6 RoadE rodP rodCs :=
 ⟨fun _ => rfl, fun _ u hu => by simp only [rodCs, List.mem_cons, List.not_mem_nil, or_false] at hu; rcases hu with rfl | rfl | rfl | rfl | rfl | rfl <;> rfl,
  fun ⟨_, h0, h1, h2, h3, h4, h5, c0, c1, c2, c3, c4, c5⟩ => ⟨⟨h0, h1, h2, h3, h4, h5⟩, fun j hj => by match j, hj with | 0, _ => exact c0 | 1, _ => exact c1 | 2, _ => exact c2 | 3, _ => exact c3 | 4, _ => exact c4 | 5, _ => exact c5⟩,
  fun hp hc => ⟨rfl, hp.1, hp.2.1, hp.2.2.1, hp.2.2.2.1, hp.2.2.2.2.1, hp.2.2.2.2.2, hc 0 (by simp [rodCs]), hc 1 (by simp [rodCs]), hc 2 (by simp [rodCs]), hc 3 (by simp [rodCs]), hc 4 (by simp [rodCs]), hc 5 (by simp [rodCs])⟩⟩
def banW (d : BanD) : Prop := In64 d.fr ∧ In64 d.to
def banU (d : BanD) : List Value := [.int .i64 d.fr, .int .i64 d.to]
theorem banG : Flat 2 BanE banW banU :=
 ⟨fun _ => rfl, fun _ u hu => by simp only [banU, List.mem_cons, List.not_mem_nil, or_false] at hu; rcases hu with rfl | rfl <;> rfl,
  fun ⟨_, h0, h1, c0, c1⟩ => ⟨⟨h0, h1⟩, fun j hj => by match j, hj with | 0, _ => exact c0 | 1, _ => exact c1⟩,
  fun hp hc => ⟨rfl, hp.1, hp.2, hc 0 (by simp [banU]), hc 1 (by simp [banU])⟩⟩

theorem infospt : (Tryz.prog.info? 84).map (fun i => (i.zero, i.size, i.bytes)) = some (some (.agg #[.int .i64 0, .int .i64 0, .int .i64 0]), 3, 24) := by kernel_rfl
set_option maxHeartbeats 1000000 in
theorem freshSpot_to (a : Option Addr) (n c : Nat) (l : List SpotD) (bs : List Nat) (W0 w : World) (h0W : Bel W0 w) (hT : SpotL w a l bs) (hn : l.length = n) (hm : n ≤ 1048576) :
  Calls Tryz.prog 73 #[.slice a n c] w fun e w' => ∃ a' c' bs', e = .returned (.slice a' n c') ∧ SpotL w' a' l bs' ∧ Fresh w w' bs' ∧ Bel W0 w' ∧ Bel w w' := by
 obtain ⟨i0, hi0, hz0, hz1, hz2⟩ := info_parts infospt
 have hown0 : w.ownsRow w.heap.size 84 3 (.slice none 0 0) 0 [] := World.ownsRow_nil _ _ _ _
 go_enter Tryz.func73, Tryz.ntmps73
 go_wp2_with (first
  | (at_builtin; refine wpList_append_flat sptF (by decide) rfl _ _ 32 rfl w.heap.size 84 i0 (.agg #[.int .i64 0, .int .i64 0, .int .i64 0]) 24 Tryz.underlying32 hi0 hz0 hz1 hz2 rfl _ rfl hown0 a n c l bs rfl hT hn hm (by decide) (Nat.le_refl _) ?_)
  | go_in)
 intro a' c' bs' w3 HS HM hgrow
 have hB : Bel w w3 := bel_grow (Bel.refl _) hgrow (fun j e => by cases e)
 clear hgrow
 go_wp2
 go_ret
 exact ⟨_, _, bs', rfl, HS, HM.fresh (Nat.le_refl _), bel_step h0W hB, hB⟩

theorem inforod : (Tryz.prog.info? 59).map (fun i => (i.zero, i.size, i.bytes)) = some (some (.agg #[.int .i64 0, .int .i64 0, .int .i64 0, .int .i64 0, .int .i64 0, .string ⟨#[]⟩]), 6, 56) := by kernel_rfl
set_option maxHeartbeats 1000000 in
theorem freshRoad_to (a : Option Addr) (n c : Nat) (l : List RoadD) (bs : List Nat) (W0 w : World) (h0W : Bel W0 w) (hT : RoadL w a l bs) (hn : l.length = n) (hm : n ≤ 1048576) :
  Calls Tryz.prog 74 #[.slice a n c] w fun e w' => ∃ a' c' bs', e = .returned (.slice a' n c') ∧ RoadL w' a' l bs' ∧ Fresh w w' bs' ∧ Bel W0 w' ∧ Bel w w' := by
 obtain ⟨i0, hi0, hz0, hz1, hz2⟩ := info_parts inforod
 have hown0 : w.ownsRow w.heap.size 59 6 (.slice none 0 0) 0 [] := World.ownsRow_nil _ _ _ _
 go_enter Tryz.func74, Tryz.ntmps74
 go_wp2_with (first
  | (at_builtin; refine wpList_append_flat rodF (by decide) rfl _ _ 33 rfl w.heap.size 59 i0 (.agg #[.int .i64 0, .int .i64 0, .int .i64 0, .int .i64 0, .int .i64 0, .string ⟨#[]⟩]) 56 Tryz.underlying33 hi0 hz0 hz1 hz2 rfl _ rfl hown0 a n c l bs rfl hT hn hm (by decide) (Nat.le_refl _) ?_)
  | go_in)
 intro a' c' bs' w3 HS HM hgrow
 have hB : Bel w w3 := bel_grow (Bel.refl _) hgrow (fun j e => by cases e)
 clear hgrow
 go_wp2
 go_ret
 exact ⟨_, _, bs', rfl, HS, HM.fresh (Nat.le_refl _), bel_step h0W hB, hB⟩

theorem infoban : (Tryz.prog.info? 88).map (fun i => (i.zero, i.size, i.bytes)) = some (some (.agg #[.int .i64 0, .int .i64 0]), 2, 16) := by kernel_rfl
set_option maxHeartbeats 1000000 in
theorem freshBan_to (a : Option Addr) (n c : Nat) (l : List BanD) (bs : List Nat) (W0 w : World) (h0W : Bel W0 w) (hT : BanL w a l bs) (hn : l.length = n) (hm : n ≤ 1048576) :
  Calls Tryz.prog 75 #[.slice a n c] w fun e w' => ∃ a' c' bs', e = .returned (.slice a' n c') ∧ BanL w' a' l bs' ∧ Fresh w w' bs' ∧ Bel W0 w' ∧ Bel w w' := by
 obtain ⟨i0, hi0, hz0, hz1, hz2⟩ := info_parts infoban
 have hown0 : w.ownsRow w.heap.size 88 2 (.slice none 0 0) 0 [] := World.ownsRow_nil _ _ _ _
 go_enter Tryz.func75, Tryz.ntmps75
 go_wp2_with (first
  | (at_builtin; refine wpList_append_flat banG (by decide) rfl _ _ 34 rfl w.heap.size 88 i0 (.agg #[.int .i64 0, .int .i64 0]) 16 Tryz.underlying34 hi0 hz0 hz1 hz2 rfl _ rfl hown0 a n c l bs rfl hT hn hm (by decide) (Nat.le_refl _) ?_)
  | go_in)
 intro a' c' bs' w3 HS HM hgrow
 have hB : Bel w w3 := bel_grow (Bel.refl _) hgrow (fun j e => by cases e)
 clear hgrow
 go_wp2
 go_ret
 exact ⟨_, _, bs', rfl, HS, HM.fresh (Nat.le_refl _), bel_step h0W hB, hB⟩

end Go.Proofs.YtakedciemnkfhaaGreatDoor

namespace Go.Proofs.YtakedciemnkfhaaGreatDoor
open Go.RowKit Go.Maps

abbrev zer3 : List Value := [.slice none 0 0, .slice none 0 0, .slice none 0 0]
/-- Where the graph that is being made lies, apart from its lists. -/
structure Nt (V w : World) (g : Nat) (ds : List Nat) : Prop where
 x : Blk w g zer3
 lo : V.heap.size ≤ g
 off : g ∉ ds
theorem Nt.new {V C w : World} {ds d : List Nat} {t : TypeId} (F : Fresh (C.alloc (.cells #[.slice none 0 0, .slice none 0 0, .slice none 0 0] t)) w d) (hb : Bel (C.alloc (.cells #[.slice none 0 0, .slice none 0 0, .slice none 0 0] t)) w) (hV : V.heap.size ≤ C.heap.size) (hds : ∀ x ∈ ds, x < C.heap.size) : Nt V w C.heap.size (ds ++ d) :=
 ⟨(Blk.new C zer3 t).bel hb, hV, fun hm => by
  rcases List.mem_append.1 hm with hm | hm
  ·exact absurd (hds _ hm) (Nat.lt_irrefl _)
  ·have := (F.new _ hm).1
   simp at this
   omega⟩
theorem Nt.on {V w w' : World} {g : Nat} {ds d : List Nat} (h : Nt V w g ds) (F : Fresh w w' d) (hb : Bel w w') : Nt V w' g (ds ++ d) :=
 ⟨h.x.bel hb, h.lo, fun hm => by
  rcases List.mem_append.1 hm with hm | hm
  ·exact h.off hm
  ·have := (F.new _ hm).1
   have := h.x.lt
   omega⟩
theorem Nt.cs {V w : World} {g : Nat} {ds : List Nat} (h : Nt V w g ds) : w.cell? ⟨g, 0, none⟩ = some (.slice none 0 0) ∧ w.cell? ⟨g, 1, none⟩ = some (.slice none 0 0) ∧ w.cell? ⟨g, 2, none⟩ = some (.slice none 0 0) ∧ w.frozen? ⟨g, 0, none⟩ = false ∧ w.frozen? ⟨g, 1, none⟩ = false ∧ w.frozen? ⟨g, 2, none⟩ = false :=
 ⟨h.x.cell 0 (by simp), h.x.cell 1 (by simp), h.x.cell 2 (by simp), h.x.free 0, h.x.free 1, h.x.free 2⟩
/-- A graph that was copied: its struct in a block of its own, its lists in others. -/
structure CutG (V : World) (g : GraphD) (n0 n1 n2 : Nat) (t : Value) (w : World) : Prop where
 out : ∃ (B : Nat) (p0 : Option Addr) (q0 : Nat) (p1 : Option Addr) (q1 : Nat) (p2 : Option Addr) (q2 : Nat) (d0 d1 d2 : List Nat), t = .pointer (some ⟨B, 0, none⟩) ∧ V.heap.size ≤ B ∧ Blk w B [.slice p0 n0 q0, .slice p1 n1 q1, .slice p2 n2 q2] ∧
  SpotL w p0 g.places d0 ∧ RoadL w p1 g.roads d1 ∧ BanL w p2 g.bans d2 ∧ Fresh V w (d0 ++ (d1 ++ d2)) ∧ B ∉ d0 ++ (d1 ++ d2) ∧ Bel V w
theorem fresh3 {V w1 w2 w3 : World} {d0 d1 d2 : List Nat} (F1 : Fresh V w1 d0) (B1 : Bel V w1) (F2 : Fresh w1 w2 d1) (B2 : Bel w1 w2) (F3 : Fresh w2 w3 d2) (B3 : Bel w2 w3) : Fresh V w3 (d0 ++ (d1 ++ d2)) :=
 F1.behind B1 (F2.behind B2 F3 B3) (bel_step B2 B3)
theorem CutG.put {V w1 w2 w3 : World} {g : GraphD} {n0 n1 n2 B : Nat} {p0 p1 p2 : Option Addr} {q0 q1 q2 : Nat} {d0 d1 d2 : List Nat} (h : Nt V w3 B ((d0 ++ d1) ++ d2)) (T1 : SpotL w1 p0 g.places d0) (F1 : Fresh V w1 d0) (B1 : Bel V w1) (T2 : RoadL w2 p1 g.roads d1) (F2 : Fresh w1 w2 d1) (B2 : Bel w1 w2) (T3 : BanL w3 p2 g.bans d2) (F3 : Fresh w2 w3 d2) (B3 : Bel w2 w3) :
  CutG V g n0 n1 n2 (.pointer (some ⟨B, 0, none⟩)) (((w3.setCell ⟨B, 0, none⟩ (.slice p0 n0 q0)).setCell ⟨B, 1, none⟩ (.slice p1 n1 q1)).setCell ⟨B, 2, none⟩ (.slice p2 n2 q2)) := by
 have hx := h.x
 have hoff : B ∉ d0 ++ (d1 ++ d2) := by have := h.off; rwa [List.append_assoc] at this
 have h0 : B ∉ d0 := fun hh => hoff (List.mem_append.2 (.inl hh))
 have h1 : B ∉ d1 := fun hh => hoff (List.mem_append.2 (.inr (List.mem_append.2 (.inl hh))))
 have h2 : B ∉ d2 := fun hh => hoff (List.mem_append.2 (.inr (List.mem_append.2 (.inr hh))))
 have S0 := (T1.bel spotE B2).bel spotE B3
 have S1 := T2.bel roadE B3
 have al : ∀ ds : List Nat, B ∉ ds → (∀ x ∈ ds, x < w3.heap.size) → Alike w3 (((w3.setCell ⟨B, 0, none⟩ (.slice p0 n0 q0)).setCell ⟨B, 1, none⟩ (.slice p1 n1 q1)).setCell ⟨B, 2, none⟩ (.slice p2 n2 q2)) ds :=
  fun ds hd hl => (((Alike.refl hl).set hd _ _).set hd _ _).set hd _ _
 have hF := fresh3 F1 B1 F2 B2 F3 B3
 refine ⟨B, p0, q0, p1, q1, p2, q2, d0, d1, d2, rfl, h.lo, ((hx.set 0 _ (by simp)).set 1 _ (by simp)).set 2 _ (by simp), S0.alike spotE (al d0 h0 (S0.lt spotE)), S1.alike roadE (al d1 h1 (S1.lt roadE)), T3.alike banE (al d2 h2 (T3.lt banE)), ?_, hoff, bel_set (bel_set (bel_set (bel_step B1 (bel_step B2 B3)) h.lo _) h.lo _) h.lo _⟩
 exact ⟨hF.nd, fun b hb => ⟨(hF.new b hb).1, by simpa [World.setCell] using (hF.new b hb).2⟩, fun b hb j => by rw [World.frozen?_setCell, World.frozen?_setCell, World.frozen?_setCell]; exact hF.free b hb j⟩
theorem CutG.fresh {V w1 w2 w3 : World} {g : GraphD} {n0 n1 n2 : Nat} {p0 p1 p2 : Option Addr} {q0 q1 q2 : Nat} {d0 d1 d2 : List Nat} {t : TypeId} (T1 : SpotL w1 p0 g.places d0) (F1 : Fresh V w1 d0) (B1 : Bel V w1) (T2 : RoadL w2 p1 g.roads d1) (F2 : Fresh w1 w2 d1) (B2 : Bel w1 w2) (T3 : BanL w3 p2 g.bans d2) (F3 : Fresh w2 w3 d2) (B3 : Bel w2 w3) :
  CutG V g n0 n1 n2 (.pointer (some ⟨w3.heap.size, 0, none⟩)) (w3.alloc (.cells #[.slice p0 n0 q0, .slice p1 n1 q1, .slice p2 n2 q2] t)) := by
 have hF := fresh3 F1 B1 F2 B2 F3 B3
 have hA : Bel w3 (w3.alloc (.cells #[.slice p0 n0 q0, .slice p1 n1 q1, .slice p2 n2 q2] t)) := bel_alloc (Bel.refl _) _
 have hV3 := bel_step B1 (bel_step B2 B3)
 exact ⟨w3.heap.size, p0, q0, p1, q1, p2, q2, d0, d1, d2, rfl, hV3.out.size, Blk.new w3 [.slice p0 n0 q0, .slice p1 n1 q1, .slice p2 n2 q2] t, ((T1.bel spotE B2).bel spotE B3).bel spotE hA, (T2.bel roadE B3).bel roadE hA, T3.bel banE hA, hF.bel hA, fun hm => absurd (hF.new _ hm).2 (Nat.lt_irrefl _), bel_step hV3 hA⟩

theorem sl_mem {α : Type} {q : Nat} {E : Elem α} {w : World} {b off : Nat} {l : List α} {bs : List Nat} (h : Sl q E w (some ⟨b, off, none⟩) l bs) {k : Nat} (hk : k < l.length) : b ∈ bs := by
 rcases h with ⟨rfl, _⟩ | ⟨b', off', f, e, _, rfl, _⟩
 ·simp at hk
 ·injection e with e
  injection e with e1 e2
  subst e1
  simp
theorem run_quo {x : Int} (h : 0 ≤ x) : Int.tdiv x 100 = x / 100 := Int.tdiv_eq_ediv_of_nonneg h

set_option maxRecDepth 100000 in
set_option maxHeartbeats 4000000 in
theorem slowed_any (S : Int → Bool) (a0 : Option Addr) (n0 c0 : Nat) (a1 : Option Addr) (n1 c1 : Nat) (a2 : Option Addr) (n2 c2 : Nat) (g : GraphD) (b0 b1 b2 : List Nat) (p : Int) (w : World) (t0 : SpotL w a0 g.places b0) (t1 : RoadL w a1 g.roads b1) (t2 : BanL w a2 g.bans b2) (e0 : g.places.length = n0) (e1 : g.roads.length = n1) (e2 : g.bans.length = n2) (hP : graphP g) (hp : 1 ≤ p ∧ p ≤ 10000)
  (hC : ∀ (d : RoadD) (w' : World), Bel w w' → In64 d.way → Calls Tryz.prog 37 #[.agg #[.int .i64 d.fr, .int .i64 d.to, .int .i64 d.way, .int .i64 d.time, .int .i64 d.len, .string d.name]] w' fun e w'' => e = .returned (.bool (S d.way)) ∧ Bel w' w'') :
  Calls Tryz.prog 36 #[gphV a0 n0 c0 a1 n1 c1 a2 n2 c2, .int .i64 p, .func (.func 37) #[] #[]] w fun e w' => ∃ v' bs', e = .returned v' ∧ GphV w' v' ⟨g.places, g.roads.map (slw1 S p), g.bans⟩ bs' ∧ Fresh w w' bs' ∧ Bel w w' := by
 have H0 : Hid (g.places.length = n0) := e0
 have H1 : Hid (g.roads.length = n1) := e1
 have H2 : Hid (g.bans.length = n2) := e2
 have HP : Hid (graphP g) := hP
 have m0 : n0 ≤ 5000 := by rw [← e0]; exact hP.1.1
 have m1 : n1 ≤ 8000 := by rw [← e1]; exact hP.1.2.1
 have m2 : n2 ≤ 2000 := by rw [← e2]; exact hP.1.2.2
 clear e0 e1 e2 hP
 obtain ⟨V, HV⟩ : ∃ V, Hid (V = (w.alloc (.cells #[.slice a0 n0 c0, .slice a1 n1 c1, .slice a2 n2 c2] 36)).alloc (.cells #[.slice none 0 0, .slice none 0 0, .slice none 0 0] 36)) := ⟨_, (rfl : (w.alloc (.cells #[.slice a0 n0 c0, .slice a1 n1 c1, .slice a2 n2 c2] 36)).alloc (.cells #[.slice none 0 0, .slice none 0 0, .slice none 0 0] 36) = _)⟩
 have hBV : Bel w V := by rw [HV.out]; exact bel_alloc (bel_alloc (Bel.refl _) _) _
 have XG : Blk V w.heap.size [.slice a0 n0 c0, .slice a1 n1 c1, .slice a2 n2 c2] := by rw [HV.out]; exact (Blk.new w [.slice a0 n0 c0, .slice a1 n1 c1, .slice a2 n2 c2] _).bel (bel_alloc (Bel.refl _) _)
 have XR : Blk V (w.heap.size + 1) zer3 := by rw [HV.out]; exact Blk.new1 w _ zer3 _
 have u0 := t0.bel spotE hBV
 have u1 := t1.bel roadE hBV
 have u2 := t2.bel banE hBV
 have hR : ∀ w', Bel V w' → w'.cell? ⟨w.heap.size, 0, none⟩ = some (.slice a0 n0 c0) ∧ w'.cell? ⟨w.heap.size, 1, none⟩ = some (.slice a1 n1 c1) ∧ w'.cell? ⟨w.heap.size, 2, none⟩ = some (.slice a2 n2 c2) := fun w' h =>
  ⟨(XG.bel h).cell 0 (by simp), (XG.bel h).cell 1 (by simp), (XG.bel h).cell 2 (by simp)⟩
 have g0 : Bel V V := Bel.refl _
 clear t0 t1 t2
 go_enter Tryz.func36, Tryz.ntmps36
 go_upto_region 1 with fail
 rw [← HV.out]
 go_cut [7] (fun t wx => CutG V g n0 n1 n2 t wx)
 case first =>
  go_region_held3 (fun w' => Bel V w') (with_reducible (repeat (first | assumption | exact g0 | refine Bel.drew ?_ | refine bel_alloc ?_ _ | refine bel_set ?_ hz3.lo _ | refine bel_then (by assumption) ?_)))
   (first
    | (go_at_call 73; refine (freshSpot_to _ _ _ g.places b0 V _ (by with_reducible (repeat (first | exact g0 | refine Bel.drew ?_ | refine bel_alloc ?_ _))) (u0.bel spotE (by with_reducible (repeat (first | exact g0 | refine Bel.drew ?_ | refine bel_alloc ?_ _)))) H0.out (by omega)).mono ?_; rintro e w1 ⟨p0, q0, d0, rfl, T1, F1, B1, hb1⟩; (first | (refine (fun hz1 : Nt V w1 V.heap.size ([] ++ d0) => ?_) (Nt.new (C := V.drew) F1 hb1 (Nat.le_refl _) (fun _ h => nomatch h))) | skip))
    | (go_at_call 74; refine (freshRoad_to _ _ _ g.roads b1 w1 _ (by with_reducible (repeat (first | exact Bel.refl _ | refine Bel.drew ?_ | refine bel_alloc ?_ _))) ((u1.bel roadE B1).bel roadE (by with_reducible (repeat (first | exact Bel.refl _ | refine Bel.drew ?_ | refine bel_alloc ?_ _)))) H1.out (by omega)).mono ?_; rintro e w2 ⟨p1, q1, d1, rfl, T2, F2, B2, hb2⟩; (first | (refine (fun hz2 : Nt V w2 w1.heap.size (([] ++ d0) ++ d1) => ?_) (Nt.new (C := w1) F2 hb2 B1.out.size (fun x hx => (F1.new x hx).2))) | (refine (fun hz2 : Nt V w2 _ (([] ++ d0) ++ d1) => ?_) (Nt.on hz1 F2 hb2)) | skip))
    | (go_at_call 75; refine (freshBan_to _ _ _ g.bans b2 w2 _ (by with_reducible (repeat (first | exact Bel.refl _ | refine Bel.drew ?_ | refine bel_alloc ?_ _))) (((u2.bel banE B1).bel banE B2).bel banE (by with_reducible (repeat (first | exact Bel.refl _ | refine Bel.drew ?_ | refine bel_alloc ?_ _)))) H2.out (by omega)).mono ?_; rintro e w3 ⟨p2, q2, d2, rfl, T3, F3, B3, hb3⟩; (first | (refine (fun hz3 : Nt V w3 w2.heap.size ((([] ++ d0) ++ d1) ++ d2) => ?_) (Nt.new (C := w2) F3 hb3 (bel_step B1 B2).out.size (fun x hx => by rcases List.mem_append.1 hx with hx | hx; exact bel_lt B2 (F1.new x hx).2; exact (F2.new x hx).2))) | (refine (fun hz3 : Nt V w3 _ ((([] ++ d0) ++ d1) ++ d2) => ?_) (Nt.on hz2 F3 hb3)) | skip); (first | (refine (fun hcs : _ ∧ _ => ?_) (Nt.cs hz3)) | skip)))
  all_goals
   go_wp2_with fail
   go_meet
   case rel => first | exact CutG.put hz3 T1 (F1.old (by first | exact Nat.le_refl _ | simp)) B1 T2 (F2.old (by first | exact Nat.le_refl _ | simp)) B2 T3 (F3.old (by first | exact Nat.le_refl _ | simp)) B3 | exact CutG.fresh T1 (F1.old (by first | exact Nat.le_refl _ | simp)) B1 T2 (F2.old (by first | exact Nat.le_refl _ | simp)) B2 T3 (F3.old (by first | exact Nat.le_refl _ | simp)) B3
 case rest =>
  clear hR g0 u0 u1 u2
  obtain ⟨B, p0, q0, p1, q1, p2, q2, d0, d1, d2, rfl, hB, XB, T0, T1, T2, HF, hoff, hBc⟩ := hcut.out
  obtain ⟨wA, rfl⟩ : ∃ V, V = wc := ⟨_, rfl⟩
  clear hcut
  have hd := HF.nd
  obtain ⟨nd0, nd12, x0⟩ := List.nodup_append.1 hd
  obtain ⟨nd1, nd2, x1⟩ := List.nodup_append.1 nd12
  have D01 : Hid (∀ x ∈ d1, x ∉ d0) := fun x hx hy => x0 x hy x (List.mem_append.2 (.inl hx)) rfl
  have D12 : Hid (∀ x ∈ d1, x ∉ d2) := fun x hx hy => x1 x hx x hy rfl
  have hoff1 : Hid (∀ x ∈ d1, x ≠ B) := fun x hx e => hoff (List.mem_append.2 (.inr (List.mem_append.2 (.inl (e ▸ hx)))))
  have T1' : RoadL wA p1 (slL S p g.roads 0) d1 := by rw [slL_zero]; exact T1
  have y1 : wA.cell? ⟨B, 1, none⟩ = some (.slice p1 n1 q1) := XB.cell 1 (by simp)
  have yl := XB.lt
  clear hd nd0 nd12 nd1 nd2 x0 x1 T1 hoff
  go_wp2
  go_loopw [8, 9, 23] (fun _ _ i wr => ∃ k : Nat, k ≤ n1 ∧ i = .int .i64 k ∧ RoadL wr p1 (slL S p g.roads k) d1 ∧ SpotL wr p0 g.places d0 ∧ BanL wr p2 g.bans d2 ∧ Blk wr B [.slice p0 n0 q0, .slice p1 n1 q1, .slice p2 n2 q2] ∧ Fresh V wr (d0 ++ (d1 ++ d2)) ∧ Bel V wr) (fun _ _ i _ => n1 - (intOf i).toNat)
  case atStart => exact ⟨0, Nat.zero_le _, rfl, T1', T0, T2, XB, HF, hBc⟩
  case round =>
   clear T1' T0 T2 XB HF hBc y1 yl
   obtain ⟨k, hk, rfl, T1, T0, T2, XB, HF, hBr⟩ := hrel
   by_cases hlt : k < n1
   ·have hkl : k < g.roads.length := by rw [H1.out]; exact hlt
    have hkl' : k < (slL S p g.roads k).length := by rw [slL_len]; exact hkl
    obtain ⟨b, off, f, rfl, hb, hx⟩ := T1.out hkl'
    have hbd := sl_mem T1 hkl'
    have hxk := hx k hkl'
    have HE : Hid ((slL S p g.roads k)[k] = g.roads[k]) := slL_ge hkl (Nat.le_refl _)
    rw [HE.out] at hxk
    have hro := roadB_out (HP.out.2.2.1 k hkl)
    obtain ⟨d, Hd⟩ : ∃ d, Hid (g.roads[k] = d) := ⟨_, (rfl : g.roads[k] = _)⟩
    rw [Hd.out] at hxk hro
    obtain ⟨_, _, _, i2, _, _, _, y0, y1, y2, y3, y4, y5⟩ := hxk
    have hti := hro.2.2.2.1
    have hkI : (k : Int) < (n1 : Int) := by omega
    obtain ⟨U, HU⟩ : ∃ U, Hid (U = wr.alloc (.cells #[.int .i64 d.fr, .int .i64 d.to, .int .i64 d.way, .int .i64 d.time, .int .i64 d.len, .string d.name] 59)) := ⟨_, (rfl : wr.alloc (.cells #[.int .i64 d.fr, .int .i64 d.to, .int .i64 d.way, .int .i64 d.time, .int .i64 d.len, .string d.name] 59) = _)⟩
    have hBU : Bel wr U := by rw [HU.out]; exact bel_alloc (Bel.refl _) _
    have XU : Blk U wr.heap.size [.int .i64 d.fr, .int .i64 d.to, .int .i64 d.way, .int .i64 d.time, .int .i64 d.len, .string d.name] := by rw [HU.out]; exact Blk.new wr [.int .i64 d.fr, .int .i64 d.to, .int .i64 d.way, .int .i64 d.time, .int .i64 d.len, .string d.name] _
    have v0 : U.cell? ⟨wr.heap.size, 0, none⟩ = some (.int .i64 d.fr) := XU.cell 0 (by simp)
    have v1 : U.cell? ⟨wr.heap.size, 1, none⟩ = some (.int .i64 d.to) := XU.cell 1 (by simp)
    have v2 : U.cell? ⟨wr.heap.size, 2, none⟩ = some (.int .i64 d.way) := XU.cell 2 (by simp)
    have v3 : U.cell? ⟨wr.heap.size, 3, none⟩ = some (.int .i64 d.time) := XU.cell 3 (by simp)
    have v4 : U.cell? ⟨wr.heap.size, 4, none⟩ = some (.int .i64 d.len) := XU.cell 4 (by simp)
    have v5 : U.cell? ⟨wr.heap.size, 5, none⟩ = some (.string d.name) := XU.cell 5 (by simp)
    have vl := XU.lt
    clear hx hro
    go_upto_region 5 with fail
    rw [← HU.out]
    go_wp2_with fail
    refine (hC d _ (bel_step hBV (bel_step hBr hBU)) i2).mono ?_
    rintro e w2 ⟨rfl, hb2⟩
    have hB2 := bel_step hBU hb2
    have T1b := T1.bel roadE hB2
    have T0b := T0.bel spotE hB2
    have T2b := T2.bel banE hB2
    have XBb := XB.bel hB2
    have HFb := HF.bel hB2
    have hBb := bel_step hBr hB2
    clear v0 v1 v2 v3 v4 v5 vl y0 y1 y2 y3 y4 y5 T1 T0 T2 XB
    rcases Bool.eq_false_or_eq_true (S d.way) with hs | hs
    ·rw [hs]
     have z1 : w2.cell? ⟨B, 1, none⟩ = some (.slice (some ⟨b, off, none⟩) n1 q1) := XBb.cell 1 (by simp)
     have zl := XBb.lt
     have v3 : w2.cell? ⟨wr.heap.size, 3, none⟩ = some (.int .i64 d.time) := (XU.bel hb2).cell 3 (by simp)
     have vl := (XU.bel hb2).lt
     obtain ⟨b', off', f', e', hbl, hx'⟩ := T1b.out hkl'
     injection e' with e'
     injection e' with e1 e2
     subst e1 e2
     obtain ⟨_, _, _, _, _, _, _, _, _, _, y3, _⟩ := hx' k hkl'
     rw [HE.out, Hd.out] at y3
     have fz := HFb.free b (List.mem_append.2 (.inr (List.mem_append.2 (.inl hbd)))) (off + k * 6 + 3)
     have hbV := (HFb.new b (List.mem_append.2 (.inr (List.mem_append.2 (.inl hbd))))).1
     have hmb := mul_bd hti hp
     obtain ⟨Y, HY⟩ : ∃ Y, Hid (slwT d.time p = Y) := ⟨_, (rfl : slwT d.time p = _)⟩
     have hsb := slwT_bd hti hp
     rw [HY.out] at hsb
     have HT1 : Hid (RoadL (w2.setCell ⟨b, off + k * 6 + 3, none⟩ (.int .i64 Y)) (some ⟨b, off, none⟩) (slL S p g.roads (k + 1)) d1) := (by
      have h1 := road_set T1b hkl' HE.out (t := Y) ⟨by omega, by omega⟩
      rw [Hd.out] at h1
      have h2 := slL_yes (S := S) (p := p) hkl (by rw [Hd.out]; exact hs)
      rw [Hd.out] at h2
      unfold slwD at h2
      rw [HY.out] at h2
      rw [← h2]
      exact h1 : RoadL (w2.setCell ⟨b, off + k * 6 + 3, none⟩ (.int .i64 Y)) (some ⟨b, off, none⟩) (slL S p g.roads (k + 1)) d1)
     have HT0 : Hid (SpotL (w2.setCell ⟨b, off + k * 6 + 3, none⟩ (.int .i64 Y)) p0 g.places d0) := T0b.alike spotE ((Alike.refl (T0b.lt spotE)).set (D01.out b hbd) _ _)
     have HT2 : Hid (BanL (w2.setCell ⟨b, off + k * 6 + 3, none⟩ (.int .i64 Y)) p2 g.bans d2) := T2b.alike banE ((Alike.refl (T2b.lt banE)).set (D12.out b hbd) _ _)
     have HXB : Hid (Blk (w2.setCell ⟨b, off + k * 6 + 3, none⟩ (.int .i64 Y)) B [.slice p0 n0 q0, .slice (some ⟨b, off, none⟩) n1 q1, .slice p2 n2 q2]) := XBb.far (hoff1.out b hbd)
     have HFF : Hid (Fresh V (w2.setCell ⟨b, off + k * 6 + 3, none⟩ (.int .i64 Y)) (d0 ++ (d1 ++ d2))) := ⟨HFb.nd, fun x hx => ⟨(HFb.new x hx).1, by simpa [World.setCell] using (HFb.new x hx).2⟩, fun x hx j => by rw [World.frozen?_setCell]; exact HFb.free x hx j⟩
     have HBB : Hid (Bel V (w2.setCell ⟨b, off + k * 6 + 3, none⟩ (.int .i64 Y))) := bel_set hBb hbV _
     clear T1b T0b T2b XBb HFb hx'
     have hw1 : IntKind.i64.wrap (d.time * p) = d.time * p := by rw [IntKind.wrap_i64]; omega
     have hw2 : IntKind.i64.wrap (d.time * p + 99) = d.time * p + 99 := by rw [IntKind.wrap_i64]; omega
     have hq1 : Int.tdiv (d.time * p + 99) 100 = (d.time * p + 99) / 100 := run_quo (by omega)
     have HMN : Hid (min ((d.time * p + 99) / 100) 1000000 = Y) := (by rw [← HY.out]; unfold slwT; split <;> omega : min ((d.time * p + 99) / 100) 1000000 = Y)
     go_wp2
     rw [HMN.out]
     go_roundw
     case rel => exact ⟨k + 1, by omega, by go_num, HT1.out, HT0.out, HT2.out, HXB.out, HFF.out, HBB.out⟩
     case measure => simp [intOf]; omega
    ·have HT1 : Hid (RoadL w2 (some ⟨b, off, none⟩) (slL S p g.roads (k + 1)) d1) := (by rw [← slL_no hkl (by rw [Hd.out]; exact hs)]; exact T1b : RoadL w2 (some ⟨b, off, none⟩) (slL S p g.roads (k + 1)) d1)
     rw [hs]
     clear T1b XU
     go_wp2
     go_roundw
     case rel => exact ⟨k + 1, by omega, by go_num, HT1.out, T0b, T2b, XBb, HFb, hBb⟩
     case measure => simp [intOf]; omega
   ·obtain rfl : k = n1 := by omega
    have z0 := XB.cell 0 (by simp)
    have z1 := XB.cell 1 (by simp)
    have z2 := XB.cell 2 (by simp)
    have zl := XB.lt
    have XRr := XR.bel hBr
    have r0 := XRr.cell 0 (by simp)
    have r1 := XRr.cell 1 (by simp)
    have r2 := XRr.cell 2 (by simp)
    have f0 := XRr.free 0
    have f1 := XRr.free 1
    have f2 := XRr.free 2
    have rl := XRr.lt
    simp only [List.getElem_cons_zero, List.getElem_cons_succ] at z0 z1 z2 r0 r1 r2
    have hRV := XR.lt
    have hne : B ≠ w.heap.size + 1 := by omega
    have hn : ∀ x ∈ d0 ++ (d1 ++ d2), x ≠ w.heap.size + 1 := fun x hx e => by have := (HF.new x hx).1; omega
    have hn0 : w.heap.size + 1 ∉ d0 := fun h => hn _ (List.mem_append.2 (.inl h)) rfl
    have hn1 : w.heap.size + 1 ∉ d1 := fun h => hn _ (List.mem_append.2 (.inr (List.mem_append.2 (.inl h)))) rfl
    have hn2 : w.heap.size + 1 ∉ d2 := fun h => hn _ (List.mem_append.2 (.inr (List.mem_append.2 (.inr h)))) rfl
    rw [← H1.out, slL_all] at T1
    obtain ⟨X, HX⟩ : ∃ X, Hid (X = ((wr.setCell ⟨w.heap.size + 1, 0, none⟩ (.slice p0 n0 q0)).setCell ⟨w.heap.size + 1, 1, none⟩ (.slice p1 k q1)).setCell ⟨w.heap.size + 1, 2, none⟩ (.slice p2 n2 q2)) := ⟨_, (rfl : ((wr.setCell ⟨w.heap.size + 1, 0, none⟩ (.slice p0 n0 q0)).setCell ⟨w.heap.size + 1, 1, none⟩ (.slice p1 k q1)).setCell ⟨w.heap.size + 1, 2, none⟩ (.slice p2 n2 q2) = _)⟩
    have al : ∀ ds : List Nat, w.heap.size + 1 ∉ ds → (∀ x ∈ ds, x < wr.heap.size) → Alike wr X ds := fun ds hd hl => by rw [HX.out]; exact (((Alike.refl hl).set hd _ _).set hd _ _).set hd _ _
    have HXv : Hid (GphV X (.agg #[.slice p0 n0 q0, .slice p1 k q1, .slice p2 n2 q2]) ⟨g.places, g.roads.map (slw1 S p), g.bans⟩ (d0 ++ (d1 ++ d2))) :=
     ⟨p0, q0, p1, q1, p2, q2, d0, d1, d2, rfl, by simp only [List.length_map, H0.out, H1.out, H2.out], T0.alike spotE (al d0 hn0 (T0.lt spotE)), T1.alike roadE (al d1 hn1 (T1.lt roadE)), T2.alike banE (al d2 hn2 (T2.lt banE))⟩
    have HXF : Hid (Fresh w X (d0 ++ (d1 ++ d2))) := (by
     rw [HX.out]
     exact ⟨HF.nd, fun x hx => ⟨Nat.le_trans hBV.out.size (HF.new x hx).1, by simpa [World.setCell] using (HF.new x hx).2⟩, fun x hx j => by rw [World.frozen?_setCell, World.frozen?_setCell, World.frozen?_setCell]; exact HF.free x hx j⟩ : Fresh w X (d0 ++ (d1 ++ d2)))
    have hlo : w.heap.size ≤ w.heap.size + 1 := Nat.le_succ _
    have HXB : Hid (Bel w X) := (by rw [HX.out]; exact bel_set (bel_set (bel_set (bel_step hBV hBr) hlo _) hlo _) hlo _ : Bel w X)
    have XRX : Blk X (w.heap.size + 1) [.slice p0 n0 q0, .slice p1 k q1, .slice p2 n2 q2] := by rw [HX.out]; exact ((XRr.set 0 _ (by simp)).set 1 _ (by simp)).set 2 _ (by simp)
    have s0 := XRX.cell 0 (by simp)
    have s1 := XRX.cell 1 (by simp)
    have s2 := XRX.cell 2 (by simp)
    simp only [List.getElem_cons_zero, List.getElem_cons_succ] at s0 s1 s2
    clear T0 T1 T2 HF al
    go_wp2
    rw [← HX.out]
    exact bodyPost_ret (v := .agg #[.slice p0 n0 q0, .slice p1 k q1, .slice p2 n2 q2]) (by simp [results, Tryz.results36, go_sem, s0, s1, s2]) rfl ⟨_, _, rfl, HXv.out, HXF.out, HXB.out⟩
end Go.Proofs.YtakedciemnkfhaaGreatDoor
