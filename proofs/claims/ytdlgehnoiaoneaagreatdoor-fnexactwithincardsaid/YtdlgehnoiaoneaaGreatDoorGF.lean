/-
  Rows of numbers of a call's own: how they are built and read.
  Places, roads, bans and graphs as data in memory.
  When a graph can be: plain mathematics.
  A set of bans (a map with a struct as key): what is asked, what is put: contracts.
  Rows of plain elements that are being built: one element more.
  Rows of the call's own beside each other: what stays when one of them grows.
  Two tables of rows of numbers that grow; what a graph's network is made of.
  Which roads may follow one: plain mathematics.
-/
import Derived.Test.YtdlgehnoiaoneaaGreatDoorGE
import Derived.Test.YtdlgehnoiaoneaaGreatDoorGC
import Derived.WideKeyEntry
import Derived.DeepKeys5
import Derived.Deep.DeepCutAuto
import Derived.Laws.OwnMore
import Derived.Laws.AppendOwnNone
import Derived.Laws.MakeOwn
namespace Go.Proofs.YtdlgehnoiaoneaaGreatDoor
open Go.RowKit Go.Maps

def intsV (l : List Int) : List Value := l.map (.int .i64)
/-- A row of numbers of the call's own. -/
def OwnI (base : Nat) (w : World) (v : Value) (l : List Int) : Prop := w.ownsRow base 2 1 v l.length (intsV l)
theorem own_ints {base : Nat} {w : World} {v : Value} {l : List Int} (h : OwnI base w v l) (hi : ∀ y ∈ l, In64 y) :
    ∃ a c bs, v = .slice a l.length c ∧ Ints w a l bs ∧ (∀ x ∈ bs, base ≤ x ∧ x < w.heap.size) ∧ ∀ x ∈ bs, ∀ j, w.frozen? ⟨x, j, none⟩ = false := by
  obtain ⟨a, c, rfl⟩ := own_shape h
  rcases Nat.eq_zero_or_pos l.length with z | z
  · obtain rfl : l = [] := List.length_eq_zero_iff.1 z
    refine ⟨a, c, [], rfl, Sl.nil, ?_, ?_⟩ <;> intro x hx <;> simp at hx
  · rcases h.2 with ⟨_, hz⟩ | ⟨g, cap, cur, e, hg, e3, _⟩
    · omega
    · cases e
      have hlt : g < w.heap.size := by
        rcases Nat.lt_or_ge g w.heap.size with h | h
        · exact h
        · rw [Array.getElem?_eq_none h] at e3; cases e3
      have hm : ∀ x ∈ g :: (List.range l.length).flatMap (fun _ => ([] : List Nat)), x = g := fun x hx => by
        rcases List.mem_cons.1 hx with h | h
        · exact h
        · obtain ⟨_, _, h⟩ := List.mem_flatMap.1 h
          exact nomatch h
      refine ⟨_, _, g :: (List.range l.length).flatMap (fun _ => ([] : List Nat)), rfl, .inr ⟨g, 0, fun _ => [], rfl, hlt, rfl, fun i hil => ⟨rfl, hi _ (List.getElem_mem hil), ?_⟩⟩, fun x hx => by rw [hm x hx]; exact ⟨hg, hlt⟩, fun x hx j => by rw [hm x hx]; simp [World.frozen?, e3]⟩
      rw [Nat.zero_add, Nat.mul_one, h.cellAt i (by omega)]
      simp [intsV, hil]
end Go.Proofs.YtdlgehnoiaoneaaGreatDoor

namespace Go.Proofs.YtdlgehnoiaoneaaGreatDoor
open Go.RowKit Go.Maps

structure SpotD where
  id : Int
  x : Int
  y : Int
structure RoadD where
  fr : Int
  «to» : Int
  way : Int
  time : Int
  len : Int
  name : ByteArray
structure BanD where
  fr : Int
  «to» : Int
structure GraphD where
  places : List SpotD
  roads : List RoadD
  bans : List BanD

def SpotE : Elem SpotD := fun w b o d bs => bs = [] ∧ In64 d.id ∧ In64 d.x ∧ In64 d.y ∧ w.cell? ⟨b, o, none⟩ = some (.int .i64 d.id) ∧ w.cell? ⟨b, o + 1, none⟩ = some (.int .i64 d.x) ∧ w.cell? ⟨b, o + 2, none⟩ = some (.int .i64 d.y)
theorem spotE : Stays 3 SpotE := ⟨fun ⟨h0, i0, i1, i2, h1, h2, h3⟩ hc _ => ⟨h0, i0, i1, i2, same_cell hc 0 (by decide) h1, same_cell hc 1 (by decide) h2, same_cell hc 2 (by decide) h3⟩, fun ⟨h1, _⟩ x hx => by subst h1; cases hx⟩
abbrev SpotL := Sl 3 SpotE
def RoadE : Elem RoadD := fun w b o d bs => bs = [] ∧ In64 d.fr ∧ In64 d.to ∧ In64 d.way ∧ In64 d.time ∧ In64 d.len ∧ d.name.size ≤ maxLen ∧ w.cell? ⟨b, o, none⟩ = some (.int .i64 d.fr) ∧ w.cell? ⟨b, o + 1, none⟩ = some (.int .i64 d.to) ∧ w.cell? ⟨b, o + 2, none⟩ = some (.int .i64 d.way) ∧
  w.cell? ⟨b, o + 3, none⟩ = some (.int .i64 d.time) ∧ w.cell? ⟨b, o + 4, none⟩ = some (.int .i64 d.len) ∧ w.cell? ⟨b, o + 5, none⟩ = some (.string d.name)
theorem roadE : Stays 6 RoadE := ⟨fun ⟨h0, i0, i1, i2, i3, i4, i5, h1, h2, h3, h4, h5, h6⟩ hc _ => ⟨h0, i0, i1, i2, i3, i4, i5, same_cell hc 0 (by decide) h1, same_cell hc 1 (by decide) h2, same_cell hc 2 (by decide) h3, same_cell hc 3 (by decide) h4, same_cell hc 4 (by decide) h5, same_cell hc 5 (by decide) h6⟩, fun ⟨h1, _⟩ x hx => by subst h1; cases hx⟩
abbrev RoadL := Sl 6 RoadE
def BanE : Elem BanD := fun w b o d bs => bs = [] ∧ In64 d.fr ∧ In64 d.to ∧ w.cell? ⟨b, o, none⟩ = some (.int .i64 d.fr) ∧ w.cell? ⟨b, o + 1, none⟩ = some (.int .i64 d.to)
theorem banE : Stays 2 BanE := ⟨fun ⟨h0, i0, i1, h1, h2⟩ hc _ => ⟨h0, i0, i1, same_cell hc 0 (by decide) h1, same_cell hc 1 (by decide) h2⟩, fun ⟨h1, _⟩ x hx => by subst h1; cases hx⟩
abbrev BanL := Sl 2 BanE

def roadSz (d : RoadD) : Nat := d.name.size
def roadsSz (l : List RoadD) : Nat := l.length + sumTo roadSz l l.length
instance : Inhabited SpotD := ⟨⟨0, 0, 0⟩⟩
instance : Inhabited RoadD := ⟨⟨0, 0, 0, 0, 0, ⟨#[]⟩⟩⟩
instance : Inhabited BanD := ⟨⟨0, 0⟩⟩
end Go.Proofs.YtdlgehnoiaoneaaGreatDoor

namespace Go.Proofs.YtdlgehnoiaoneaaGreatDoor
open Go.RowKit Go.Maps

/-- An Id can be. -/
def idk (x : Int) : Bool := decide (0 < x) && decide (x ≤ 1000000000)
theorem idk_iff {x : Int} : idk x = true ↔ 0 < x ∧ x ≤ 1000000000 := by simp [idk]
theorem idk_not {x : Int} : idk x = false ↔ ¬ (0 < x ∧ x ≤ 1000000000) := by simp only [idk, Bool.and_eq_false_iff, decide_eq_false_iff_not]; omega

def spotsP (l : List SpotD) : Prop := ∀ i (h : i < l.length), idk l[i].id = true ∧ pok l[i].x l[i].y = true ∧ (0 < i → (l[i - 1]'(by omega)).id < l[i].id)
/-- A number of something in a list of n. -/
def inN (n : Nat) (x : Int) : Bool := decide (0 ≤ x) && decide (x < n)
theorem inN_iff {n : Nat} {x : Int} : inN n x = true ↔ 0 ≤ x ∧ x < n := by simp [inN]
theorem inN_not {n : Nat} {x : Int} : inN n x = false ↔ ¬ (0 ≤ x ∧ x < n) := by simp only [inN, Bool.and_eq_false_iff, decide_eq_false_iff_not]; omega
theorem inN_nat {n : Nat} {x : Int} (h : inN n x = true) : ∃ i : Nat, i < n ∧ x = i := by
  obtain ⟨h1, h2⟩ := inN_iff.1 h
  exact ⟨x.toNat, by omega, by omega⟩
def roadB (n : Nat) (r : RoadD) : Bool := inN n r.fr && (inN n r.to && (idk r.way && (decide (1 ≤ r.time) && (decide (r.time ≤ 1000000) && (decide (0 ≤ r.len) && decide (r.len ≤ 1000000000))))))
def roadsP (n : Nat) (l : List RoadD) : Prop := ∀ i (h : i < l.length), roadB n l[i] = true
theorem roadB_out {n : Nat} {r : RoadD} (h : roadB n r = true) : (0 ≤ r.fr ∧ r.fr < n) ∧ (0 ≤ r.to ∧ r.to < n) ∧ (0 < r.way ∧ r.way ≤ 1000000000) ∧ (1 ≤ r.time ∧ r.time ≤ 1000000) ∧ 0 ≤ r.len ∧ r.len ≤ 1000000000 := by
  simp only [roadB, inN, idk, Bool.and_eq_true, decide_eq_true_eq] at h
  omega
def banLt (a b : BanD) : Prop := a.fr < b.fr ∨ a.fr = b.fr ∧ a.to < b.to
/-- A ban of roads that meet. -/
def meetsP (rs : List RoadD) (b : BanD) : Prop := ∃ i j, ∃ hi : i < rs.length, ∃ hj : j < rs.length, b.fr = i ∧ b.to = j ∧ rs[i].to = rs[j].fr
def bansP (rs : List RoadD) (l : List BanD) : Prop := ∀ i (h : i < l.length), meetsP rs l[i] ∧ (0 < i → banLt (l[i - 1]'(by omega)) l[i])
def graphP (g : GraphD) : Prop := (g.places.length ≤ 5000 ∧ g.roads.length ≤ 8000 ∧ g.bans.length ≤ 2000) ∧ spotsP g.places ∧ roadsP g.places.length g.roads ∧ bansP g.roads g.bans

theorem spotsP_at {l : List SpotD} {k : Nat} (hk : k < l.length) (h : idk l[k].id = false ∨ pok l[k].x l[k].y = false ∨ ∃ m, ∃ e : k = m + 1, l[k].id ≤ (l[m]'(by omega)).id) : bP (spotsP l) = false := bP_false fun hh => by
  obtain ⟨h1, h2, h3⟩ := hh k hk
  rcases h with h | h | ⟨m, rfl, h⟩
  · rw [h] at h1; cases h1
  · rw [h] at h2; cases h2
  · have := h3 (Nat.succ_pos _)
    simp only [Nat.add_sub_cancel] at this
    omega
theorem meetsP_fr {rs : List RoadD} {b : BanD} (h : inN rs.length b.fr = false) : ¬ meetsP rs b := by
  rintro ⟨i, j, hi, hj, e, _⟩
  exact inN_not.1 h (by rw [e]; omega)
theorem meetsP_to {rs : List RoadD} {b : BanD} (h : inN rs.length b.to = false) : ¬ meetsP rs b := by
  rintro ⟨i, j, hi, hj, _, e, _⟩
  exact inN_not.1 h (by rw [e]; omega)
theorem meetsP_at {rs : List RoadD} {b : BanD} {i j : Nat} (hi : i < rs.length) (hj : j < rs.length) (e1 : b.fr = i) (e2 : b.to = j) : meetsP rs b ↔ rs[i].to = rs[j].fr := by
  constructor
  · rintro ⟨i', j', hi', hj', a1, a2, a3⟩
    obtain rfl : i' = i := by omega
    obtain rfl : j' = j := by omega
    exact a3
  · exact fun h => ⟨i, j, hi, hj, e1, e2, h⟩
theorem bansP_at {rs : List RoadD} {l : List BanD} {k : Nat} (hk : k < l.length) (h : ¬ meetsP rs l[k] ∨ ∃ m, ∃ e : k = m + 1, ¬ banLt (l[m]'(by omega)) l[k]) : bP (bansP rs l) = false := bP_false fun hh => by
  obtain ⟨h1, h2⟩ := hh k hk
  rcases h with h | ⟨m, rfl, h⟩
  · exact h h1
  · have := h2 (Nat.succ_pos _)
    simp only [Nat.add_sub_cancel] at this
    exact h this
end Go.Proofs.YtdlgehnoiaoneaaGreatDoor

namespace Go.Proofs.YtdlgehnoiaoneaaGreatDoor
open Go.RowKit Go.Maps Go.WideElems

/-- A ban as a key, and as a key's bytes. -/
def bnV (c r : Int) : Value := .agg #[.int .i64 c, .int .i64 r]
def bnL (c r : Int) : Lit := .string (keyBytes [.int .i64 c, .int .i64 r])
theorem bn_laid : laidOutB Tryz.prog = true := by kernel_rfl
theorem bn_cells : Tryz.prog.cellsOf 73 = 2 := by kernel_rfl
theorem bn_one : Tryz.prog.cellsOf 2 = 1 := by kernel_rfl
theorem bn_keyType : Tryz.prog.keyType 73 = true := by kernel_rfl
theorem bn_wide : (match Tryz.prog.underlying 73 with | some (.array _ _) | some (.struct _) => true | _ => false) = true := by rw [Tryz.underlying73]
set_option maxRecDepth 100000 in
theorem lawBK : WideMaps.KeyLaw Tryz.prog 73 := deep_law_laid bn_laid (m := 2) (by omega) (of_decide_eq_true (by kernel_rfl)) (by kernel_rfl) bn_wide
theorem lawB : Keyed Tryz.prog 73 := Keyed.of_law lawBK
theorem typesB_succ : ∃ m, Tryz.prog.types.size = m + 1 := ⟨Tryz.prog.types.size - 1, by have : 0 < Tryz.prog.types.size := of_decide_eq_true (by kernel_rfl); omega⟩
theorem keyB {c r : Int} (hc : In64 c) (hr : In64 r) : keyOf Tryz.prog 73 (bnV c r) = some (bnL c r) := by
  obtain ⟨m, hm⟩ := typesB_succ
  unfold keyOf bnV
  simp only [Tryz.underlying73]
  rw [if_pos (by simp [bn_keyType, Value.formed, Tryz.underlying73, bn_cells]), hm]
  unfold Program.keyLits
  simp only [Tryz.underlying73, Value.cells]
  rw [if_pos (by rw [bn_cells]; simp)]
  simp [bn_one, Program.keyLits, Tryz.underlying2, wf_in hc, wf_in hr, bnL]
theorem bnL_key (c r : Int) : WideAt.IsKeyLit (bnL c r) := trivial
theorem bnL_ne {c r c' r' : Int} (hc : In64 c) (hr : In64 r) (hc' : In64 c') (hr' : In64 r') (h : ¬ (c = c' ∧ r = r')) : bnL c r ≠ bnL c' r' := fun e => h (by
  have h2 := keyB hc' hr'
  rw [← e] at h2
  have := lawB.inj (keyB hc hr) h2
  simp [bnV] at this
  exact this)

/-- A set of bans; n: at most so many. -/
def BSet (w : World) (b n : Nat) (s : Int → Int → Prop) : Prop :=
  ∃ D : DataW Unit, w.ownsMap Tryz.prog 73 unitElem b n D ∧ ∀ f t, In64 f → In64 t → Maps.has D (bnL f t) = bP (s f t)
theorem BSet.new (w : World) : BSet (w.alloc (.map #[] 0)) w.heap.size 0 (fun _ _ => False) :=
  ⟨.map [], World.ownsMap_made w _ _ _, fun _ _ _ _ => (bP_false fun h => h).symm⟩
theorem BSet.bel {w w' : World} {b n : Nat} {s : Int → Int → Prop} (h : BSet w b n s) (hb : Bel w w') : BSet w' b n s := by
  obtain ⟨D, h1, h2⟩ := h
  exact ⟨D, ownsMap_bel h1 hb, h2⟩
theorem BSet.lt {w : World} {b n : Nat} {s : Int → Int → Prop} (h : BSet w b n s) : b < w.heap.size := by
  obtain ⟨D, h1, _⟩ := h; exact h1.lt
theorem BSet.kept {w w' : World} {b n : Nat} {s : Int → Int → Prop} {row : Option Nat} (h : BSet w b n s) (hg : w.grownBy w' row) (hne : some b ≠ row) : BSet w' b n s := by
  obtain ⟨D, h1, h2⟩ := h
  exact ⟨D, h1.kept hg hne, h2⟩
theorem BSet.size {w : World} {b n : Nat} {s : Int → Int → Prop} (h : BSet w b n s) : ∃ es clock, w.heap[b]? = some (.map es clock) ∧ es.size ≤ n := by
  obtain ⟨D, ⟨es, clock, h1, _, h3, _⟩, _⟩ := h
  exact ⟨es, clock, h1, h3⟩
theorem bs_under : Tryz.prog.underlying 87 = some (.map (Tryz.prog.mapKeyOf 87) (Tryz.prog.mapElemOf 87)) := by kernel_rfl
theorem BSet.lens {w : World} {b n : Nat} {s : Int → Int → Prop} (h : BSet w b n s) : ∃ k : Nat, k ≤ n ∧ ∀ ty, (Builtin.len_ #[87] ty #[.map (some b)]).run Tryz.prog w = .ok (.int .i64 k) w := by
  obtain ⟨es, clock, h1, h2⟩ := h.size
  exact ⟨es.size, h2, fun ty => run_len_map _ _ ty b es clock bs_under h1⟩
theorem zeroUb (w : World) : (zeroValue 138).run Tryz.prog w = .ok (.agg #[]) w := by kernel_rfl
theorem BSet.look {w : World} {b n : Nat} {s : Int → Int → Prop} (h : BSet w b n s) {f t : Int} (hf : In64 f) (ht : In64 t) :
    (Instr.lookup 87 (.map (some b)) (.agg #[.int .i64 f, .int .i64 t]) true).run Tryz.prog w = .ok (.tuple #[.agg #[], .bool (bP (s f t))]) w := by
  obtain ⟨D, h1, h2⟩ := h
  obtain ⟨v, ps, hrun, hv⟩ := h1.look_ok lawB Tryz.underlying87 (zeroUb w) unitElem_mk (keyB hf ht)
  obtain ⟨rfl, _⟩ := unitElem_inv hv
  rw [← h2 f t hf ht]
  exact hrun
theorem BSet.put {w : World} {b n : Nat} {s : Int → Int → Prop} (h : BSet w b n s) (hn : n < maxLen) {f t : Int} (hf : In64 f) (ht : In64 t) :
    ∃ w', (Instr.mapUpdate 87 (.map (some b)) (.agg #[.int .i64 f, .int .i64 t]) (.agg #[])).run Tryz.prog w = .ok () w' ∧ BSet w' b (n + 1) (fun f' t' => (f' = f ∧ t' = t) ∨ s f' t') ∧ w.grownBy w' (some b) := by
  obtain ⟨D, h1, h2⟩ := h
  obtain ⟨w', hrun, ho, hg⟩ := h1.update lawB Tryz.underlying87 hn (keyB hf ht) unitElem_mk
  refine ⟨w', hrun, ⟨_, ho, fun f' t' hf' ht' => ?_⟩, hg⟩
  by_cases e : f' = f ∧ t' = t
  · obtain ⟨rfl, rfl⟩ := e
    rw [has_put_same h1.isMap (bnL_key _ _)]
    exact (bP_true (.inl ⟨rfl, rfl⟩)).symm
  · rw [has_put_other (bnL_ne hf' ht' hf ht e), h2 f' t' hf' ht']
    by_cases hs : s f' t'
    · rw [bP_true hs, bP_true (.inr hs)]
    · rw [bP_false hs, bP_false (fun h => h.elim e hs)]

set_option maxRecDepth 100000 in
theorem bhas_any (b n : Nat) (s : Int → Int → Prop) (f t : Int) (w : World) (hS : BSet w b n s) (hf : In64 f) (ht : In64 t) :
    Calls Tryz.prog 103 #[.map (some b), .agg #[.int .i64 f, .int .i64 t]] w fun e w' => e = .returned (.bool (bP (s f t))) ∧ Bel w w' := by
  have hB := fun o => bel_alloc (bel_alloc (Bel.refl w) (.cells #[.int .i64 f, .int .i64 t] 73)) o
  have hl := (hS.bel (bel_alloc (Bel.refl w) (.cells #[.int .i64 f, .int .i64 t] 73))).look hf ht
  clear hS
  go_enter Tryz.func103, Tryz.ntmps103
  go_wp2
  go_ret
  exact ⟨rfl, hB _⟩

/-- The bans of a list. -/
def inL (l : List BanD) (f t : Int) : Prop := ∃ d ∈ l, d.fr = f ∧ d.to = t
set_option maxRecDepth 100000 in
set_option maxHeartbeats 1000000 in
theorem put_few (b n : Nat) (s : Int → Int → Prop) (a : Option Addr) (m c : Nat) (l : List BanD) (bs : List Nat) (w : World) (hS : BSet w b n s) (hI : BanL w a l bs) (hl : l.length = m) (hnm : n + m ≤ 2001) (hb : b ∉ bs) :
    Calls Tryz.prog 65 #[.map (some b), .slice a m c] w fun e w' => e = .returned (.tuple #[]) ∧ BSet w' b (n + m) (fun f t => inL l f t ∨ s f t) ∧ w.grownBy w' (some b) := by
  have Hl : Hid (l.length = m) := hl
  clear hl
  go_enter Tryz.func65, Tryz.ntmps65
  go_wp2
  go_loopw [5, 8] (fun _ i wr => ∃ k : Nat, k ≤ m ∧ i = .int .i64 k ∧ BSet wr b (n + k) (fun f t => inL (l.take k) f t ∨ s f t) ∧ w.grownBy wr (some b)) (fun _ i _ => m - (intOf i).toNat)
  case atStart => exact ⟨0, Nat.zero_le _, rfl, by rw [(by (funext f t; simp [inL]) : (fun f t => inL (l.take 0) f t ∨ s f t) = s)]; simpa using hS, World.grownBy.refl _ _⟩
  case round =>
    obtain ⟨k, hk, rfl, hSk, hgr⟩ := hrel
    by_cases hlt : k < m
    · have hkl : k < l.length := by rw [Hl.out]; exact hlt
      obtain ⟨b', off, f, rfl, hb', hx⟩ := (hI.grown banE hgr hb).out hkl
      obtain ⟨_, i0, i1, z0, z1⟩ := hx k hkl
      obtain ⟨d, Hd⟩ : ∃ d, Hid (d = l[k]) := ⟨_, (rfl : l[k] = _)⟩
      rw [← Hd.out] at z0 z1 i0 i1
      obtain ⟨V, HV⟩ : ∃ V, Hid (V = wr.alloc (.cells #[.int .i64 d.fr, .int .i64 d.to] 73)) := ⟨_, (rfl : wr.alloc (.cells #[.int .i64 d.fr, .int .i64 d.to] 73) = _)⟩
      have hbV : Bel wr V := by rw [HV.out]; exact bel_alloc (Bel.refl _) _
      have XV : Blk V wr.heap.size [.int .i64 d.fr, .int .i64 d.to] := by rw [HV.out]; exact Blk.new wr [.int .i64 d.fr, .int .i64 d.to] _
      have v0 : V.cell? ⟨wr.heap.size, 0, none⟩ = some (.int .i64 d.fr) := XV.cell 0 (by simp)
      have v1 : V.cell? ⟨wr.heap.size, 1, none⟩ = some (.int .i64 d.to) := XV.cell 1 (by simp)
      have vl := XV.lt
      have hSV := hSk.bel hbV
      obtain ⟨ln, hsz, hlen⟩ := hSV.lens
      have hsz' : (ln : Int) ≤ 2000 := by omega
      obtain ⟨w1, hput, hS1, hg1⟩ := hSV.put (by unfold maxLen; omega) i0 i1
      have HS1 : Hid (BSet w1 b (n + (k + 1)) (fun f t => inL (l.take (k + 1)) f t ∨ s f t)) := by
        have e : (fun f' t' => (f' = d.fr ∧ t' = d.to) ∨ (inL (l.take k) f' t' ∨ s f' t')) = (fun f t => inL (l.take (k + 1)) f t ∨ s f t) := by
          funext f' t'
          rw [List.take_succ_eq_append_getElem hkl]
          simp only [inL, List.mem_append, List.mem_singleton, ← Hd.out, eq_iff_iff]
          constructor
          · rintro (⟨h1, h2⟩ | ⟨x, hx, h⟩ | h)
            · exact .inl ⟨d, .inr rfl, h1.symm, h2.symm⟩
            · exact .inl ⟨x, .inl hx, h⟩
            · exact .inr h
          · rintro (⟨x, hx | hx, h1, h2⟩ | h)
            · exact .inr (.inl ⟨x, hx, h1, h2⟩)
            · subst hx; exact .inl ⟨h1.symm, h2.symm⟩
            · exact .inr (.inr h)
        rw [e] at hS1
        exact hS1
      have hG1 := (grown_step hgr hbV).trans hg1
      clear hx hI hSk hS hS1 hgr hsz hSV XV i0 i1
      go_upto_region 3 with fail
      rw [← HV.out]
      clear z0 z1 hb'
      go_wp2
      go_roundw
      case rel => exact ⟨k + 1, by omega, by go_num, HS1.out, hG1⟩
      case measure => simp [intOf]; omega
    · have e : k = m := by omega
      subst e
      have HS1 : Hid (BSet wr b (n + k) (fun f t => inL l f t ∨ s f t)) := by
        rw [List.take_of_length_le (by rw [Hl.out]; exact Nat.le_refl _)] at hSk
        exact hSk
      clear hSk
      go_wp2
      go_end0
      exact ⟨rfl, HS1.out, hgr⟩
end Go.Proofs.YtdlgehnoiaoneaaGreatDoor

namespace Go.Proofs.YtdlgehnoiaoneaaGreatDoor
open Go.RowKit Go.Maps

theorem hatF {v : Value} {g n c H : Nat} (h : v.ownBlock = some g ∨ g = H) : (Value.slice (some ⟨g, 0, none⟩) n c).ownBlock = v.ownBlock ∨ (Value.slice (some ⟨g, 0, none⟩) n c).ownBlock = some H := by
  rcases h with h | h
  · exact .inl h.symm
  · exact .inr (by rw [h]; rfl)
end Go.Proofs.YtdlgehnoiaoneaaGreatDoor

namespace Go.Proofs.YtdlgehnoiaoneaaGreatDoor
open Go.RowKit Go.Maps

theorem Gr.kept {α : Type} {q : Nat} {E : Elem α} {P : α → Prop} {cs : α → List Value} (hF : Flat q E P cs) {T : TypeId} {lo : Nat} {w w' : World} {v : Value} {l : List α} {R : Nat → List Value} {row : Option Nat} (h : Gr q (flatV P cs) T lo w v l R (fun _ => []))
    (hg : w.grownBy w' row) (hne : v.ownBlock = none ∨ v.ownBlock ≠ row) : Gr q (flatV P cs) T lo w' v l R (fun _ => []) :=
  Gr.alike hF.stays h (h.own.kept hg hne) (fun _ _ _ hx => nomatch hx)
theorem Blk.kept {w w' : World} {B : Nat} {vs : List Value} {row : Option Nat} (h : Blk w B vs) (hg : w.grownBy w' row) (hne : some B ≠ row) : Blk w' B vs :=
  ⟨Nat.lt_of_lt_of_le h.lt hg.size, fun j hj => by rw [World.cell?_of_block (hg.block B h.lt hne)]; exact h.cell j hj, fun j => by rw [World.frozen?_of_block (hg.block B h.lt hne)]; exact h.free j⟩
theorem bel_none {w w' : World} (h : Bel w w') : w.grownBy w' none := ⟨h.out.os, h.out.tape, h.out.output, h.out.size, fun k hk _ => h.out.block k hk⟩
theorem setCell_grown (w : World) (g o : Nat) (u : Value) : w.grownBy (w.setCell ⟨g, o, none⟩ u) (some g) :=
  ⟨rfl, rfl, rfl, by simp, fun k _ hk => heap_setCell_other w ⟨g, o, none⟩ k u (fun e => hk (by simp [e]))⟩
def intsN (l : List Nat) : List Value := l.map fun (i : Nat) => Value.int .i64 (i : Int)
end Go.Proofs.YtdlgehnoiaoneaaGreatDoor

namespace Go.Proofs.YtdlgehnoiaoneaaGreatDoor
open Go.RowKit Go.Maps

/-- The blocks of which X holds stay. -/
structure Frx (X : Nat → Prop) (w w' : World) : Prop where
  os : w'.os = w.os
  tape : w'.tape = w.tape
  output : w'.output = w.output
  size : w.heap.size ≤ w'.heap.size
  block : ∀ k, k < w.heap.size → X k → w'.heap[k]? = w.heap[k]?
theorem Frx.refl (X : Nat → Prop) (w : World) : Frx X w w := ⟨rfl, rfl, rfl, Nat.le_refl _, fun _ _ _ => rfl⟩
theorem Frx.trans {X : Nat → Prop} {a b c : World} (h : Frx X a b) (k : Frx X b c) : Frx X a c :=
  ⟨k.os.trans h.os, k.tape.trans h.tape, k.output.trans h.output, Nat.le_trans h.size k.size, fun i hi hx => (k.block i (Nat.lt_of_lt_of_le hi h.size) hx).trans (h.block i hi hx)⟩
theorem Frx.grow {X : Nat → Prop} {a b : World} {row : Option Nat} (h : a.grownBy b row) (hr : ∀ x, row = some x → ¬ X x) : Frx X a b :=
  ⟨h.os, h.tape, h.output, h.size, fun k hk hx => h.block k hk fun e => hr k e.symm hx⟩
theorem Frx.bel {X : Nat → Prop} {a b : World} (h : Bel a b) : Frx X a b := ⟨h.out.os, h.out.tape, h.out.output, h.out.size, fun k hk _ => h.out.block k hk⟩
theorem Frx.blk {X : Nat → Prop} {a b : World} {B : Nat} {vs : List Value} (h : Frx X a b) (k : Blk a B vs) (hx : X B) : Blk b B vs :=
  ⟨Nat.lt_of_lt_of_le k.lt h.size, fun j hj => by rw [World.cell?_of_block (h.block B k.lt hx)]; exact k.cell j hj, fun j => by rw [World.frozen?_of_block (h.block B k.lt hx)]; exact k.free j⟩
theorem Frx.sl {α : Type} {q : Nat} {E : Elem α} (hE : Stays q E) {X : Nat → Prop} {w w' : World} {a : Option Addr} {l : List α} {bs : List Nat} (g : Frx X w w') (h : Sl q E w a l bs) (hn : ∀ x ∈ bs, X x) : Sl q E w' a l bs :=
  h.alike hE fun b hb => by
    have hl := h.lt hE b hb
    have e := g.block b hl (hn b hb)
    exact ⟨Nat.lt_of_lt_of_le hl g.size, fun o => World.cell?_of_block e, fun o => World.frozen?_of_block e⟩
theorem Frx.below {X : Nat → Prop} {a b : World} {N : Nat} (h : Frx X a b) (hx : ∀ k, k < N → X k) (hN : N ≤ a.heap.size) : Below N a b :=
  ⟨h.os, h.tape, h.output, h.size, fun k hk => h.block k (by omega) (hx k hk)⟩
theorem Frx.bset {X : Nat → Prop} {a b : World} {M n : Nat} {s : Int → Int → Prop} (h : Frx X a b) (k : BSet a M n s) (hx : X M) : BSet b M n s := by
  obtain ⟨D, ⟨es, clock, h1, h2⟩, h3⟩ := k
  exact ⟨D, ⟨es, clock, by rw [h.block M (by have := World.ownsMap.lt (⟨es, clock, h1, h2⟩ : a.ownsMap Tryz.prog 73 unitElem M n D); exact this) hx]; exact h1, h2⟩, h3⟩

theorem blk_of {w : World} {N : Nat} {vs : List Value} {t : TypeId} (h : w.heap[N]? = some (.cells vs.toArray t)) : Blk w N vs := by
  refine ⟨?_, fun j hj => ?_, fun j => ?_⟩
  · exact (Array.getElem?_eq_some_iff.1 h).1
  · simp [World.cell?, h, hj]
  · simp [World.frozen?, h]

/-- Two tables of n rows of numbers, in the blocks B; their rows of the call's own from lo on. -/
structure Tabs (lo : Nat) (w : World) (B : Bool → Nat) (n : Nat) (V : Bool → Nat → Value) (F : Bool → Nat → List Nat) : Prop where
  lt : ∀ t, B t < lo
  sz : lo ≤ w.heap.size
  ne : B true ≠ B false
  cell : ∀ t p, p < n → w.cell? ⟨B t, p, none⟩ = some (V t p)
  free : ∀ t p, w.frozen? ⟨B t, p, none⟩ = false
  rows : ∀ t p, p < n → w.ownsRow lo 2 1 (V t p) (F t p).length (intsN (F t p))
  dis : ∀ t p t' p', p < n → p' < n → ¬ (t = t' ∧ p = p') → (V t p).ownBlock = none ∨ (V t p).ownBlock ≠ (V t' p').ownBlock
variable {lo : Nat} {w wa wb : World} {B : Bool → Nat} {n : Nat} {V : Bool → Nat → Value} {F : Bool → Nat → List Nat}
theorem Tabs.bel (h : Tabs lo w B n V F) (hb : Bel w wa) : Tabs lo wa B n V F :=
  ⟨h.lt, Nat.le_trans h.sz hb.out.size, h.ne, fun t p hp => by have := h.lt t; have := h.sz; exact bel_cellM hb (by omega) (h.cell t p hp), fun t p => by have := h.lt t; have := h.sz; rw [hb.out.frozen (p := ⟨B t, p, none⟩) (show B t < w.heap.size by omega)]; exact h.free t p,
    fun t p hp => (h.rows t p hp).kept (bel_none hb) (Classical.em _), h.dis⟩
theorem Tabs.row_ne (h : Tabs lo w B n V F) {t : Bool} {p : Nat} (hp : p < n) (k : Nat) (hk : k < lo) : some k ≠ (V t p).ownBlock := fun e => by have := ((h.rows t p hp).lt k e.symm).1; omega
/-- One number more in one row. -/
theorem Tabs.step (h : Tabs lo w B n V F) (hb : Bel w wa) {t : Bool} {p : Nat} (hp : p < n) {i : Nat} {v' : Value}
    (ho : wb.ownsRow lo 2 1 v' ((F t p).length + 1) (intsN (F t p) ++ [.int .i64 (i : Nat)])) (hg : wa.grownBy wb (V t p).ownBlock) (hat : v'.ownBlock = (V t p).ownBlock ∨ v'.ownBlock = some wa.heap.size) :
    ∃ V', Tabs lo (wb.setCell ⟨B t, p, none⟩ v') B n V' (fun t' p' => if t' = t ∧ p' = p then F t p ++ [i] else F t' p') ∧ Frx (fun k => k ≠ B true ∧ k ≠ B false ∧ (k < lo ∨ some k ≠ (V t p).ownBlock)) w (wb.setCell ⟨B t, p, none⟩ v') ∧ ∀ t' p' x, p' < n → (V' t' p').ownBlock = some x → (V t' p').ownBlock = some x ∨ x = wa.heap.size := by
  have ha := h.bel hb
  have hG0 := setCell_grown wb (B t) p v'
  have hBn : ∀ t', B t' < wa.heap.size := fun t' => by have := h.lt t'; have := ha.sz; omega
  have offB : ∀ {v : Value} {m : Nat} {xs : List Value} (t' : Bool), wb.ownsRow lo 2 1 v m xs → v.ownBlock = none ∨ v.ownBlock ≠ some (B t') := fun t' ho => .inr fun e => by have := (ho.lt _ e).1; have := h.lt t'; omega
  have hsame : ∀ t', wb.heap[B t']? = wa.heap[B t']? := fun t' => hg.block (B t') (hBn t') (ha.row_ne hp (B t') (h.lt t'))
  refine ⟨fun t' p' => if t' = t ∧ p' = p then v' else V t' p', ⟨h.lt, ?_, h.ne, fun t' p' hp' => ?_, fun t' p' => ?_, fun t' p' hp' => ?_, fun t1 p1 t2 p2 h1 h2 hd => ?_⟩, ?_, fun t' p' x _ hx => ?_⟩
  · have := hg.size; have := ha.sz; simp [World.setCell]; omega
  · by_cases e : t' = t ∧ p' = p
    · obtain ⟨rfl, rfl⟩ := e
      rw [if_pos ⟨rfl, rfl⟩]
      exact World.cell?_setCell_same _ _ _ (by rw [World.cell?_of_block (a := ⟨B t', p', none⟩) (hsame t')]; exact ha.cell t' p' hp')
    · rw [if_neg e, World.cell?_setCell_other _ _ _ _ (fun e2 => e (by
        have e3 := congrArg Addr.block e2
        have e4 := congrArg Addr.off e2
        simp only at e3 e4
        refine ⟨?_, e4.symm⟩
        have := h.ne
        cases t <;> cases t' <;> first | rfl | exact absurd e3 this | exact absurd e3.symm this)), World.cell?_of_block (a := ⟨B t', p', none⟩) (hsame t')]
      exact ha.cell t' p' hp'
  · rw [World.frozen?_setCell, World.frozen?_of_block (a := ⟨B t', p', none⟩) (hsame t')]; exact ha.free t' p'
  · show (wb.setCell ⟨B t, p, none⟩ v').ownsRow lo 2 1 (if t' = t ∧ p' = p then v' else V t' p') (if t' = t ∧ p' = p then F t p ++ [i] else F t' p').length (intsN (if t' = t ∧ p' = p then F t p ++ [i] else F t' p'))
    by_cases e : t' = t ∧ p' = p
    · rw [if_pos e, if_pos e]
      have e2 : intsN (F t p ++ [i]) = intsN (F t p) ++ [.int .i64 (i : Nat)] := by simp [intsN]
      rw [e2, List.length_append]
      exact ho.kept hG0 (offB t ho)
    · rw [if_neg e, if_neg e]
      have hr := (ha.rows t' p' hp').kept hg (h.dis t' p' t p hp' hp e)
      exact hr.kept hG0 (offB t hr)
  · have hlt : ∀ {t' p'}, p' < n → (V t' p').ownBlock ≠ some wa.heap.size := fun hp' e => by have := ((ha.rows _ _ hp').lt _ e).2; omega
    show (if t1 = t ∧ p1 = p then v' else V t1 p1).ownBlock = none ∨ (if t1 = t ∧ p1 = p then v' else V t1 p1).ownBlock ≠ (if t2 = t ∧ p2 = p then v' else V t2 p2).ownBlock
    by_cases e : t1 = t ∧ p1 = p <;> by_cases e' : t2 = t ∧ p2 = p
    · exact absurd ⟨e.1.trans e'.1.symm, e.2.trans e'.2.symm⟩ hd
    · rw [if_pos e, if_neg e']
      rcases hat with hat | hat
      · rw [hat, ← e.1, ← e.2]; exact h.dis t1 p1 t2 p2 h1 h2 hd
      · rw [hat]; exact .inr (hlt h2).symm
    · rw [if_neg e, if_pos e']
      rcases hat with hat | hat
      · rw [hat, ← e'.1, ← e'.2]; exact h.dis t1 p1 t2 p2 h1 h2 hd
      · rw [hat]; exact .inr (hlt h1)
    · rw [if_neg e, if_neg e']; exact h.dis t1 p1 t2 p2 h1 h2 hd
  · refine (Frx.bel hb).trans ((Frx.grow hg fun x hx hX => ?_).trans (Frx.grow hG0 fun x hx hX => ?_))
    · rcases hX.2.2 with h1 | h1
      · exact ha.row_ne hp x h1 hx.symm
      · exact h1 hx.symm
    · injection hx with hx
      cases t
      · exact hX.2.1 hx.symm
      · exact hX.1 hx.symm
  · change (if t' = t ∧ p' = p then v' else V t' p').ownBlock = some x at hx
    split at hx
    · rename_i e
      rcases hat with hat | hat
      · rw [e.1, e.2, ← hat]; exact .inl hx
      · rw [hat] at hx; injection hx with hx; exact .inr hx.symm
    · exact .inl hx

theorem Frx.then {X Y : Nat → Prop} {a b c : World} (h : Frx X a b) (k : Frx Y b c) (hi : ∀ k, k < a.heap.size → X k → Y k) : Frx X a c :=
  ⟨k.os.trans h.os, k.tape.trans h.tape, k.output.trans h.output, Nat.le_trans h.size k.size, fun i hl hx => (k.block i (Nat.lt_of_lt_of_le hl h.size) (hi i hl hx)).trans (h.block i hl hx)⟩
theorem Tabs.kept (h : Tabs lo w B n V F) {R : Nat} (hg : w.grownBy wa (some R)) (hR : R < lo) (h1 : R ≠ B true) (h2 : R ≠ B false) : Tabs lo wa B n V F := by
  have hs : ∀ t, wa.heap[B t]? = w.heap[B t]? := fun t => hg.block (B t) (by have := h.lt t; have := h.sz; omega) (fun e => by injection e with e; cases t <;> simp_all)
  exact ⟨h.lt, Nat.le_trans h.sz hg.size, h.ne, fun t p hp => by rw [World.cell?_of_block (a := ⟨B t, p, none⟩) (hs t)]; exact h.cell t p hp, fun t p => by rw [World.frozen?_of_block (a := ⟨B t, p, none⟩) (hs t)]; exact h.free t p,
    fun t p hp => (h.rows t p hp).kept hg (.inr fun e => by have := ((h.rows t p hp).lt _ e).1; omega), h.dis⟩
/-- Where a road begins (true), where it ends. -/
def endR (t : Bool) (r : RoadD) : Int := if t then r.fr else r.to
/-- Which of the first k roads begin (end) at p. -/
def bgF (rs : List RoadD) (k : Nat) (t : Bool) (p : Nat) : List Nat := (List.range k).filter fun i => (rs[i]?).any fun r => decide (endR t r = (p : Int))
theorem bgF_zero (rs : List RoadD) (t : Bool) (p : Nat) : bgF rs 0 t p = [] := rfl
theorem bgF_succ {rs : List RoadD} {k : Nat} (hk : k < rs.length) (t : Bool) (p : Nat) : bgF rs (k + 1) t p = if endR t rs[k] = (p : Int) then bgF rs k t p ++ [k] else bgF rs k t p := by
  unfold bgF
  rw [List.range_succ, List.filter_append]
  by_cases h : endR t rs[k] = (p : Int)
  · rw [if_pos h]; simp [hk, h]
  · rw [if_neg h]; simp [hk, h]
theorem bgF_len (rs : List RoadD) (k : Nat) (t : Bool) (p : Nat) : (bgF rs k t p).length ≤ k := by
  unfold bgF
  exact Nat.le_trans (List.length_filter_le _ _) (by simp)
theorem bgF_mem {rs : List RoadD} {k : Nat} {t : Bool} {p i : Nat} (h : i ∈ bgF rs k t p) : i < k := List.mem_range.1 (List.mem_filter.1 h).1
/-- Four blocks more. -/
theorem four0 (w : World) (a b c d : Obj) : ((((w.alloc a).alloc b).alloc c).alloc d).drew.heap[w.heap.size]? = some a := by
  rw [((bel_alloc (bel_alloc (bel_alloc (Bel.refl (w.alloc a)) b) c) d).drew).out.block _ (by simp)]
  exact heap_alloc_new w a
theorem four1 (w : World) (a b c d : Obj) : ((((w.alloc a).alloc b).alloc c).alloc d).drew.heap[w.heap.size + 1]? = some b := by
  rw [((bel_alloc (bel_alloc (Bel.refl ((w.alloc a).alloc b)) c) d).drew).out.block _ (by simp)]
  simpa using heap_alloc_new (w.alloc a) b
theorem four2 (w : World) (a b c d : Obj) : ((((w.alloc a).alloc b).alloc c).alloc d).drew.heap[w.heap.size + 1 + 1]? = some c := by
  rw [((bel_alloc (Bel.refl (((w.alloc a).alloc b).alloc c)) d).drew).out.block _ (by simp)]
  simpa using heap_alloc_new ((w.alloc a).alloc b) c
theorem four3 (w : World) (a b c d : Obj) : ((((w.alloc a).alloc b).alloc c).alloc d).drew.heap[w.heap.size + 1 + 1 + 1]? = some d := by
  rw [((Bel.refl ((((w.alloc a).alloc b).alloc c).alloc d)).drew).out.block _ (by simp)]
  simpa using heap_alloc_new (((w.alloc a).alloc b).alloc c) d
theorem fourB (w : World) (a b c d : Obj) : Bel w ((((w.alloc a).alloc b).alloc c).alloc d).drew := (bel_alloc (bel_alloc (bel_alloc (bel_alloc (Bel.refl w) _) _) _) _).drew
theorem fourS (w : World) (a b c d : Obj) : ((((w.alloc a).alloc b).alloc c).alloc d).drew.heap.size = w.heap.size + 4 := by
  show ((((w.alloc a).alloc b).alloc c).alloc d).heap.size = _
  simp
/-- The network's block, its two tables' blocks and its map, new and empty. -/
structure CutN (w1 : World) (s0 s1 s2 : Value) (n : Nat) (a : Value) (wx : World) : Prop where
  out : ∃ N Bb Be M, a = .pointer (some ⟨N, 0, none⟩) ∧ wx.heap[N]? = some (.cells #[s0, s1, s2, .slice (some ⟨Bb, 0, none⟩) n n, .slice (some ⟨Be, 0, none⟩) n n, .map (some M)] 89) ∧
    wx.heap[Bb]? = some (.cells (madeCells #[.slice none 0 0] n) 46) ∧ wx.heap[Be]? = some (.cells (madeCells #[.slice none 0 0] n) 46) ∧ wx.heap[M]? = some (.map #[] 0) ∧
    Bel w1 wx ∧ wx.heap.size = w1.heap.size + 4 ∧ (w1.heap.size ≤ N ∧ w1.heap.size ≤ Bb ∧ w1.heap.size ≤ Be ∧ w1.heap.size ≤ M) ∧ N ≠ Bb ∧ N ≠ Be ∧ N ≠ M ∧ Bb ≠ Be ∧ Bb ≠ M ∧ Be ≠ M
theorem cell_made {w : World} {B n : Nat} {t : TypeId} (h : w.heap[B]? = some (.cells (madeCells #[.slice none 0 0] n) t)) : (∀ p, p < n → w.cell? ⟨B, p, none⟩ = some (.slice none 0 0)) ∧ (∀ p, w.frozen? ⟨B, p, none⟩ = false) := by
  refine ⟨fun p hp => ?_, fun p => by simp [World.frozen?, h]⟩
  simp only [World.cell?, h]
  rw [← Array.getElem?_toList, toList_madeCells_one]
  simp [hp]
theorem Tabs.new {lo n : Nat} {w : World} {Bb Be : Nat} {t : TypeId} (h1 : w.heap[Bb]? = some (.cells (madeCells #[.slice none 0 0] n) t)) (h2 : w.heap[Be]? = some (.cells (madeCells #[.slice none 0 0] n) t)) (hne : Bb ≠ Be) (hb : Bb < lo) (he : Be < lo) (hlo : lo ≤ w.heap.size) (rs : List RoadD) :
    Tabs lo w (fun t => cond t Bb Be) n (fun _ _ => .slice none 0 0) (bgF rs 0) := by
  obtain ⟨c1, f1⟩ := cell_made h1
  obtain ⟨c2, f2⟩ := cell_made h2
  exact ⟨fun t => by cases t <;> assumption, hlo, hne, fun t p hp => (match t with | false => c2 p hp | true => c1 p hp), fun t p => (match t with | false => f2 p | true => f1 p), fun t p _ => by rw [bgF_zero]; exact World.ownsRow_nil _ _ _ _, fun _ _ _ _ _ _ _ => .inl rfl⟩
theorem BSet.of {w : World} {M : Nat} (h : w.heap[M]? = some (.map #[] 0)) : BSet w M 0 (fun _ _ => False) := by
  obtain ⟨D, ⟨es, clock, h1, h2⟩, h3⟩ := BSet.new w
  have e : (Obj.map es clock) = .map #[] 0 := by
    have := heap_alloc_new w (.map #[] 0)
    rw [this] at h1
    injection h1 with h1
    exact h1.symm
  injection e with e1 e2
  subst e1 e2
  exact ⟨D, ⟨#[], 0, h, h2⟩, h3⟩
end Go.Proofs.YtdlgehnoiaoneaaGreatDoor

namespace Go.Proofs.YtdlgehnoiaoneaaGreatDoor
open Go.RowKit Go.Maps

end Go.Proofs.YtdlgehnoiaoneaaGreatDoor
