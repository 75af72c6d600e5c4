/-
  Maps of the call's own, as functions: what is looked up, what is put; sets of Ids.
  Worlds that are alike but for one block; a set that is added to: contract.
  Contracts of what is asked of every node and of every way: for every list.
  Contract of what is asked of an area: for every area.
-/
import Derived.Test.YtldfcnlhjjiihaaGreatGB
import Derived.Maps.OwnSet
import Derived.Maps.OwnOps
import Derived.Deep.LoopGhost
import Derived.OwnWalk
import Derived.Maps.AppendAt
import Derived.Maps.Range
namespace Go.Proofs.YtldfcnlhjjiihaaGreat
open Go.RowKit Go.Maps

theorem lawI : Keyed Tryz.prog 2 := int_keyed Tryz.underlying2
theorem zeroI (w : World) : (zeroValue 3).run Tryz.prog w = .ok (.int .i64 0) w := by kernel_rfl
theorem wf_in {x : Int} (h : In64 x) : (Lit.int .i64 x).wf = true := by
  obtain ⟨h1, h2⟩ := h
  simp [Lit.wf, IntKind.min, IntKind.max, IntKind.signed, IntKind.bits]
  omega
theorem keyI {x : Int} (h : In64 x) : keyOf Tryz.prog 2 (.int .i64 x) = some (kI x) := keyOf_int_mk Tryz.underlying2 (wf_in h)
theorem kI_key (x : Int) : WideAt.IsKeyLit (kI x) := trivial
theorem kI_ne {x y : Int} (h : x ≠ y) : kI x ≠ kI y := fun e => h (by injection e)

/-- A map from Ids to places: at x it has what g says. -/
def MapAt (w : World) (b n : Nat) (g : Int → Option Int) : Prop :=
  ∃ D : DataW Unit, w.ownsMap Tryz.prog 2 (plainElem Tryz.prog 3) b n D ∧ ∀ x, Maps.has D (kI x) = (g x).isSome ∧ D.atKey (kI x) (.lit (.int .i64 0)) = .lit (.int .i64 ((g x).getD 0))
theorem MapAt.new (w : World) : MapAt (w.alloc (.map #[] 0)) w.heap.size 0 (fun _ => none) :=
  ⟨.map [], World.ownsMap_made w _ _ _, fun _ => ⟨rfl, rfl⟩⟩
theorem ownsMap_bel {w w' : World} {P : Program} {k : TypeId} {R : Value → Option (DataW Unit × List MemPlace)} {b n : Nat} {D : DataW Unit} (h : w.ownsMap P k R b n D) (hb : Bel w w') : w'.ownsMap P k R b n D := by
  have hl := h.lt
  obtain ⟨es, clock, h1, h2⟩ := h
  exact ⟨es, clock, by rw [hb.out.block b hl]; exact h1, h2⟩
theorem MapAt.bel {w w' : World} {b n : Nat} {g : Int → Option Int} (h : MapAt w b n g) (hb : Bel w w') : MapAt w' b n g := by
  obtain ⟨D, h1, h2⟩ := h
  exact ⟨D, ownsMap_bel h1 hb, h2⟩
theorem MapAt.lt {w : World} {b n : Nat} {g : Int → Option Int} (h : MapAt w b n g) : b < w.heap.size := by
  obtain ⟨D, h1, _⟩ := h; exact h1.lt
set_option maxRecDepth 100000 in
theorem MapAt.look {w : World} {b n : Nat} {g : Int → Option Int} (h : MapAt w b n g) {x : Int} (hx : In64 x) :
    (Instr.lookup 74 (.map (some b)) (.int .i64 x) true).run Tryz.prog w = .ok (.tuple #[.int .i64 ((g x).getD 0), .bool (g x).isSome]) w := by
  obtain ⟨D, h1, h2⟩ := h
  obtain ⟨v, ps, hrun, hv⟩ := h1.look_ok lawI Tryz.underlying74 (zeroI w) (plainElem_int Tryz.underlying3 (by decide)) (keyI hx)
  obtain ⟨c, rfl, hc, _⟩ := plainElem_int_inv Tryz.underlying3 hv
  rw [hrun, (h2 x).1]
  have e := congrArg Prod.fst hc
  rw [(h2 x).2] at e
  injection e with e
  injection e with e1 e2
  rw [e2]
set_option maxRecDepth 100000 in
theorem MapAt.at {w : World} {b n : Nat} {g : Int → Option Int} (h : MapAt w b n g) {x : Int} (hx : In64 x) :
    (Instr.lookup 74 (.map (some b)) (.int .i64 x) false).run Tryz.prog w = .ok (.int .i64 ((g x).getD 0)) w := by
  obtain ⟨D, h1, h2⟩ := h
  obtain ⟨c, hrun, hc, _⟩ := h1.lookup_int lawI Tryz.underlying74 Tryz.underlying3 (zeroI w) (keyI hx)
  rw [hrun]
  rw [(h2 x).2] at hc
  injection hc with e
  injection e with e1 e2
  rw [e2]
theorem MapAt.put {w : World} {b n : Nat} {g : Int → Option Int} (h : MapAt w b n g) (hn : n < maxLen) {x c : Int} (hx : In64 x) (hc : In64 c) :
    ∃ w', (Instr.mapUpdate 74 (.map (some b)) (.int .i64 x) (.int .i64 c)).run Tryz.prog w = .ok () w' ∧ MapAt w' b (n + 1) (fun y => if y = x then some c else g y) ∧ w.grownBy w' (some b) := by
  obtain ⟨D, h1, h2⟩ := h
  obtain ⟨w', hrun, ho, hg⟩ := h1.update lawI Tryz.underlying74 hn (keyI hx) (plainElem_int Tryz.underlying3 (wf_in hc))
  refine ⟨w', hrun, ⟨_, ho, fun y => ?_⟩, hg⟩
  by_cases e : y = x
  · subst e
    simp only [if_true]
    exact ⟨has_put_same h1.isMap (kI_key _) _, atKey_put_same h1.isMap (kI_key _) _ _⟩
  · simp only [if_neg e]
    rw [has_put_other (kI_ne e), atKey_put_other (kI_ne e)]
    exact h2 y

/-- A set of Ids. -/
def SetAt (w : World) (b n : Nat) (s : Int → Prop) : Prop :=
  ∃ D : DataW Unit, w.ownsMap Tryz.prog 2 unitElem b n D ∧ ∀ x, Maps.has D (kI x) = bP (s x)
theorem SetAt.new (w : World) : SetAt (w.alloc (.map #[] 0)) w.heap.size 0 (fun _ => False) :=
  ⟨.map [], World.ownsMap_made w _ _ _, fun _ => (bP_false fun h => h).symm⟩
theorem SetAt.bel {w w' : World} {b n : Nat} {s : Int → Prop} (h : SetAt w b n s) (hb : Bel w w') : SetAt w' b n s := by
  obtain ⟨D, h1, h2⟩ := h
  exact ⟨D, ownsMap_bel h1 hb, h2⟩
theorem SetAt.lt {w : World} {b n : Nat} {s : Int → Prop} (h : SetAt w b n s) : b < w.heap.size := by
  obtain ⟨D, h1, _⟩ := h; exact h1.lt
theorem zeroU (w : World) : (zeroValue 211).run Tryz.prog w = .ok (.agg #[]) w := by kernel_rfl
theorem SetAt.look {w : World} {b n : Nat} {s : Int → Prop} (h : SetAt w b n s) {x : Int} (hx : In64 x) :
    (Instr.lookup 201 (.map (some b)) (.int .i64 x) true).run Tryz.prog w = .ok (.tuple #[.agg #[], .bool (bP (s x))]) w := by
  obtain ⟨D, h1, h2⟩ := h
  obtain ⟨v, ps, hrun, hv⟩ := h1.look_ok lawI Tryz.underlying201 (zeroU w) unitElem_mk (keyI hx)
  obtain ⟨rfl, _⟩ := unitElem_inv hv
  rw [hrun, h2 x]
theorem SetAt.put {w : World} {b n : Nat} {s : Int → Prop} (h : SetAt w b n s) (hn : n < maxLen) {x : Int} (hx : In64 x) :
    ∃ w', (Instr.mapUpdate 201 (.map (some b)) (.int .i64 x) (.agg #[])).run Tryz.prog w = .ok () w' ∧ SetAt w' b (n + 1) (fun y => y = x ∨ s y) ∧ w.grownBy w' (some b) := by
  obtain ⟨D, h1, h2⟩ := h
  obtain ⟨w', hrun, ho, hg⟩ := h1.update lawI Tryz.underlying201 hn (keyI hx) unitElem_mk
  refine ⟨w', hrun, ⟨_, ho, fun y => ?_⟩, hg⟩
  by_cases e : y = x
  · subst e
    rw [has_put_same h1.isMap (kI_key _)]
    exact (bP_true (.inl rfl)).symm
  · rw [has_put_other (kI_ne e), h2 y]
    by_cases hs : s y
    · rw [bP_true hs, bP_true (.inr hs)]
    · rw [bP_false hs, bP_false (fun h => h.elim e hs)]

theorem run_mkMap (n : Nat) (w : World) : (Instr.makeMap 74 (some (.int .i64 n))).run Tryz.prog w = .ok (.map (some w.heap.size)) (w.alloc (.map #[] 0)) := by
  simp [Instr.makeMap, run_underlying Tryz.underlying74, Result.andThen, asInt]
  rfl

theorem has_any (b n : Nat) (s : Int → Prop) (x : Int) (w : World) (hS : SetAt w b n s) (hx : In64 x) :
    Calls Tryz.prog 121 #[.map (some b), .int .i64 x] w fun e w' => e = .returned (.bool (bP (s x))) ∧ Bel w w' := by
  have hl := hS.look hx
  go_enter Tryz.func121, Tryz.ntmps121
  go_wp2
  go_ret
  exact ⟨rfl, bel_alloc (Bel.refl _) _⟩
end Go.Proofs.YtldfcnlhjjiihaaGreat

namespace Go.Proofs.YtldfcnlhjjiihaaGreat
open Go.RowKit Go.Maps

theorem grown_of_bel {w w' : World} (h : Bel w w') (row : Option Nat) : w.grownBy w' row := ⟨h.out.os, h.out.tape, h.out.output, h.out.size, fun i hi _ => h.out.block i hi⟩
theorem bel_grow {w a b : World} {row : Option Nat} (h : Bel w a) (g : a.grownBy b row) (hr : ∀ k, row = some k → w.heap.size ≤ k) : Bel w b := Below.grown h g h.out.size hr
theorem grown_step {w a b : World} {row : Option Nat} (h : w.grownBy a row) (k : Bel a b) : w.grownBy b row := h.trans (grown_of_bel k row)
theorem grown_set {w a : World} {C : Nat} (h : w.grownBy a (some C)) (o : Nat) (v : Value) : w.grownBy (a.setCell ⟨C, o, none⟩ v) (some C) :=
  h.trans ⟨rfl, rfl, rfl, by simp [World.setCell], fun i _ hi => Below.heap_setCell a ⟨C, o, none⟩ v i (fun e => hi (by rw [e]))⟩
theorem grown_alike {w w' : World} {C : Nat} (h : w.grownBy w' (some C)) {bs : List Nat} (hs : ∀ x ∈ bs, x < w.heap.size) (hC : C ∉ bs) : Alike w w' bs := by
  intro b hb
  have e : w'.heap[b]? = w.heap[b]? := h.block b (hs b hb) (fun e => hC (by injection e with e; exact e ▸ hb))
  exact ⟨Nat.lt_of_lt_of_le (hs b hb) h.size, fun o => World.cell?_of_block (a := ⟨b, o, none⟩) e, fun o => World.frozen?_of_block (a := ⟨b, o, none⟩) e⟩
theorem Sl.grown {α : Type} {q : Nat} {E : Elem α} (hE : Stays q E) {w w' : World} {C : Nat} {a : Option Addr} {l : List α} {bs : List Nat} (h : Sl q E w a l bs) (hg : w.grownBy w' (some C)) (hC : C ∉ bs) : Sl q E w' a l bs :=
  h.alike hE (grown_alike hg (h.lt hE) hC)
theorem Blk.grown {w w' : World} {C B : Nat} {vs : List Value} (h : Blk w B vs) (hg : w.grownBy w' (some C)) (hne : B ≠ C) : Blk w' B vs := by
  have e : w'.heap[B]? = w.heap[B]? := hg.block B h.lt (fun e => hne (by injection e))
  exact ⟨Nat.lt_of_lt_of_le h.lt hg.size, fun j hj => (World.cell?_of_block (a := ⟨B, j, none⟩) e).trans (h.cell j hj), fun j => (World.frozen?_of_block (a := ⟨B, j, none⟩) e).trans (h.free j)⟩
theorem MapAt.grown {w w' : World} {C b n : Nat} {g : Int → Option Int} (h : MapAt w b n g) (hg : w.grownBy w' (some C)) (hne : b ≠ C) : MapAt w' b n g := by
  obtain ⟨D, h1, h2⟩ := h
  exact ⟨D, h1.kept hg (fun e => hne (by injection e)), h2⟩

set_option maxRecDepth 100000 in
set_option maxHeartbeats 1000000 in
theorem add_any (b n : Nat) (s : Int → Prop) (a : Option Addr) (m c : Nat) (l : List Int) (bs : List Nat) (w : World) (hS : SetAt w b n s) (hI : Ints w a l bs) (hl : l.length = m) (hm : m ≤ 1048576) (hnm : n ≤ 16777216) (hb : b ∉ bs) :
    Calls Tryz.prog 122 #[.map (some b), .slice a m c] w fun e w' => e = .returned (.tuple #[]) ∧ SetAt w' b (n + m) (fun y => y ∈ l ∨ s y) ∧ w.grownBy w' (some b) := by
  have Hl : Hid (l.length = m) := hl
  clear hl
  go_enter Tryz.func122, Tryz.ntmps122
  go_wp2
  go_loopw [5, 8] (fun _ i wr => ∃ k : Nat, k ≤ m ∧ i = .int .i64 k ∧ SetAt wr b (n + k) (fun y => y ∈ l.take k ∨ s y) ∧ w.grownBy wr (some b)) (fun _ i _ => m - (intOf i).toNat)
  case atStart => exact ⟨0, Nat.zero_le _, rfl, by simpa using hS, World.grownBy.refl _ _⟩
  case round =>
    obtain ⟨k, hk, rfl, hSk, hgr⟩ := hrel
    by_cases hlt : k < m
    · have hkl : k < l.length := by rw [Hl.out]; exact hlt
      obtain ⟨b', off, f, rfl, hb', hx⟩ := (hI.grown intE hgr hb).out hkl
      obtain ⟨_, ix, cx⟩ := hx k hkl
      simp only [Nat.mul_one] at cx
      obtain ⟨x, Hx⟩ : ∃ x, Hid (x = l[k]) := ⟨_, (rfl : l[k] = _)⟩
      rw [← Hx.out] at cx ix
      obtain ⟨w1, hput, hS1, hg1⟩ := hSk.put (by unfold maxLen; omega) ix
      have HS1 : Hid (SetAt w1 b (n + (k + 1)) (fun y => y ∈ l.take (k + 1) ∨ s y)) := by
        have e : (fun y => y = x ∨ (y ∈ l.take k ∨ s y)) = (fun y => y ∈ l.take (k + 1) ∨ s y) := by
          funext y
          rw [List.take_succ_eq_append_getElem hkl]
          simp only [List.mem_append, List.mem_singleton, ← Hx.out, eq_iff_iff]
          constructor
          · rintro (h | h | h)
            · exact .inl (.inr h)
            · exact .inl (.inl h)
            · exact .inr h
          · rintro ((h | h) | h)
            · exact .inr (.inl h)
            · exact .inl h
            · exact .inr (.inr h)
        rw [e] at hS1
        exact hS1
      have hG1 := hgr.trans hg1
      clear hx hI hSk hS hS1 hgr
      go_wp2
      go_roundw
      case rel => exact ⟨k + 1, by omega, by go_num, HS1.out, hG1⟩
      case measure => simp [intOf]; omega
    · have e : k = m := by omega
      subst e
      have HS1 : Hid (SetAt wr b (n + k) (fun y => y ∈ l ∨ s y)) := by
        rw [List.take_of_length_le (by rw [Hl.out]; exact Nat.le_refl _)] at hSk
        exact hSk
      clear hSk
      go_wp2
      go_end0
      exact ⟨rfl, HS1.out, hgr⟩
end Go.Proofs.YtldfcnlhjjiihaaGreat

namespace Go.Proofs.YtldfcnlhjjiihaaGreat
open Go.RowKit Go.Maps

theorem placed_any (id : Int) (a : Option Addr) (n c : Nat) (x y : Int) (w : World) :
    Calls Tryz.prog 90 #[.agg #[.int .i64 id, .slice a n c, .int .i64 x, .int .i64 y]] w fun e w' => e = .returned (.bool (pok x y)) ∧ Bel w w' := by
  go_enter Tryz.func90, Tryz.ntmps90
  go_wp2_with fail
  refine (pointOk_any _ _ _).mono ?_
  rintro e w1 ⟨rfl, hb1⟩
  go_wp2
  go_ret
  exact ⟨rfl, bel_step (bel_alloc (Bel.refl _) _) hb1⟩

set_option maxRecDepth 100000 in
set_option maxHeartbeats 1000000 in
theorem allN_any (a : Option Addr) (n c : Nat) (l : List NodeD) (bs : List Nat) (w : World) (hT : NRecs w a l bs) (hn : l.length = n) (hm : n ≤ 1048576) :
    Calls Tryz.prog 89 #[.slice a n c, .func (.func 90) #[] #[]] w fun e w' => e = .returned (.bool (bP (∀ i, i < n → nPk l i = true))) ∧ Bel w w' := by
  have Hn : Hid (l.length = n) := hn
  clear hn
  go_enter Tryz.func89, Tryz.ntmps89
  go_wp2
  go_loopw [6, 9] (fun _ i wr => ∃ k : Nat, k ≤ n ∧ i = .int .i64 k ∧ (∀ j, j < k → nPk l j = true) ∧ Bel w wr) (fun _ i _ => n - (intOf i).toNat)
  case atStart => exact ⟨0, Nat.zero_le _, rfl, fun j hj => absurd hj (Nat.not_lt_zero _), Bel.refl _⟩
  case round =>
    obtain ⟨k, hk, rfl, hall, hbel⟩ := hrel
    have H : Hid (∀ j, j < k → nPk l j = true) := hall
    clear hall
    by_cases hlt : k < n
    · have hkl : k < l.length := by rw [Hn.out]; exact hlt
      obtain ⟨b, off, f, rfl, hb, hx⟩ := (hT.bel nRecE hbel).out hkl
      obtain ⟨in0, _, _, c0, c2, c3, a1, k1, _, c1, t1⟩ := hx k hkl
      clear hx hT
      cases hf : pok l[k].x l[k].y
      · have HF : Hid (false = bP (∀ i, i < n → nPk l i = true)) := (bP_false fun h => by have := h k hlt; rw [nPk_at hkl, hf] at this; cases this).symm
        go_wp2_with fail
        refine (placed_any _ _ _ _ _ _ _).mono ?_
        rintro e w1 ⟨rfl, hb1⟩
        have hB1 := bel_step (bel_alloc hbel _) hb1
        go_wp2
        go_ret
        exact ⟨ret_bl HF.out, hB1⟩
      · have HA : Hid (nPk l k = true) := by rw [nPk_at hkl]; exact hf
        go_wp2_with fail
        refine (placed_any _ _ _ _ _ _ _).mono ?_
        rintro e w1 ⟨rfl, hb1⟩
        have hB1 := bel_step (bel_alloc hbel _) hb1
        go_wp2
        go_roundw
        case rel => exact ⟨k + 1, by omega, by go_num, fun j hj => by
                        (by_cases e : j = k)
                        · subst e; exact HA.out
                        · exact H.out j (by omega), hB1⟩
        case measure => simp [intOf]; omega
    · have HT : Hid (true = bP (∀ i, i < n → nPk l i = true)) := (bP_true fun j hj => H.out j (by omega)).symm
      go_wp2
      go_ret
      exact ⟨ret_bl HT.out, hbel⟩

/-- The program's chart as a value. -/
abbrev chV (an : Option Addr) (nn cn : Nat) (aw : Option Addr) (nw cw : Nat) (aa : Option Addr) (na ca : Nat) (bN bW : Nat) : Value :=
  .agg #[.slice an nn cn, .slice aw nw cw, .slice aa na ca, .map (some bN), .map (some bW)]

theorem wayP_few {n : Nat} {I : Nat → Int} {ns : List Int} (h : ¬ (2 ≤ ns.length ∧ ns.length ≤ 2000)) : bP (WayP n I ns) = false := bP_false fun hh => h ⟨hh.1, hh.2.1⟩
theorem wayP_no {n : Nat} {I : Nat → Int} {ns : List Int} {k : Nat} (hk : k < ns.length) (h : ¬ HasI n I ns[k]) : bP (WayP n I ns) = false := bP_false fun hh => h (hh.2.2 k hk).1
theorem wayP_two {n : Nat} {I : Nat → Int} {ns : List Int} {m : Nat} (hk : m + 1 < ns.length) (h : ns[m + 1] = ns[m]) : bP (WayP n I ns) = false :=
  bP_false fun hh => (hh.2.2 (m + 1) hk).2 (Nat.succ_pos _) (by simpa using h)

set_option maxRecDepth 100000 in
set_option maxHeartbeats 2000000 in
theorem wayOk_any (an : Option Addr) (nn cn : Nat) (aw : Option Addr) (nw cw : Nat) (aa : Option Addr) (na ca : Nat) (bN bW : Nat) (id : Int) (a1 : Option Addr) (n1 c1 : Nat) (a2 : Option Addr) (n2 c2 : Nat)
    (ns : List Int) (bs : List Nat) (nm n : Nat) (I : Nat → Int) (g : Int → Option Int) (w : World) (hI : Ints w a2 ns bs) (hn : ns.length = n2) (hm : n2 ≤ 1048576) (hM : MapAt w bN nm g) (hg : ∀ x, (g x).isSome = bP (HasI n I x)) :
    Calls Tryz.prog 92 #[chV an nn cn aw nw cw aa na ca bN bW, .agg #[.int .i64 id, .slice a1 n1 c1, .slice a2 n2 c2]] w fun e w' => e = .returned (.bool (bP (WayP n I ns))) ∧ Bel w w' := by
  have Hn : Hid (ns.length = n2) := hn
  have Hg : Hid (∀ x, (g x).isSome = bP (HasI n I x)) := hg
  clear hn hg
  by_cases h2 : 2 ≤ n2
  · by_cases h3 : n2 ≤ 2000
    · go_enter Tryz.func92, Tryz.ntmps92
      go_wp2
      obtain ⟨W, HW⟩ : ∃ W, Hid (W = (w.alloc (.cells #[.slice an nn cn, .slice aw nw cw, .slice aa na ca, .map (some bN), .map (some bW)] 76)).alloc (.cells #[.int .i64 id, .slice a1 n1 c1, .slice a2 n2 c2] 125)) := ⟨_, (rfl : _ = _)⟩
      have hB : Bel w W := by rw [HW.out]; exact bel_alloc (bel_alloc (Bel.refl _) _) _
      have X0 : Blk W w.heap.size [.slice an nn cn, .slice aw nw cw, .slice aa na ca, .map (some bN), .map (some bW)] := by rw [HW.out]; exact (Blk.new w [.slice an nn cn, .slice aw nw cw, .slice aa na ca, .map (some bN), .map (some bW)] _).bel (bel_alloc (Bel.refl _) _)
      have X1 : Blk W (w.heap.size + 1) [.int .i64 id, .slice a1 n1 c1, .slice a2 n2 c2] := by rw [HW.out]; exact Blk.new1 w _ [.int .i64 id, .slice a1 n1 c1, .slice a2 n2 c2] _
      have x3 : W.cell? ⟨w.heap.size, 3, none⟩ = some (.map (some bN)) := X0.cell 3 (by simp)
      have y2 : W.cell? ⟨w.heap.size + 1, 2, none⟩ = some (.slice a2 n2 c2) := X1.cell 2 (by simp)
      rw [← HW.out]
      have hM' := hM.bel hB
      have hI' := hI.bel intE hB
      clear hM hI X0 X1
      go_loop [5, 6, 7, 8, 22] (fun _ _ _ _ i => ∃ k : Nat, k ≤ n2 ∧ i = .int .i64 k ∧ ∀ j (h : j < ns.length), j < k → HasI n I ns[j] ∧ (0 < j → ns[j] ≠ ns[j - 1]'(by omega))) (fun _ _ _ _ i => n2 - (intOf i).toNat)
      case atStart => exact ⟨0, Nat.zero_le _, rfl, fun j _ hj => absurd hj (Nat.not_lt_zero _)⟩
      case round =>
        obtain ⟨k, hk, rfl, hall⟩ := hrel
        have H : Hid (∀ j (h : j < ns.length), j < k → HasI n I ns[j] ∧ (0 < j → ns[j] ≠ ns[j - 1]'(by omega))) := hall
        clear hall
        by_cases hlt : k < n2
        · have hkl : k < ns.length := by rw [Hn.out]; exact hlt
          obtain ⟨b, off, f, rfl, hb, hx⟩ := hI'.out hkl
          obtain ⟨_, ix, cx⟩ := hx k hkl
          simp only [Nat.mul_one] at cx
          obtain ⟨x, Hx⟩ : ∃ x, Hid (x = ns[k]) := ⟨_, (rfl : ns[k] = _)⟩
          rw [← Hx.out] at cx ix
          have hlook := hM'.look ix
          rw [Hg.out x] at hlook
          cases hp : bP (HasI n I x)
          · have HF : Hid (false = bP (WayP n I ns)) := (wayP_no hkl (by rw [← Hx.out]; exact bP_not hp)).symm
            rw [hp] at hlook
            clear hx hI'
            go_wp2
            go_ret
            exact ⟨ret_bl HF.out, hB⟩
          · rw [hp] at hlook
            rcases k with _ | m
            · have HA : Hid (HasI n I ns[0] ∧ ((0 : Nat) < 0 → ns[0] ≠ ns[0 - 1]'(by omega))) := ⟨by rw [← Hx.out]; exact bP_out hp, fun h => absurd h (Nat.lt_irrefl _)⟩
              simp only [Nat.add_zero] at cx
              clear hx hI'
              go_wp2
              go_round
              case rel => exact ⟨1, by omega, by go_num, fun j h hj => by obtain rfl : j = 0 := by omega
                                                                          exact HA.out⟩
              case measure => simp [intOf]; omega
            · obtain ⟨_, iy, cy⟩ := hx m (by omega)
              simp only [Nat.mul_one] at cy
              obtain ⟨y, Hy⟩ : ∃ y, Hid (y = ns[m]'(by omega)) := ⟨_, (rfl : ns[m]'(by omega) = _)⟩
              rw [← Hy.out] at cy iy
              have hltm : (m : Int) < (n2 : Int) := by omega
              by_cases hxy : x = y
              · have HF : Hid (false = bP (WayP n I ns)) := (wayP_two hkl (by rw [← Hx.out, ← Hy.out]; exact hxy)).symm
                subst hxy
                clear hx hI'
                go_wp2
                go_ret
                exact ⟨ret_bl HF.out, hB⟩
              · have HA : Hid (HasI n I ns[m + 1] ∧ (0 < m + 1 → ns[m + 1] ≠ ns[m + 1 - 1]'(by omega))) := ⟨by rw [← Hx.out]; exact bP_out hp, fun _ => by simp only [Nat.add_sub_cancel]; rw [← Hx.out, ← Hy.out]; exact hxy⟩
                have hxy' : (x == y) = false := by simp [hxy]
                clear hx hI'
                go_wp2
                go_round
                case rel => exact ⟨m + 2, by omega, by go_num, fun j h hj => by
                                (by_cases e : j = m + 1)
                                · subst e; exact HA.out
                                · exact H.out j h (by omega)⟩
                case measure => simp [intOf]; omega
        · have HT : Hid (true = bP (WayP n I ns)) := (bP_true ⟨by rw [Hn.out]; exact h2, by rw [Hn.out]; exact h3, fun j h => H.out j h (by rw [Hn.out] at h; omega)⟩).symm
          go_wp2
          go_ret
          exact ⟨ret_bl HT.out, hB⟩
    · have HF : Hid (false = bP (WayP n I ns)) := (wayP_few (by rw [Hn.out]; omega)).symm
      go_enter Tryz.func92, Tryz.ntmps92
      go_wp2
      go_ret
      exact ⟨ret_bl HF.out, bel_alloc (bel_alloc (Bel.refl _) _) _⟩
  · have HF : Hid (false = bP (WayP n I ns)) := (wayP_few (by rw [Hn.out]; omega)).symm
    go_enter Tryz.func92, Tryz.ntmps92
    go_wp2
    go_ret
    exact ⟨ret_bl HF.out, bel_alloc (bel_alloc (Bel.refl _) _) _⟩
end Go.Proofs.YtldfcnlhjjiihaaGreat

namespace Go.Proofs.YtldfcnlhjjiihaaGreat
open Go.RowKit Go.Maps

theorem areaP_few {n : Nat} {I : Nat → Int} {ps : List PartD} (h : ¬ (1 ≤ ps.length ∧ ps.length ≤ 30)) : bP (AreaP n I ps) = false := bP_false fun hh => h ⟨hh.1, hh.2.1⟩
theorem areaP_no {n : Nat} {I : Nat → Int} {ps : List PartD} {k : Nat} (hk : k < ps.length) (h : ¬ HasI n I ps[k].way) : bP (AreaP n I ps) = false := bP_false fun hh => h (hh.2.2 k hk).1
/-- The ways of the first k parts. -/
def waysTo (ps : List PartD) (k : Nat) (y : Int) : Prop := ∃ j, ∃ h : j < ps.length, j < k ∧ ps[j].way = y
theorem areaP_two {n : Nat} {I : Nat → Int} {ps : List PartD} {k : Nat} (hk : k < ps.length) (h : waysTo ps k ps[k].way) : bP (AreaP n I ps) = false :=
  bP_false fun hh => by
    obtain ⟨j, hj, hjk, e⟩ := h
    exact (hh.2.2 k hk).2 j hjk e
theorem ints_one (w : World) (x : Int) (hx : In64 x) (t : TypeId) : Ints (w.alloc (.cells #[.int .i64 x] t)) (some ⟨w.heap.size, 0, none⟩) [x] [w.heap.size] :=
  .inr ⟨w.heap.size, 0, fun _ => [], rfl, by simp, by simp, fun i hi => by
    obtain rfl : i = 0 := by simp at hi; omega
    exact ⟨rfl, hx, by simp [go_sem]⟩⟩

set_option maxRecDepth 100000 in
set_option maxHeartbeats 4000000 in
theorem areaOk_any (an : Option Addr) (nn cn : Nat) (aw : Option Addr) (nw cw : Nat) (aa : Option Addr) (na ca : Nat) (bN bW : Nat) (id : Int) (a1 : Option Addr) (n1 c1 : Nat) (a2 : Option Addr) (n2 c2 : Nat)
    (ps : List PartD) (bs : List Nat) (nm n : Nat) (I : Nat → Int) (g : Int → Option Int) (w : World) (hI : Parts w a2 ps bs) (hn : ps.length = n2) (hm : n2 ≤ 1048576) (hM : MapAt w bW nm g) (hg : ∀ x, (g x).isSome = bP (HasI n I x)) :
    Calls Tryz.prog 94 #[chV an nn cn aw nw cw aa na ca bN bW, .agg #[.int .i64 id, .slice a1 n1 c1, .slice a2 n2 c2]] w fun e w' => e = .returned (.bool (bP (AreaP n I ps))) ∧ Bel w w' := by
  have Hn : Hid (ps.length = n2) := hn
  have Hg : Hid (∀ x, (g x).isSome = bP (HasI n I x)) := hg
  have hmm := @run_makeMap Tryz.prog
  clear hn hg
  by_cases h2 : 1 ≤ n2
  · by_cases h3 : n2 ≤ 30
    · go_enter Tryz.func94, Tryz.ntmps94
      go_wp2
      obtain ⟨V, HV⟩ : ∃ V, Hid (V = (w.alloc (.cells #[.slice an nn cn, .slice aw nw cw, .slice aa na ca, .map (some bN), .map (some bW)] 76)).alloc (.cells #[.int .i64 id, .slice a1 n1 c1, .slice a2 n2 c2] 127)) := ⟨_, (rfl : _ = _)⟩
      have hBV : Bel w V := by rw [HV.out]; exact bel_alloc (bel_alloc (Bel.refl _) _) _
      have hVs : V.heap.size = w.heap.size + 1 + 1 := by rw [HV.out]; simp
      have X0 : Blk V w.heap.size [.slice an nn cn, .slice aw nw cw, .slice aa na ca, .map (some bN), .map (some bW)] := by rw [HV.out]; exact (Blk.new w [.slice an nn cn, .slice aw nw cw, .slice aa na ca, .map (some bN), .map (some bW)] _).bel (bel_alloc (Bel.refl _) _)
      have X1 : Blk V (w.heap.size + 1) [.int .i64 id, .slice a1 n1 c1, .slice a2 n2 c2] := by rw [HV.out]; exact Blk.new1 w _ [.int .i64 id, .slice a1 n1 c1, .slice a2 n2 c2] _
      rw [← HV.out]
      have hS0 := SetAt.new V
      rw [hVs] at hS0
      obtain ⟨W, HW⟩ : ∃ W, Hid (W = V.alloc (.map #[] 0)) := ⟨_, (rfl : _ = _)⟩
      rw [← HW.out]
      rw [← HW.out] at hS0
      have hBW : Bel V W := by rw [HW.out]; exact bel_alloc (Bel.refl _) _
      have hB := bel_step hBV hBW
      have Y0 := X0.bel hBW
      have Y1 := X1.bel hBW
      have hM' := hM.bel hB
      have hI' := hI.bel partE hB
      have hbs : w.heap.size + 1 + 1 ∉ bs := fun h => by have := hI.lt partE _ h; omega
      have hbW : bW ≠ w.heap.size + 1 + 1 := by have := hM.lt; omega
      clear hM hI X0 X1 hBV hBW hVs HV HW
      go_loopw [7, 8, 9, 24] (fun _ _ _ i wr => ∃ k : Nat, k ≤ n2 ∧ i = .int .i64 k ∧ SetAt wr (w.heap.size + 1 + 1) k (waysTo ps k) ∧ (∀ j (h : j < ps.length), j < k → HasI n I ps[j].way ∧ ∀ k (hk : k < j), (ps[k]'(by omega)).way ≠ ps[j].way) ∧ W.grownBy wr (some (w.heap.size + 1 + 1))) (fun _ _ _ i _ => n2 - (intOf i).toNat)
      case atStart => exact ⟨0, Nat.zero_le _, rfl, by
          have e : waysTo ps 0 = fun _ => False := by funext y; simp [waysTo]
          rw [e]; exact hS0, fun j _ hj => absurd hj (Nat.not_lt_zero _), World.grownBy.refl _ _⟩
      case round =>
        obtain ⟨k, hk, rfl, hSk, hall, hgr⟩ := hrel
        have H : Hid (∀ j (h : j < ps.length), j < k → HasI n I ps[j].way ∧ ∀ k (hk : k < j), (ps[k]'(by omega)).way ≠ ps[j].way) := hall
        clear hall
        have Z0 := Y0.grown hgr (by omega)
        have Z1 := Y1.grown hgr (by omega)
        have z4 : wr.cell? ⟨w.heap.size, 4, none⟩ = some (.map (some bW)) := Z0.cell 4 (by simp)
        have z2 : wr.cell? ⟨w.heap.size + 1, 2, none⟩ = some (.slice a2 n2 c2) := Z1.cell 2 (by simp)
        have hBr : Bel w wr := bel_grow hB hgr (fun k e => by injection e with e; omega)
        have hSl := hSk.lt
        have hzl := Z0.lt
        have hzl1 := Z1.lt
        by_cases hlt : k < n2
        · have hkl : k < ps.length := by rw [Hn.out]; exact hlt
          obtain ⟨b, off, f, rfl, hb, hx⟩ := (hI'.grown partE hgr hbs).out hkl
          obtain ⟨_, ix, cx, ci⟩ := hx k hkl
          obtain ⟨x, Hx⟩ : ∃ x, Hid (x = ps[k].way) := ⟨_, (rfl : ps[k].way = _)⟩
          obtain ⟨y, Hy⟩ : ∃ y, Hid (y = ps[k].inner) := ⟨_, (rfl : ps[k].inner = _)⟩
          rw [← Hx.out] at cx ix
          rw [← Hy.out] at ci
          have hbp : Bel wr (wr.alloc (.cells #[.int .i64 x, .bool y] 147)) := bel_alloc (Bel.refl _) _
          have hlook := ((hM'.grown hgr hbW).bel hbp).look ix
          rw [Hg.out x] at hlook
          have hSp := hSk.bel hbp
          have hXp : Blk (wr.alloc (.cells #[.int .i64 x, .bool y] 147)) wr.heap.size [.int .i64 x, .bool y] := Blk.new wr [.int .i64 x, .bool y] _
          cases hp : bP (HasI n I x)
          · have HF : Hid (false = bP (AreaP n I ps)) := (areaP_no hkl (by rw [← Hx.out]; exact bP_not hp)).symm
            rw [hp] at hlook
            clear hx hI' Y0 Y1 Z0 Z1 hSk hSp hXp
            go_wp2
            go_ret
            exact ⟨ret_bl HF.out, bel_step hBr hbp⟩
          · rw [hp] at hlook
            cases hd : bP (waysTo ps k x)
            · have HA : Hid (HasI n I ps[k].way ∧ ∀ j (hj : j < k), (ps[j]'(by omega)).way ≠ ps[k].way) := ⟨by rw [← Hx.out]; exact bP_out hp, fun j hj e => bP_not hd ⟨j, by omega, hj, by rw [Hx.out]; exact e⟩⟩
              clear hx hI' Y0 Y1 Z0 Z1 hSk
              go_wp2_with fail
              refine (has_any _ _ _ _ _ hSp ix).mono ?_
              rintro e w1 ⟨rfl, hb1⟩
              rw [hd]
              have hX1 := hXp.bel hb1
              have e0 : w1.cell? ⟨wr.heap.size, 0, none⟩ = some (.int .i64 x) := hX1.cell 0 (by simp)
              have hS1 := (hSp.bel hb1).bel (bel_alloc (Bel.refl w1) (.cells #[.int .i64 x] 2))
              have hs1 := (hSp.bel hb1).lt
              have hB1 := bel_step hbp (bel_step hb1 (bel_alloc (Bel.refl w1) (.cells #[.int .i64 x] 2)))
              clear hlook hb hb1 hXp hX1 hSp z2 z4 cx ci
              go_wp2_with fail
              refine (add_any _ _ _ _ 1 _ [x] [w1.heap.size] _ hS1 (ints_one w1 x ix _) rfl (by decide) (by omega) (by simp; omega)).mono ?_
              rintro e w2 ⟨rfl, hS2, hg2⟩
              have HS2 : Hid (SetAt w2 (w.heap.size + 1 + 1) (k + 1) (waysTo ps (k + 1))) := by
                have e : (fun y => y ∈ [x] ∨ waysTo ps k y) = waysTo ps (k + 1) := by
                  funext y
                  simp only [List.mem_singleton, eq_iff_iff, waysTo]
                  constructor
                  · rintro (h | ⟨j, hj, hjk, h⟩)
                    · exact ⟨k, hkl, by omega, by rw [h]; exact Hx.out.symm⟩
                    · exact ⟨j, hj, by omega, h⟩
                  · rintro ⟨j, hj, hjk, h⟩
                    by_cases e : j = k
                    · subst e; exact .inl (by rw [← h]; exact Hx.out.symm)
                    · exact .inr ⟨j, hj, by omega, h⟩
                rw [e] at hS2
                exact hS2
              have hG2 := (grown_step hgr hB1).trans hg2
              clear hS1 hS2 hg2 hB1
              go_wp2
              go_roundw
              case rel => exact ⟨k + 1, by omega, by go_num, HS2.out, fun j h hj => by
                              (by_cases e : j = k)
                              · subst e; exact HA.out
                              · exact H.out j h (by omega), hG2⟩
              case measure => simp [intOf]; omega
            · have HF : Hid (false = bP (AreaP n I ps)) := (areaP_two hkl (by rw [← Hx.out]; exact bP_out hd)).symm
              clear hx hI' Y0 Y1 Z0 Z1 hSk
              go_wp2_with fail
              refine (has_any _ _ _ _ _ hSp ix).mono ?_
              rintro e w1 ⟨rfl, hb1⟩
              rw [hd]
              have hB1 := bel_step hBr (bel_step hbp hb1)
              go_wp2
              go_ret
              exact ⟨ret_bl HF.out, hB1⟩
        · have HT : Hid (true = bP (AreaP n I ps)) := (bP_true ⟨by rw [Hn.out]; exact h2, by rw [Hn.out]; exact h3, fun j h => H.out j h (by rw [Hn.out] at h; omega)⟩).symm
          go_wp2
          go_ret
          exact ⟨ret_bl HT.out, hBr⟩
    · have HF : Hid (false = bP (AreaP n I ps)) := (areaP_few (by rw [Hn.out]; omega)).symm
      go_enter Tryz.func94, Tryz.ntmps94
      go_wp2
      go_ret
      exact ⟨ret_bl HF.out, bel_alloc (bel_alloc (Bel.refl _) _) _⟩
  · have HF : Hid (false = bP (AreaP n I ps)) := (areaP_few (by rw [Hn.out]; omega)).symm
    go_enter Tryz.func94, Tryz.ntmps94
    go_wp2
    go_ret
    exact ⟨ret_bl HF.out, bel_alloc (bel_alloc (Bel.refl _) _) _⟩
end Go.Proofs.YtldfcnlhjjiihaaGreat
