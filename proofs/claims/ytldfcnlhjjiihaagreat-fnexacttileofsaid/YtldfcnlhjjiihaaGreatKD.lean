/-
  Contracts of the model's small functions: an Id can be; at which place a node or a way stands.
  The points of a way, as data: the model, and rows of points as an answer.
  The points of a way, in the program: the contract.
-/
import Derived.Test.YtldfcnlhjjiihaaGreatChartF
import Derived.Test.YtldfcnlhjjiihaaGreatGD
namespace Go.Proofs.YtldfcnlhjjiihaaGreat
open Go.RowKit Go.Maps

def idB (x : Int) : Bool := decide (1 ≤ x) && decide (x ≤ 1000000000)
theorem l2IdOk_any (x : Int) (w : World) :
  Calls Tryz.prog 42 #[.int .i64 x] w fun e w' => e = .returned (.bool (idB x)) ∧ w' = w := by
 by_cases h1 : 1 ≤ x <;> by_cases h2 : x ≤ 1000000000 <;> (
  go_enter Tryz.func42, Tryz.ntmps42
  go_wp2
  go_ret
  exact ⟨ret_bl (by unfold idB; simp <;> omega), rfl⟩)

/-- The place of an Id, -1 where there is none. -/
def posI (I : Nat → Int) (n : Nat) (x : Int) : Int := (plc I n x).getD (-1)
theorem posI_at {n : Nat} {I : Nat → Int} {T : Nat → Bool} (h : AscP n I T) {i : Nat} (hi : i < n) : posI I n (I i) = i := by
 unfold posI
 rw [plc_at hi (fun j h1 h2 e => by have := h.mono h1 h2; omega)]
 rfl
theorem posI_none {n : Nat} {I : Nat → Int} {x : Int} (h : ¬ HasI n I x) : posI I n x = -1 := by
 have := plc_some I x n
 rw [bP_false h] at this
 unfold posI
 rw [Option.isSome_eq_false_iff] at this
 rw [Option.isNone_iff_eq_none.1 this]
 rfl
theorem plc_bd (I : Nat → Int) (x : Int) : ∀ n k, plc I n x = some k → 0 ≤ k ∧ k < n
 | 0, _, h => by cases h
 | n + 1, k, h => by
  simp only [plc] at h
  split at h
  ·injection h with h; omega
  ·have := plc_bd I x n k h; omega
theorem posI_bd (I : Nat → Int) (n : Nat) (x : Int) : -1 ≤ posI I n x ∧ posI I n x < n ∧ (0 ≤ posI I n x ↔ HasI n I x) := by
 unfold posI
 cases h : plc I n x with
 | none =>
  have := plc_some I x n
  rw [h] at this
  exact ⟨by simp, by simp; omega, by simp; exact bP_not this.symm⟩
 | some k =>
  have h1 := plc_bd I x n k h
  have := plc_some I x n
  rw [h] at this
  exact ⟨by simp; omega, by simpa using h1.2, by simp [h1.1]; exact bP_out this.symm⟩

theorem nodes_id {w : World} {a : Option Addr} {l : List NodeD} {bs : List Nat} (h : Nodes w a l bs) {i : Nat} (hi : i < l.length) : ∃ b off, a = some ⟨b, off, none⟩ ∧ b < w.heap.size ∧ w.cell? ⟨b, off + i * 4, none⟩ = some (.int .i64 (nId l i)) := by
 obtain ⟨b, off, f, ha, hb, hx⟩ := h.out hi
 obtain ⟨_, _, _, c0, _⟩ := hx i hi
 exact ⟨b, off, ha, hb, by rw [nId_at hi]; exact c0⟩
theorem ways_id {w : World} {a : Option Addr} {l : List WayD} {bs : List Nat} (h : Ways w a l bs) {i : Nat} (hi : i < l.length) : ∃ b off, a = some ⟨b, off, none⟩ ∧ b < w.heap.size ∧ w.cell? ⟨b, off + i * 3, none⟩ = some (.int .i64 (wId l i)) := by
 obtain ⟨b, off, f, ha, hb, hx⟩ := h.out hi
 obtain ⟨_, c0, _⟩ := hx i hi
 exact ⟨b, off, ha, hb, by rw [wId_at hi]; exact c0⟩

set_option maxRecDepth 100000 in
set_option maxHeartbeats 1000000 in
theorem l2Node_any (v : Value) (m : MapD) (bs : List Nat) (x : Int) (w : World) (hV : MapV w v m bs) (hl : m.nodes.length ≤ 5000) (hA : AscP m.nodes.length (nId m.nodes) (nTg m.nodes)) :
  Calls Tryz.prog 48 #[v, .int .i64 x] w fun e w' => e = .returned (.int .i64 (posI (nId m.nodes) m.nodes.length x)) ∧ Bel w w' := by
 obtain ⟨a0, c0, a1, c1, a2, c2, b0, b1, b2, rfl, _, t0, _, _⟩ := hV.out
 obtain ⟨n, hn⟩ : ∃ n, m.nodes.length = n := ⟨_, rfl⟩
 obtain ⟨I, hI⟩ : ∃ I, nId m.nodes = I := ⟨_, rfl⟩
 have H : Hid (AscP n I (nTg m.nodes)) := by rw [← hn, ← hI]; exact hA
 have hB : Bel w (w.alloc (.cells #[.slice a0 m.nodes.length c0, .slice a1 m.ways.length c1, .slice a2 m.areas.length c2] 39)) := bel_alloc (Bel.refl _) _
 have t0' := t0.bel nodeE hB
 have hx : ∀ i, i < n → ∃ b off, a0 = some ⟨b, off, none⟩ ∧ b < (w.alloc (.cells #[.slice a0 m.nodes.length c0, .slice a1 m.ways.length c1, .slice a2 m.areas.length c2] 39)).heap.size ∧ (w.alloc (.cells #[.slice a0 m.nodes.length c0, .slice a1 m.ways.length c1, .slice a2 m.areas.length c2] 39)).cell? ⟨b, off + i * 4, none⟩ = some (.int .i64 (I i)) := fun i hi => by
  rw [← hI]; exact nodes_id t0' (by rw [hn]; exact hi)
 have HX : Hid _ := hx
 rw [hn, hI]
 rw [hn] at hl hB HX
 clear hV t0 t0' hA hx hn hI
 go_enter Tryz.func48, Tryz.ntmps48
 go_wp2
 go_loop [5, 6, 7] (fun lo hi _ => ∃ p q : Nat, p ≤ q ∧ q ≤ n ∧ lo = .int .i64 p ∧ hi = .int .i64 q ∧ Hid ((∀ i, i < p → I i < x) ∧ ∀ i, q ≤ i → i < n → x ≤ I i)) (fun lo hi _ => (intOf hi).toNat - (intOf lo).toNat)
 case atStart => exact ⟨0, n, Nat.zero_le _, Nat.le_refl _, rfl, rfl, ⟨fun i hi => absurd hi (Nat.not_lt_zero _), fun i h1 h2 => absurd h2 (Nat.not_lt.2 h1)⟩⟩
 case round =>
  obtain ⟨p, q, hpq, hqn, rfl, rfl, HS⟩ := hrel
  by_cases hlt : p < q
  ·obtain ⟨k, hk⟩ : ∃ k, (p + q) / 2 = k := ⟨_, rfl⟩
   have hk1 : p ≤ k := by omega
   have hk2 : k < q := by omega
   have hki : ((p : Int) + q) / 2 = k := by omega
   have hkn : (k : Int) < (n : Int) := by omega
   obtain ⟨b, off, rfl, hb, cx⟩ := HX.out k (by omega)
   by_cases hc : I k < x
   ·go_wp2
    go_round
    case rel => exact ⟨k + 1, q, by omega, hqn, by go_num, rfl, ⟨fun i hi => by
      by_cases e : i = k
      ·subst e; exact hc
      ·by_cases e2 : i < k
       ·have := H.out.mono e2 (by omega); omega
       ·omega, HS.out.2⟩⟩
    case measure => simp [intOf]; omega
   ·go_wp2
    go_round
    case rel => exact ⟨p, k, hk1, by omega, rfl, by rw [hki], ⟨HS.out.1, fun i h1 h2 => by
      by_cases e : i = k
      ·subst e; omega
      ·have := H.out.mono (show k < i by omega) h2; omega⟩⟩
    case measure => simp [intOf]; omega
  ·obtain rfl : p = q := by omega
   by_cases hn : p < n
   ·have hpn : (p : Int) < (n : Int) := by omega
    obtain ⟨b, off, rfl, hb, cx⟩ := HX.out p hn
    by_cases he : I p = x
    ·have HE : Hid (posI I n x = p) := by rw [← he]; exact posI_at H.out hn
     have he' : (I p == x) = true := by simp [he]
     go_wp2
     go_ret
     exact ⟨ret_num HE.out.symm, hB⟩
    ·have HE : Hid (posI I n x = -1) := posI_none fun ⟨i, hi, e⟩ => by
      by_cases h1 : i < p
      ·have := HS.out.1 i h1; omega
      ·by_cases h2 : i = p
       ·subst h2; exact he e
       ·have h3 := HS.out.2 p (Nat.le_refl _) hn
        have h4 := H.out.mono (show p < i by omega) hi
        omega
     have he' : (I p == x) = false := by simp [he]
     go_wp2
     go_ret
     exact ⟨ret_num HE.out.symm, hB⟩
   ·have HE : Hid (posI I n x = -1) := posI_none fun ⟨i, hi, e⟩ => by have := HS.out.1 i (by omega); omega
    go_wp2
    go_ret
    exact ⟨ret_num HE.out.symm, hB⟩

set_option maxRecDepth 100000 in
set_option maxHeartbeats 1000000 in
theorem l2Way_any (v : Value) (m : MapD) (bs : List Nat) (x : Int) (w : World) (hV : MapV w v m bs) (hl : m.ways.length ≤ 1000) (hA : AscP m.ways.length (wId m.ways) (wTg m.ways)) :
  Calls Tryz.prog 78 #[v, .int .i64 x] w fun e w' => e = .returned (.int .i64 (posI (wId m.ways) m.ways.length x)) ∧ Bel w w' := by
 obtain ⟨a0, c0, a1, c1, a2, c2, b0, b1, b2, rfl, _, _, t0, _⟩ := hV.out
 obtain ⟨n, hn⟩ : ∃ n, m.ways.length = n := ⟨_, rfl⟩
 obtain ⟨I, hI⟩ : ∃ I, wId m.ways = I := ⟨_, rfl⟩
 have H : Hid (AscP n I (wTg m.ways)) := by rw [← hn, ← hI]; exact hA
 have hB : Bel w (w.alloc (.cells #[.slice a0 m.nodes.length c0, .slice a1 m.ways.length c1, .slice a2 m.areas.length c2] 39)) := bel_alloc (Bel.refl _) _
 have t0' := t0.bel wayE hB
 have hx : ∀ i, i < n → ∃ b off, a1 = some ⟨b, off, none⟩ ∧ b < (w.alloc (.cells #[.slice a0 m.nodes.length c0, .slice a1 m.ways.length c1, .slice a2 m.areas.length c2] 39)).heap.size ∧ (w.alloc (.cells #[.slice a0 m.nodes.length c0, .slice a1 m.ways.length c1, .slice a2 m.areas.length c2] 39)).cell? ⟨b, off + i * 3, none⟩ = some (.int .i64 (I i)) := fun i hi => by
  rw [← hI]; exact ways_id t0' (by rw [hn]; exact hi)
 have HX : Hid _ := hx
 rw [hn, hI]
 rw [hn] at hl hB HX
 clear hV t0 t0' hA hx hn hI
 go_enter Tryz.func78, Tryz.ntmps78
 go_wp2
 go_loop [5] (fun i => ∃ k : Nat, k ≤ n ∧ i = .int .i64 k ∧ Hid (∀ j, j < k → I j ≠ x)) (fun i => n - (intOf i).toNat)
 case atStart => exact ⟨0, Nat.zero_le _, rfl, (fun j hj => absurd hj (Nat.not_lt_zero _) : ∀ j, j < 0 → I j ≠ x)⟩
 case round =>
  obtain ⟨k, hk, rfl, HS⟩ := hrel
  by_cases hlt : k < n
  ·obtain ⟨b, off, rfl, hb, cx⟩ := HX.out k hlt
   by_cases he : I k = x
   ·have HE : Hid (posI I n x = k) := by rw [← he]; exact posI_at H.out hlt
    have he' : (I k == x) = true := by simp [he]
    go_wp2
    go_ret
    exact ⟨ret_num HE.out.symm, hB⟩
   ·have he' : (I k == x) = false := by simp [he]
    have HN : Hid (I k ≠ x) := he
    clear he
    go_wp2
    go_round
    case rel => exact ⟨k + 1, by omega, by go_num, (fun j hj => by
      by_cases e : j = k
      ·subst e; exact HN.out
      ·exact HS.out j (by omega) : ∀ j, j < k + 1 → I j ≠ x)⟩
    case measure => simp [intOf]; omega
  ·have HE : Hid (posI I n x = -1) := posI_none fun ⟨i, hi, e⟩ => HS.out i (by omega) e
   go_wp2
   go_ret
   exact ⟨ret_num HE.out.symm, hB⟩
end Go.Proofs.YtldfcnlhjjiihaaGreat

namespace Go.Proofs.YtldfcnlhjjiihaaGreat
open Go.RowKit Go.Maps

/-- The point of the node with that Id. -/
def ptI (l : List NodeD) (y : Int) : PtD := ⟨(l.getD (posI (nId l) l.length y).toNat ⟨0, 0, 0, []⟩).x, (l.getD (posI (nId l) l.length y).toNat ⟨0, 0, 0, []⟩).y⟩
theorem ptI_at {l : List NodeD} {T : Nat → Bool} {y : Int} (hA : AscP l.length (nId l) T) {j : Nat} (hj : j < l.length) (hy : nId l j = y) : ptI l y = ⟨l[j].x, l[j].y⟩ := by
 unfold ptI
 rw [← hy, posI_at hA hj, Int.toNat_natCast, getD_at _ hj]
def rowTo (l : List NodeD) (ns : List Int) (k : Nat) : List PtD := (ns.take k).map (ptI l)
theorem rowTo_succ {l : List NodeD} {ns : List Int} {k : Nat} (hk : k < ns.length) : rowTo l ns (k + 1) = rowTo l ns k ++ [ptI l ns[k]] := by
 unfold rowTo
 rw [List.take_succ_eq_append_getElem hk, List.map_append]
 rfl
theorem rowTo_len {l : List NodeD} {ns : List Int} {k : Nat} (hk : k ≤ ns.length) : (rowTo l ns k).length = k := by
 unfold rowTo
 rw [List.length_map, List.length_take]
 omega
theorem rowTo_at {l : List NodeD} {ns : List Int} {k i : Nat} (h : i < (rowTo l ns k).length) (hi : i < ns.length) : (rowTo l ns k)[i] = ptI l ns[i] := by
 simp [rowTo]
def ptsV (l : List PtD) : List Value := l.flatMap fun d => [.int .i64 d.x, .int .i64 d.y]
theorem ptsV_at : ∀ (l : List PtD) (i : Nat) (h : i < l.length), (ptsV l)[i * 2]? = some (.int .i64 l[i].x) ∧ (ptsV l)[i * 2 + 1]? = some (.int .i64 l[i].y)
 | _ :: _, 0, _ => ⟨rfl, rfl⟩
 | d :: l, i + 1, h => by
  have := ptsV_at l i (by simpa using h)
  rw [show (i + 1) * 2 = i * 2 + 1 + 1 by omega]
  exact this
/-- A row of points of the call's own, built by append. -/
def OwnP (base : Nat) (w : World) (v : Value) (l : List PtD) : Prop := w.ownsRow base 61 2 v l.length (ptsV l)
theorem ownp_add {base : Nat} {w : World} {v : Value} {l : List PtD} {d : PtD} (h : w.ownsRow base 61 2 v (l.length + 1) (ptsV l ++ [.int .i64 d.x, .int .i64 d.y])) : OwnP base w v (l ++ [d]) := by
 unfold OwnP
 rw [List.length_append, show ptsV (l ++ [d]) = ptsV l ++ [.int .i64 d.x, .int .i64 d.y] by simp [ptsV]]
 exact h
theorem infoP : (Tryz.prog.info? 61).map (fun i => (i.zero, i.size, i.bytes)) = some (some (.agg #[.int .i64 0, .int .i64 0]), 2, 16) := by kernel_rfl

/-- A row of points as an answer: it reads as this list, in blocks of the call's own. -/
def OutP (base : Nat) (w : World) (v : Value) (l : List PtD) : Prop :=
 ∃ a c bs, v = .slice a l.length c ∧ PtL w a l bs ∧ (∀ x ∈ bs, base ≤ x ∧ x < w.heap.size) ∧ ∀ x ∈ bs, ∀ j, w.frozen? ⟨x, j, none⟩ = false
theorem OutP.bel {base : Nat} {w w' : World} {v : Value} {l : List PtD} (h : OutP base w v l) (hb : Bel w w') : OutP base w' v l := by
 obtain ⟨a, c, bs, e, h1, h2, h3⟩ := h
 exact ⟨a, c, bs, e, h1.bel ptE hb, fun x hx => ⟨(h2 x hx).1, bel_lt hb (h2 x hx).2⟩, fun x hx j => by rw [hb.out.frozen (p := ⟨x, j, none⟩) (h2 x hx).2]; exact h3 x hx j⟩
theorem OutP.base {base base' : Nat} {w : World} {v : Value} {l : List PtD} (h : OutP base w v l) (hb : base' ≤ base) : OutP base' w v l := by
 obtain ⟨a, c, bs, e, h1, h2, h3⟩ := h
 exact ⟨a, c, bs, e, h1, fun x hx => ⟨Nat.le_trans hb (h2 x hx).1, (h2 x hx).2⟩, h3⟩
theorem OutP.nil (base : Nat) (w : World) (a : Option Addr) (c : Nat) : OutP base w (.slice a 0 c) [] := ⟨a, c, [], rfl, Sl.nil, (fun _ h => nomatch h), (fun _ h => nomatch h)⟩
theorem own_out {base : Nat} {w : World} {v : Value} {l : List PtD} (h : OwnP base w v l) (hi : ∀ d ∈ l, In64 d.x ∧ In64 d.y) : OutP base w v l := by
 obtain ⟨a, c, rfl⟩ := own_shape h
 rcases Nat.eq_zero_or_pos l.length with z | z
 ·obtain rfl : l = [] := List.length_eq_zero_iff.1 z
  exact OutP.nil _ _ _ _
 ·rcases h.2 with ⟨_, hz⟩ | ⟨g, cap, cur, e, hg, e3, _⟩
  ·omega
  ·cases e
   have hlt : g < w.heap.size := by
    rcases Nat.lt_or_ge g w.heap.size with h | h
    ·exact h
    ·rw [Array.getElem?_eq_none h] at e3; cases e3
   have hm : ∀ x ∈ g :: (List.range l.length).flatMap (fun _ => ([] : List Nat)), x = g := fun x hx => by
    rcases List.mem_cons.1 hx with h | h
    ·exact h
    ·obtain ⟨_, _, h⟩ := List.mem_flatMap.1 h
     exact nomatch h
   refine ⟨_, _, g :: (List.range l.length).flatMap (fun _ => ([] : List Nat)), rfl, .inr ⟨g, 0, fun _ => [], rfl, hlt, rfl, fun i hil => ⟨rfl, (hi _ (List.getElem_mem hil)).1, (hi _ (List.getElem_mem hil)).2, ?_, ?_⟩⟩, fun x hx => by rw [hm x hx]; exact ⟨hg, hlt⟩, fun x hx j => by rw [hm x hx]; simp [World.frozen?, e3]⟩
   ·rw [Nat.zero_add, h.cellAt (i * 2) (by omega)]
    exact (ptsV_at l i hil).1
   ·rw [Nat.zero_add, h.cellAt (i * 2 + 1) (by omega)]
    exact (ptsV_at l i hil).2
/-- A row of points that was made and filled. -/
theorem fill_out {base : Nat} {w : World} {B n c : Nat} {l : List PtD} {f : Nat → List Nat} (h : Fill 2 PtE w B n n l f) (hl : l.length = n) (hB : base ≤ B) : OutP base w (.slice (some ⟨B, 0, none⟩) n c) l := by
 have hm : ∀ x ∈ B :: (List.range n).flatMap f, x = B := fun x hx => by
  rcases List.mem_cons.1 hx with e | e
  ·exact e
  ·obtain ⟨i, hi, e⟩ := List.mem_flatMap.1 e
   have hi := List.mem_range.1 hi
   rw [(h.laid i (by omega) hi).1] at e
   exact nomatch e
 refine ⟨_, c, B :: (List.range n).flatMap f, by rw [hl], h.sl hl, fun x hx => by rw [hm x hx]; exact ⟨hB, h.lt⟩, fun x hx j => by rw [hm x hx]; exact h.free j⟩
end Go.Proofs.YtldfcnlhjjiihaaGreat

namespace Go.Proofs.YtldfcnlhjjiihaaGreat
open Go.RowKit Go.Maps

set_option maxRecDepth 100000 in
set_option maxHeartbeats 2000000 in
theorem rowI_any (an : Option Addr) (nn cn : Nat) (aw : Option Addr) (nw cw : Nat) (aa : Option Addr) (na ca : Nat) (bN bW : Nat) (id : Int) (a1 : Option Addr) (n1 c1 : Nat) (a2 : Option Addr) (n2 c2 : Nat)
  (ns : List Int) (bs : List Nat) (l : List NodeD) (q0 : List Nat) (T : Nat → Bool) (base : Nat) (w : World) (hbase : base ≤ w.heap.size) (hI : Ints w a2 ns bs) (hn : ns.length = n2) (hm : n2 ≤ 2000) (hN : NRecs w an l q0) (hl : l.length = nn) (hA : AscP l.length (nId l) T)
  (hM : MapAt w bN l.length (plc (nId l) l.length)) (hh : ∀ j (h : j < ns.length), HasI l.length (nId l) ns[j]) :
  Calls Tryz.prog 59 #[chV an nn cn aw nw cw aa na ca bN bW, .agg #[.int .i64 id, .slice a1 n1 c1, .slice a2 n2 c2]] w fun e w' => ∃ v', e = .returned v' ∧ OutP base w' v' (rowTo l ns n2) ∧ Bel w w' := by
 have Hn : Hid (ns.length = n2) := hn
 have Hl : Hid (l.length = nn) := hl
 have HA : Hid (AscP l.length (nId l) T) := hA
 have HH : Hid (∀ j (h : j < ns.length), HasI l.length (nId l) ns[j]) := hh
 have hmk : ∀ w : World, (Instr.makeSlice 54 (.int .i64 n2) (.int .i64 n2)).run Tryz.prog w = .ok (.slice (some ⟨w.heap.size, 0, none⟩) n2 n2) (w.alloc (.cells (madeCells #[.int .i64 0, .int .i64 0] (n2 * 2)) 61)) := fun w => by
  obtain ⟨i0, hi, hz0, hz1, hz2⟩ := info_parts infoP
  have := run_make (P := Tryz.prog) w 54 61 i0 (.agg #[.int .i64 0, .int .i64 0]) Tryz.underlying54 hi hz0 .i64 .i64 n2 n2 (by omega) (by omega) (by rw [hz2]; omega) (by omega)
  rw [hz1] at this
  exact this
 obtain ⟨W, HW⟩ : ∃ W, Hid (W = (w.alloc (.cells #[.slice an nn cn, .slice aw nw cw, .slice aa na ca, .map (some bN), .map (some bW)] 76)).alloc (.cells #[.int .i64 id, .slice a1 n1 c1, .slice a2 n2 c2] 125)) := ⟨_, (rfl : (w.alloc (.cells #[.slice an nn cn, .slice aw nw cw, .slice aa na ca, .map (some bN), .map (some bW)] 76)).alloc (.cells #[.int .i64 id, .slice a1 n1 c1, .slice a2 n2 c2] 125) = _)⟩
 have hB : Bel w W := by rw [HW.out]; exact bel_alloc (bel_alloc (Bel.refl _) _) _
 have X0 : Blk W w.heap.size [.slice an nn cn, .slice aw nw cw, .slice aa na ca, .map (some bN), .map (some bW)] := by rw [HW.out]; exact (Blk.new w [.slice an nn cn, .slice aw nw cw, .slice aa na ca, .map (some bN), .map (some bW)] _).bel (bel_alloc (Bel.refl _) _)
 have X1 : Blk W (w.heap.size + 1) [.int .i64 id, .slice a1 n1 c1, .slice a2 n2 c2] := by rw [HW.out]; exact Blk.new1 w _ [.int .i64 id, .slice a1 n1 c1, .slice a2 n2 c2] _
 have y2 : W.cell? ⟨w.heap.size + 1, 2, none⟩ = some (.slice a2 n2 c2) := X1.cell 2 (by simp)
 have hWs : W.heap.size = w.heap.size + 1 + 1 := by rw [HW.out]; simp
 have hS0 : Fill 2 PtE (W.alloc (.cells (madeCells #[.int .i64 0, .int .i64 0] (n2 * 2)) 61)) (w.heap.size + 1 + 1) n2 0 (rowTo l ns n2) (fun _ => []) := by rw [← hWs]; exact Fill.start _ _ _ _ _ _
 have HM := hM.bel hB
 have HI := hI.bel intE hB
 have HN := hN.bel nRecE hB
 clear hn hl hA hh hM hI hN X1
 go_enter Tryz.func59, Tryz.ntmps59
 go_wp2
 rw [← HW.out]
 go_loopw [6, 7, 15] (fun _ _ i wr => ∃ k : Nat, k ≤ n2 ∧ i = .int .i64 k ∧ (∃ f, Fill 2 PtE wr (w.heap.size + 1 + 1) n2 k (rowTo l ns n2) f) ∧ Bel W wr) (fun _ _ i _ => n2 - (intOf i).toNat)
 case atStart => exact ⟨0, Nat.zero_le _, rfl, ⟨_, hS0⟩, bel_alloc (Bel.refl _) _⟩
 case round =>
  obtain ⟨k, hk, rfl, ⟨f, hF⟩, hBr⟩ := hrel
  by_cases hlt : k < n2
  ·have hkl : k < ns.length := by rw [Hn.out]; exact hlt
   obtain ⟨b, off, g, rfl, hb, hx⟩ := (HI.bel intE hBr).out hkl
   obtain ⟨_, ix, cx⟩ := hx k hkl
   rw [Nat.mul_one] at cx
   obtain ⟨j0, hj0, hI0⟩ := HH.out k hkl
   obtain ⟨x, Hx⟩ : ∃ x, Hid (x = ns[k]) := ⟨_, (rfl : ns[k] = _)⟩
   rw [← Hx.out] at cx ix hI0
   have hlook := (HM.bel hBr).at ix
   rw [show (plc (nId l) l.length x).getD 0 = (j0 : Int) by
    have := posI_at HA.out hj0
    unfold posI at this
    rw [hI0] at this
    cases hp : plc (nId l) l.length x with
    | none => rw [hp] at this; simp at this
    | some q => rw [hp] at this; simpa using this] at hlook
   obtain ⟨b2, off2, g2, rfl, hb2, hx2⟩ := (HN.bel nRecE hBr).out hj0
   obtain ⟨_, inx, iny, _, e2, e3, _⟩ := hx2 j0 hj0
   have HP : Hid (ptI l x = ⟨l[j0].x, l[j0].y⟩) := ptI_at HA.out hj0 hI0
   obtain ⟨d, Hd⟩ : ∃ d, Hid (d = l[j0]) := ⟨_, (rfl : l[j0] = _)⟩
   rw [← Hd.out] at e2 e3 HP inx iny
   have hj1 : (j0 : Int) < (nn : Int) := by have := Hl.out; omega
   have hlt' : (k : Int) < (n2 : Int) := by omega
   have x0 : wr.cell? ⟨w.heap.size, 0, none⟩ = some (.slice (some ⟨b2, off2, none⟩) nn cn) := (X0.bel hBr).cell 0 (by simp)
   have x3 : wr.cell? ⟨w.heap.size, 3, none⟩ = some (.map (some bN)) := (X0.bel hBr).cell 3 (by simp)
   obtain ⟨v0, d50⟩ := hF.there (k * 2) (by omega)
   have f0 := hF.free (k * 2)
   obtain ⟨v1, d51⟩ := hF.there (k * 2 + 1) (by omega)
   have f1 := hF.free (k * 2 + 1)
   have HE : Hid (∃ f, Fill 2 PtE (setRow wr (w.heap.size + 1 + 1) (k * 2) [.int .i64 d.x, .int .i64 d.y]) (w.heap.size + 1 + 1) n2 (k + 1) (rowTo l ns n2) f) := by
    have S := setRow_in (w.heap.size + 1 + 1) [.int .i64 d.x, .int .i64 d.y] wr (k * 2) (fun j hj => hF.there _ (by simp at hj; omega))
    refine ⟨_, hF.put ptE (Bel.refl _) hlt (by rw [rowTo_len (by rw [Hn.out]; exact Nat.le_refl _)]) (Fresh.nil _ _) [.int .i64 d.x, .int .i64 d.y] rfl ?_⟩
    rw [rowTo_at _ hkl, ← Hx.out, HP.out]
    exact ⟨rfl, inx, iny, S 0 (by simp), S 1 (by simp)⟩
   have hB7 : Bel W (setRow wr (w.heap.size + 1 + 1) (k * 2) [.int .i64 d.x, .int .i64 d.y]) := setRow_bel hBr (Nat.le_of_eq hWs) _ _
   clear hx hx2 hF hBr HI HM HN
   go_wp2
   go_roundw
   case rel => exact ⟨k + 1, by omega, by go_num, HE.out, hB7⟩
   case measure => simp [intOf]; omega
  ·have e : k = n2 := by omega
   subst e
   have HO : Hid (OutP base wr (.slice (some ⟨w.heap.size + 1 + 1, 0, none⟩) k k) (rowTo l ns k)) := fill_out hF (rowTo_len (by rw [Hn.out]; exact Nat.le_refl _)) (by omega)
   clear hF
   go_wp2
   go_ret
   exact ⟨_, rfl, HO.out, bel_step hB hBr⟩
end Go.Proofs.YtldfcnlhjjiihaaGreat
