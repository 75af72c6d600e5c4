/-
  One table of rows of numbers that grow; the model's Roads by places: l10At: contract.
-/
import Derived.Test.YtdlgehnoiaoneaaGreatDoorNetI
import Derived.Deep.AppendLies
namespace Go.Proofs.YtdlgehnoiaoneaaGreatDoor
open Go.RowKit Go.Maps

/-- A table of n rows of numbers, in block B; its rows of the call's own from lo on. -/
structure Tab1 (lo : Nat) (w : World) (B : Nat) (n : Nat) (V : Nat → Value) (F : Nat → List Nat) : Prop where
 lt : B < lo
 sz : lo ≤ w.heap.size
 cell : ∀ p, p < n → w.cell? ⟨B, p, none⟩ = some (V p)
 free : ∀ p, w.frozen? ⟨B, p, none⟩ = false
 rows : ∀ p, p < n → w.ownsRow lo 2 1 (V p) (F p).length (intsN (F p))
 dis : ∀ p p', p < n → p' < n → p ≠ p' → (V p).ownBlock = none ∨ (V p).ownBlock ≠ (V p').ownBlock
theorem Tab1.bel {lo : Nat} {w wa : World} {B n : Nat} {V : Nat → Value} {F : Nat → List Nat} (h : Tab1 lo w B n V F) (hb : Bel w wa) : Tab1 lo wa B n V F :=
 ⟨h.lt, Nat.le_trans h.sz hb.out.size, fun p hp => by have := h.lt; have := h.sz; exact bel_cellM hb (by omega) (h.cell p hp), fun p => by have := h.lt; have := h.sz; rw [hb.out.frozen (p := ⟨B, p, none⟩) (show B < w.heap.size by omega)]; exact h.free p,
  fun p hp => (h.rows p hp).kept (bel_none hb) (Classical.em _), h.dis⟩
theorem Tab1.row_ne {lo : Nat} {w : World} {B n : Nat} {V : Nat → Value} {F : Nat → List Nat} (h : Tab1 lo w B n V F) {p : Nat} (hp : p < n) (k : Nat) (hk : k < lo) : some k ≠ (V p).ownBlock := fun e => by have := ((h.rows p hp).lt k e.symm).1; omega
/-- One number more in one row. -/
theorem Tab1.step {lo : Nat} {w wa wb : World} {B n : Nat} {V : Nat → Value} {F : Nat → List Nat} (h : Tab1 lo w B n V F) (hb : Bel w wa) {p : Nat} (hp : p < n) {i : Nat} {v' : Value}
  (ho : wb.ownsRow lo 2 1 v' ((F p).length + 1) (intsN (F p) ++ [.int .i64 (i : Nat)])) (hg : wa.grownBy wb (V p).ownBlock) (hat : v'.ownBlock = (V p).ownBlock ∨ v'.ownBlock = some wa.heap.size) :
  ∃ V', Tab1 lo (wb.setCell ⟨B, p, none⟩ v') B n V' (fun p' => if p' = p then F p ++ [i] else F p') ∧ Frx (fun k => k ≠ B ∧ k < lo) w (wb.setCell ⟨B, p, none⟩ v') := by
 have ha := h.bel hb
 have hG0 := setCell_grown wb B p v'
 have hBn : B < wa.heap.size := by have := h.lt; have := ha.sz; omega
 have offB : ∀ {v : Value} {m : Nat} {xs : List Value}, wb.ownsRow lo 2 1 v m xs → v.ownBlock = none ∨ v.ownBlock ≠ some B := fun ho => .inr fun e => by have := (ho.lt _ e).1; have := h.lt; omega
 have hsame : wb.heap[B]? = wa.heap[B]? := hg.block B hBn (ha.row_ne hp B h.lt)
 refine ⟨fun p' => if p' = p then v' else V p', ⟨h.lt, ?_, fun p' hp' => ?_, fun p' => ?_, fun p' hp' => ?_, fun p1 p2 h1 h2 hd => ?_⟩, ?_⟩
 ·have := hg.size; have := ha.sz; simp [World.setCell]; omega
 ·by_cases e : p' = p
  ·subst e
   rw [if_pos rfl]
   exact World.cell?_setCell_same _ _ _ (by rw [World.cell?_of_block (a := ⟨B, p', none⟩) hsame]; exact ha.cell p' hp')
  ·rw [if_neg e, World.cell?_setCell_other _ _ _ _ (fun e2 => e (congrArg Addr.off e2).symm), World.cell?_of_block (a := ⟨B, p', none⟩) hsame]
   exact ha.cell p' hp'
 ·rw [World.frozen?_setCell, World.frozen?_of_block (a := ⟨B, p', none⟩) hsame]; exact ha.free p'
 ·show (wb.setCell ⟨B, p, none⟩ v').ownsRow lo 2 1 (if p' = p then v' else V p') (if p' = p then F p ++ [i] else F p').length (intsN (if p' = p then F p ++ [i] else F p'))
  by_cases e : p' = p
  ·rw [if_pos e, if_pos e]
   have e2 : intsN (F p ++ [i]) = intsN (F p) ++ [.int .i64 (i : Nat)] := by simp [intsN]
   rw [e2, List.length_append]
   exact ho.kept hG0 (offB ho)
  ·rw [if_neg e, if_neg e]
   have hr := (ha.rows p' hp').kept hg (h.dis p' p hp' hp e)
   exact hr.kept hG0 (offB hr)
 ·have hlt : ∀ {p'}, p' < n → (V p').ownBlock ≠ some wa.heap.size := fun hp' e => by have := ((ha.rows _ hp').lt _ e).2; omega
  show (if p1 = p then v' else V p1).ownBlock = none ∨ (if p1 = p then v' else V p1).ownBlock ≠ (if p2 = p then v' else V p2).ownBlock
  by_cases e : p1 = p <;> by_cases e' : p2 = p
  ·exact absurd (e.trans e'.symm) hd
  ·rw [if_pos e, if_neg e']
   rcases hat with hat | hat
   ·rw [hat, ← e]; exact h.dis p1 p2 h1 h2 hd
   ·rw [hat]; exact .inr (hlt h2).symm
  ·rw [if_neg e, if_pos e']
   rcases hat with hat | hat
   ·rw [hat, ← e']; exact h.dis p1 p2 h1 h2 hd
   ·rw [hat]; exact .inr (hlt h1)
  ·rw [if_neg e, if_neg e']; exact h.dis p1 p2 h1 h2 hd
 ·refine (Frx.bel hb).trans ((Frx.grow hg fun x hx hX => ?_).trans (Frx.grow hG0 fun x hx hX => ?_))
  ·exact ha.row_ne hp x hX.2 hx.symm
  ·injection hx with hx
   exact hX.1 hx.symm
/-- Nothing below, and nothing of the table, is written. -/
theorem Tab1.frx {lo : Nat} {w wa : World} {B n : Nat} {V : Nat → Value} {F : Nat → List Nat} (h : Tab1 lo w B n V F) {X : Nat → Prop} (hf : Frx X w wa) (hB : X B) (hV : ∀ p k, p < n → (V p).ownBlock = some k → X k) : Tab1 lo wa B n V F := by
 have hBl : B < w.heap.size := Nat.lt_of_lt_of_le h.lt h.sz
 have e := hf.block B hBl hB
 refine ⟨h.lt, Nat.le_trans h.sz hf.size, fun p hp => by rw [World.cell?_of_block (a := ⟨B, p, none⟩) e]; exact h.cell p hp, fun p => by rw [World.frozen?_of_block (a := ⟨B, p, none⟩) e]; exact h.free p, fun p hp => ?_, h.dis⟩
 obtain ⟨h1, h2⟩ := h.rows p hp
 refine ⟨h1, h2.imp id fun ⟨g, cap, cur, e1, e2, hh, e4⟩ => ⟨g, cap, cur, e1, e2, ?_, e4⟩⟩
 rw [hf.block g (Array.getElem?_eq_some_iff.1 hh).1 (hV p g hp (by rw [e1]; rfl))]
 exact hh
theorem bel_trans_low {w a b : World} {B lo : Nat} (h : Bel w a) (hf : Frx (fun x => x ≠ B ∧ x < lo) a b) (hB : w.heap.size ≤ B) (hl : w.heap.size ≤ lo) : Bel w b :=
 h.out.trans ⟨hf.os, hf.tape, hf.output, hf.size, fun k hk => hf.block k (Nat.lt_of_lt_of_le hk h.out.size) ⟨by omega, by omega⟩⟩
/-- What l10At tells. -/
structure AtOut (w : World) (g : GraphD) (t : Bool) (e : Ending) (w' : World) : Prop where
 out : ∃ lo B V, e = .returned (.slice (some ⟨B, 0, none⟩) g.places.length g.places.length) ∧ Tab1 lo w' B g.places.length V (bgF g.roads g.roads.length t) ∧ w.heap.size ≤ B ∧ w.heap.size ≤ lo ∧ Bel w w'

set_option maxRecDepth 100000 in
set_option maxHeartbeats 4000000 in
theorem l10At_any (a0 : Option Addr) (n0 c0 : Nat) (a1 : Option Addr) (n1 c1 : Nat) (a2 : Option Addr) (n2 c2 : Nat) (g : GraphD) (b1 : List Nat) (ed : Bool) (w : World) (t1 : RoadL w a1 g.roads b1) (e0 : g.places.length = n0) (e1 : g.roads.length = n1) (hP : graphP g) :
  Calls Tryz.prog 36 #[gphV a0 n0 c0 a1 n1 c1 a2 n2 c2, .bool ed] w fun e w' => AtOut w g (!ed) e w' := by
 have H0 : Hid (g.places.length = n0) := e0
 have H1 : Hid (g.roads.length = n1) := e1
 have m0 : n0 ≤ 5000 := by rw [← e0]; exact hP.1.1
 have m1 : n1 ≤ 8000 := by rw [← e1]; exact hP.1.2.1
 have hmk : ∀ w : World, (Instr.makeSlice 76 (.int .i64 n0) (.int .i64 n0)).run Tryz.prog w = .ok (.slice (some ⟨w.heap.size, 0, none⟩) n0 n0) (w.alloc (.cells (madeCells #[.slice none 0 0] n0) 46)) := fun w => by
  obtain ⟨i0, hi, hz0, hz1, hz2⟩ := info_parts infoSl
  have := run_make (P := Tryz.prog) w 76 46 i0 (.slice none 0 0) Tryz.underlying76 hi hz0 .i64 .i64 n0 n0 (by omega) (by omega) (by rw [hz2]; omega) (by omega)
  rw [hz1, Nat.mul_one] at this
  exact this
 obtain ⟨i0, hi0, hz0, hz1, hz2⟩ := info_parts infoI64
 obtain ⟨W, HW⟩ : ∃ W, Hid (W = w.alloc (.cells #[.slice a0 n0 c0, .slice a1 n1 c1, .slice a2 n2 c2] 34)) := ⟨_, (rfl : w.alloc (.cells #[.slice a0 n0 c0, .slice a1 n1 c1, .slice a2 n2 c2] 34) = _)⟩
 have hBW : Bel w W := by rw [HW.out]; exact bel_alloc (Bel.refl _) _
 have XG : Blk W w.heap.size [.slice a0 n0 c0, .slice a1 n1 c1, .slice a2 n2 c2] := by rw [HW.out]; exact Blk.new w [.slice a0 n0 c0, .slice a1 n1 c1, .slice a2 n2 c2] _
 obtain ⟨nw, Hnw⟩ : ∃ n, Hid (w.heap.size = n) := ⟨_, (rfl : w.heap.size = _)⟩
 have XG' : Blk W nw [.slice a0 n0 c0, .slice a1 n1 c1, .slice a2 n2 c2] := by rw [← Hnw.out]; exact XG
 have x0 : W.cell? ⟨nw, 0, none⟩ = some (.slice a0 n0 c0) := XG'.cell 0 (by simp)
 have x1 : W.cell? ⟨nw, 1, none⟩ = some (.slice a1 n1 c1) := XG'.cell 1 (by simp)
 have xl := XG'.lt
 obtain ⟨W2, HW2⟩ : ∃ X, Hid (X = W.alloc (.cells (madeCells #[.slice none 0 0] n0) 46)) := ⟨_, (rfl : W.alloc (.cells (madeCells #[.slice none 0 0] n0) 46) = _)⟩
 have hB2 : Bel W W2 := by rw [HW2.out]; exact bel_alloc (Bel.refl _) _
 have hNB : W2.heap[W.heap.size]? = some (.cells (madeCells #[.slice none 0 0] n0) 46) := by rw [HW2.out]; exact heap_alloc_new W _
 have hs2 : W.heap.size < W2.heap.size := (Array.getElem?_eq_some_iff.1 hNB).1
 obtain ⟨B, HB⟩ : ∃ n, Hid (W.heap.size = n) := ⟨_, (rfl : W.heap.size = _)⟩
 rw [HB.out] at hNB hs2
 obtain ⟨lo, Hlo⟩ : ∃ n, Hid (W2.heap.size = n) := ⟨_, (rfl : W2.heap.size = _)⟩
 have hBlo : B < lo := by rw [← Hlo.out]; exact hs2
 have hwB : nw < B := by rw [← HB.out]; exact xl
 have HT0 : Hid (Tab1 lo W2 B n0 (fun _ => .slice none 0 0) (bgF g.roads 0 (!ed))) := (by
  obtain ⟨c1, f1⟩ := cell_made hNB
  exact ⟨hBlo, by rw [Hlo.out]; exact Nat.le_refl _, c1, f1, fun p _ => by rw [bgF_zero]; exact World.ownsRow_nil _ _ _ _, fun _ _ _ _ _ => .inl rfl⟩ : Tab1 lo W2 B n0 (fun _ => .slice none 0 0) (bgF g.roads 0 (!ed)))
 have HX2 : Hid (Blk W2 nw [.slice a0 n0 c0, .slice a1 n1 c1, .slice a2 n2 c2]) := XG'.bel hB2
 have HR2 : Hid (RoadL W2 a1 g.roads b1) := t1.bel roadE (bel_step hBW hB2)
 have HRl : Hid (∀ x ∈ b1, x < nw) := (by rw [← Hnw.out]; exact t1.lt roadE : ∀ x ∈ b1, x < nw)
 have HBW2 : Hid (Bel w W2) := bel_step hBW hB2
 have HPl : Hid (∀ i (h : i < g.roads.length), ∃ p : Nat, p < n0 ∧ endR (!ed) g.roads[i] = (p : Int)) := (fun i h => by
  have hro := roadB_out (hP.2.2.1 i h)
  cases ed
  ·obtain ⟨p, hp, e⟩ := inN_nat (n := g.places.length) (x := g.roads[i].fr) (inN_iff.2 hro.1)
   exact ⟨p, by omega, e⟩
  ·obtain ⟨p, hp, e⟩ := inN_nat (n := g.places.length) (x := g.roads[i].to) (inN_iff.2 hro.2.1)
   exact ⟨p, by omega, e⟩ : ∀ i (h : i < g.roads.length), ∃ p : Nat, p < n0 ∧ endR (!ed) g.roads[i] = (p : Int))
 clear hP t1 XG XG' hBW hB2 hNB
 go_enter Tryz.func36, Tryz.ntmps36
 go_upto_region 1 with fail
 rw [← HW.out, Hnw.out]
 go_wp2
 rw [← HW2.out, HB.out]
 clear x0 x1 xl hmk
 go_loopw [6, 7] (fun i _ wr => ∃ (k : Nat) (V : Nat → Value), k ≤ n1 ∧ i = .int .i64 k ∧ Hid (Tab1 lo wr B n0 V (bgF g.roads k (!ed))) ∧ Hid (Frx (fun x => x ≠ B ∧ x < lo) W2 wr)) (fun i _ _ => n1 - (intOf i).toNat)
 case atStart => exact ⟨0, _, Nat.zero_le _, rfl, HT0, Frx.refl _ _⟩
 case round =>
  clear HT0
  obtain ⟨k, V, hk, rfl, HT, HF⟩ := hrel
  have hXr : Blk wr nw [.slice a0 n0 c0, .slice a1 n1 c1, .slice a2 n2 c2] := HF.out.blk HX2.out ⟨by omega, by omega⟩
  have x1 : wr.cell? ⟨nw, 1, none⟩ = some (.slice a1 n1 c1) := hXr.cell 1 (by simp)
  have xl := hXr.lt
  by_cases hlt : k < n1
  ·have hkl : k < g.roads.length := by rw [H1.out]; exact hlt
   have hR := HF.out.sl roadE HR2.out (fun x hx => by have := HRl.out x hx; exact ⟨by omega, by omega⟩)
   obtain ⟨b, off, f, rfl, hb, hx⟩ := hR.out hkl
   obtain ⟨_, _, _, _, _, _, _, y0, y1, _⟩ := hx k hkl
   obtain ⟨p, hp, hpe⟩ := HPl.out k hkl
   have HBG : Hid (bgF g.roads (k + 1) (!ed) = fun p' => if p' = p then bgF g.roads k (!ed) p ++ [k] else bgF g.roads k (!ed) p') := (by
    funext p'
    rw [bgF_succ hkl, hpe]
    by_cases e : p' = p
    ·subst e; simp
    ·rw [if_neg (by omega), if_neg e] : bgF g.roads (k + 1) (!ed) = fun p' => if p' = p then bgF g.roads k (!ed) p ++ [k] else bgF g.roads k (!ed) p')
   have hltI : (k : Int) < (n1 : Int) := by omega
   have hpI : (p : Int) < (n0 : Int) := by omega
   have hro := HT.out.rows p hp
   have hce := HT.out.cell p hp
   have hfr := HT.out.free p
   have hBs : B < wr.heap.size := by have := HT.out.sz; omega
   have hlb := bgF_len g.roads k (!ed) p
   obtain ⟨row, Hrow⟩ : ∃ l, Hid (bgF g.roads k (!ed) p = l) := ⟨_, (rfl : bgF g.roads k (!ed) p = _)⟩
   rw [Hrow.out] at hro hlb HBG
   obtain ⟨m, Hm⟩ : ∃ n, Hid (row.length = n) := ⟨_, (rfl : row.length = _)⟩
   rw [Hm.out] at hro hlb
   obtain ⟨va, vc, hv⟩ := own_shape hro
   have HV : Hid (V p = .slice va m vc) := hv
   rw [hv] at hce hro
   have hownA : (wr.alloc (.cells #[.int .i64 (k : Int)] 2)).ownsRow lo 2 1 (.slice va m vc) m (intsN row) := World.ownsRow.alloc hro _
   have hBA : Bel wr (wr.alloc (.cells #[.int .i64 (k : Int)] 2)) := bel_alloc (Bel.refl _) _
   have hlos : lo ≤ wr.heap.size := HT.out.sz
   have fin : ∀ (g2 cap2 : Nat) (w2 : World), w2.ownsRow lo 2 1 (.slice (some ⟨g2, 0, none⟩) (m + 1) cap2) (m + 1) (intsN row ++ [.int .i64 (k : Int)]) → (wr.alloc (.cells #[.int .i64 (k : Int)] 2)).grownBy w2 (Value.slice va m vc).ownBlock → ((Value.slice va m vc).ownBlock = some g2 ∨ g2 = wr.heap.size + 1) → ∃ V', Tab1 lo (w2.setCell ⟨B, p, none⟩ (.slice (some ⟨g2, 0, none⟩) (m + 1) cap2)) B n0 V' (bgF g.roads (k + 1) (!ed)) ∧ Frx (fun x => x ≠ B ∧ x < lo) W2 (w2.setCell ⟨B, p, none⟩ (.slice (some ⟨g2, 0, none⟩) (m + 1) cap2)) ∧ w2.cell? ⟨B, p, none⟩ = some (.slice va m vc) ∧ w2.frozen? ⟨B, p, none⟩ = false ∧ B < w2.heap.size := fun g2 cap2 w2 ho hg hat => by
    rw [← HV.out] at hg hat
    have hs := HT.out.step hBA hp (i := k) (v' := .slice (some ⟨g2, 0, none⟩) (m + 1) cap2) (by rw [Hrow.out, Hm.out]; exact ho) hg (by
     rcases hat with h | h
     ·exact .inl h.symm
     ·right; rw [h]; show some (wr.heap.size + 1) = some _; simp)
    obtain ⟨V', h1, h2⟩ := hs
    have hbl := hg.block B (by have := hBA.out.size; omega) ((HT.out.bel hBA).row_ne hp B hBlo)
    have hT2 := HT.out.bel hBA
    rw [HBG.out]
    rw [Hrow.out] at h1
    exact ⟨V', h1, HF.out.trans h2, by rw [World.cell?_of_block (a := ⟨B, p, none⟩) hbl, hT2.cell p hp, HV.out], by rw [World.frozen?_of_block (a := ⟨B, p, none⟩) hbl]; exact hT2.free p, by have := hg.size; have := hBA.out.size; omega⟩
   have Hfin : Hid (∀ (g2 cap2 : Nat) (w2 : World), w2.ownsRow lo 2 1 (.slice (some ⟨g2, 0, none⟩) (m + 1) cap2) (m + 1) (intsN row ++ [.int .i64 (k : Int)]) → (wr.alloc (.cells #[.int .i64 (k : Int)] 2)).grownBy w2 (Value.slice va m vc).ownBlock → ((Value.slice va m vc).ownBlock = some g2 ∨ g2 = wr.heap.size + 1) → ∃ V', Tab1 lo (w2.setCell ⟨B, p, none⟩ (.slice (some ⟨g2, 0, none⟩) (m + 1) cap2)) B n0 V' (bgF g.roads (k + 1) (!ed)) ∧ Frx (fun x => x ≠ B ∧ x < lo) W2 (w2.setCell ⟨B, p, none⟩ (.slice (some ⟨g2, 0, none⟩) (m + 1) cap2)) ∧ w2.cell? ⟨B, p, none⟩ = some (.slice va m vc) ∧ w2.frozen? ⟨B, p, none⟩ = false ∧ B < w2.heap.size) := fin
   have HN : Hid (∀ j u, [Value.int .i64 (k : Int)][j]? = some u → (wr.alloc (.cells #[.int .i64 (k : Int)] 2)).cell? (Addr.add ⟨wr.heap.size, 0, none⟩ j) = some u) := World.news_of_block (cs := #[.int .i64 (k : Int)]) (heap_alloc_new wr _)
   have yk : wr.cell? ⟨b, off + k * 6 + (if ed = true then 1 else 0), none⟩ = some (.int .i64 (p : Int)) := by
    rw [← hpe]
    cases ed
    ·exact y0
    ·exact y1
   obtain ⟨oth, Hoth⟩ : ∃ o, Hid (g.roads[k].fr = o) := ⟨_, (rfl : g.roads[k].fr = _)⟩
   have y0' : wr.cell? ⟨b, off + k * 6, none⟩ = some (.int .i64 oth) := by rw [← Hoth.out]; exact y0
   clear fin hv hx y0 y1 HT hpe hro
   cases ed
   ·simp only [Bool.false_eq_true, if_false, Nat.add_zero] at yk
    have e : (Value.int .i64 oth) = .int .i64 (p : Int) := by rw [yk] at y0'; injection y0' with y0'; exact y0'.symm
    injection e with _ e
    subst e
    clear yk
    go_wp2_with (first
     | (at_builtin; refine wpList_append_lies _ rfl _ _ 46 rfl lo 2 i0 (.int .i64 0) 1 8 Tryz.underlying46 hi0 hz0 hz1 hz2 rfl (by decide) _ _ _ rfl hownA ⟨wr.heap.size, 0, none⟩ 1 1 [.int .i64 (k : Int)] rfl rfl HN.out (by simp [Value.oneCell']) (by decide) (by unfold maxLen; omega) (by omega) (by simp; omega) (wr.heap.size + 1) (by simp) ?_)
     | go_in)
    intro g2 cap2 w2 hown2 hgrow hat _
    obtain ⟨V', z1, z2, z3, z4, z5⟩ := Hfin.out g2 cap2 w2 hown2 hgrow hat
    have HZ1 : Hid (Tab1 lo (w2.setCell ⟨B, p, none⟩ (.slice (some ⟨g2, 0, none⟩) (m + 1) cap2)) B n0 V' (bgF g.roads (k + 1) (!false))) := z1
    have HZ2 : Hid (Frx (fun x => x ≠ B ∧ x < lo) W2 (w2.setCell ⟨B, p, none⟩ (.slice (some ⟨g2, 0, none⟩) (m + 1) cap2))) := z2
    clear hown2 hgrow hat z1 z2 hownA hce hfr
    go_wp2
    go_roundw
    case rel => exact ⟨k + 1, V', by omega, by go_num, HZ1, HZ2⟩
    case measure => simp [intOf]; omega
   ·simp only [if_true] at yk
    go_wp2_with (first
     | (at_builtin; refine wpList_append_lies _ rfl _ _ 46 rfl lo 2 i0 (.int .i64 0) 1 8 Tryz.underlying46 hi0 hz0 hz1 hz2 rfl (by decide) _ _ _ rfl hownA ⟨wr.heap.size, 0, none⟩ 1 1 [.int .i64 (k : Int)] rfl rfl HN.out (by simp [Value.oneCell']) (by decide) (by unfold maxLen; omega) (by omega) (by simp; omega) (wr.heap.size + 1) (by simp) ?_)
     | go_in)
    intro g2 cap2 w2 hown2 hgrow hat _
    obtain ⟨V', z1, z2, z3, z4, z5⟩ := Hfin.out g2 cap2 w2 hown2 hgrow hat
    have HZ1 : Hid (Tab1 lo (w2.setCell ⟨B, p, none⟩ (.slice (some ⟨g2, 0, none⟩) (m + 1) cap2)) B n0 V' (bgF g.roads (k + 1) (!true))) := z1
    have HZ2 : Hid (Frx (fun x => x ≠ B ∧ x < lo) W2 (w2.setCell ⟨B, p, none⟩ (.slice (some ⟨g2, 0, none⟩) (m + 1) cap2))) := z2
    clear hown2 hgrow hat z1 z2 hownA hce hfr
    go_wp2
    go_roundw
    case rel => exact ⟨k + 1, V', by omega, by go_num, HZ1, HZ2⟩
    case measure => simp [intOf]; omega
  ·have e : n1 = k := by omega
   have HO : Hid (AtOut w g (!ed) (.returned (.slice (some ⟨B, 0, none⟩) n0 n0)) wr) := (by
    have hT := HT.out
    rw [← e, ← H1.out, ← H0.out] at hT
    refine ⟨lo, B, V, by rw [H0.out], hT, by rw [Hnw.out]; omega, by rw [Hnw.out]; omega, ?_⟩
    exact bel_trans_low HBW2.out HF.out (by rw [Hnw.out]; omega) (by rw [Hnw.out]; omega) : AtOut w g (!ed) (.returned (.slice (some ⟨B, 0, none⟩) n0 n0)) wr)
   have hltI : ¬ (k : Int) < (n1 : Int) := by omega
   clear HT HF
   go_wp2
   go_ret
   exact HO.out
end Go.Proofs.YtdlgehnoiaoneaaGreatDoor
