/-
  Timetables copied, in the model: the copies of stops and walks, and the struct.
-/
import Derived.Test.YtkmccjjghpnejaaCapL
import Derived.Test.YtkmccjjghpnejaaStpA
import Derived.Deep.DeepCutAuto
import Derived.Deep.RegionHeld3
namespace Go.Proofs.Ytkmccjjghpnejaa
open Go.RowKit Go.Maps

theorem flat_inL {α : Type} {q : Nat} {E : Elem α} (hE : ∀ {w : World} {b o : Nat} {d : α} {bs : List Nat}, E w b o d bs → bs = []) {w : World} {a : Option Addr} {l : List α} {bs : List Nat} (h : Sl q E w a l bs) {x : Nat} (hx : x ∈ bs) {n c : Nat} : (Value.slice a n c).ownBlock = some x := by
 rcases h with ⟨_, rfl⟩ | ⟨b, off, f, rfl, _, rfl, hh⟩
 ·exact nomatch hx
 ·rcases List.mem_cons.1 hx with rfl | hx
  ·rfl
  ·obtain ⟨i, hi, hxi⟩ := List.mem_flatMap.1 hx
   rw [hE (hh i (List.mem_range.1 hi))] at hxi
   exact nomatch hxi
theorem setCell_grownL (w : World) (g o : Nat) (u : Value) : w.grownBy (w.setCell ⟨g, o, none⟩ u) (some g) :=
 ⟨rfl, rfl, rfl, by simp, fun k _ hk => heap_setCell_other w ⟨g, o, none⟩ k u (fun e => hk (by simp [e]))⟩
theorem blk_grownL {w w' : World} {B : Nat} {row : Option Nat} {vs : List Value} (h : Blk w B vs) (hg : w.grownBy w' row) (hne : some B ≠ row) : Blk w' B vs :=
 ⟨Nat.lt_of_lt_of_le h.lt hg.size, fun j hj => by rw [World.cell?_of_block (a := ⟨B, j, none⟩) (hg.block B h.lt hne)]; exact h.cell j hj, fun j => by rw [World.frozen?_of_block (a := ⟨B, j, none⟩) (hg.block B h.lt hne)]; exact h.free j⟩
theorem onl_grow {bs : List Nat} {w w1 w2 : World} {row : Option Nat} (h : Onl bs w w1) (hg : w1.grownBy w2 row) (hr : ∀ k, row = some k → w.heap.size ≤ k) : Onl bs w w2 :=
 ⟨hg.os.trans h.os, hg.tape.trans h.tape, hg.output.trans h.output, Nat.le_trans h.size hg.size, fun i hi hn => (hg.block i (Nat.lt_of_lt_of_le hi h.size) (fun e => by have := hr i e.symm; omega)).trans (h.block i hi hn)⟩
/-- A struct of three rows that was made is a block of its own. -/
theorem linB {Y : World} {lo B : Nat} (h : Y.ownsRow lo 49 3 (.slice (some ⟨B, 0, none⟩) 1 1) 1 [.slice none 0 0, .slice none 0 0, .slice none 0 0]) : Blk Y B zerL := by
 rcases h.2 with ⟨e, _⟩ | ⟨g1, cap, cur, e, hlo, hh, hn, hm, hs, ht⟩
 ·exact nomatch e
 ·have e1 : B = g1 ∧ 1 = cap := by simpa using e
  obtain ⟨rfl, rfl⟩ := e1
  have hc : cur = #[.slice none 0 0, .slice none 0 0, .slice none 0 0] := by
   apply Array.toList_inj.1
   rw [List.take_of_length_le (by rw [Array.length_toList, hs]; exact Nat.le_refl _)] at ht
   exact ht
  subst hc
  refine ⟨(Array.getElem?_eq_some_iff.1 hh).1, fun j hj => ?_, fun j => by simp [World.frozen?, hh]⟩
  match j, hj with
  | 0, _ => simp [World.cell?, hh]
  | 1, _ => simp [World.cell?, hh]
  | 2, _ => simp [World.cell?, hh]
/-- A timetable on its way: stops and walks are copied, trips are none yet. -/
structure CutM (V : World) (g : LinesD) (t : Value) (w : World) : Prop where
 out : ∃ (B : Nat) (p0 : Option Addr) (q0 : Nat) (p2 : Option Addr) (q2 : Nat) (d0 d2 : List Nat), t = .pointer (some ⟨B, 0, none⟩) ∧ V.heap.size ≤ B ∧ Blk w B [.slice p0 g.stops.length q0, .slice none 0 0, .slice p2 g.walks.length q2] ∧
  StrL w p0 g.stops d0 ∧ WlkL w p2 g.walks d2 ∧ Fresh V w (d0 ++ d2) ∧ B ∉ d0 ++ d2 ∧ Bel V w
theorem cpm_out {V Y : World} {g : LinesD} {p0 p2 : Option Addr} {q0 q2 B : Nat} (hP : (∀ i (h : i < g.stops.length), strP g.stops[i]) ∧ ∀ i (h : i < g.walks.length), wlkP g.walks[i]) (hY : Bel V Y)
  (O0 : Y.ownsRow V.heap.size 9 1 (.slice p0 g.stops.length q0) g.stops.length (recs (csL 1 strCs g.stops) g.stops.length)) (O1 : Y.ownsRow V.heap.size 94 3 (.slice p2 g.walks.length q2) g.walks.length (recs (csL 3 wlkCs g.walks) g.walks.length))
  (OB : Y.ownsRow V.heap.size 49 3 (.slice (some ⟨B, 0, none⟩) 1 1) 1 [.slice none 0 0, .slice none 0 0, .slice none 0 0]) :
  CutM V g (.pointer (some ⟨B, 0, none⟩)) (((Y.setCell ⟨B, 0, none⟩ (.slice p0 g.stops.length q0)).setCell ⟨B, 1, none⟩ (.slice none 0 0)).setCell ⟨B, 2, none⟩ (.slice p2 g.walks.length q2)) := by
 obtain ⟨_, _, d0, e0, T0, M0⟩ := strF.out O0 hP.1
 obtain ⟨_, _, d2, e2, T2, M2⟩ := wlkF.out O1 hP.2
 injection e0 with e0 _ e0'
 injection e2 with e2 _ e2'
 subst e0 e2 e0' e2'
 have D02 : ∀ x ∈ d0, x ∉ d2 := fun x hx hy => own_apart O0 O1 (by decide) (flat_inL (fun h => h.1) T0 hx) (flat_inL (fun h => h.1) T2 hy)
 have F0 : Fresh V Y d0 := M0.fresh (Nat.le_refl _)
 have F2 : Fresh V Y d2 := M2.fresh (Nat.le_refl _)
 have HF : Fresh V Y (d0 ++ d2) := F0.app F2 D02
 have hn0 : B ∉ d0 := fun hx => own_apart O0 OB (by decide) (flat_inL (fun h => h.1) T0 hx) rfl
 have hn2 : B ∉ d2 := fun hx => own_apart O1 OB (by decide) (flat_inL (fun h => h.1) T2 hx) rfl
 have hn : B ∉ d0 ++ d2 := fun h => (List.mem_append.1 h).elim hn0 hn2
 have hlo : V.heap.size ≤ B := (OB.lt _ rfl).1
 have XB := linB OB
 have al : ∀ ds : List Nat, B ∉ ds → (∀ x ∈ ds, x < Y.heap.size) → Alike Y (((Y.setCell ⟨B, 0, none⟩ (.slice p0 g.stops.length q0)).setCell ⟨B, 1, none⟩ (.slice none 0 0)).setCell ⟨B, 2, none⟩ (.slice p2 g.walks.length q2)) ds := fun ds hd hl => (((Alike.refl hl).set hd _ _).set hd _ _).set hd _ _
 refine ⟨B, p0, q0, p2, q2, d0, d2, rfl, hlo, ((XB.set 0 _ (by simp)).set 1 _ (by simp)).set 2 _ (by simp), T0.alike strE (al d0 hn0 (T0.lt strE)), T2.alike wlkE (al d2 hn2 (T2.lt wlkE)), ?_, hn, bel_set (bel_set (bel_set hY hlo _) hlo _) hlo _⟩
 exact ⟨HF.nd, fun x hx => ⟨(HF.new x hx).1, by simpa [World.setCell] using (HF.new x hx).2⟩, fun x hx j => by rw [World.frozen?_setCell, World.frozen?_setCell, World.frozen?_setCell]; exact HF.free x hx j⟩

set_option maxRecDepth 100000 in
set_option maxHeartbeats 8000000 in
theorem l15Copy_any (a0 : Option Addr) (n0 c0 : Nat) (a1 : Option Addr) (n1 c1 : Nat) (a2 : Option Addr) (n2 c2 : Nat) (g : LinesD) (b0 b1 b2 : List Nat) (w : World) (t0 : StrL w a0 g.stops b0) (t1 : TrpL w a1 g.trips b1) (t2 : WlkL w a2 g.walks b2) (e0 : g.stops.length = n0) (e1 : g.trips.length = n1) (e2 : g.walks.length = n2) (m0 : n0 ≤ 1048576) (m1 : n1 ≤ 1048576) (m2 : n2 ≤ 1048576) (hs : ∀ i (h : i < g.trips.length), g.trips[i].calls.length ≤ 1048576) :
  Calls Try.prog 63 #[.agg #[.slice a0 n0 c0, .slice a1 n1 c1, .slice a2 n2 c2]] w fun e w' => ∃ p0 q0 p1 q1 p2 q2 d0 d1 d2, e = .returned (.agg #[.slice p0 n0 q0, .slice p1 n1 q1, .slice p2 n2 q2]) ∧ StrL w' p0 g.stops d0 ∧ TrpLc w' p1 g.trips d1 ∧ WlkL w' p2 g.walks d2 ∧ Fresh w w' (d0 ++ (d1 ++ d2)) ∧ Bel w w' := by
 have H0 : Hid (g.stops.length = n0) := e0
 have H1 : Hid (g.trips.length = n1) := e1
 have H2 : Hid (g.walks.length = n2) := e2
 have HS' : Hid (∀ i (h : i < g.trips.length), g.trips[i].calls.length ≤ 1048576) := hs
 obtain ⟨i0, hi0, hz0, hs0, hy0⟩ := info_parts infoLStr
 obtain ⟨i1, hi1, hz1, hs1, hy1⟩ := info_parts infoLWlk
 obtain ⟨i2, hi2, hz2, hs2, hy2⟩ := info_parts infoLCal
 obtain ⟨i3, hi3, hz3, hs3, hy3⟩ := info_parts infoTrp
 clear e0 e1 e2 hs
 have HP : Hid ((∀ i (h : i < g.stops.length), strP g.stops[i]) ∧ ∀ i (h : i < g.walks.length), wlkP g.walks[i]) := (⟨fun i h => by obtain ⟨_, _, _, _, _, hx⟩ := t0.out h; exact (strF.get (hx i h)).1, fun i h => by obtain ⟨_, _, _, _, _, hx⟩ := t2.out h; exact (wlkF.get (hx i h)).1⟩ : (∀ i (h : i < g.stops.length), strP g.stops[i]) ∧ ∀ i (h : i < g.walks.length), wlkP g.walks[i])
 obtain ⟨V, HV⟩ : ∃ V, Hid (V = (w.alloc (.cells #[.slice a0 n0 c0, .slice a1 n1 c1, .slice a2 n2 c2] 49)).alloc (.cells #[.slice none 0 0, .slice none 0 0, .slice none 0 0] 49)) := ⟨_, (rfl : (w.alloc (.cells #[.slice a0 n0 c0, .slice a1 n1 c1, .slice a2 n2 c2] 49)).alloc (.cells #[.slice none 0 0, .slice none 0 0, .slice none 0 0] 49) = _)⟩
 have HV0 : Hid (Bel w V) := (by rw [HV.out]; exact bel_alloc (bel_alloc (Bel.refl _) _) _ : Bel w V)
 have XG : Blk V w.heap.size [.slice a0 n0 c0, .slice a1 n1 c1, .slice a2 n2 c2] := by rw [HV.out]; exact (Blk.new w [.slice a0 n0 c0, .slice a1 n1 c1, .slice a2 n2 c2] _).bel (bel_alloc (Bel.refl _) _)
 have XR : Blk V (w.heap.size + 1) [.slice none 0 0, .slice none 0 0, .slice none 0 0] := by rw [HV.out]; exact Blk.new1 w _ [.slice none 0 0, .slice none 0 0, .slice none 0 0] _
 have hVR : w.heap.size + 1 < V.heap.size := XR.lt
 have HS : Hid (∀ w', Bel V w' → w'.cell? ⟨w.heap.size, 0, none⟩ = some (.slice a0 n0 c0) ∧ w'.cell? ⟨w.heap.size, 1, none⟩ = some (.slice a1 n1 c1) ∧ w'.cell? ⟨w.heap.size, 2, none⟩ = some (.slice a2 n2 c2)) := fun w' h => ⟨(XG.bel h).cell 0 (by simp), (XG.bel h).cell 1 (by simp), (XG.bel h).cell 2 (by simp)⟩
 have HSX : Hid (∀ (w' : World) (B : Nat) (x y z : Value), Bel V w' → V.heap.size ≤ B → (((w'.setCell ⟨B, 0, none⟩ x).setCell ⟨B, 1, none⟩ y).setCell ⟨B, 2, none⟩ z).cell? ⟨w.heap.size, 0, none⟩ = some (.slice a0 n0 c0) ∧ (((w'.setCell ⟨B, 0, none⟩ x).setCell ⟨B, 1, none⟩ y).setCell ⟨B, 2, none⟩ z).cell? ⟨w.heap.size, 1, none⟩ = some (.slice a1 n1 c1) ∧ (((w'.setCell ⟨B, 0, none⟩ x).setCell ⟨B, 1, none⟩ y).setCell ⟨B, 2, none⟩ z).cell? ⟨w.heap.size, 2, none⟩ = some (.slice a2 n2 c2)) := fun w' B x y z h hB => by
  have hb := (((XG.bel h).far (B' := B) (i := 0) (v := x) (by omega)).far (B' := B) (i := 1) (v := y) (by omega)).far (B' := B) (i := 2) (v := z) (by omega)
  exact ⟨hb.cell 0 (by simp), hb.cell 1 (by simp), hb.cell 2 (by simp)⟩
 have u0 := t0.bel strE HV0.out
 have u1 := t1.bel trpE HV0.out
 have u2 := t2.bel wlkE HV0.out
 have XG' : Hid (Blk V w.heap.size [.slice a0 n0 c0, .slice a1 n1 c1, .slice a2 n2 c2]) := XG
 have XR' : Hid (Blk V (w.heap.size + 1) zerL) := XR
 clear t0 t1 t2 XG XR
 go_enter Try.func63, Try.ntmps63
 go_upto_region 1 with fail
 rw [← HV.out]
 clear HV
 go_cut [3] (fun t wx => CutM V g t wx)
 case first =>
  refine wp_region_noPanic ?_
  refine wp_region_held_drew (S := (fun w' => w'.cell? ⟨w.heap.size, 0, none⟩ = some (.slice a0 n0 c0) ∧ w'.cell? ⟨w.heap.size, 1, none⟩ = some (.slice a1 n1 c1) ∧ w'.cell? ⟨w.heap.size, 2, none⟩ = some (.slice a2 n2 c2))) (by kernel_rfl) (HS.out _ (Bel.refl _).drew) (fun hHeld => ?_)
  have hY : Bel V V.drew := (Bel.refl _).drew
  generalize V.drew = Y0 at hHeld hY ⊢
  refine wpAnyH_take (S := (fun w' => w'.cell? ⟨w.heap.size, 0, none⟩ = some (.slice a0 n0 c0) ∧ w'.cell? ⟨w.heap.size, 1, none⟩ = some (.slice a1 n1 c1) ∧ w'.cell? ⟨w.heap.size, 2, none⟩ = some (.slice a2 n2 c2))) (i := 1) (oi := { dst := some 7, op := Go.Op.fieldAddr 49 (Go.Operand.tmp 1) 0, type := 0, pos := "l15_transit.go:205", after := #[], guard := none }) (v := ?vz1) rfl (by kernel_rfl) (by kernel_rfl) (by kernel_rfl) (fun _ _ _ h => h) (Or.inl ⟨by rfl, ?hz1⟩) hHeld ?rz1
  case hz1 => (intro w hSw; (try dsimp only at hSw); obtain ⟨s0, s1, s2⟩ := hSw; go_simp; try with_reducible rfl)
  try simp only [Act.put, List.setIfInBounds_toArray, List.set_cons_zero, List.set_cons_succ]
  refine wpAnyH_take (S := (fun w' => w'.cell? ⟨w.heap.size, 0, none⟩ = some (.slice a0 n0 c0) ∧ w'.cell? ⟨w.heap.size, 1, none⟩ = some (.slice a1 n1 c1) ∧ w'.cell? ⟨w.heap.size, 2, none⟩ = some (.slice a2 n2 c2))) (i := 2) (oi := { dst := some 8, op := Go.Op.load 39 (Go.Operand.tmp 7), type := 39, pos := "l15_transit.go:205", after := #[{ on := 1, ground := Go.Ground.data }], guard := none }) (v := ?vz2) rfl (by kernel_rfl) (by kernel_rfl) (by kernel_rfl) (fun _ _ _ h => h) (Or.inl ⟨by rfl, ?hz2⟩) hHeld ?rz2
  case hz2 => (intro w hSw; (try dsimp only at hSw); obtain ⟨s0, s1, s2⟩ := hSw; go_simp; try with_reducible rfl)
  try simp only [Act.put, List.setIfInBounds_toArray, List.set_cons_zero, List.set_cons_succ]
  refine wpAnyH_take (S := (fun w' => w'.cell? ⟨w.heap.size, 0, none⟩ = some (.slice a0 n0 c0) ∧ w'.cell? ⟨w.heap.size, 1, none⟩ = some (.slice a1 n1 c1) ∧ w'.cell? ⟨w.heap.size, 2, none⟩ = some (.slice a2 n2 c2))) (i := 5) (oi := { dst := some 11, op := Go.Op.fieldAddr 49 (Go.Operand.tmp 1) 2, type := 0, pos := "l15_transit.go:205", after := #[], guard := none }) (v := ?vz3) rfl (by kernel_rfl) (by kernel_rfl) (by kernel_rfl) (fun _ _ _ h => h) (Or.inl ⟨by rfl, ?hz3⟩) hHeld ?rz3
  case hz3 => (intro w hSw; (try dsimp only at hSw); obtain ⟨s0, s1, s2⟩ := hSw; go_simp; try with_reducible rfl)
  try simp only [Act.put, List.setIfInBounds_toArray, List.set_cons_zero, List.set_cons_succ]
  refine wpAnyH_take (S := (fun w' => w'.cell? ⟨w.heap.size, 0, none⟩ = some (.slice a0 n0 c0) ∧ w'.cell? ⟨w.heap.size, 1, none⟩ = some (.slice a1 n1 c1) ∧ w'.cell? ⟨w.heap.size, 2, none⟩ = some (.slice a2 n2 c2))) (i := 6) (oi := { dst := some 12, op := Go.Op.load 47 (Go.Operand.tmp 11), type := 47, pos := "l15_transit.go:205", after := #[{ on := 5, ground := Go.Ground.data }], guard := none }) (v := ?vz4) rfl (by kernel_rfl) (by kernel_rfl) (by kernel_rfl) (fun _ _ _ h => h) (Or.inl ⟨by rfl, ?hz4⟩) hHeld ?rz4
  case hz4 => (intro w hSw; (try dsimp only at hSw); obtain ⟨s0, s1, s2⟩ := hSw; go_simp; try with_reducible rfl)
  try simp only [Act.put, List.setIfInBounds_toArray, List.set_cons_zero, List.set_cons_succ]
  refine wpAnyH_ready (rs := [0, 4, 9]) (by kernel_rfl) (by simp) ?_
  refine AllReadyH.cons (o := { dst := some 6, op := Go.Op.buildSlice 39 0 #[], type := 39, pos := "l15_transit.go:205", after := #[], guard := none }) rfl (fun K hK => ?_) (AllReadyH.cons (o := { dst := some 10, op := Go.Op.buildSlice 47 0 #[], type := 47, pos := "l15_transit.go:205", after := #[], guard := none }) rfl (fun K hK => ?_) (AllReadyH.cons (o := { dst := some 3, op := Go.Op.alloc 49, type := 0, pos := "l15_transit.go:205", after := #[], guard := none }) rfl (fun K hK => ?_) AllReadyH.nil))
  ·go_simp
   refine hK.out _ _ (HS.out _ (bel_alloc hY _)) ?_; clear hK K hHeld; intro hHeld
   try simp only [Act.put, List.setIfInBounds_toArray, List.set_cons_zero, List.set_cons_succ]
   have own0 := World.ownsRow_made (e := 9) (size := 1) (base := V.heap.size) Y0 #[] 0 hY.out.size (by unfold maxLen; omega) (by rfl)
   have hY := bel_alloc hY (.cells #[] 9)
   generalize Y0.alloc (.cells #[] 9) = Y1 at *
   refine wpAnyH_ready (rs := [3, 4, 9]) (by kernel_rfl) (by simp) ?_
   refine AllReadyH.cons (o := { dst := some 9, op := Go.Op.call { callee := Go.Callee.builtin Go.Builtin.append, args := #[Go.Operand.tmp 6, Go.Operand.tmp 8], argTypes := #[39, 39] }, type := 39, pos := "l15_transit.go:205", after := #[{ on := 0, ground := Go.Ground.data }, { on := 2, ground := Go.Ground.data }], guard := none }) rfl (fun K hK => ?_) (AllReadyH.cons (o := { dst := some 10, op := Go.Op.buildSlice 47 0 #[], type := 47, pos := "l15_transit.go:205", after := #[], guard := none }) rfl (fun K hK => ?_) (AllReadyH.cons (o := { dst := some 3, op := Go.Op.alloc 49, type := 0, pos := "l15_transit.go:205", after := #[], guard := none }) rfl (fun K hK => ?_) AllReadyH.nil))
   ·refine step_flat strF (by decide) _ rfl _ _ _ rfl V.heap.size 9 i0 (.string ⟨#[]⟩) 16 Try.underlying39 hi0 hz0 hs0 hy0 rfl _ (by rfl) own0 _ _ _ g.stops _ (by rfl) (u0.bel strE hY) H0.out (by omega) (by decide) hY.out.size ?_
    intro vv Y2 O0 hg
    obtain ⟨p0, q0, rfl⟩ := own_shape O0
    skip
    have hY := bel_grow hY hg (fun k e => (own0.lt k e).1)
    clear hg
    refine hK.out _ _ (HS.out _ hY) ?_; clear hK K hHeld; intro hHeld
    try simp only [Act.put, List.setIfInBounds_toArray, List.set_cons_zero, List.set_cons_succ]
    refine wpAnyH_ready (rs := [4, 9]) (by kernel_rfl) (by simp) ?_
    refine AllReadyH.cons (o := { dst := some 10, op := Go.Op.buildSlice 47 0 #[], type := 47, pos := "l15_transit.go:205", after := #[], guard := none }) rfl (fun K hK => ?_) (AllReadyH.cons (o := { dst := some 3, op := Go.Op.alloc 49, type := 0, pos := "l15_transit.go:205", after := #[], guard := none }) rfl (fun K hK => ?_) AllReadyH.nil)
    ·go_simp
     refine hK.out _ _ (HS.out _ (bel_alloc hY _)) ?_; clear hK K hHeld; intro hHeld
     try simp only [Act.put, List.setIfInBounds_toArray, List.set_cons_zero, List.set_cons_succ]
     have own1 := World.ownsRow_made (e := 94) (size := 3) (base := V.heap.size) Y2 #[] 0 hY.out.size (by unfold maxLen; omega) (by rfl)
     have O0 := O0.alloc (.cells #[] 94)
     have hY := bel_alloc hY (.cells #[] 94)
     generalize Y2.alloc (.cells #[] 94) = Y3 at *
     refine wpAnyH_ready (rs := [7, 9]) (by kernel_rfl) (by simp) ?_
     refine AllReadyH.cons (o := { dst := some 13, op := Go.Op.call { callee := Go.Callee.builtin Go.Builtin.append, args := #[Go.Operand.tmp 10, Go.Operand.tmp 12], argTypes := #[47, 47] }, type := 47, pos := "l15_transit.go:205", after := #[{ on := 4, ground := Go.Ground.data }, { on := 6, ground := Go.Ground.data }, { on := 3, ground := Go.Ground.chain }], guard := none }) rfl (fun K hK => ?_) (AllReadyH.cons (o := { dst := some 3, op := Go.Op.alloc 49, type := 0, pos := "l15_transit.go:205", after := #[], guard := none }) rfl (fun K hK => ?_) AllReadyH.nil)
     ·refine step_flat wlkF (by decide) _ rfl _ _ _ rfl V.heap.size 94 i1 (.agg #[.int .i64 0, .int .i64 0, .int .i64 0]) 24 Try.underlying47 hi1 hz1 hs1 hy1 rfl _ (by rfl) own1 _ _ _ g.walks _ (by rfl) (u2.bel wlkE hY) H2.out (by omega) (by decide) hY.out.size ?_
      intro vv Y4 O1 hg
      obtain ⟨p1, q1, rfl⟩ := own_shape O1
      skip
      have O0 := own_keepO O0 own1 (by decide) hg
      have hY := bel_grow hY hg (fun k e => (own1.lt k e).1)
      clear hg
      refine hK.out _ _ (HS.out _ hY) ?_; clear hK K hHeld; intro hHeld
      try simp only [Act.put, List.setIfInBounds_toArray, List.set_cons_zero, List.set_cons_succ]
      refine wpAnyH_take (S := (fun w' => w'.cell? ⟨w.heap.size, 0, none⟩ = some (.slice a0 n0 c0) ∧ w'.cell? ⟨w.heap.size, 1, none⟩ = some (.slice a1 n1 c1) ∧ w'.cell? ⟨w.heap.size, 2, none⟩ = some (.slice a2 n2 c2))) (i := 8) (oi := { dst := some 14, op := Go.Op.build 49 #[(0, Go.Operand.tmp 9), (2, Go.Operand.tmp 13)], type := 49, pos := "l15_transit.go:205", after := #[{ on := 3, ground := Go.Ground.data }, { on := 7, ground := Go.Ground.data }], guard := none }) (v := ?vz5) rfl (by kernel_rfl) (by kernel_rfl) (by kernel_rfl) (fun _ _ _ h => h) (Or.inl ⟨by rfl, ?hz5⟩) hHeld ?rz5
      case hz5 => (intro w hSw; (try dsimp only at hSw); obtain ⟨s0, s1, s2⟩ := hSw; go_simp; try with_reducible rfl)
      try simp only [Act.put, List.setIfInBounds_toArray, List.set_cons_zero, List.set_cons_succ]
      refine wpAnyH_ready (rs := [9]) (by kernel_rfl) (by simp) ?_
      refine AllReadyH.cons (o := { dst := some 3, op := Go.Op.alloc 49, type := 0, pos := "l15_transit.go:205", after := #[], guard := none }) rfl (fun K hK => ?_) AllReadyH.nil
      ·go_simp
       refine hK.out _ _ (HS.out _ (bel_alloc hY _)) ?_; clear hK K hHeld; intro hHeld
       try simp only [Act.put, List.setIfInBounds_toArray, List.set_cons_zero, List.set_cons_succ]
       have OB := World.ownsRow_lit (e := 49) (size := 3) (base := V.heap.size) Y4 #[.slice none 0 0, .slice none 0 0, .slice none 0 0] 1 hY.out.size (by unfold maxLen; omega) (by rfl)
       have O0 := O0.alloc (.cells #[.slice none 0 0, .slice none 0 0, .slice none 0 0] 49)
       have O1 := O1.alloc (.cells #[.slice none 0 0, .slice none 0 0, .slice none 0 0] 49)
       have hY := bel_alloc hY (.cells #[.slice none 0 0, .slice none 0 0, .slice none 0 0] 49)
       generalize Y4.alloc (.cells #[.slice none 0 0, .slice none 0 0, .slice none 0 0] 49) = Y5 at *
       have XB := linB OB
       have r0 := XB.cell 0 (by simp)
       have r1 := XB.cell 1 (by simp)
       have r2 := XB.cell 2 (by simp)
       have f0 := XB.free 0
       have f1 := XB.free 1
       have f2 := XB.free 2
       have rl := XB.lt
       simp only [List.getElem_cons_zero, List.getElem_cons_succ] at r0 r1 r2
       have HFin := (show Hid _ from cpm_out HP.out hY O0 O1 OB)
       have hBlo := (OB.lt _ rfl).1
       clear own0 own1 O0 O1 OB XB
       refine wpAnyH_ready (rs := [10]) (by kernel_rfl) (by simp) ?_
       refine AllReadyH.cons (o := { dst := none, op := Go.Op.store 49 (Go.Operand.tmp 3) (Go.Operand.tmp 14), type := 0, pos := "l15_transit.go:205", after := #[{ on := 9, ground := Go.Ground.data }, { on := 8, ground := Go.Ground.data }, { on := 7, ground := Go.Ground.chain }, { on := 0, ground := Go.Ground.phase }, { on := 1, ground := Go.Ground.phase }, { on := 2, ground := Go.Ground.phase }, { on := 3, ground := Go.Ground.phase }, { on := 4, ground := Go.Ground.phase }, { on := 5, ground := Go.Ground.phase }, { on := 6, ground := Go.Ground.phase }, { on := 7, ground := Go.Ground.phase }, { on := 8, ground := Go.Ground.phase }, { on := 9, ground := Go.Ground.phase }], guard := none }) rfl (fun K hK => ?_) AllReadyH.nil
       go_simp
       refine hK.out _ _ (HSX.out _ _ _ _ _ hY hBlo) ?_; clear hK K hHeld; intro hHeld
       try simp only [Act.put, List.setIfInBounds_toArray, List.set_cons_zero, List.set_cons_succ]
       refine wpAnyH_done (by kernel_rfl) ?_ _
       refine NoPanic.normal ?_
       go_wp2_with fail
       go_meet
       case rel => exact HFin.out
     ·go_simp
      refine hK.out _ _ (HS.out _ (bel_alloc hY _)) ?_; clear hK K hHeld; intro hHeld
      try simp only [Act.put, List.setIfInBounds_toArray, List.set_cons_zero, List.set_cons_succ]
      have OB := World.ownsRow_lit (e := 49) (size := 3) (base := V.heap.size) Y3 #[.slice none 0 0, .slice none 0 0, .slice none 0 0] 1 hY.out.size (by unfold maxLen; omega) (by rfl)
      have own1 := own1.alloc (.cells #[.slice none 0 0, .slice none 0 0, .slice none 0 0] 49)
      have O0 := O0.alloc (.cells #[.slice none 0 0, .slice none 0 0, .slice none 0 0] 49)
      have hY := bel_alloc hY (.cells #[.slice none 0 0, .slice none 0 0, .slice none 0 0] 49)
      generalize Y3.alloc (.cells #[.slice none 0 0, .slice none 0 0, .slice none 0 0] 49) = Y4 at *
      refine wpAnyH_ready (rs := [7]) (by kernel_rfl) (by simp) ?_
      refine AllReadyH.cons (o := { dst := some 13, op := Go.Op.call { callee := Go.Callee.builtin Go.Builtin.append, args := #[Go.Operand.tmp 10, Go.Operand.tmp 12], argTypes := #[47, 47] }, type := 47, pos := "l15_transit.go:205", after := #[{ on := 4, ground := Go.Ground.data }, { on := 6, ground := Go.Ground.data }, { on := 3, ground := Go.Ground.chain }], guard := none }) rfl (fun K hK => ?_) AllReadyH.nil
      ·refine step_flat wlkF (by decide) _ rfl _ _ _ rfl V.heap.size 94 i1 (.agg #[.int .i64 0, .int .i64 0, .int .i64 0]) 24 Try.underlying47 hi1 hz1 hs1 hy1 rfl _ (by rfl) own1 _ _ _ g.walks _ (by rfl) (u2.bel wlkE hY) H2.out (by omega) (by decide) hY.out.size ?_
       intro vv Y5 O1 hg
       obtain ⟨p1, q1, rfl⟩ := own_shape O1
       skip
       have O0 := own_keepO O0 own1 (by decide) hg
       have OB := own_keepO OB own1 (by decide) hg
       have hY := bel_grow hY hg (fun k e => (own1.lt k e).1)
       clear hg
       refine hK.out _ _ (HS.out _ hY) ?_; clear hK K hHeld; intro hHeld
       try simp only [Act.put, List.setIfInBounds_toArray, List.set_cons_zero, List.set_cons_succ]
       refine wpAnyH_take (S := (fun w' => w'.cell? ⟨w.heap.size, 0, none⟩ = some (.slice a0 n0 c0) ∧ w'.cell? ⟨w.heap.size, 1, none⟩ = some (.slice a1 n1 c1) ∧ w'.cell? ⟨w.heap.size, 2, none⟩ = some (.slice a2 n2 c2))) (i := 8) (oi := { dst := some 14, op := Go.Op.build 49 #[(0, Go.Operand.tmp 9), (2, Go.Operand.tmp 13)], type := 49, pos := "l15_transit.go:205", after := #[{ on := 3, ground := Go.Ground.data }, { on := 7, ground := Go.Ground.data }], guard := none }) (v := ?vz6) rfl (by kernel_rfl) (by kernel_rfl) (by kernel_rfl) (fun _ _ _ h => h) (Or.inl ⟨by rfl, ?hz6⟩) hHeld ?rz6
       case hz6 => (intro w hSw; (try dsimp only at hSw); obtain ⟨s0, s1, s2⟩ := hSw; go_simp; try with_reducible rfl)
       try simp only [Act.put, List.setIfInBounds_toArray, List.set_cons_zero, List.set_cons_succ]
       have XB := linB OB
       have r0 := XB.cell 0 (by simp)
       have r1 := XB.cell 1 (by simp)
       have r2 := XB.cell 2 (by simp)
       have f0 := XB.free 0
       have f1 := XB.free 1
       have f2 := XB.free 2
       have rl := XB.lt
       simp only [List.getElem_cons_zero, List.getElem_cons_succ] at r0 r1 r2
       have HFin := (show Hid _ from cpm_out HP.out hY O0 O1 OB)
       have hBlo := (OB.lt _ rfl).1
       clear own0 own1 O0 O1 OB XB
       refine wpAnyH_ready (rs := [10]) (by kernel_rfl) (by simp) ?_
       refine AllReadyH.cons (o := { dst := none, op := Go.Op.store 49 (Go.Operand.tmp 3) (Go.Operand.tmp 14), type := 0, pos := "l15_transit.go:205", after := #[{ on := 9, ground := Go.Ground.data }, { on := 8, ground := Go.Ground.data }, { on := 7, ground := Go.Ground.chain }, { on := 0, ground := Go.Ground.phase }, { on := 1, ground := Go.Ground.phase }, { on := 2, ground := Go.Ground.phase }, { on := 3, ground := Go.Ground.phase }, { on := 4, ground := Go.Ground.phase }, { on := 5, ground := Go.Ground.phase }, { on := 6, ground := Go.Ground.phase }, { on := 7, ground := Go.Ground.phase }, { on := 8, ground := Go.Ground.phase }, { on := 9, ground := Go.Ground.phase }], guard := none }) rfl (fun K hK => ?_) AllReadyH.nil
       go_simp
       refine hK.out _ _ (HSX.out _ _ _ _ _ hY hBlo) ?_; clear hK K hHeld; intro hHeld
       try simp only [Act.put, List.setIfInBounds_toArray, List.set_cons_zero, List.set_cons_succ]
       refine wpAnyH_done (by kernel_rfl) ?_ _
       refine NoPanic.normal ?_
       go_wp2_with fail
       go_meet
       case rel => exact HFin.out
    ·go_simp
     refine hK.out _ _ (HS.out _ (bel_alloc hY _)) ?_; clear hK K hHeld; intro hHeld
     try simp only [Act.put, List.setIfInBounds_toArray, List.set_cons_zero, List.set_cons_succ]
     have OB := World.ownsRow_lit (e := 49) (size := 3) (base := V.heap.size) Y2 #[.slice none 0 0, .slice none 0 0, .slice none 0 0] 1 hY.out.size (by unfold maxLen; omega) (by rfl)
     have O0 := O0.alloc (.cells #[.slice none 0 0, .slice none 0 0, .slice none 0 0] 49)
     have hY := bel_alloc hY (.cells #[.slice none 0 0, .slice none 0 0, .slice none 0 0] 49)
     generalize Y2.alloc (.cells #[.slice none 0 0, .slice none 0 0, .slice none 0 0] 49) = Y3 at *
     refine wpAnyH_ready (rs := [4]) (by kernel_rfl) (by simp) ?_
     refine AllReadyH.cons (o := { dst := some 10, op := Go.Op.buildSlice 47 0 #[], type := 47, pos := "l15_transit.go:205", after := #[], guard := none }) rfl (fun K hK => ?_) AllReadyH.nil
     ·go_simp
      refine hK.out _ _ (HS.out _ (bel_alloc hY _)) ?_; clear hK K hHeld; intro hHeld
      try simp only [Act.put, List.setIfInBounds_toArray, List.set_cons_zero, List.set_cons_succ]
      have own1 := World.ownsRow_made (e := 94) (size := 3) (base := V.heap.size) Y3 #[] 0 hY.out.size (by unfold maxLen; omega) (by rfl)
      have O0 := O0.alloc (.cells #[] 94)
      have OB := OB.alloc (.cells #[] 94)
      have hY := bel_alloc hY (.cells #[] 94)
      generalize Y3.alloc (.cells #[] 94) = Y4 at *
      refine wpAnyH_ready (rs := [7]) (by kernel_rfl) (by simp) ?_
      refine AllReadyH.cons (o := { dst := some 13, op := Go.Op.call { callee := Go.Callee.builtin Go.Builtin.append, args := #[Go.Operand.tmp 10, Go.Operand.tmp 12], argTypes := #[47, 47] }, type := 47, pos := "l15_transit.go:205", after := #[{ on := 4, ground := Go.Ground.data }, { on := 6, ground := Go.Ground.data }, { on := 3, ground := Go.Ground.chain }], guard := none }) rfl (fun K hK => ?_) AllReadyH.nil
      ·refine step_flat wlkF (by decide) _ rfl _ _ _ rfl V.heap.size 94 i1 (.agg #[.int .i64 0, .int .i64 0, .int .i64 0]) 24 Try.underlying47 hi1 hz1 hs1 hy1 rfl _ (by rfl) own1 _ _ _ g.walks _ (by rfl) (u2.bel wlkE hY) H2.out (by omega) (by decide) hY.out.size ?_
       intro vv Y5 O1 hg
       obtain ⟨p1, q1, rfl⟩ := own_shape O1
       skip
       have O0 := own_keepO O0 own1 (by decide) hg
       have OB := own_keepO OB own1 (by decide) hg
       have hY := bel_grow hY hg (fun k e => (own1.lt k e).1)
       clear hg
       refine hK.out _ _ (HS.out _ hY) ?_; clear hK K hHeld; intro hHeld
       try simp only [Act.put, List.setIfInBounds_toArray, List.set_cons_zero, List.set_cons_succ]
       refine wpAnyH_take (S := (fun w' => w'.cell? ⟨w.heap.size, 0, none⟩ = some (.slice a0 n0 c0) ∧ w'.cell? ⟨w.heap.size, 1, none⟩ = some (.slice a1 n1 c1) ∧ w'.cell? ⟨w.heap.size, 2, none⟩ = some (.slice a2 n2 c2))) (i := 8) (oi := { dst := some 14, op := Go.Op.build 49 #[(0, Go.Operand.tmp 9), (2, Go.Operand.tmp 13)], type := 49, pos := "l15_transit.go:205", after := #[{ on := 3, ground := Go.Ground.data }, { on := 7, ground := Go.Ground.data }], guard := none }) (v := ?vz7) rfl (by kernel_rfl) (by kernel_rfl) (by kernel_rfl) (fun _ _ _ h => h) (Or.inl ⟨by rfl, ?hz7⟩) hHeld ?rz7
       case hz7 => (intro w hSw; (try dsimp only at hSw); obtain ⟨s0, s1, s2⟩ := hSw; go_simp; try with_reducible rfl)
       try simp only [Act.put, List.setIfInBounds_toArray, List.set_cons_zero, List.set_cons_succ]
       have XB := linB OB
       have r0 := XB.cell 0 (by simp)
       have r1 := XB.cell 1 (by simp)
       have r2 := XB.cell 2 (by simp)
       have f0 := XB.free 0
       have f1 := XB.free 1
       have f2 := XB.free 2
       have rl := XB.lt
       simp only [List.getElem_cons_zero, List.getElem_cons_succ] at r0 r1 r2
       have HFin := (show Hid _ from cpm_out HP.out hY O0 O1 OB)
       have hBlo := (OB.lt _ rfl).1
       clear own0 own1 O0 O1 OB XB
       refine wpAnyH_ready (rs := [10]) (by kernel_rfl) (by simp) ?_
       refine AllReadyH.cons (o := { dst := none, op := Go.Op.store 49 (Go.Operand.tmp 3) (Go.Operand.tmp 14), type := 0, pos := "l15_transit.go:205", after := #[{ on := 9, ground := Go.Ground.data }, { on := 8, ground := Go.Ground.data }, { on := 7, ground := Go.Ground.chain }, { on := 0, ground := Go.Ground.phase }, { on := 1, ground := Go.Ground.phase }, { on := 2, ground := Go.Ground.phase }, { on := 3, ground := Go.Ground.phase }, { on := 4, ground := Go.Ground.phase }, { on := 5, ground := Go.Ground.phase }, { on := 6, ground := Go.Ground.phase }, { on := 7, ground := Go.Ground.phase }, { on := 8, ground := Go.Ground.phase }, { on := 9, ground := Go.Ground.phase }], guard := none }) rfl (fun K hK => ?_) AllReadyH.nil
       go_simp
       refine hK.out _ _ (HSX.out _ _ _ _ _ hY hBlo) ?_; clear hK K hHeld; intro hHeld
       try simp only [Act.put, List.setIfInBounds_toArray, List.set_cons_zero, List.set_cons_succ]
       refine wpAnyH_done (by kernel_rfl) ?_ _
       refine NoPanic.normal ?_
       go_wp2_with fail
       go_meet
       case rel => exact HFin.out
   ·go_simp
    refine hK.out _ _ (HS.out _ (bel_alloc hY _)) ?_; clear hK K hHeld; intro hHeld
    try simp only [Act.put, List.setIfInBounds_toArray, List.set_cons_zero, List.set_cons_succ]
    have own1 := World.ownsRow_made (e := 94) (size := 3) (base := V.heap.size) Y1 #[] 0 hY.out.size (by unfold maxLen; omega) (by rfl)
    have own0 := own0.alloc (.cells #[] 94)
    have hY := bel_alloc hY (.cells #[] 94)
    generalize Y1.alloc (.cells #[] 94) = Y2 at *
    refine wpAnyH_ready (rs := [3, 9]) (by kernel_rfl) (by simp) ?_
    refine AllReadyH.cons (o := { dst := some 9, op := Go.Op.call { callee := Go.Callee.builtin Go.Builtin.append, args := #[Go.Operand.tmp 6, Go.Operand.tmp 8], argTypes := #[39, 39] }, type := 39, pos := "l15_transit.go:205", after := #[{ on := 0, ground := Go.Ground.data }, { on := 2, ground := Go.Ground.data }], guard := none }) rfl (fun K hK => ?_) (AllReadyH.cons (o := { dst := some 3, op := Go.Op.alloc 49, type := 0, pos := "l15_transit.go:205", after := #[], guard := none }) rfl (fun K hK => ?_) AllReadyH.nil)
    ·refine step_flat strF (by decide) _ rfl _ _ _ rfl V.heap.size 9 i0 (.string ⟨#[]⟩) 16 Try.underlying39 hi0 hz0 hs0 hy0 rfl _ (by rfl) own0 _ _ _ g.stops _ (by rfl) (u0.bel strE hY) H0.out (by omega) (by decide) hY.out.size ?_
     intro vv Y3 O0 hg
     obtain ⟨p0, q0, rfl⟩ := own_shape O0
     skip
     have own1 := own_keepO own1 own0 (by decide) hg
     have hY := bel_grow hY hg (fun k e => (own0.lt k e).1)
     clear hg
     refine hK.out _ _ (HS.out _ hY) ?_; clear hK K hHeld; intro hHeld
     try simp only [Act.put, List.setIfInBounds_toArray, List.set_cons_zero, List.set_cons_succ]
     refine wpAnyH_ready (rs := [7, 9]) (by kernel_rfl) (by simp) ?_
     refine AllReadyH.cons (o := { dst := some 13, op := Go.Op.call { callee := Go.Callee.builtin Go.Builtin.append, args := #[Go.Operand.tmp 10, Go.Operand.tmp 12], argTypes := #[47, 47] }, type := 47, pos := "l15_transit.go:205", after := #[{ on := 4, ground := Go.Ground.data }, { on := 6, ground := Go.Ground.data }, { on := 3, ground := Go.Ground.chain }], guard := none }) rfl (fun K hK => ?_) (AllReadyH.cons (o := { dst := some 3, op := Go.Op.alloc 49, type := 0, pos := "l15_transit.go:205", after := #[], guard := none }) rfl (fun K hK => ?_) AllReadyH.nil)
     ·refine step_flat wlkF (by decide) _ rfl _ _ _ rfl V.heap.size 94 i1 (.agg #[.int .i64 0, .int .i64 0, .int .i64 0]) 24 Try.underlying47 hi1 hz1 hs1 hy1 rfl _ (by rfl) own1 _ _ _ g.walks _ (by rfl) (u2.bel wlkE hY) H2.out (by omega) (by decide) hY.out.size ?_
      intro vv Y4 O1 hg
      obtain ⟨p1, q1, rfl⟩ := own_shape O1
      skip
      have O0 := own_keepO O0 own1 (by decide) hg
      have hY := bel_grow hY hg (fun k e => (own1.lt k e).1)
      clear hg
      refine hK.out _ _ (HS.out _ hY) ?_; clear hK K hHeld; intro hHeld
      try simp only [Act.put, List.setIfInBounds_toArray, List.set_cons_zero, List.set_cons_succ]
      refine wpAnyH_take (S := (fun w' => w'.cell? ⟨w.heap.size, 0, none⟩ = some (.slice a0 n0 c0) ∧ w'.cell? ⟨w.heap.size, 1, none⟩ = some (.slice a1 n1 c1) ∧ w'.cell? ⟨w.heap.size, 2, none⟩ = some (.slice a2 n2 c2))) (i := 8) (oi := { dst := some 14, op := Go.Op.build 49 #[(0, Go.Operand.tmp 9), (2, Go.Operand.tmp 13)], type := 49, pos := "l15_transit.go:205", after := #[{ on := 3, ground := Go.Ground.data }, { on := 7, ground := Go.Ground.data }], guard := none }) (v := ?vz8) rfl (by kernel_rfl) (by kernel_rfl) (by kernel_rfl) (fun _ _ _ h => h) (Or.inl ⟨by rfl, ?hz8⟩) hHeld ?rz8
      case hz8 => (intro w hSw; (try dsimp only at hSw); obtain ⟨s0, s1, s2⟩ := hSw; go_simp; try with_reducible rfl)
      try simp only [Act.put, List.setIfInBounds_toArray, List.set_cons_zero, List.set_cons_succ]
      refine wpAnyH_ready (rs := [9]) (by kernel_rfl) (by simp) ?_
      refine AllReadyH.cons (o := { dst := some 3, op := Go.Op.alloc 49, type := 0, pos := "l15_transit.go:205", after := #[], guard := none }) rfl (fun K hK => ?_) AllReadyH.nil
      ·go_simp
       refine hK.out _ _ (HS.out _ (bel_alloc hY _)) ?_; clear hK K hHeld; intro hHeld
       try simp only [Act.put, List.setIfInBounds_toArray, List.set_cons_zero, List.set_cons_succ]
       have OB := World.ownsRow_lit (e := 49) (size := 3) (base := V.heap.size) Y4 #[.slice none 0 0, .slice none 0 0, .slice none 0 0] 1 hY.out.size (by unfold maxLen; omega) (by rfl)
       have O0 := O0.alloc (.cells #[.slice none 0 0, .slice none 0 0, .slice none 0 0] 49)
       have O1 := O1.alloc (.cells #[.slice none 0 0, .slice none 0 0, .slice none 0 0] 49)
       have hY := bel_alloc hY (.cells #[.slice none 0 0, .slice none 0 0, .slice none 0 0] 49)
       generalize Y4.alloc (.cells #[.slice none 0 0, .slice none 0 0, .slice none 0 0] 49) = Y5 at *
       have XB := linB OB
       have r0 := XB.cell 0 (by simp)
       have r1 := XB.cell 1 (by simp)
       have r2 := XB.cell 2 (by simp)
       have f0 := XB.free 0
       have f1 := XB.free 1
       have f2 := XB.free 2
       have rl := XB.lt
       simp only [List.getElem_cons_zero, List.getElem_cons_succ] at r0 r1 r2
       have HFin := (show Hid _ from cpm_out HP.out hY O0 O1 OB)
       have hBlo := (OB.lt _ rfl).1
       clear own0 own1 O0 O1 OB XB
       refine wpAnyH_ready (rs := [10]) (by kernel_rfl) (by simp) ?_
       refine AllReadyH.cons (o := { dst := none, op := Go.Op.store 49 (Go.Operand.tmp 3) (Go.Operand.tmp 14), type := 0, pos := "l15_transit.go:205", after := #[{ on := 9, ground := Go.Ground.data }, { on := 8, ground := Go.Ground.data }, { on := 7, ground := Go.Ground.chain }, { on := 0, ground := Go.Ground.phase }, { on := 1, ground := Go.Ground.phase }, { on := 2, ground := Go.Ground.phase }, { on := 3, ground := Go.Ground.phase }, { on := 4, ground := Go.Ground.phase }, { on := 5, ground := Go.Ground.phase }, { on := 6, ground := Go.Ground.phase }, { on := 7, ground := Go.Ground.phase }, { on := 8, ground := Go.Ground.phase }, { on := 9, ground := Go.Ground.phase }], guard := none }) rfl (fun K hK => ?_) AllReadyH.nil
       go_simp
       refine hK.out _ _ (HSX.out _ _ _ _ _ hY hBlo) ?_; clear hK K hHeld; intro hHeld
       try simp only [Act.put, List.setIfInBounds_toArray, List.set_cons_zero, List.set_cons_succ]
       refine wpAnyH_done (by kernel_rfl) ?_ _
       refine NoPanic.normal ?_
       go_wp2_with fail
       go_meet
       case rel => exact HFin.out
     ·go_simp
      refine hK.out _ _ (HS.out _ (bel_alloc hY _)) ?_; clear hK K hHeld; intro hHeld
      try simp only [Act.put, List.setIfInBounds_toArray, List.set_cons_zero, List.set_cons_succ]
      have OB := World.ownsRow_lit (e := 49) (size := 3) (base := V.heap.size) Y3 #[.slice none 0 0, .slice none 0 0, .slice none 0 0] 1 hY.out.size (by unfold maxLen; omega) (by rfl)
      have own1 := own1.alloc (.cells #[.slice none 0 0, .slice none 0 0, .slice none 0 0] 49)
      have O0 := O0.alloc (.cells #[.slice none 0 0, .slice none 0 0, .slice none 0 0] 49)
      have hY := bel_alloc hY (.cells #[.slice none 0 0, .slice none 0 0, .slice none 0 0] 49)
      generalize Y3.alloc (.cells #[.slice none 0 0, .slice none 0 0, .slice none 0 0] 49) = Y4 at *
      refine wpAnyH_ready (rs := [7]) (by kernel_rfl) (by simp) ?_
      refine AllReadyH.cons (o := { dst := some 13, op := Go.Op.call { callee := Go.Callee.builtin Go.Builtin.append, args := #[Go.Operand.tmp 10, Go.Operand.tmp 12], argTypes := #[47, 47] }, type := 47, pos := "l15_transit.go:205", after := #[{ on := 4, ground := Go.Ground.data }, { on := 6, ground := Go.Ground.data }, { on := 3, ground := Go.Ground.chain }], guard := none }) rfl (fun K hK => ?_) AllReadyH.nil
      ·refine step_flat wlkF (by decide) _ rfl _ _ _ rfl V.heap.size 94 i1 (.agg #[.int .i64 0, .int .i64 0, .int .i64 0]) 24 Try.underlying47 hi1 hz1 hs1 hy1 rfl _ (by rfl) own1 _ _ _ g.walks _ (by rfl) (u2.bel wlkE hY) H2.out (by omega) (by decide) hY.out.size ?_
       intro vv Y5 O1 hg
       obtain ⟨p1, q1, rfl⟩ := own_shape O1
       skip
       have O0 := own_keepO O0 own1 (by decide) hg
       have OB := own_keepO OB own1 (by decide) hg
       have hY := bel_grow hY hg (fun k e => (own1.lt k e).1)
       clear hg
       refine hK.out _ _ (HS.out _ hY) ?_; clear hK K hHeld; intro hHeld
       try simp only [Act.put, List.setIfInBounds_toArray, List.set_cons_zero, List.set_cons_succ]
       refine wpAnyH_take (S := (fun w' => w'.cell? ⟨w.heap.size, 0, none⟩ = some (.slice a0 n0 c0) ∧ w'.cell? ⟨w.heap.size, 1, none⟩ = some (.slice a1 n1 c1) ∧ w'.cell? ⟨w.heap.size, 2, none⟩ = some (.slice a2 n2 c2))) (i := 8) (oi := { dst := some 14, op := Go.Op.build 49 #[(0, Go.Operand.tmp 9), (2, Go.Operand.tmp 13)], type := 49, pos := "l15_transit.go:205", after := #[{ on := 3, ground := Go.Ground.data }, { on := 7, ground := Go.Ground.data }], guard := none }) (v := ?vz9) rfl (by kernel_rfl) (by kernel_rfl) (by kernel_rfl) (fun _ _ _ h => h) (Or.inl ⟨by rfl, ?hz9⟩) hHeld ?rz9
       case hz9 => (intro w hSw; (try dsimp only at hSw); obtain ⟨s0, s1, s2⟩ := hSw; go_simp; try with_reducible rfl)
       try simp only [Act.put, List.setIfInBounds_toArray, List.set_cons_zero, List.set_cons_succ]
       have XB := linB OB
       have r0 := XB.cell 0 (by simp)
       have r1 := XB.cell 1 (by simp)
       have r2 := XB.cell 2 (by simp)
       have f0 := XB.free 0
       have f1 := XB.free 1
       have f2 := XB.free 2
       have rl := XB.lt
       simp only [List.getElem_cons_zero, List.getElem_cons_succ] at r0 r1 r2
       have HFin := (show Hid _ from cpm_out HP.out hY O0 O1 OB)
       have hBlo := (OB.lt _ rfl).1
       clear own0 own1 O0 O1 OB XB
       refine wpAnyH_ready (rs := [10]) (by kernel_rfl) (by simp) ?_
       refine AllReadyH.cons (o := { dst := none, op := Go.Op.store 49 (Go.Operand.tmp 3) (Go.Operand.tmp 14), type := 0, pos := "l15_transit.go:205", after := #[{ on := 9, ground := Go.Ground.data }, { on := 8, ground := Go.Ground.data }, { on := 7, ground := Go.Ground.chain }, { on := 0, ground := Go.Ground.phase }, { on := 1, ground := Go.Ground.phase }, { on := 2, ground := Go.Ground.phase }, { on := 3, ground := Go.Ground.phase }, { on := 4, ground := Go.Ground.phase }, { on := 5, ground := Go.Ground.phase }, { on := 6, ground := Go.Ground.phase }, { on := 7, ground := Go.Ground.phase }, { on := 8, ground := Go.Ground.phase }, { on := 9, ground := Go.Ground.phase }], guard := none }) rfl (fun K hK => ?_) AllReadyH.nil
       go_simp
       refine hK.out _ _ (HSX.out _ _ _ _ _ hY hBlo) ?_; clear hK K hHeld; intro hHeld
       try simp only [Act.put, List.setIfInBounds_toArray, List.set_cons_zero, List.set_cons_succ]
       refine wpAnyH_done (by kernel_rfl) ?_ _
       refine NoPanic.normal ?_
       go_wp2_with fail
       go_meet
       case rel => exact HFin.out
    ·go_simp
     refine hK.out _ _ (HS.out _ (bel_alloc hY _)) ?_; clear hK K hHeld; intro hHeld
     try simp only [Act.put, List.setIfInBounds_toArray, List.set_cons_zero, List.set_cons_succ]
     have OB := World.ownsRow_lit (e := 49) (size := 3) (base := V.heap.size) Y2 #[.slice none 0 0, .slice none 0 0, .slice none 0 0] 1 hY.out.size (by unfold maxLen; omega) (by rfl)
     have own0 := own0.alloc (.cells #[.slice none 0 0, .slice none 0 0, .slice none 0 0] 49)
     have own1 := own1.alloc (.cells #[.slice none 0 0, .slice none 0 0, .slice none 0 0] 49)
     have hY := bel_alloc hY (.cells #[.slice none 0 0, .slice none 0 0, .slice none 0 0] 49)
     generalize Y2.alloc (.cells #[.slice none 0 0, .slice none 0 0, .slice none 0 0] 49) = Y3 at *
     refine wpAnyH_ready (rs := [3]) (by kernel_rfl) (by simp) ?_
     refine AllReadyH.cons (o := { dst := some 9, op := Go.Op.call { callee := Go.Callee.builtin Go.Builtin.append, args := #[Go.Operand.tmp 6, Go.Operand.tmp 8], argTypes := #[39, 39] }, type := 39, pos := "l15_transit.go:205", after := #[{ on := 0, ground := Go.Ground.data }, { on := 2, ground := Go.Ground.data }], guard := none }) rfl (fun K hK => ?_) AllReadyH.nil
     ·refine step_flat strF (by decide) _ rfl _ _ _ rfl V.heap.size 9 i0 (.string ⟨#[]⟩) 16 Try.underlying39 hi0 hz0 hs0 hy0 rfl _ (by rfl) own0 _ _ _ g.stops _ (by rfl) (u0.bel strE hY) H0.out (by omega) (by decide) hY.out.size ?_
      intro vv Y4 O0 hg
      obtain ⟨p0, q0, rfl⟩ := own_shape O0
      skip
      have own1 := own_keepO own1 own0 (by decide) hg
      have OB := own_keepO OB own0 (by decide) hg
      have hY := bel_grow hY hg (fun k e => (own0.lt k e).1)
      clear hg
      refine hK.out _ _ (HS.out _ hY) ?_; clear hK K hHeld; intro hHeld
      try simp only [Act.put, List.setIfInBounds_toArray, List.set_cons_zero, List.set_cons_succ]
      refine wpAnyH_ready (rs := [7]) (by kernel_rfl) (by simp) ?_
      refine AllReadyH.cons (o := { dst := some 13, op := Go.Op.call { callee := Go.Callee.builtin Go.Builtin.append, args := #[Go.Operand.tmp 10, Go.Operand.tmp 12], argTypes := #[47, 47] }, type := 47, pos := "l15_transit.go:205", after := #[{ on := 4, ground := Go.Ground.data }, { on := 6, ground := Go.Ground.data }, { on := 3, ground := Go.Ground.chain }], guard := none }) rfl (fun K hK => ?_) AllReadyH.nil
      ·refine step_flat wlkF (by decide) _ rfl _ _ _ rfl V.heap.size 94 i1 (.agg #[.int .i64 0, .int .i64 0, .int .i64 0]) 24 Try.underlying47 hi1 hz1 hs1 hy1 rfl _ (by rfl) own1 _ _ _ g.walks _ (by rfl) (u2.bel wlkE hY) H2.out (by omega) (by decide) hY.out.size ?_
       intro vv Y5 O1 hg
       obtain ⟨p1, q1, rfl⟩ := own_shape O1
       skip
       have O0 := own_keepO O0 own1 (by decide) hg
       have OB := own_keepO OB own1 (by decide) hg
       have hY := bel_grow hY hg (fun k e => (own1.lt k e).1)
       clear hg
       refine hK.out _ _ (HS.out _ hY) ?_; clear hK K hHeld; intro hHeld
       try simp only [Act.put, List.setIfInBounds_toArray, List.set_cons_zero, List.set_cons_succ]
       refine wpAnyH_take (S := (fun w' => w'.cell? ⟨w.heap.size, 0, none⟩ = some (.slice a0 n0 c0) ∧ w'.cell? ⟨w.heap.size, 1, none⟩ = some (.slice a1 n1 c1) ∧ w'.cell? ⟨w.heap.size, 2, none⟩ = some (.slice a2 n2 c2))) (i := 8) (oi := { dst := some 14, op := Go.Op.build 49 #[(0, Go.Operand.tmp 9), (2, Go.Operand.tmp 13)], type := 49, pos := "l15_transit.go:205", after := #[{ on := 3, ground := Go.Ground.data }, { on := 7, ground := Go.Ground.data }], guard := none }) (v := ?vz10) rfl (by kernel_rfl) (by kernel_rfl) (by kernel_rfl) (fun _ _ _ h => h) (Or.inl ⟨by rfl, ?hz10⟩) hHeld ?rz10
       case hz10 => (intro w hSw; (try dsimp only at hSw); obtain ⟨s0, s1, s2⟩ := hSw; go_simp; try with_reducible rfl)
       try simp only [Act.put, List.setIfInBounds_toArray, List.set_cons_zero, List.set_cons_succ]
       have XB := linB OB
       have r0 := XB.cell 0 (by simp)
       have r1 := XB.cell 1 (by simp)
       have r2 := XB.cell 2 (by simp)
       have f0 := XB.free 0
       have f1 := XB.free 1
       have f2 := XB.free 2
       have rl := XB.lt
       simp only [List.getElem_cons_zero, List.getElem_cons_succ] at r0 r1 r2
       have HFin := (show Hid _ from cpm_out HP.out hY O0 O1 OB)
       have hBlo := (OB.lt _ rfl).1
       clear own0 own1 O0 O1 OB XB
       refine wpAnyH_ready (rs := [10]) (by kernel_rfl) (by simp) ?_
       refine AllReadyH.cons (o := { dst := none, op := Go.Op.store 49 (Go.Operand.tmp 3) (Go.Operand.tmp 14), type := 0, pos := "l15_transit.go:205", after := #[{ on := 9, ground := Go.Ground.data }, { on := 8, ground := Go.Ground.data }, { on := 7, ground := Go.Ground.chain }, { on := 0, ground := Go.Ground.phase }, { on := 1, ground := Go.Ground.phase }, { on := 2, ground := Go.Ground.phase }, { on := 3, ground := Go.Ground.phase }, { on := 4, ground := Go.Ground.phase }, { on := 5, ground := Go.Ground.phase }, { on := 6, ground := Go.Ground.phase }, { on := 7, ground := Go.Ground.phase }, { on := 8, ground := Go.Ground.phase }, { on := 9, ground := Go.Ground.phase }], guard := none }) rfl (fun K hK => ?_) AllReadyH.nil
       go_simp
       refine hK.out _ _ (HSX.out _ _ _ _ _ hY hBlo) ?_; clear hK K hHeld; intro hHeld
       try simp only [Act.put, List.setIfInBounds_toArray, List.set_cons_zero, List.set_cons_succ]
       refine wpAnyH_done (by kernel_rfl) ?_ _
       refine NoPanic.normal ?_
       go_wp2_with fail
       go_meet
       case rel => exact HFin.out
   ·go_simp
    refine hK.out _ _ (HS.out _ (bel_alloc hY _)) ?_; clear hK K hHeld; intro hHeld
    try simp only [Act.put, List.setIfInBounds_toArray, List.set_cons_zero, List.set_cons_succ]
    have OB := World.ownsRow_lit (e := 49) (size := 3) (base := V.heap.size) Y1 #[.slice none 0 0, .slice none 0 0, .slice none 0 0] 1 hY.out.size (by unfold maxLen; omega) (by rfl)
    have own0 := own0.alloc (.cells #[.slice none 0 0, .slice none 0 0, .slice none 0 0] 49)
    have hY := bel_alloc hY (.cells #[.slice none 0 0, .slice none 0 0, .slice none 0 0] 49)
    generalize Y1.alloc (.cells #[.slice none 0 0, .slice none 0 0, .slice none 0 0] 49) = Y2 at *
    refine wpAnyH_ready (rs := [3, 4]) (by kernel_rfl) (by simp) ?_
    refine AllReadyH.cons (o := { dst := some 9, op := Go.Op.call { callee := Go.Callee.builtin Go.Builtin.append, args := #[Go.Operand.tmp 6, Go.Operand.tmp 8], argTypes := #[39, 39] }, type := 39, pos := "l15_transit.go:205", after := #[{ on := 0, ground := Go.Ground.data }, { on := 2, ground := Go.Ground.data }], guard := none }) rfl (fun K hK => ?_) (AllReadyH.cons (o := { dst := some 10, op := Go.Op.buildSlice 47 0 #[], type := 47, pos := "l15_transit.go:205", after := #[], guard := none }) rfl (fun K hK => ?_) AllReadyH.nil)
    ·refine step_flat strF (by decide) _ rfl _ _ _ rfl V.heap.size 9 i0 (.string ⟨#[]⟩) 16 Try.underlying39 hi0 hz0 hs0 hy0 rfl _ (by rfl) own0 _ _ _ g.stops _ (by rfl) (u0.bel strE hY) H0.out (by omega) (by decide) hY.out.size ?_
     intro vv Y3 O0 hg
     obtain ⟨p0, q0, rfl⟩ := own_shape O0
     skip
     have OB := own_keepO OB own0 (by decide) hg
     have hY := bel_grow hY hg (fun k e => (own0.lt k e).1)
     clear hg
     refine hK.out _ _ (HS.out _ hY) ?_; clear hK K hHeld; intro hHeld
     try simp only [Act.put, List.setIfInBounds_toArray, List.set_cons_zero, List.set_cons_succ]
     refine wpAnyH_ready (rs := [4]) (by kernel_rfl) (by simp) ?_
     refine AllReadyH.cons (o := { dst := some 10, op := Go.Op.buildSlice 47 0 #[], type := 47, pos := "l15_transit.go:205", after := #[], guard := none }) rfl (fun K hK => ?_) AllReadyH.nil
     ·go_simp
      refine hK.out _ _ (HS.out _ (bel_alloc hY _)) ?_; clear hK K hHeld; intro hHeld
      try simp only [Act.put, List.setIfInBounds_toArray, List.set_cons_zero, List.set_cons_succ]
      have own1 := World.ownsRow_made (e := 94) (size := 3) (base := V.heap.size) Y3 #[] 0 hY.out.size (by unfold maxLen; omega) (by rfl)
      have O0 := O0.alloc (.cells #[] 94)
      have OB := OB.alloc (.cells #[] 94)
      have hY := bel_alloc hY (.cells #[] 94)
      generalize Y3.alloc (.cells #[] 94) = Y4 at *
      refine wpAnyH_ready (rs := [7]) (by kernel_rfl) (by simp) ?_
      refine AllReadyH.cons (o := { dst := some 13, op := Go.Op.call { callee := Go.Callee.builtin Go.Builtin.append, args := #[Go.Operand.tmp 10, Go.Operand.tmp 12], argTypes := #[47, 47] }, type := 47, pos := "l15_transit.go:205", after := #[{ on := 4, ground := Go.Ground.data }, { on := 6, ground := Go.Ground.data }, { on := 3, ground := Go.Ground.chain }], guard := none }) rfl (fun K hK => ?_) AllReadyH.nil
      ·refine step_flat wlkF (by decide) _ rfl _ _ _ rfl V.heap.size 94 i1 (.agg #[.int .i64 0, .int .i64 0, .int .i64 0]) 24 Try.underlying47 hi1 hz1 hs1 hy1 rfl _ (by rfl) own1 _ _ _ g.walks _ (by rfl) (u2.bel wlkE hY) H2.out (by omega) (by decide) hY.out.size ?_
       intro vv Y5 O1 hg
       obtain ⟨p1, q1, rfl⟩ := own_shape O1
       skip
       have O0 := own_keepO O0 own1 (by decide) hg
       have OB := own_keepO OB own1 (by decide) hg
       have hY := bel_grow hY hg (fun k e => (own1.lt k e).1)
       clear hg
       refine hK.out _ _ (HS.out _ hY) ?_; clear hK K hHeld; intro hHeld
       try simp only [Act.put, List.setIfInBounds_toArray, List.set_cons_zero, List.set_cons_succ]
       refine wpAnyH_take (S := (fun w' => w'.cell? ⟨w.heap.size, 0, none⟩ = some (.slice a0 n0 c0) ∧ w'.cell? ⟨w.heap.size, 1, none⟩ = some (.slice a1 n1 c1) ∧ w'.cell? ⟨w.heap.size, 2, none⟩ = some (.slice a2 n2 c2))) (i := 8) (oi := { dst := some 14, op := Go.Op.build 49 #[(0, Go.Operand.tmp 9), (2, Go.Operand.tmp 13)], type := 49, pos := "l15_transit.go:205", after := #[{ on := 3, ground := Go.Ground.data }, { on := 7, ground := Go.Ground.data }], guard := none }) (v := ?vz11) rfl (by kernel_rfl) (by kernel_rfl) (by kernel_rfl) (fun _ _ _ h => h) (Or.inl ⟨by rfl, ?hz11⟩) hHeld ?rz11
       case hz11 => (intro w hSw; (try dsimp only at hSw); obtain ⟨s0, s1, s2⟩ := hSw; go_simp; try with_reducible rfl)
       try simp only [Act.put, List.setIfInBounds_toArray, List.set_cons_zero, List.set_cons_succ]
       have XB := linB OB
       have r0 := XB.cell 0 (by simp)
       have r1 := XB.cell 1 (by simp)
       have r2 := XB.cell 2 (by simp)
       have f0 := XB.free 0
       have f1 := XB.free 1
       have f2 := XB.free 2
       have rl := XB.lt
       simp only [List.getElem_cons_zero, List.getElem_cons_succ] at r0 r1 r2
       have HFin := (show Hid _ from cpm_out HP.out hY O0 O1 OB)
       have hBlo := (OB.lt _ rfl).1
       clear own0 own1 O0 O1 OB XB
       refine wpAnyH_ready (rs := [10]) (by kernel_rfl) (by simp) ?_
       refine AllReadyH.cons (o := { dst := none, op := Go.Op.store 49 (Go.Operand.tmp 3) (Go.Operand.tmp 14), type := 0, pos := "l15_transit.go:205", after := #[{ on := 9, ground := Go.Ground.data }, { on := 8, ground := Go.Ground.data }, { on := 7, ground := Go.Ground.chain }, { on := 0, ground := Go.Ground.phase }, { on := 1, ground := Go.Ground.phase }, { on := 2, ground := Go.Ground.phase }, { on := 3, ground := Go.Ground.phase }, { on := 4, ground := Go.Ground.phase }, { on := 5, ground := Go.Ground.phase }, { on := 6, ground := Go.Ground.phase }, { on := 7, ground := Go.Ground.phase }, { on := 8, ground := Go.Ground.phase }, { on := 9, ground := Go.Ground.phase }], guard := none }) rfl (fun K hK => ?_) AllReadyH.nil
       go_simp
       refine hK.out _ _ (HSX.out _ _ _ _ _ hY hBlo) ?_; clear hK K hHeld; intro hHeld
       try simp only [Act.put, List.setIfInBounds_toArray, List.set_cons_zero, List.set_cons_succ]
       refine wpAnyH_done (by kernel_rfl) ?_ _
       refine NoPanic.normal ?_
       go_wp2_with fail
       go_meet
       case rel => exact HFin.out
    ·go_simp
     refine hK.out _ _ (HS.out _ (bel_alloc hY _)) ?_; clear hK K hHeld; intro hHeld
     try simp only [Act.put, List.setIfInBounds_toArray, List.set_cons_zero, List.set_cons_succ]
     have own1 := World.ownsRow_made (e := 94) (size := 3) (base := V.heap.size) Y2 #[] 0 hY.out.size (by unfold maxLen; omega) (by rfl)
     have own0 := own0.alloc (.cells #[] 94)
     have OB := OB.alloc (.cells #[] 94)
     have hY := bel_alloc hY (.cells #[] 94)
     generalize Y2.alloc (.cells #[] 94) = Y3 at *
     refine wpAnyH_ready (rs := [3]) (by kernel_rfl) (by simp) ?_
     refine AllReadyH.cons (o := { dst := some 9, op := Go.Op.call { callee := Go.Callee.builtin Go.Builtin.append, args := #[Go.Operand.tmp 6, Go.Operand.tmp 8], argTypes := #[39, 39] }, type := 39, pos := "l15_transit.go:205", after := #[{ on := 0, ground := Go.Ground.data }, { on := 2, ground := Go.Ground.data }], guard := none }) rfl (fun K hK => ?_) AllReadyH.nil
     ·refine step_flat strF (by decide) _ rfl _ _ _ rfl V.heap.size 9 i0 (.string ⟨#[]⟩) 16 Try.underlying39 hi0 hz0 hs0 hy0 rfl _ (by rfl) own0 _ _ _ g.stops _ (by rfl) (u0.bel strE hY) H0.out (by omega) (by decide) hY.out.size ?_
      intro vv Y4 O0 hg
      obtain ⟨p0, q0, rfl⟩ := own_shape O0
      skip
      have own1 := own_keepO own1 own0 (by decide) hg
      have OB := own_keepO OB own0 (by decide) hg
      have hY := bel_grow hY hg (fun k e => (own0.lt k e).1)
      clear hg
      refine hK.out _ _ (HS.out _ hY) ?_; clear hK K hHeld; intro hHeld
      try simp only [Act.put, List.setIfInBounds_toArray, List.set_cons_zero, List.set_cons_succ]
      refine wpAnyH_ready (rs := [7]) (by kernel_rfl) (by simp) ?_
      refine AllReadyH.cons (o := { dst := some 13, op := Go.Op.call { callee := Go.Callee.builtin Go.Builtin.append, args := #[Go.Operand.tmp 10, Go.Operand.tmp 12], argTypes := #[47, 47] }, type := 47, pos := "l15_transit.go:205", after := #[{ on := 4, ground := Go.Ground.data }, { on := 6, ground := Go.Ground.data }, { on := 3, ground := Go.Ground.chain }], guard := none }) rfl (fun K hK => ?_) AllReadyH.nil
      ·refine step_flat wlkF (by decide) _ rfl _ _ _ rfl V.heap.size 94 i1 (.agg #[.int .i64 0, .int .i64 0, .int .i64 0]) 24 Try.underlying47 hi1 hz1 hs1 hy1 rfl _ (by rfl) own1 _ _ _ g.walks _ (by rfl) (u2.bel wlkE hY) H2.out (by omega) (by decide) hY.out.size ?_
       intro vv Y5 O1 hg
       obtain ⟨p1, q1, rfl⟩ := own_shape O1
       skip
       have O0 := own_keepO O0 own1 (by decide) hg
       have OB := own_keepO OB own1 (by decide) hg
       have hY := bel_grow hY hg (fun k e => (own1.lt k e).1)
       clear hg
       refine hK.out _ _ (HS.out _ hY) ?_; clear hK K hHeld; intro hHeld
       try simp only [Act.put, List.setIfInBounds_toArray, List.set_cons_zero, List.set_cons_succ]
       refine wpAnyH_take (S := (fun w' => w'.cell? ⟨w.heap.size, 0, none⟩ = some (.slice a0 n0 c0) ∧ w'.cell? ⟨w.heap.size, 1, none⟩ = some (.slice a1 n1 c1) ∧ w'.cell? ⟨w.heap.size, 2, none⟩ = some (.slice a2 n2 c2))) (i := 8) (oi := { dst := some 14, op := Go.Op.build 49 #[(0, Go.Operand.tmp 9), (2, Go.Operand.tmp 13)], type := 49, pos := "l15_transit.go:205", after := #[{ on := 3, ground := Go.Ground.data }, { on := 7, ground := Go.Ground.data }], guard := none }) (v := ?vz12) rfl (by kernel_rfl) (by kernel_rfl) (by kernel_rfl) (fun _ _ _ h => h) (Or.inl ⟨by rfl, ?hz12⟩) hHeld ?rz12
       case hz12 => (intro w hSw; (try dsimp only at hSw); obtain ⟨s0, s1, s2⟩ := hSw; go_simp; try with_reducible rfl)
       try simp only [Act.put, List.setIfInBounds_toArray, List.set_cons_zero, List.set_cons_succ]
       have XB := linB OB
       have r0 := XB.cell 0 (by simp)
       have r1 := XB.cell 1 (by simp)
       have r2 := XB.cell 2 (by simp)
       have f0 := XB.free 0
       have f1 := XB.free 1
       have f2 := XB.free 2
       have rl := XB.lt
       simp only [List.getElem_cons_zero, List.getElem_cons_succ] at r0 r1 r2
       have HFin := (show Hid _ from cpm_out HP.out hY O0 O1 OB)
       have hBlo := (OB.lt _ rfl).1
       clear own0 own1 O0 O1 OB XB
       refine wpAnyH_ready (rs := [10]) (by kernel_rfl) (by simp) ?_
       refine AllReadyH.cons (o := { dst := none, op := Go.Op.store 49 (Go.Operand.tmp 3) (Go.Operand.tmp 14), type := 0, pos := "l15_transit.go:205", after := #[{ on := 9, ground := Go.Ground.data }, { on := 8, ground := Go.Ground.data }, { on := 7, ground := Go.Ground.chain }, { on := 0, ground := Go.Ground.phase }, { on := 1, ground := Go.Ground.phase }, { on := 2, ground := Go.Ground.phase }, { on := 3, ground := Go.Ground.phase }, { on := 4, ground := Go.Ground.phase }, { on := 5, ground := Go.Ground.phase }, { on := 6, ground := Go.Ground.phase }, { on := 7, ground := Go.Ground.phase }, { on := 8, ground := Go.Ground.phase }, { on := 9, ground := Go.Ground.phase }], guard := none }) rfl (fun K hK => ?_) AllReadyH.nil
       go_simp
       refine hK.out _ _ (HSX.out _ _ _ _ _ hY hBlo) ?_; clear hK K hHeld; intro hHeld
       try simp only [Act.put, List.setIfInBounds_toArray, List.set_cons_zero, List.set_cons_succ]
       refine wpAnyH_done (by kernel_rfl) ?_ _
       refine NoPanic.normal ?_
       go_wp2_with fail
       go_meet
       case rel => exact HFin.out
  ·go_simp
   refine hK.out _ _ (HS.out _ (bel_alloc hY _)) ?_; clear hK K hHeld; intro hHeld
   try simp only [Act.put, List.setIfInBounds_toArray, List.set_cons_zero, List.set_cons_succ]
   have own1 := World.ownsRow_made (e := 94) (size := 3) (base := V.heap.size) Y0 #[] 0 hY.out.size (by unfold maxLen; omega) (by rfl)
   have hY := bel_alloc hY (.cells #[] 94)
   generalize Y0.alloc (.cells #[] 94) = Y1 at *
   refine wpAnyH_ready (rs := [0, 9]) (by kernel_rfl) (by simp) ?_
   refine AllReadyH.cons (o := { dst := some 6, op := Go.Op.buildSlice 39 0 #[], type := 39, pos := "l15_transit.go:205", after := #[], guard := none }) rfl (fun K hK => ?_) (AllReadyH.cons (o := { dst := some 3, op := Go.Op.alloc 49, type := 0, pos := "l15_transit.go:205", after := #[], guard := none }) rfl (fun K hK => ?_) AllReadyH.nil)
   ·go_simp
    refine hK.out _ _ (HS.out _ (bel_alloc hY _)) ?_; clear hK K hHeld; intro hHeld
    try simp only [Act.put, List.setIfInBounds_toArray, List.set_cons_zero, List.set_cons_succ]
    have own0 := World.ownsRow_made (e := 9) (size := 1) (base := V.heap.size) Y1 #[] 0 hY.out.size (by unfold maxLen; omega) (by rfl)
    have own1 := own1.alloc (.cells #[] 9)
    have hY := bel_alloc hY (.cells #[] 9)
    generalize Y1.alloc (.cells #[] 9) = Y2 at *
    refine wpAnyH_ready (rs := [3, 9]) (by kernel_rfl) (by simp) ?_
    refine AllReadyH.cons (o := { dst := some 9, op := Go.Op.call { callee := Go.Callee.builtin Go.Builtin.append, args := #[Go.Operand.tmp 6, Go.Operand.tmp 8], argTypes := #[39, 39] }, type := 39, pos := "l15_transit.go:205", after := #[{ on := 0, ground := Go.Ground.data }, { on := 2, ground := Go.Ground.data }], guard := none }) rfl (fun K hK => ?_) (AllReadyH.cons (o := { dst := some 3, op := Go.Op.alloc 49, type := 0, pos := "l15_transit.go:205", after := #[], guard := none }) rfl (fun K hK => ?_) AllReadyH.nil)
    ·refine step_flat strF (by decide) _ rfl _ _ _ rfl V.heap.size 9 i0 (.string ⟨#[]⟩) 16 Try.underlying39 hi0 hz0 hs0 hy0 rfl _ (by rfl) own0 _ _ _ g.stops _ (by rfl) (u0.bel strE hY) H0.out (by omega) (by decide) hY.out.size ?_
     intro vv Y3 O0 hg
     obtain ⟨p0, q0, rfl⟩ := own_shape O0
     skip
     have own1 := own_keepO own1 own0 (by decide) hg
     have hY := bel_grow hY hg (fun k e => (own0.lt k e).1)
     clear hg
     refine hK.out _ _ (HS.out _ hY) ?_; clear hK K hHeld; intro hHeld
     try simp only [Act.put, List.setIfInBounds_toArray, List.set_cons_zero, List.set_cons_succ]
     refine wpAnyH_ready (rs := [7, 9]) (by kernel_rfl) (by simp) ?_
     refine AllReadyH.cons (o := { dst := some 13, op := Go.Op.call { callee := Go.Callee.builtin Go.Builtin.append, args := #[Go.Operand.tmp 10, Go.Operand.tmp 12], argTypes := #[47, 47] }, type := 47, pos := "l15_transit.go:205", after := #[{ on := 4, ground := Go.Ground.data }, { on := 6, ground := Go.Ground.data }, { on := 3, ground := Go.Ground.chain }], guard := none }) rfl (fun K hK => ?_) (AllReadyH.cons (o := { dst := some 3, op := Go.Op.alloc 49, type := 0, pos := "l15_transit.go:205", after := #[], guard := none }) rfl (fun K hK => ?_) AllReadyH.nil)
     ·refine step_flat wlkF (by decide) _ rfl _ _ _ rfl V.heap.size 94 i1 (.agg #[.int .i64 0, .int .i64 0, .int .i64 0]) 24 Try.underlying47 hi1 hz1 hs1 hy1 rfl _ (by rfl) own1 _ _ _ g.walks _ (by rfl) (u2.bel wlkE hY) H2.out (by omega) (by decide) hY.out.size ?_
      intro vv Y4 O1 hg
      obtain ⟨p1, q1, rfl⟩ := own_shape O1
      skip
      have O0 := own_keepO O0 own1 (by decide) hg
      have hY := bel_grow hY hg (fun k e => (own1.lt k e).1)
      clear hg
      refine hK.out _ _ (HS.out _ hY) ?_; clear hK K hHeld; intro hHeld
      try simp only [Act.put, List.setIfInBounds_toArray, List.set_cons_zero, List.set_cons_succ]
      refine wpAnyH_take (S := (fun w' => w'.cell? ⟨w.heap.size, 0, none⟩ = some (.slice a0 n0 c0) ∧ w'.cell? ⟨w.heap.size, 1, none⟩ = some (.slice a1 n1 c1) ∧ w'.cell? ⟨w.heap.size, 2, none⟩ = some (.slice a2 n2 c2))) (i := 8) (oi := { dst := some 14, op := Go.Op.build 49 #[(0, Go.Operand.tmp 9), (2, Go.Operand.tmp 13)], type := 49, pos := "l15_transit.go:205", after := #[{ on := 3, ground := Go.Ground.data }, { on := 7, ground := Go.Ground.data }], guard := none }) (v := ?vz13) rfl (by kernel_rfl) (by kernel_rfl) (by kernel_rfl) (fun _ _ _ h => h) (Or.inl ⟨by rfl, ?hz13⟩) hHeld ?rz13
      case hz13 => (intro w hSw; (try dsimp only at hSw); obtain ⟨s0, s1, s2⟩ := hSw; go_simp; try with_reducible rfl)
      try simp only [Act.put, List.setIfInBounds_toArray, List.set_cons_zero, List.set_cons_succ]
      refine wpAnyH_ready (rs := [9]) (by kernel_rfl) (by simp) ?_
      refine AllReadyH.cons (o := { dst := some 3, op := Go.Op.alloc 49, type := 0, pos := "l15_transit.go:205", after := #[], guard := none }) rfl (fun K hK => ?_) AllReadyH.nil
      ·go_simp
       refine hK.out _ _ (HS.out _ (bel_alloc hY _)) ?_; clear hK K hHeld; intro hHeld
       try simp only [Act.put, List.setIfInBounds_toArray, List.set_cons_zero, List.set_cons_succ]
       have OB := World.ownsRow_lit (e := 49) (size := 3) (base := V.heap.size) Y4 #[.slice none 0 0, .slice none 0 0, .slice none 0 0] 1 hY.out.size (by unfold maxLen; omega) (by rfl)
       have O0 := O0.alloc (.cells #[.slice none 0 0, .slice none 0 0, .slice none 0 0] 49)
       have O1 := O1.alloc (.cells #[.slice none 0 0, .slice none 0 0, .slice none 0 0] 49)
       have hY := bel_alloc hY (.cells #[.slice none 0 0, .slice none 0 0, .slice none 0 0] 49)
       generalize Y4.alloc (.cells #[.slice none 0 0, .slice none 0 0, .slice none 0 0] 49) = Y5 at *
       have XB := linB OB
       have r0 := XB.cell 0 (by simp)
       have r1 := XB.cell 1 (by simp)
       have r2 := XB.cell 2 (by simp)
       have f0 := XB.free 0
       have f1 := XB.free 1
       have f2 := XB.free 2
       have rl := XB.lt
       simp only [List.getElem_cons_zero, List.getElem_cons_succ] at r0 r1 r2
       have HFin := (show Hid _ from cpm_out HP.out hY O0 O1 OB)
       have hBlo := (OB.lt _ rfl).1
       clear own0 own1 O0 O1 OB XB
       refine wpAnyH_ready (rs := [10]) (by kernel_rfl) (by simp) ?_
       refine AllReadyH.cons (o := { dst := none, op := Go.Op.store 49 (Go.Operand.tmp 3) (Go.Operand.tmp 14), type := 0, pos := "l15_transit.go:205", after := #[{ on := 9, ground := Go.Ground.data }, { on := 8, ground := Go.Ground.data }, { on := 7, ground := Go.Ground.chain }, { on := 0, ground := Go.Ground.phase }, { on := 1, ground := Go.Ground.phase }, { on := 2, ground := Go.Ground.phase }, { on := 3, ground := Go.Ground.phase }, { on := 4, ground := Go.Ground.phase }, { on := 5, ground := Go.Ground.phase }, { on := 6, ground := Go.Ground.phase }, { on := 7, ground := Go.Ground.phase }, { on := 8, ground := Go.Ground.phase }, { on := 9, ground := Go.Ground.phase }], guard := none }) rfl (fun K hK => ?_) AllReadyH.nil
       go_simp
       refine hK.out _ _ (HSX.out _ _ _ _ _ hY hBlo) ?_; clear hK K hHeld; intro hHeld
       try simp only [Act.put, List.setIfInBounds_toArray, List.set_cons_zero, List.set_cons_succ]
       refine wpAnyH_done (by kernel_rfl) ?_ _
       refine NoPanic.normal ?_
       go_wp2_with fail
       go_meet
       case rel => exact HFin.out
     ·go_simp
      refine hK.out _ _ (HS.out _ (bel_alloc hY _)) ?_; clear hK K hHeld; intro hHeld
      try simp only [Act.put, List.setIfInBounds_toArray, List.set_cons_zero, List.set_cons_succ]
      have OB := World.ownsRow_lit (e := 49) (size := 3) (base := V.heap.size) Y3 #[.slice none 0 0, .slice none 0 0, .slice none 0 0] 1 hY.out.size (by unfold maxLen; omega) (by rfl)
      have own1 := own1.alloc (.cells #[.slice none 0 0, .slice none 0 0, .slice none 0 0] 49)
      have O0 := O0.alloc (.cells #[.slice none 0 0, .slice none 0 0, .slice none 0 0] 49)
      have hY := bel_alloc hY (.cells #[.slice none 0 0, .slice none 0 0, .slice none 0 0] 49)
      generalize Y3.alloc (.cells #[.slice none 0 0, .slice none 0 0, .slice none 0 0] 49) = Y4 at *
      refine wpAnyH_ready (rs := [7]) (by kernel_rfl) (by simp) ?_
      refine AllReadyH.cons (o := { dst := some 13, op := Go.Op.call { callee := Go.Callee.builtin Go.Builtin.append, args := #[Go.Operand.tmp 10, Go.Operand.tmp 12], argTypes := #[47, 47] }, type := 47, pos := "l15_transit.go:205", after := #[{ on := 4, ground := Go.Ground.data }, { on := 6, ground := Go.Ground.data }, { on := 3, ground := Go.Ground.chain }], guard := none }) rfl (fun K hK => ?_) AllReadyH.nil
      ·refine step_flat wlkF (by decide) _ rfl _ _ _ rfl V.heap.size 94 i1 (.agg #[.int .i64 0, .int .i64 0, .int .i64 0]) 24 Try.underlying47 hi1 hz1 hs1 hy1 rfl _ (by rfl) own1 _ _ _ g.walks _ (by rfl) (u2.bel wlkE hY) H2.out (by omega) (by decide) hY.out.size ?_
       intro vv Y5 O1 hg
       obtain ⟨p1, q1, rfl⟩ := own_shape O1
       skip
       have O0 := own_keepO O0 own1 (by decide) hg
       have OB := own_keepO OB own1 (by decide) hg
       have hY := bel_grow hY hg (fun k e => (own1.lt k e).1)
       clear hg
       refine hK.out _ _ (HS.out _ hY) ?_; clear hK K hHeld; intro hHeld
       try simp only [Act.put, List.setIfInBounds_toArray, List.set_cons_zero, List.set_cons_succ]
       refine wpAnyH_take (S := (fun w' => w'.cell? ⟨w.heap.size, 0, none⟩ = some (.slice a0 n0 c0) ∧ w'.cell? ⟨w.heap.size, 1, none⟩ = some (.slice a1 n1 c1) ∧ w'.cell? ⟨w.heap.size, 2, none⟩ = some (.slice a2 n2 c2))) (i := 8) (oi := { dst := some 14, op := Go.Op.build 49 #[(0, Go.Operand.tmp 9), (2, Go.Operand.tmp 13)], type := 49, pos := "l15_transit.go:205", after := #[{ on := 3, ground := Go.Ground.data }, { on := 7, ground := Go.Ground.data }], guard := none }) (v := ?vz14) rfl (by kernel_rfl) (by kernel_rfl) (by kernel_rfl) (fun _ _ _ h => h) (Or.inl ⟨by rfl, ?hz14⟩) hHeld ?rz14
       case hz14 => (intro w hSw; (try dsimp only at hSw); obtain ⟨s0, s1, s2⟩ := hSw; go_simp; try with_reducible rfl)
       try simp only [Act.put, List.setIfInBounds_toArray, List.set_cons_zero, List.set_cons_succ]
       have XB := linB OB
       have r0 := XB.cell 0 (by simp)
       have r1 := XB.cell 1 (by simp)
       have r2 := XB.cell 2 (by simp)
       have f0 := XB.free 0
       have f1 := XB.free 1
       have f2 := XB.free 2
       have rl := XB.lt
       simp only [List.getElem_cons_zero, List.getElem_cons_succ] at r0 r1 r2
       have HFin := (show Hid _ from cpm_out HP.out hY O0 O1 OB)
       have hBlo := (OB.lt _ rfl).1
       clear own0 own1 O0 O1 OB XB
       refine wpAnyH_ready (rs := [10]) (by kernel_rfl) (by simp) ?_
       refine AllReadyH.cons (o := { dst := none, op := Go.Op.store 49 (Go.Operand.tmp 3) (Go.Operand.tmp 14), type := 0, pos := "l15_transit.go:205", after := #[{ on := 9, ground := Go.Ground.data }, { on := 8, ground := Go.Ground.data }, { on := 7, ground := Go.Ground.chain }, { on := 0, ground := Go.Ground.phase }, { on := 1, ground := Go.Ground.phase }, { on := 2, ground := Go.Ground.phase }, { on := 3, ground := Go.Ground.phase }, { on := 4, ground := Go.Ground.phase }, { on := 5, ground := Go.Ground.phase }, { on := 6, ground := Go.Ground.phase }, { on := 7, ground := Go.Ground.phase }, { on := 8, ground := Go.Ground.phase }, { on := 9, ground := Go.Ground.phase }], guard := none }) rfl (fun K hK => ?_) AllReadyH.nil
       go_simp
       refine hK.out _ _ (HSX.out _ _ _ _ _ hY hBlo) ?_; clear hK K hHeld; intro hHeld
       try simp only [Act.put, List.setIfInBounds_toArray, List.set_cons_zero, List.set_cons_succ]
       refine wpAnyH_done (by kernel_rfl) ?_ _
       refine NoPanic.normal ?_
       go_wp2_with fail
       go_meet
       case rel => exact HFin.out
    ·go_simp
     refine hK.out _ _ (HS.out _ (bel_alloc hY _)) ?_; clear hK K hHeld; intro hHeld
     try simp only [Act.put, List.setIfInBounds_toArray, List.set_cons_zero, List.set_cons_succ]
     have OB := World.ownsRow_lit (e := 49) (size := 3) (base := V.heap.size) Y2 #[.slice none 0 0, .slice none 0 0, .slice none 0 0] 1 hY.out.size (by unfold maxLen; omega) (by rfl)
     have own0 := own0.alloc (.cells #[.slice none 0 0, .slice none 0 0, .slice none 0 0] 49)
     have own1 := own1.alloc (.cells #[.slice none 0 0, .slice none 0 0, .slice none 0 0] 49)
     have hY := bel_alloc hY (.cells #[.slice none 0 0, .slice none 0 0, .slice none 0 0] 49)
     generalize Y2.alloc (.cells #[.slice none 0 0, .slice none 0 0, .slice none 0 0] 49) = Y3 at *
     refine wpAnyH_ready (rs := [3]) (by kernel_rfl) (by simp) ?_
     refine AllReadyH.cons (o := { dst := some 9, op := Go.Op.call { callee := Go.Callee.builtin Go.Builtin.append, args := #[Go.Operand.tmp 6, Go.Operand.tmp 8], argTypes := #[39, 39] }, type := 39, pos := "l15_transit.go:205", after := #[{ on := 0, ground := Go.Ground.data }, { on := 2, ground := Go.Ground.data }], guard := none }) rfl (fun K hK => ?_) AllReadyH.nil
     ·refine step_flat strF (by decide) _ rfl _ _ _ rfl V.heap.size 9 i0 (.string ⟨#[]⟩) 16 Try.underlying39 hi0 hz0 hs0 hy0 rfl _ (by rfl) own0 _ _ _ g.stops _ (by rfl) (u0.bel strE hY) H0.out (by omega) (by decide) hY.out.size ?_
      intro vv Y4 O0 hg
      obtain ⟨p0, q0, rfl⟩ := own_shape O0
      skip
      have own1 := own_keepO own1 own0 (by decide) hg
      have OB := own_keepO OB own0 (by decide) hg
      have hY := bel_grow hY hg (fun k e => (own0.lt k e).1)
      clear hg
      refine hK.out _ _ (HS.out _ hY) ?_; clear hK K hHeld; intro hHeld
      try simp only [Act.put, List.setIfInBounds_toArray, List.set_cons_zero, List.set_cons_succ]
      refine wpAnyH_ready (rs := [7]) (by kernel_rfl) (by simp) ?_
      refine AllReadyH.cons (o := { dst := some 13, op := Go.Op.call { callee := Go.Callee.builtin Go.Builtin.append, args := #[Go.Operand.tmp 10, Go.Operand.tmp 12], argTypes := #[47, 47] }, type := 47, pos := "l15_transit.go:205", after := #[{ on := 4, ground := Go.Ground.data }, { on := 6, ground := Go.Ground.data }, { on := 3, ground := Go.Ground.chain }], guard := none }) rfl (fun K hK => ?_) AllReadyH.nil
      ·refine step_flat wlkF (by decide) _ rfl _ _ _ rfl V.heap.size 94 i1 (.agg #[.int .i64 0, .int .i64 0, .int .i64 0]) 24 Try.underlying47 hi1 hz1 hs1 hy1 rfl _ (by rfl) own1 _ _ _ g.walks _ (by rfl) (u2.bel wlkE hY) H2.out (by omega) (by decide) hY.out.size ?_
       intro vv Y5 O1 hg
       obtain ⟨p1, q1, rfl⟩ := own_shape O1
       skip
       have O0 := own_keepO O0 own1 (by decide) hg
       have OB := own_keepO OB own1 (by decide) hg
       have hY := bel_grow hY hg (fun k e => (own1.lt k e).1)
       clear hg
       refine hK.out _ _ (HS.out _ hY) ?_; clear hK K hHeld; intro hHeld
       try simp only [Act.put, List.setIfInBounds_toArray, List.set_cons_zero, List.set_cons_succ]
       refine wpAnyH_take (S := (fun w' => w'.cell? ⟨w.heap.size, 0, none⟩ = some (.slice a0 n0 c0) ∧ w'.cell? ⟨w.heap.size, 1, none⟩ = some (.slice a1 n1 c1) ∧ w'.cell? ⟨w.heap.size, 2, none⟩ = some (.slice a2 n2 c2))) (i := 8) (oi := { dst := some 14, op := Go.Op.build 49 #[(0, Go.Operand.tmp 9), (2, Go.Operand.tmp 13)], type := 49, pos := "l15_transit.go:205", after := #[{ on := 3, ground := Go.Ground.data }, { on := 7, ground := Go.Ground.data }], guard := none }) (v := ?vz15) rfl (by kernel_rfl) (by kernel_rfl) (by kernel_rfl) (fun _ _ _ h => h) (Or.inl ⟨by rfl, ?hz15⟩) hHeld ?rz15
       case hz15 => (intro w hSw; (try dsimp only at hSw); obtain ⟨s0, s1, s2⟩ := hSw; go_simp; try with_reducible rfl)
       try simp only [Act.put, List.setIfInBounds_toArray, List.set_cons_zero, List.set_cons_succ]
       have XB := linB OB
       have r0 := XB.cell 0 (by simp)
       have r1 := XB.cell 1 (by simp)
       have r2 := XB.cell 2 (by simp)
       have f0 := XB.free 0
       have f1 := XB.free 1
       have f2 := XB.free 2
       have rl := XB.lt
       simp only [List.getElem_cons_zero, List.getElem_cons_succ] at r0 r1 r2
       have HFin := (show Hid _ from cpm_out HP.out hY O0 O1 OB)
       have hBlo := (OB.lt _ rfl).1
       clear own0 own1 O0 O1 OB XB
       refine wpAnyH_ready (rs := [10]) (by kernel_rfl) (by simp) ?_
       refine AllReadyH.cons (o := { dst := none, op := Go.Op.store 49 (Go.Operand.tmp 3) (Go.Operand.tmp 14), type := 0, pos := "l15_transit.go:205", after := #[{ on := 9, ground := Go.Ground.data }, { on := 8, ground := Go.Ground.data }, { on := 7, ground := Go.Ground.chain }, { on := 0, ground := Go.Ground.phase }, { on := 1, ground := Go.Ground.phase }, { on := 2, ground := Go.Ground.phase }, { on := 3, ground := Go.Ground.phase }, { on := 4, ground := Go.Ground.phase }, { on := 5, ground := Go.Ground.phase }, { on := 6, ground := Go.Ground.phase }, { on := 7, ground := Go.Ground.phase }, { on := 8, ground := Go.Ground.phase }, { on := 9, ground := Go.Ground.phase }], guard := none }) rfl (fun K hK => ?_) AllReadyH.nil
       go_simp
       refine hK.out _ _ (HSX.out _ _ _ _ _ hY hBlo) ?_; clear hK K hHeld; intro hHeld
       try simp only [Act.put, List.setIfInBounds_toArray, List.set_cons_zero, List.set_cons_succ]
       refine wpAnyH_done (by kernel_rfl) ?_ _
       refine NoPanic.normal ?_
       go_wp2_with fail
       go_meet
       case rel => exact HFin.out
   ·go_simp
    refine hK.out _ _ (HS.out _ (bel_alloc hY _)) ?_; clear hK K hHeld; intro hHeld
    try simp only [Act.put, List.setIfInBounds_toArray, List.set_cons_zero, List.set_cons_succ]
    have OB := World.ownsRow_lit (e := 49) (size := 3) (base := V.heap.size) Y1 #[.slice none 0 0, .slice none 0 0, .slice none 0 0] 1 hY.out.size (by unfold maxLen; omega) (by rfl)
    have own1 := own1.alloc (.cells #[.slice none 0 0, .slice none 0 0, .slice none 0 0] 49)
    have hY := bel_alloc hY (.cells #[.slice none 0 0, .slice none 0 0, .slice none 0 0] 49)
    generalize Y1.alloc (.cells #[.slice none 0 0, .slice none 0 0, .slice none 0 0] 49) = Y2 at *
    refine wpAnyH_ready (rs := [0]) (by kernel_rfl) (by simp) ?_
    refine AllReadyH.cons (o := { dst := some 6, op := Go.Op.buildSlice 39 0 #[], type := 39, pos := "l15_transit.go:205", after := #[], guard := none }) rfl (fun K hK => ?_) AllReadyH.nil
    ·go_simp
     refine hK.out _ _ (HS.out _ (bel_alloc hY _)) ?_; clear hK K hHeld; intro hHeld
     try simp only [Act.put, List.setIfInBounds_toArray, List.set_cons_zero, List.set_cons_succ]
     have own0 := World.ownsRow_made (e := 9) (size := 1) (base := V.heap.size) Y2 #[] 0 hY.out.size (by unfold maxLen; omega) (by rfl)
     have own1 := own1.alloc (.cells #[] 9)
     have OB := OB.alloc (.cells #[] 9)
     have hY := bel_alloc hY (.cells #[] 9)
     generalize Y2.alloc (.cells #[] 9) = Y3 at *
     refine wpAnyH_ready (rs := [3]) (by kernel_rfl) (by simp) ?_
     refine AllReadyH.cons (o := { dst := some 9, op := Go.Op.call { callee := Go.Callee.builtin Go.Builtin.append, args := #[Go.Operand.tmp 6, Go.Operand.tmp 8], argTypes := #[39, 39] }, type := 39, pos := "l15_transit.go:205", after := #[{ on := 0, ground := Go.Ground.data }, { on := 2, ground := Go.Ground.data }], guard := none }) rfl (fun K hK => ?_) AllReadyH.nil
     ·refine step_flat strF (by decide) _ rfl _ _ _ rfl V.heap.size 9 i0 (.string ⟨#[]⟩) 16 Try.underlying39 hi0 hz0 hs0 hy0 rfl _ (by rfl) own0 _ _ _ g.stops _ (by rfl) (u0.bel strE hY) H0.out (by omega) (by decide) hY.out.size ?_
      intro vv Y4 O0 hg
      obtain ⟨p0, q0, rfl⟩ := own_shape O0
      skip
      have own1 := own_keepO own1 own0 (by decide) hg
      have OB := own_keepO OB own0 (by decide) hg
      have hY := bel_grow hY hg (fun k e => (own0.lt k e).1)
      clear hg
      refine hK.out _ _ (HS.out _ hY) ?_; clear hK K hHeld; intro hHeld
      try simp only [Act.put, List.setIfInBounds_toArray, List.set_cons_zero, List.set_cons_succ]
      refine wpAnyH_ready (rs := [7]) (by kernel_rfl) (by simp) ?_
      refine AllReadyH.cons (o := { dst := some 13, op := Go.Op.call { callee := Go.Callee.builtin Go.Builtin.append, args := #[Go.Operand.tmp 10, Go.Operand.tmp 12], argTypes := #[47, 47] }, type := 47, pos := "l15_transit.go:205", after := #[{ on := 4, ground := Go.Ground.data }, { on := 6, ground := Go.Ground.data }, { on := 3, ground := Go.Ground.chain }], guard := none }) rfl (fun K hK => ?_) AllReadyH.nil
      ·refine step_flat wlkF (by decide) _ rfl _ _ _ rfl V.heap.size 94 i1 (.agg #[.int .i64 0, .int .i64 0, .int .i64 0]) 24 Try.underlying47 hi1 hz1 hs1 hy1 rfl _ (by rfl) own1 _ _ _ g.walks _ (by rfl) (u2.bel wlkE hY) H2.out (by omega) (by decide) hY.out.size ?_
       intro vv Y5 O1 hg
       obtain ⟨p1, q1, rfl⟩ := own_shape O1
       skip
       have O0 := own_keepO O0 own1 (by decide) hg
       have OB := own_keepO OB own1 (by decide) hg
       have hY := bel_grow hY hg (fun k e => (own1.lt k e).1)
       clear hg
       refine hK.out _ _ (HS.out _ hY) ?_; clear hK K hHeld; intro hHeld
       try simp only [Act.put, List.setIfInBounds_toArray, List.set_cons_zero, List.set_cons_succ]
       refine wpAnyH_take (S := (fun w' => w'.cell? ⟨w.heap.size, 0, none⟩ = some (.slice a0 n0 c0) ∧ w'.cell? ⟨w.heap.size, 1, none⟩ = some (.slice a1 n1 c1) ∧ w'.cell? ⟨w.heap.size, 2, none⟩ = some (.slice a2 n2 c2))) (i := 8) (oi := { dst := some 14, op := Go.Op.build 49 #[(0, Go.Operand.tmp 9), (2, Go.Operand.tmp 13)], type := 49, pos := "l15_transit.go:205", after := #[{ on := 3, ground := Go.Ground.data }, { on := 7, ground := Go.Ground.data }], guard := none }) (v := ?vz16) rfl (by kernel_rfl) (by kernel_rfl) (by kernel_rfl) (fun _ _ _ h => h) (Or.inl ⟨by rfl, ?hz16⟩) hHeld ?rz16
       case hz16 => (intro w hSw; (try dsimp only at hSw); obtain ⟨s0, s1, s2⟩ := hSw; go_simp; try with_reducible rfl)
       try simp only [Act.put, List.setIfInBounds_toArray, List.set_cons_zero, List.set_cons_succ]
       have XB := linB OB
       have r0 := XB.cell 0 (by simp)
       have r1 := XB.cell 1 (by simp)
       have r2 := XB.cell 2 (by simp)
       have f0 := XB.free 0
       have f1 := XB.free 1
       have f2 := XB.free 2
       have rl := XB.lt
       simp only [List.getElem_cons_zero, List.getElem_cons_succ] at r0 r1 r2
       have HFin := (show Hid _ from cpm_out HP.out hY O0 O1 OB)
       have hBlo := (OB.lt _ rfl).1
       clear own0 own1 O0 O1 OB XB
       refine wpAnyH_ready (rs := [10]) (by kernel_rfl) (by simp) ?_
       refine AllReadyH.cons (o := { dst := none, op := Go.Op.store 49 (Go.Operand.tmp 3) (Go.Operand.tmp 14), type := 0, pos := "l15_transit.go:205", after := #[{ on := 9, ground := Go.Ground.data }, { on := 8, ground := Go.Ground.data }, { on := 7, ground := Go.Ground.chain }, { on := 0, ground := Go.Ground.phase }, { on := 1, ground := Go.Ground.phase }, { on := 2, ground := Go.Ground.phase }, { on := 3, ground := Go.Ground.phase }, { on := 4, ground := Go.Ground.phase }, { on := 5, ground := Go.Ground.phase }, { on := 6, ground := Go.Ground.phase }, { on := 7, ground := Go.Ground.phase }, { on := 8, ground := Go.Ground.phase }, { on := 9, ground := Go.Ground.phase }], guard := none }) rfl (fun K hK => ?_) AllReadyH.nil
       go_simp
       refine hK.out _ _ (HSX.out _ _ _ _ _ hY hBlo) ?_; clear hK K hHeld; intro hHeld
       try simp only [Act.put, List.setIfInBounds_toArray, List.set_cons_zero, List.set_cons_succ]
       refine wpAnyH_done (by kernel_rfl) ?_ _
       refine NoPanic.normal ?_
       go_wp2_with fail
       go_meet
       case rel => exact HFin.out
  ·go_simp
   refine hK.out _ _ (HS.out _ (bel_alloc hY _)) ?_; clear hK K hHeld; intro hHeld
   try simp only [Act.put, List.setIfInBounds_toArray, List.set_cons_zero, List.set_cons_succ]
   have OB := World.ownsRow_lit (e := 49) (size := 3) (base := V.heap.size) Y0 #[.slice none 0 0, .slice none 0 0, .slice none 0 0] 1 hY.out.size (by unfold maxLen; omega) (by rfl)
   have hY := bel_alloc hY (.cells #[.slice none 0 0, .slice none 0 0, .slice none 0 0] 49)
   generalize Y0.alloc (.cells #[.slice none 0 0, .slice none 0 0, .slice none 0 0] 49) = Y1 at *
   refine wpAnyH_ready (rs := [0, 4]) (by kernel_rfl) (by simp) ?_
   refine AllReadyH.cons (o := { dst := some 6, op := Go.Op.buildSlice 39 0 #[], type := 39, pos := "l15_transit.go:205", after := #[], guard := none }) rfl (fun K hK => ?_) (AllReadyH.cons (o := { dst := some 10, op := Go.Op.buildSlice 47 0 #[], type := 47, pos := "l15_transit.go:205", after := #[], guard := none }) rfl (fun K hK => ?_) AllReadyH.nil)
   ·go_simp
    refine hK.out _ _ (HS.out _ (bel_alloc hY _)) ?_; clear hK K hHeld; intro hHeld
    try simp only [Act.put, List.setIfInBounds_toArray, List.set_cons_zero, List.set_cons_succ]
    have own0 := World.ownsRow_made (e := 9) (size := 1) (base := V.heap.size) Y1 #[] 0 hY.out.size (by unfold maxLen; omega) (by rfl)
    have OB := OB.alloc (.cells #[] 9)
    have hY := bel_alloc hY (.cells #[] 9)
    generalize Y1.alloc (.cells #[] 9) = Y2 at *
    refine wpAnyH_ready (rs := [3, 4]) (by kernel_rfl) (by simp) ?_
    refine AllReadyH.cons (o := { dst := some 9, op := Go.Op.call { callee := Go.Callee.builtin Go.Builtin.append, args := #[Go.Operand.tmp 6, Go.Operand.tmp 8], argTypes := #[39, 39] }, type := 39, pos := "l15_transit.go:205", after := #[{ on := 0, ground := Go.Ground.data }, { on := 2, ground := Go.Ground.data }], guard := none }) rfl (fun K hK => ?_) (AllReadyH.cons (o := { dst := some 10, op := Go.Op.buildSlice 47 0 #[], type := 47, pos := "l15_transit.go:205", after := #[], guard := none }) rfl (fun K hK => ?_) AllReadyH.nil)
    ·refine step_flat strF (by decide) _ rfl _ _ _ rfl V.heap.size 9 i0 (.string ⟨#[]⟩) 16 Try.underlying39 hi0 hz0 hs0 hy0 rfl _ (by rfl) own0 _ _ _ g.stops _ (by rfl) (u0.bel strE hY) H0.out (by omega) (by decide) hY.out.size ?_
     intro vv Y3 O0 hg
     obtain ⟨p0, q0, rfl⟩ := own_shape O0
     skip
     have OB := own_keepO OB own0 (by decide) hg
     have hY := bel_grow hY hg (fun k e => (own0.lt k e).1)
     clear hg
     refine hK.out _ _ (HS.out _ hY) ?_; clear hK K hHeld; intro hHeld
     try simp only [Act.put, List.setIfInBounds_toArray, List.set_cons_zero, List.set_cons_succ]
     refine wpAnyH_ready (rs := [4]) (by kernel_rfl) (by simp) ?_
     refine AllReadyH.cons (o := { dst := some 10, op := Go.Op.buildSlice 47 0 #[], type := 47, pos := "l15_transit.go:205", after := #[], guard := none }) rfl (fun K hK => ?_) AllReadyH.nil
     ·go_simp
      refine hK.out _ _ (HS.out _ (bel_alloc hY _)) ?_; clear hK K hHeld; intro hHeld
      try simp only [Act.put, List.setIfInBounds_toArray, List.set_cons_zero, List.set_cons_succ]
      have own1 := World.ownsRow_made (e := 94) (size := 3) (base := V.heap.size) Y3 #[] 0 hY.out.size (by unfold maxLen; omega) (by rfl)
      have O0 := O0.alloc (.cells #[] 94)
      have OB := OB.alloc (.cells #[] 94)
      have hY := bel_alloc hY (.cells #[] 94)
      generalize Y3.alloc (.cells #[] 94) = Y4 at *
      refine wpAnyH_ready (rs := [7]) (by kernel_rfl) (by simp) ?_
      refine AllReadyH.cons (o := { dst := some 13, op := Go.Op.call { callee := Go.Callee.builtin Go.Builtin.append, args := #[Go.Operand.tmp 10, Go.Operand.tmp 12], argTypes := #[47, 47] }, type := 47, pos := "l15_transit.go:205", after := #[{ on := 4, ground := Go.Ground.data }, { on := 6, ground := Go.Ground.data }, { on := 3, ground := Go.Ground.chain }], guard := none }) rfl (fun K hK => ?_) AllReadyH.nil
      ·refine step_flat wlkF (by decide) _ rfl _ _ _ rfl V.heap.size 94 i1 (.agg #[.int .i64 0, .int .i64 0, .int .i64 0]) 24 Try.underlying47 hi1 hz1 hs1 hy1 rfl _ (by rfl) own1 _ _ _ g.walks _ (by rfl) (u2.bel wlkE hY) H2.out (by omega) (by decide) hY.out.size ?_
       intro vv Y5 O1 hg
       obtain ⟨p1, q1, rfl⟩ := own_shape O1
       skip
       have O0 := own_keepO O0 own1 (by decide) hg
       have OB := own_keepO OB own1 (by decide) hg
       have hY := bel_grow hY hg (fun k e => (own1.lt k e).1)
       clear hg
       refine hK.out _ _ (HS.out _ hY) ?_; clear hK K hHeld; intro hHeld
       try simp only [Act.put, List.setIfInBounds_toArray, List.set_cons_zero, List.set_cons_succ]
       refine wpAnyH_take (S := (fun w' => w'.cell? ⟨w.heap.size, 0, none⟩ = some (.slice a0 n0 c0) ∧ w'.cell? ⟨w.heap.size, 1, none⟩ = some (.slice a1 n1 c1) ∧ w'.cell? ⟨w.heap.size, 2, none⟩ = some (.slice a2 n2 c2))) (i := 8) (oi := { dst := some 14, op := Go.Op.build 49 #[(0, Go.Operand.tmp 9), (2, Go.Operand.tmp 13)], type := 49, pos := "l15_transit.go:205", after := #[{ on := 3, ground := Go.Ground.data }, { on := 7, ground := Go.Ground.data }], guard := none }) (v := ?vz17) rfl (by kernel_rfl) (by kernel_rfl) (by kernel_rfl) (fun _ _ _ h => h) (Or.inl ⟨by rfl, ?hz17⟩) hHeld ?rz17
       case hz17 => (intro w hSw; (try dsimp only at hSw); obtain ⟨s0, s1, s2⟩ := hSw; go_simp; try with_reducible rfl)
       try simp only [Act.put, List.setIfInBounds_toArray, List.set_cons_zero, List.set_cons_succ]
       have XB := linB OB
       have r0 := XB.cell 0 (by simp)
       have r1 := XB.cell 1 (by simp)
       have r2 := XB.cell 2 (by simp)
       have f0 := XB.free 0
       have f1 := XB.free 1
       have f2 := XB.free 2
       have rl := XB.lt
       simp only [List.getElem_cons_zero, List.getElem_cons_succ] at r0 r1 r2
       have HFin := (show Hid _ from cpm_out HP.out hY O0 O1 OB)
       have hBlo := (OB.lt _ rfl).1
       clear own0 own1 O0 O1 OB XB
       refine wpAnyH_ready (rs := [10]) (by kernel_rfl) (by simp) ?_
       refine AllReadyH.cons (o := { dst := none, op := Go.Op.store 49 (Go.Operand.tmp 3) (Go.Operand.tmp 14), type := 0, pos := "l15_transit.go:205", after := #[{ on := 9, ground := Go.Ground.data }, { on := 8, ground := Go.Ground.data }, { on := 7, ground := Go.Ground.chain }, { on := 0, ground := Go.Ground.phase }, { on := 1, ground := Go.Ground.phase }, { on := 2, ground := Go.Ground.phase }, { on := 3, ground := Go.Ground.phase }, { on := 4, ground := Go.Ground.phase }, { on := 5, ground := Go.Ground.phase }, { on := 6, ground := Go.Ground.phase }, { on := 7, ground := Go.Ground.phase }, { on := 8, ground := Go.Ground.phase }, { on := 9, ground := Go.Ground.phase }], guard := none }) rfl (fun K hK => ?_) AllReadyH.nil
       go_simp
       refine hK.out _ _ (HSX.out _ _ _ _ _ hY hBlo) ?_; clear hK K hHeld; intro hHeld
       try simp only [Act.put, List.setIfInBounds_toArray, List.set_cons_zero, List.set_cons_succ]
       refine wpAnyH_done (by kernel_rfl) ?_ _
       refine NoPanic.normal ?_
       go_wp2_with fail
       go_meet
       case rel => exact HFin.out
    ·go_simp
     refine hK.out _ _ (HS.out _ (bel_alloc hY _)) ?_; clear hK K hHeld; intro hHeld
     try simp only [Act.put, List.setIfInBounds_toArray, List.set_cons_zero, List.set_cons_succ]
     have own1 := World.ownsRow_made (e := 94) (size := 3) (base := V.heap.size) Y2 #[] 0 hY.out.size (by unfold maxLen; omega) (by rfl)
     have own0 := own0.alloc (.cells #[] 94)
     have OB := OB.alloc (.cells #[] 94)
     have hY := bel_alloc hY (.cells #[] 94)
     generalize Y2.alloc (.cells #[] 94) = Y3 at *
     refine wpAnyH_ready (rs := [3]) (by kernel_rfl) (by simp) ?_
     refine AllReadyH.cons (o := { dst := some 9, op := Go.Op.call { callee := Go.Callee.builtin Go.Builtin.append, args := #[Go.Operand.tmp 6, Go.Operand.tmp 8], argTypes := #[39, 39] }, type := 39, pos := "l15_transit.go:205", after := #[{ on := 0, ground := Go.Ground.data }, { on := 2, ground := Go.Ground.data }], guard := none }) rfl (fun K hK => ?_) AllReadyH.nil
     ·refine step_flat strF (by decide) _ rfl _ _ _ rfl V.heap.size 9 i0 (.string ⟨#[]⟩) 16 Try.underlying39 hi0 hz0 hs0 hy0 rfl _ (by rfl) own0 _ _ _ g.stops _ (by rfl) (u0.bel strE hY) H0.out (by omega) (by decide) hY.out.size ?_
      intro vv Y4 O0 hg
      obtain ⟨p0, q0, rfl⟩ := own_shape O0
      skip
      have own1 := own_keepO own1 own0 (by decide) hg
      have OB := own_keepO OB own0 (by decide) hg
      have hY := bel_grow hY hg (fun k e => (own0.lt k e).1)
      clear hg
      refine hK.out _ _ (HS.out _ hY) ?_; clear hK K hHeld; intro hHeld
      try simp only [Act.put, List.setIfInBounds_toArray, List.set_cons_zero, List.set_cons_succ]
      refine wpAnyH_ready (rs := [7]) (by kernel_rfl) (by simp) ?_
      refine AllReadyH.cons (o := { dst := some 13, op := Go.Op.call { callee := Go.Callee.builtin Go.Builtin.append, args := #[Go.Operand.tmp 10, Go.Operand.tmp 12], argTypes := #[47, 47] }, type := 47, pos := "l15_transit.go:205", after := #[{ on := 4, ground := Go.Ground.data }, { on := 6, ground := Go.Ground.data }, { on := 3, ground := Go.Ground.chain }], guard := none }) rfl (fun K hK => ?_) AllReadyH.nil
      ·refine step_flat wlkF (by decide) _ rfl _ _ _ rfl V.heap.size 94 i1 (.agg #[.int .i64 0, .int .i64 0, .int .i64 0]) 24 Try.underlying47 hi1 hz1 hs1 hy1 rfl _ (by rfl) own1 _ _ _ g.walks _ (by rfl) (u2.bel wlkE hY) H2.out (by omega) (by decide) hY.out.size ?_
       intro vv Y5 O1 hg
       obtain ⟨p1, q1, rfl⟩ := own_shape O1
       skip
       have O0 := own_keepO O0 own1 (by decide) hg
       have OB := own_keepO OB own1 (by decide) hg
       have hY := bel_grow hY hg (fun k e => (own1.lt k e).1)
       clear hg
       refine hK.out _ _ (HS.out _ hY) ?_; clear hK K hHeld; intro hHeld
       try simp only [Act.put, List.setIfInBounds_toArray, List.set_cons_zero, List.set_cons_succ]
       refine wpAnyH_take (S := (fun w' => w'.cell? ⟨w.heap.size, 0, none⟩ = some (.slice a0 n0 c0) ∧ w'.cell? ⟨w.heap.size, 1, none⟩ = some (.slice a1 n1 c1) ∧ w'.cell? ⟨w.heap.size, 2, none⟩ = some (.slice a2 n2 c2))) (i := 8) (oi := { dst := some 14, op := Go.Op.build 49 #[(0, Go.Operand.tmp 9), (2, Go.Operand.tmp 13)], type := 49, pos := "l15_transit.go:205", after := #[{ on := 3, ground := Go.Ground.data }, { on := 7, ground := Go.Ground.data }], guard := none }) (v := ?vz18) rfl (by kernel_rfl) (by kernel_rfl) (by kernel_rfl) (fun _ _ _ h => h) (Or.inl ⟨by rfl, ?hz18⟩) hHeld ?rz18
       case hz18 => (intro w hSw; (try dsimp only at hSw); obtain ⟨s0, s1, s2⟩ := hSw; go_simp; try with_reducible rfl)
       try simp only [Act.put, List.setIfInBounds_toArray, List.set_cons_zero, List.set_cons_succ]
       have XB := linB OB
       have r0 := XB.cell 0 (by simp)
       have r1 := XB.cell 1 (by simp)
       have r2 := XB.cell 2 (by simp)
       have f0 := XB.free 0
       have f1 := XB.free 1
       have f2 := XB.free 2
       have rl := XB.lt
       simp only [List.getElem_cons_zero, List.getElem_cons_succ] at r0 r1 r2
       have HFin := (show Hid _ from cpm_out HP.out hY O0 O1 OB)
       have hBlo := (OB.lt _ rfl).1
       clear own0 own1 O0 O1 OB XB
       refine wpAnyH_ready (rs := [10]) (by kernel_rfl) (by simp) ?_
       refine AllReadyH.cons (o := { dst := none, op := Go.Op.store 49 (Go.Operand.tmp 3) (Go.Operand.tmp 14), type := 0, pos := "l15_transit.go:205", after := #[{ on := 9, ground := Go.Ground.data }, { on := 8, ground := Go.Ground.data }, { on := 7, ground := Go.Ground.chain }, { on := 0, ground := Go.Ground.phase }, { on := 1, ground := Go.Ground.phase }, { on := 2, ground := Go.Ground.phase }, { on := 3, ground := Go.Ground.phase }, { on := 4, ground := Go.Ground.phase }, { on := 5, ground := Go.Ground.phase }, { on := 6, ground := Go.Ground.phase }, { on := 7, ground := Go.Ground.phase }, { on := 8, ground := Go.Ground.phase }, { on := 9, ground := Go.Ground.phase }], guard := none }) rfl (fun K hK => ?_) AllReadyH.nil
       go_simp
       refine hK.out _ _ (HSX.out _ _ _ _ _ hY hBlo) ?_; clear hK K hHeld; intro hHeld
       try simp only [Act.put, List.setIfInBounds_toArray, List.set_cons_zero, List.set_cons_succ]
       refine wpAnyH_done (by kernel_rfl) ?_ _
       refine NoPanic.normal ?_
       go_wp2_with fail
       go_meet
       case rel => exact HFin.out
   ·go_simp
    refine hK.out _ _ (HS.out _ (bel_alloc hY _)) ?_; clear hK K hHeld; intro hHeld
    try simp only [Act.put, List.setIfInBounds_toArray, List.set_cons_zero, List.set_cons_succ]
    have own1 := World.ownsRow_made (e := 94) (size := 3) (base := V.heap.size) Y1 #[] 0 hY.out.size (by unfold maxLen; omega) (by rfl)
    have OB := OB.alloc (.cells #[] 94)
    have hY := bel_alloc hY (.cells #[] 94)
    generalize Y1.alloc (.cells #[] 94) = Y2 at *
    refine wpAnyH_ready (rs := [0]) (by kernel_rfl) (by simp) ?_
    refine AllReadyH.cons (o := { dst := some 6, op := Go.Op.buildSlice 39 0 #[], type := 39, pos := "l15_transit.go:205", after := #[], guard := none }) rfl (fun K hK => ?_) AllReadyH.nil
    ·go_simp
     refine hK.out _ _ (HS.out _ (bel_alloc hY _)) ?_; clear hK K hHeld; intro hHeld
     try simp only [Act.put, List.setIfInBounds_toArray, List.set_cons_zero, List.set_cons_succ]
     have own0 := World.ownsRow_made (e := 9) (size := 1) (base := V.heap.size) Y2 #[] 0 hY.out.size (by unfold maxLen; omega) (by rfl)
     have own1 := own1.alloc (.cells #[] 9)
     have OB := OB.alloc (.cells #[] 9)
     have hY := bel_alloc hY (.cells #[] 9)
     generalize Y2.alloc (.cells #[] 9) = Y3 at *
     refine wpAnyH_ready (rs := [3]) (by kernel_rfl) (by simp) ?_
     refine AllReadyH.cons (o := { dst := some 9, op := Go.Op.call { callee := Go.Callee.builtin Go.Builtin.append, args := #[Go.Operand.tmp 6, Go.Operand.tmp 8], argTypes := #[39, 39] }, type := 39, pos := "l15_transit.go:205", after := #[{ on := 0, ground := Go.Ground.data }, { on := 2, ground := Go.Ground.data }], guard := none }) rfl (fun K hK => ?_) AllReadyH.nil
     ·refine step_flat strF (by decide) _ rfl _ _ _ rfl V.heap.size 9 i0 (.string ⟨#[]⟩) 16 Try.underlying39 hi0 hz0 hs0 hy0 rfl _ (by rfl) own0 _ _ _ g.stops _ (by rfl) (u0.bel strE hY) H0.out (by omega) (by decide) hY.out.size ?_
      intro vv Y4 O0 hg
      obtain ⟨p0, q0, rfl⟩ := own_shape O0
      skip
      have own1 := own_keepO own1 own0 (by decide) hg
      have OB := own_keepO OB own0 (by decide) hg
      have hY := bel_grow hY hg (fun k e => (own0.lt k e).1)
      clear hg
      refine hK.out _ _ (HS.out _ hY) ?_; clear hK K hHeld; intro hHeld
      try simp only [Act.put, List.setIfInBounds_toArray, List.set_cons_zero, List.set_cons_succ]
      refine wpAnyH_ready (rs := [7]) (by kernel_rfl) (by simp) ?_
      refine AllReadyH.cons (o := { dst := some 13, op := Go.Op.call { callee := Go.Callee.builtin Go.Builtin.append, args := #[Go.Operand.tmp 10, Go.Operand.tmp 12], argTypes := #[47, 47] }, type := 47, pos := "l15_transit.go:205", after := #[{ on := 4, ground := Go.Ground.data }, { on := 6, ground := Go.Ground.data }, { on := 3, ground := Go.Ground.chain }], guard := none }) rfl (fun K hK => ?_) AllReadyH.nil
      ·refine step_flat wlkF (by decide) _ rfl _ _ _ rfl V.heap.size 94 i1 (.agg #[.int .i64 0, .int .i64 0, .int .i64 0]) 24 Try.underlying47 hi1 hz1 hs1 hy1 rfl _ (by rfl) own1 _ _ _ g.walks _ (by rfl) (u2.bel wlkE hY) H2.out (by omega) (by decide) hY.out.size ?_
       intro vv Y5 O1 hg
       obtain ⟨p1, q1, rfl⟩ := own_shape O1
       skip
       have O0 := own_keepO O0 own1 (by decide) hg
       have OB := own_keepO OB own1 (by decide) hg
       have hY := bel_grow hY hg (fun k e => (own1.lt k e).1)
       clear hg
       refine hK.out _ _ (HS.out _ hY) ?_; clear hK K hHeld; intro hHeld
       try simp only [Act.put, List.setIfInBounds_toArray, List.set_cons_zero, List.set_cons_succ]
       refine wpAnyH_take (S := (fun w' => w'.cell? ⟨w.heap.size, 0, none⟩ = some (.slice a0 n0 c0) ∧ w'.cell? ⟨w.heap.size, 1, none⟩ = some (.slice a1 n1 c1) ∧ w'.cell? ⟨w.heap.size, 2, none⟩ = some (.slice a2 n2 c2))) (i := 8) (oi := { dst := some 14, op := Go.Op.build 49 #[(0, Go.Operand.tmp 9), (2, Go.Operand.tmp 13)], type := 49, pos := "l15_transit.go:205", after := #[{ on := 3, ground := Go.Ground.data }, { on := 7, ground := Go.Ground.data }], guard := none }) (v := ?vz19) rfl (by kernel_rfl) (by kernel_rfl) (by kernel_rfl) (fun _ _ _ h => h) (Or.inl ⟨by rfl, ?hz19⟩) hHeld ?rz19
       case hz19 => (intro w hSw; (try dsimp only at hSw); obtain ⟨s0, s1, s2⟩ := hSw; go_simp; try with_reducible rfl)
       try simp only [Act.put, List.setIfInBounds_toArray, List.set_cons_zero, List.set_cons_succ]
       have XB := linB OB
       have r0 := XB.cell 0 (by simp)
       have r1 := XB.cell 1 (by simp)
       have r2 := XB.cell 2 (by simp)
       have f0 := XB.free 0
       have f1 := XB.free 1
       have f2 := XB.free 2
       have rl := XB.lt
       simp only [List.getElem_cons_zero, List.getElem_cons_succ] at r0 r1 r2
       have HFin := (show Hid _ from cpm_out HP.out hY O0 O1 OB)
       have hBlo := (OB.lt _ rfl).1
       clear own0 own1 O0 O1 OB XB
       refine wpAnyH_ready (rs := [10]) (by kernel_rfl) (by simp) ?_
       refine AllReadyH.cons (o := { dst := none, op := Go.Op.store 49 (Go.Operand.tmp 3) (Go.Operand.tmp 14), type := 0, pos := "l15_transit.go:205", after := #[{ on := 9, ground := Go.Ground.data }, { on := 8, ground := Go.Ground.data }, { on := 7, ground := Go.Ground.chain }, { on := 0, ground := Go.Ground.phase }, { on := 1, ground := Go.Ground.phase }, { on := 2, ground := Go.Ground.phase }, { on := 3, ground := Go.Ground.phase }, { on := 4, ground := Go.Ground.phase }, { on := 5, ground := Go.Ground.phase }, { on := 6, ground := Go.Ground.phase }, { on := 7, ground := Go.Ground.phase }, { on := 8, ground := Go.Ground.phase }, { on := 9, ground := Go.Ground.phase }], guard := none }) rfl (fun K hK => ?_) AllReadyH.nil
       go_simp
       refine hK.out _ _ (HSX.out _ _ _ _ _ hY hBlo) ?_; clear hK K hHeld; intro hHeld
       try simp only [Act.put, List.setIfInBounds_toArray, List.set_cons_zero, List.set_cons_succ]
       refine wpAnyH_done (by kernel_rfl) ?_ _
       refine NoPanic.normal ?_
       go_wp2_with fail
       go_meet
       case rel => exact HFin.out
 case rest =>
  obtain ⟨B, p0, q0, p2, q2, d0, d2, rfl, hB, XB, T0, T2, HF, hoff, hBc⟩ := hcut.out
  obtain ⟨wA, rfl⟩ : ∃ V, V = wc := ⟨_, rfl⟩
  clear hcut
  rw [H0.out, H2.out] at XB
  have HT0 : Hid (StrL wA p0 g.stops d0) := T0
  have HT2 : Hid (WlkL wA p2 g.walks d2) := T2
  have HFH : Hid (Fresh V wA (d0 ++ d2)) := HF
  have HU : Hid (TrpL V a1 g.trips b1) := u1
  have hBA : B < wA.heap.size := XB.lt
  clear HS HSX hi0 hz0 hs0 hy0 hi1 hz1 hs1 hy1 u0 u1 u2 T0 T2 HF
  go_wp2
  go_loopw [4, 5] (fun i _ wr => ∃ (k : Nat) (va : Option Addr) (vc : Nat) (R : Nat → List Value) (f : Nat → List Nat), k ≤ n1 ∧ i = .int .i64 k ∧ Blk wr B [.slice p0 n0 q0, .slice va k vc, .slice p2 n2 q2] ∧ Gr 3 TrpVc 92 wA.heap.size wr (.slice va k vc) (trT g.trips k) R f ∧ Onl [B] wA wr) (fun i _ _ => n1 - (intOf i).toNat)
  case atStart => exact ⟨0, none, 0, _, _, Nat.zero_le _, rfl, XB, Gr.nil 3 TrpVc 92 _ _, Onl.refl _ _⟩
  case round =>
   obtain ⟨k, va, vc, R, f0, hk, rfl, hX, hG, hO⟩ := hrel
   have hBr : Bel V wr := hO.to_bel hBc (fun x hx => by rw [List.mem_singleton.1 hx]; exact hB)
   have XLr := XG'.out.bel hBr
   have x1 : wr.cell? ⟨w.heap.size, 1, none⟩ = some (.slice a1 n1 c1) := XLr.cell 1 (by simp)
   have xl := XLr.lt
   have HX : Hid (Blk wr B [.slice p0 n0 q0, .slice va k vc, .slice p2 n2 q2]) := hX
   have HG : Hid (Gr 3 TrpVc 92 wA.heap.size wr (.slice va k vc) (trT g.trips k) R f0) := hG
   have HO : Hid (Onl [B] wA wr) := hO
   have HLK : Hid ((trT g.trips k).length = k) := trT_len (by rw [H1.out]; exact hk)
   clear hX hG hO XB
   by_cases hlt : k < n1
   ·have hkl : k < g.trips.length := by rw [H1.out]; exact hlt
    obtain ⟨b, off, f, rfl, hb, hx⟩ := (HU.out.bel trpE hBr).out hkl
    obtain ⟨z0, z1, y0, y1, a4, k4, ml, y2, tc⟩ := hx k hkl
    have HE : Hid (trT g.trips (k + 1) = trT g.trips k ++ [g.trips[k]]) := trT_succ hkl
    have hr1 := HS'.out k hkl
    obtain ⟨d, Hd⟩ : ∃ d, Hid (g.trips[k] = d) := ⟨_, (rfl : g.trips[k] = _)⟩
    rw [Hd.out] at HE ml y0 y1 y2 tc hr1 z0 z1
    have hlt' : (k : Int) < (n1 : Int) := by omega
    have hsL : (wr.alloc (.cells #[.string d.line, .int .i64 d.days, .slice a4 d.calls.length k4] 92)).heap.size = wr.heap.size + 1 := by simp
    have hown0 : ((wr.alloc (.cells #[.string d.line, .int .i64 d.days, .slice a4 d.calls.length k4] 92)).alloc (.cells #[] 108)).ownsRow (wr.heap.size + 1) 108 3 (.slice (some ⟨wr.heap.size + 1, 0, none⟩) 0 0) 0 [] := by
     have := World.ownsRow_lit (base := wr.heap.size + 1) (e := 108) (size := 3) (wr.alloc (.cells #[.string d.line, .int .i64 d.days, .slice a4 d.calls.length k4] 92)) #[] 0 (Nat.le_of_eq hsL.symm) (Nat.zero_le _) rfl
     rw [hsL] at this
     exact this
    have hT3 : CalL ((wr.alloc (.cells #[.string d.line, .int .i64 d.days, .slice a4 d.calls.length k4] 92)).alloc (.cells #[] 108)) a4 d.calls (f k) := tc.bel calE (bel_alloc (bel_alloc (Bel.refl wr) _) _)
    have hB5 := bel_alloc (Bel.refl wr) (.cells #[.string d.line, .int .i64 d.days, .slice a4 d.calls.length k4] 92)
    have Y5 := Blk.new wr [.string d.line, .int .i64 d.days, .slice a4 d.calls.length k4] 92
    have hBw : B < wr.heap.size := HX.out.lt
    clear hx tc
    go_wp2_with (first
     | (at_builtin; refine wpList_append_flat_cap calF (by decide) rfl _ _ 90 rfl (wr.heap.size + 1) 108 i2 (.agg #[.int .i64 0, .int .i64 0, .int .i64 0]) 24 Try.underlying90 hi2 hz2 hs2 hy2 rfl _ rfl hown0 a4 d.calls.length k4 d.calls (f k) rfl hT3 rfl hr1 (by decide) (by simp) ?_)
     | go_in)
    intro a5 c5 b5 w4 hcap HS4 HM4 hgrow
    have hB4 : Bel (wr.alloc (.cells #[.string d.line, .int .i64 d.days, .slice a4 d.calls.length k4] 92)) w4 := bel_grow (bel_alloc (Bel.refl _) _) hgrow (fun j e => by rw [hsL]; exact Nat.le_of_eq (Option.some.inj e))
    have hBr4 : Bel wr w4 := bel_step hB5 hB4
    have Y4 : Blk w4 wr.heap.size [.string d.line, .int .i64 d.days, .slice a4 d.calls.length k4] := Y5.bel hB4
    have r0 : w4.cell? ⟨wr.heap.size, 0, none⟩ = some (.string d.line) := Y4.cell 0 (by simp)
    have r1 : w4.cell? ⟨wr.heap.size, 1, none⟩ = some (.int .i64 d.days) := Y4.cell 1 (by simp)
    have r2 : w4.cell? ⟨wr.heap.size, 2, none⟩ = some (.slice a4 d.calls.length k4) := Y4.cell 2 (by simp)
    have rf := Y4.free 2
    have hN : wr.heap.size ∉ b5 := fun h => by have := (HM4.new _ h).1; omega
    obtain ⟨V5, HV5⟩ : ∃ F, Hid (F = w4.setCell ⟨wr.heap.size, 2, none⟩ (.slice a5 d.calls.length c5)) := ⟨_, (rfl : w4.setCell ⟨wr.heap.size, 2, none⟩ (.slice a5 d.calls.length c5) = _)⟩
    have hBV5 : Bel wr V5 := by rw [HV5.out]; exact bel_set hBr4 (Nat.le_refl _) _
    have hVs : V5.heap.size = w4.heap.size := by rw [HV5.out]; simp [World.setCell]
    have hAl : Alike w4 V5 b5 := by rw [HV5.out]; exact (Alike.refl (HS4.lt calE)).set hN 2 _
    have HV : Hid (TrpVc V5 [.string d.line, .int .i64 d.days, .slice a5 d.calls.length c5] d b5) := (⟨a5, c5, z0, z1, ml, rfl, HS4.alike calE hAl, hcap⟩ : TrpVc V5 _ d b5)
    have HF5 : Hid (Fresh wr V5 b5) := (HM4.alike hAl).fresh (Nat.le_succ _)
    have XB4 := HX.out.bel hBV5
    have s1 : V5.cell? ⟨B, 1, none⟩ = some (.slice va k vc) := XB4.cell 1 (by simp)
    have s1' : w4.cell? ⟨B, 1, none⟩ = some (.slice va k vc) := (HX.out.bel hBr4).cell 1 (by simp)
    have hne : B ≠ wr.heap.size := Nat.ne_of_lt hBw
    have hw4l : wr.heap.size < w4.heap.size := Y4.lt
    have hBw4 : B < w4.heap.size := by omega
    have hown2 := World.ownsRow.alloc (own_bel HG.out.own hBV5) (.cells #[.string d.line, .int .i64 d.days, .slice a5 d.calls.length c5] 92)
    have hB6 := bel_alloc (Bel.refl V5) (.cells #[.string d.line, .int .i64 d.days, .slice a5 d.calls.length c5] 92)
    have HZ6 : Hid (Blk ((w4.setCell ⟨wr.heap.size, 2, none⟩ (.slice a5 d.calls.length c5)).alloc (.cells #[.string d.line, .int .i64 d.days, .slice a5 d.calls.length c5] 92)) w4.heap.size [.string d.line, .int .i64 d.days, .slice a5 d.calls.length c5]) := by
     have := Blk.new V5 [.string d.line, .int .i64 d.days, .slice a5 d.calls.length c5] 92
     rw [hVs] at this
     rw [← HV5.out]
     exact this
    have hs6 : (V5.alloc (.cells #[.string d.line, .int .i64 d.days, .slice a5 d.calls.length c5] 92)).heap.size = w4.heap.size + 1 := by simp [hVs]
    rw [HLK.out] at hown2
    have hwA : wA.heap.size ≤ wr.heap.size := HO.out.size
    have hwr4 : wr.heap.size ≤ w4.heap.size := hBr4.out.size
    clear HS4 HM4 hgrow hAl Y5 Y4 hT3 hown0 hB4 XB4 hcap y0 y1 y2
    rw [HV5.out] at hown2
    go_wp2_with (first
     | (at_builtin; refine wpList_append_lies _ rfl _ _ 46 rfl wA.heap.size 92 i3 (.agg #[.string ⟨#[]⟩, .int .i64 0, .slice none 0 0]) 3 48 Try.underlying46 hi3 hz3 hs3 hy3 rfl (by decide) _ _ _ rfl hown2 ⟨w4.heap.size, 0, none⟩ 1 1 [.string d.line, .int .i64 d.days, .slice a5 d.calls.length c5] rfl rfl ?c1 ?c2 (by decide) ?c3 ?c4 ?c5 (w4.heap.size + 1) ?c6 ?_)
     | go_in)
    case c1 =>
     intro j u hj
     rw [addr_add, Nat.zero_add]
     obtain ⟨hj', hu⟩ := List.getElem?_eq_some_iff.1 hj
     rw [HZ6.out.cell j hj', hu]
    case c2 =>
     intro u hu
     simp at hu
     rcases hu with rfl | rfl | rfl <;> rfl
    case c3 => unfold maxLen; omega
    case c4 => omega
    case c5 => simp; omega
    case c6 => simp
    intro g' cap w7 hown' hgrow hat _
    rw [← HV5.out] at hgrow
    have hat' : (Value.slice va k vc).ownBlock = some g' ∨ g' = (V5.alloc (.cells #[.string d.line, .int .i64 d.days, .slice a5 d.calls.length c5] 92)).heap.size := by rw [hs6]; simpa using hat
    have hrow : ∀ j, (Value.slice va k vc).ownBlock = some j → wA.heap.size ≤ j := fun j e => (HG.out.own.lt j e).1
    have hG7 : ∃ R' f', Gr 3 TrpVc 92 wA.heap.size w7 (.slice (some ⟨g', 0, none⟩) (k + 1) cap) (trT g.trips (k + 1)) R' f' := by
     have := Gr.add trpVc HG.out hBV5 hB6 HV.out HF5.out hwA (by rw [HLK.out]; exact hown') hgrow (hatL hat')
     rw [HE.out]
     exact ⟨_, _, this⟩
    have XB7 : Blk w7 B [.slice p0 n0 q0, .slice va k vc, .slice p2 n2 q2] := blk_grownL ((HX.out.bel hBV5).bel hB6) hgrow (fun e => by have := hrow B e.symm; omega)
    have HO7 : Onl [B] wA w7 := onl_grow ((HO.out.bel hBV5).bel hB6) hgrow hrow
    have t1 : w7.cell? ⟨B, 1, none⟩ = some (.slice va k vc) := XB7.cell 1 (by simp)
    have tf := XB7.free 1
    have tl := XB7.lt
    have HX8 : Hid (Blk (w7.setCell ⟨B, 1, none⟩ (.slice (some ⟨g', 0, none⟩) (k + 1) cap)) B [.slice p0 n0 q0, .slice (some ⟨g', 0, none⟩) (k + 1) cap, .slice p2 n2 q2]) := XB7.set 1 _ (by simp)
    have HG8 : Hid (∃ R' f', Gr 3 TrpVc 92 wA.heap.size (w7.setCell ⟨B, 1, none⟩ (.slice (some ⟨g', 0, none⟩) (k + 1) cap)) (.slice (some ⟨g', 0, none⟩) (k + 1) cap) (trT g.trips (k + 1)) R' f') := by
     obtain ⟨R', f', G'⟩ := hG7
     exact ⟨R', f', G'.far trpVc (setCell_grownL w7 B 1 _) hBA⟩
    have HO8 : Hid (Onl [B] wA (w7.setCell ⟨B, 1, none⟩ (.slice (some ⟨g', 0, none⟩) (k + 1) cap))) := HO7.set (List.mem_singleton.2 rfl) 1 _
    clear hown' hgrow hown2 hat hat' HV HF5 hB6 hBV5 XB7 HO7 hG7 HZ6 hrow s1 s1' r0 r1 r2 rf hBr4 hN
    go_wp2
    go_roundw
    case rel =>
     obtain ⟨R', f', G'⟩ := HG8.out
     exact ⟨k + 1, _, _, R', f', by omega, by go_num, HX8.out, G', HO8.out⟩
    case measure => simp [intOf]; omega
   ·have e : n1 = k := by omega
    subst e
    have HQ := Gr.out trpVc HG.out
    have HT : trT g.trips n1 = g.trips := trT_all (by rw [H1.out]; exact Nat.le_refl _)
    obtain ⟨a', c', d1, e', hS, hM⟩ := HQ
    rw [HLK.out] at e'
    obtain ⟨rfl, rfl⟩ : va = a' ∧ vc = c' := by simpa using e'
    rw [HT] at hS
    have hlt' : ¬ (n1 : Int) < (n1 : Int) := by omega
    have hX := HX.out
    have hO := HO.out
    have f0' : wr.cell? ⟨B, 0, none⟩ = some (.slice p0 n0 q0) := hX.cell 0 (by simp)
    have f1' : wr.cell? ⟨B, 1, none⟩ = some (.slice va n1 vc) := hX.cell 1 (by simp)
    have f2' : wr.cell? ⟨B, 2, none⟩ = some (.slice p2 n2 q2) := hX.cell 2 (by simp)
    have fl := hX.lt
    have XE := XR'.out.bel hBr
    have r0 : wr.cell? ⟨w.heap.size + 1, 0, none⟩ = some (.slice none 0 0) := XE.cell 0 (by simp)
    have r1 : wr.cell? ⟨w.heap.size + 1, 1, none⟩ = some (.slice none 0 0) := XE.cell 1 (by simp)
    have r2 : wr.cell? ⟨w.heap.size + 1, 2, none⟩ = some (.slice none 0 0) := XE.cell 2 (by simp)
    have rf := XE.free
    have rl := XE.lt
    obtain ⟨nd0, nd2, xd⟩ := List.nodup_append.1 HFH.out.nd
    have hBd : ∀ y ∈ d0 ++ d2, y ∉ [B] := fun y hy h => hoff (by rw [← List.mem_singleton.1 h]; exact hy)
    have hfr : ∀ y ∈ d0 ++ d2, V.heap.size ≤ y ∧ y < wr.heap.size := fun y hy => ⟨(HFH.out.new y hy).1, Nat.lt_of_lt_of_le (HFH.out.new y hy).2 hO.size⟩
    have hff : ∀ y ∈ d0 ++ d2, ∀ j, wr.frozen? ⟨y, j, none⟩ = false := fun y hy j => by rw [hO.frozen (HFH.out.new y hy).2 (hBd y hy)]; exact HFH.out.free y hy j
    have F0 : Fresh V wr d0 := ⟨nd0, fun y hy => hfr y (List.mem_append.2 (.inl hy)), fun y hy => hff y (List.mem_append.2 (.inl hy))⟩
    have F2 : Fresh V wr d2 := ⟨nd2, fun y hy => hfr y (List.mem_append.2 (.inr hy)), fun y hy => hff y (List.mem_append.2 (.inr hy))⟩
    have F1 : Fresh V wr d1 := hM.fresh hBc.out.size
    have x01 : ∀ y ∈ d0, y ∉ d1 := fun y hy h => by have := (HFH.out.new y (List.mem_append.2 (.inl hy))).2; have := (hM.new y h).1; omega
    have x12 : ∀ y ∈ d1, y ∉ d2 := fun y h hy => by have := (HFH.out.new y (List.mem_append.2 (.inr hy))).2; have := (hM.new y h).1; omega
    have FF : Fresh V wr (d0 ++ (d1 ++ d2)) := F0.app (F1.app F2 x12) fun y hy h => (List.mem_append.1 h).elim (x01 y hy) (fun h => xd y hy y h rfl)
    have hno : w.heap.size + 1 ∉ d0 ++ (d1 ++ d2) := fun h => by have := (FF.new _ h).1; omega
    have hA : ∀ u0 u1 u2, Alike wr (((wr.setCell ⟨w.heap.size + 1, 0, none⟩ u0).setCell ⟨w.heap.size + 1, 1, none⟩ u1).setCell ⟨w.heap.size + 1, 2, none⟩ u2) (d0 ++ (d1 ++ d2)) := fun u0 u1 u2 => (((Alike.refl fun y hy => (FF.new y hy).2).set hno _ _).set hno _ _).set hno _ _
    have S0 := HT0.out.alike strE (hO.alike (HT0.out.lt strE) (fun y hy => hBd y (List.mem_append.2 (.inl hy))))
    have S2 := HT2.out.alike wlkE (hO.alike (HT2.out.lt wlkE) (fun y hy => hBd y (List.mem_append.2 (.inr hy))))
    have HFin : Hid (∀ u0 u1 u2, StrL (((wr.setCell ⟨w.heap.size + 1, 0, none⟩ u0).setCell ⟨w.heap.size + 1, 1, none⟩ u1).setCell ⟨w.heap.size + 1, 2, none⟩ u2) p0 g.stops d0 ∧ TrpLc (((wr.setCell ⟨w.heap.size + 1, 0, none⟩ u0).setCell ⟨w.heap.size + 1, 1, none⟩ u1).setCell ⟨w.heap.size + 1, 2, none⟩ u2) va g.trips d1 ∧ WlkL (((wr.setCell ⟨w.heap.size + 1, 0, none⟩ u0).setCell ⟨w.heap.size + 1, 1, none⟩ u1).setCell ⟨w.heap.size + 1, 2, none⟩ u2) p2 g.walks d2 ∧ Fresh w (((wr.setCell ⟨w.heap.size + 1, 0, none⟩ u0).setCell ⟨w.heap.size + 1, 1, none⟩ u1).setCell ⟨w.heap.size + 1, 2, none⟩ u2) (d0 ++ (d1 ++ d2)) ∧ Bel w (((wr.setCell ⟨w.heap.size + 1, 0, none⟩ u0).setCell ⟨w.heap.size + 1, 1, none⟩ u1).setCell ⟨w.heap.size + 1, 2, none⟩ u2)) := fun u0 u1 u2 =>
     ⟨S0.alike strE ((hA u0 u1 u2).sub fun y hy => by simp [hy]), hS.alike trpEc ((hA u0 u1 u2).sub fun y hy => by simp [hy]), S2.alike wlkE ((hA u0 u1 u2).sub fun y hy => by simp [hy]), (FF.alike (hA u0 u1 u2)).old HV0.out.out.size,
      bel_set (bel_set (bel_set (bel_step HV0.out hBr) (Nat.le_succ _) _) (Nat.le_succ _) _) (Nat.le_succ _) _⟩
    have hBne : B ≠ w.heap.size + 1 := by omega
    clear hX hO XE nd0 nd2 xd hBd hfr hff F0 F1 F2 x01 x12 FF hA S0 S2 hS hM HT e'
    go_wp2
    refine bodyPost_ret (v := .agg #[.slice p0 n0 q0, .slice va n1 vc, .slice p2 n2 q2]) (by simp [results, Try.results63, go_sem, r0, r1, r2]) rfl ⟨p0, q0, va, vc, p2, ⟨q2, rfl⟩, d0, (HFin.out _ _ _).1, d1, (HFin.out _ _ _).2.1, d2, (HFin.out _ _ _).2.2.1, (HFin.out _ _ _).2.2.2.1, (HFin.out _ _ _).2.2.2.2⟩
end Go.Proofs.Ytkmccjjghpnejaa
