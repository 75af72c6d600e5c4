/-
  What the model draws as a box: numbers of 64 bits.
-/
import Derived.Test.YtbfcmlajlppmdaaDrawB
import Derived.Test.YtbfcmlajlppmdaaDrawP
import Derived.Test.YtbfcmlajlppmdaaClpN
namespace Go.Proofs.Ytbfcmlajlppmdaa
open Go.RowKit

theorem in64_wrap (x : Int) : In64 (IntKind.i64.wrap x) := by rw [IntKind.wrap_i64]; unfold In64; omega
structure CutXs (w0 b : World) (B : Nat) (a : Option Addr) (n c : Nat) (t : Value) (w : World) : Prop where
 out : ∃ (g : Nat) (x y z u : Int), t = .pointer (some ⟨g, 0, none⟩) ∧ b.heap.size ≤ g ∧ Blk w g [.int .i64 x, .int .i64 y, .int .i64 z, .int .i64 u] ∧ Drawn w0 b B a n c w ∧ In64 x ∧ In64 y ∧ In64 z ∧ In64 u
theorem CutXs.put {w0 b w : World} {B : Nat} {a : Option Addr} {n c g : Nat} {x y z u : Int} (h : Vx b w g) (D : Drawn w0 b B a n c w) (h0 : w0.heap.size ≤ b.heap.size) (hB : B < b.heap.size) (h64 : In64 x ∧ In64 y ∧ In64 z ∧ In64 u) :
  CutXs w0 b B a n c (.pointer (some ⟨g, 0, none⟩)) ((((w.setCell ⟨g, 0, none⟩ (.int .i64 x)).setCell ⟨g, 1, none⟩ (.int .i64 y)).setCell ⟨g, 2, none⟩ (.int .i64 z)).setCell ⟨g, 3, none⟩ (.int .i64 u)) := by
 have hl := h.lo
 have k0 : w0.heap.size ≤ g := by omega
 have k1 : g ≠ B := by omega
 exact ⟨g, x, y, z, u, rfl, hl, (((h.x.set 0 _ (by simp)).set 1 _ (by simp)).set 2 _ (by simp)).set 3 _ (by simp), (((D.far k0 hl k1 _ _).far k0 hl k1 _ _).far k0 hl k1 _ _).far k0 hl k1 _ _, h64⟩
theorem CutXs.fresh {w0 b w : World} {B : Nat} {a : Option Addr} {n c : Nat} {x y z u : Int} {t : TypeId} (D : Drawn w0 b B a n c w) (h64 : In64 x ∧ In64 y ∧ In64 z ∧ In64 u) :
  CutXs w0 b B a n c (.pointer (some ⟨w.heap.size, 0, none⟩)) (w.alloc (.cells #[.int .i64 x, .int .i64 y, .int .i64 z, .int .i64 u] t)) :=
 ⟨w.heap.size, x, y, z, u, rfl, D.o.size, Blk.new w [.int .i64 x, .int .i64 y, .int .i64 z, .int .i64 u] t, D.alcB _, h64⟩

set_option maxRecDepth 100000 in
set_option maxHeartbeats 2000000 in
theorem drawBoxS_any (B : Nat) (a : Option Addr) (n c : Nat) (w0 w : World) (hb : Bel w0 w) (hB : w0.heap.size ≤ B) (hC : Cur w B a n c) (hS : Bts w0 a n) (hn : n ≤ 1048576) :
  Calls Try.prog 52 #[.pointer (some ⟨B, 0, none⟩)] w fun e w' => ∃ q : BoxD, e = .returned (bxv q) ∧ Box64 q ∧ Drawn w0 w B a n c w' := by
 obtain ⟨W, HW⟩ : ∃ W, Hid (W = w.alloc (.cells #[.int .i64 0, .int .i64 0, .int .i64 0, .int .i64 0] 34)) := ⟨_, (rfl : w.alloc (.cells #[.int .i64 0, .int .i64 0, .int .i64 0, .int .i64 0] 34) = _)⟩
 have hW : Bel w W := by rw [HW.out]; exact bel_alloc (Bel.refl _) _
 have Z0 : Blk W w.heap.size zer4 := by rw [HW.out]; exact Blk.new w zer4 _
 have hlt := hC.lt
 have hw0 := hb.out.size
 have hRB : w.heap.size ≠ B := by omega
 have D0 : Drawn w0 W B a n c W := ⟨bel_step hb hW, OnlyB.refl _ _, hC.bel hW⟩
 go_enter Try.func52, Try.ntmps52
 go_wp2_with fail
 rw [← HW.out]
 refine (drawPointB_any B a n c w0 W D0.b hB D0.k hS hn).mono ?_
 rintro e w1 ⟨x, y, hxy, rfl, d1⟩
 obtain ⟨V, HV⟩ : ∃ V, Hid (V = w1.alloc (.cells #[.int .i64 x, .int .i64 y] 32)) := ⟨_, (rfl : w1.alloc (.cells #[.int .i64 x, .int .i64 y] 32) = _)⟩
 have D1 : Hid (Drawn w0 W B a n c V) := by rw [HV.out]; exact (D0.then d1).alcB _
 have P1 : Blk V w1.heap.size [.int .i64 x, .int .i64 y] := by rw [HV.out]; exact Blk.new w1 [.int .i64 x, .int .i64 y] _
 have h1B : w1.heap.size ≠ B := by have := d1.k.lt; omega
 have DV : Drawn w0 V B a n c V := ⟨D1.out.b, OnlyB.refl _ _, D1.out.k⟩
 have hVB : B < V.heap.size := D1.out.k.lt
 have hV0 : w0.heap.size ≤ V.heap.size := D1.out.b.out.size
 clear d1 D0
 have hR : ∀ v, Drawn w0 V B a n c v → v.cell? ⟨w1.heap.size, 0, none⟩ = some (.int .i64 x) ∧ v.cell? ⟨w1.heap.size, 1, none⟩ = some (.int .i64 y) := fun v h => by
  have p := P1.only h.o h1B
  exact ⟨p.cell 0 (by simp), p.cell 1 (by simp)⟩
 go_wp2
 rw [← HV.out]
 go_cut [4] (fun t wx => CutXs w0 V B a n c t wx)
 case first =>
  go_region_held3 (fun w' => w'.cell? ⟨w1.heap.size, 0, none⟩ = some (.int .i64 x) ∧ w'.cell? ⟨w1.heap.size, 1, none⟩ = some (.int .i64 y))
   (exact hR _ (by with_reducible (repeat (first | assumption | refine Drawn.drwB ?_ | refine Drawn.alcB ?_ _ | refine Drawn.setX hV0 hVB hz.lo ?_ _ _))))
   (first
    | (go_at_call 53; refine (fun hchk : True ∧ _ => ?_) ⟨trivial, hDa⟩; refine (below_to (w0 := w0) (w := V) (B := B) (a := a) (n := n) (c := c) (v := _) (by with_reducible (repeat (first | assumption | refine Drawn.drwB ?_ | refine Drawn.alcB ?_ _))) hB hS hn 40 (by decide) (by decide)).mono ?_; rintro e wb ⟨xb, rfl, hDb, hOb⟩; (first | (refine (fun hz : Vx V wb wa.heap.size => ?_) (Vx.new (W := wa) hDa.o.size hVB hOb)) | (refine (fun hz : Vx V wb _ => ?_) (Vx.on hqa hVB hOb)) | skip); (first | (refine (fun hcs : _ ∧ _ => ?_) (Vx.cs hz)) | skip))
    | (go_at_call 53; refine (below_to (w0 := w0) (w := V) (B := B) (a := a) (n := n) (c := c) (v := _) (by with_reducible (repeat (first | assumption | refine Drawn.drwB ?_ | refine Drawn.alcB ?_ _))) hB hS hn 40 (by decide) (by decide)).mono ?_; rintro e wa ⟨xa, rfl, hDa, hOa⟩; (first | (refine (fun hqa : Vx V wa V.heap.size => ?_) (Vx.new (W := V.drew) (Nat.le_refl _) hVB hOa)) | skip)))
  all_goals
   go_wp2_with fail
   go_meet
   case rel => first | exact CutXs.put hz hDb hV0 hVB ⟨hxy.1, hxy.2, in64_wrap _, in64_wrap _⟩ | exact CutXs.fresh hDb ⟨hxy.1, hxy.2, in64_wrap _, in64_wrap _⟩
 case rest =>
  clear hR DV
  obtain ⟨g, x0, y0, x1, y1, rfl, hg, Kg, Dc, j0, j1, j2, j3⟩ := hcut.out
  obtain ⟨wA, rfl⟩ : ∃ V, V = wc := ⟨_, rfl⟩
  have DA : Hid (Drawn w0 W B a n c wA) := D1.out.then Dc
  have hgW : W.heap.size ≤ g := Nat.le_trans D1.out.o.size hg
  have hg0 : w0.heap.size ≤ g := by omega
  have hgB : g ≠ B := by omega
  have hgw : ¬ g = w.heap.size := by have := Z0.lt; omega
  have hgw' : ¬ w.heap.size = g := fun e => hgw e.symm
  clear Dc D1 hcut P1 HV
  go_wp2_with fail
  refine (once_any B a n c w0 wA DA.out.b hB DA.out.k hS hn 4 (by decide) (by decide)).mono ?_
  rintro e w5 ⟨t, rfl, d5⟩
  have D5 : Hid (Drawn w0 W B a n c w5) := DA.out.then d5
  have K5 := Kg.only d5.o hgB
  clear d5 DA Kg
  cases t
  ·have k0 := K5.cell 0 (by simp)
   have k1 := K5.cell 1 (by simp)
   have k2 := K5.cell 2 (by simp)
   have k3 := K5.cell 3 (by simp)
   have Y := Z0.only D5.out.o hRB
   have z0 := Y.cell 0 (by simp)
   have z1 := Y.cell 1 (by simp)
   have z2 := Y.cell 2 (by simp)
   have z3 := Y.cell 3 (by simp)
   have f0 := Y.free 0
   have f1 := Y.free 1
   have f2 := Y.free 2
   have f3 := Y.free 3
   simp only [List.getElem_cons_zero, List.getElem_cons_succ] at k0 k1 k2 k3 z0 z1 z2 z3
   go_wp2
   exact bodyPost_ret (v := bxv ⟨x0, y0, x1, y1⟩) (by simp [results, Try.results52, go_sem, z0, z1, z2, z3]) rfl ⟨⟨x0, y0, x1, y1⟩, rfl, ⟨j0, j1, j2, j3⟩, ((((D5.out.from hW).far hw0 (Nat.le_refl _) hRB _ _).far hw0 (Nat.le_refl _) hRB _ _).far hw0 (Nat.le_refl _) hRB _ _).far hw0 (Nat.le_refl _) hRB _ _⟩
  ·go_wp2_with fail
   refine (drawPointB_any B a n c w0 w5 D5.out.b hB D5.out.k hS hn).mono ?_
   rintro e w6 ⟨x2, y2, hxy2, rfl, d6⟩
   have D6 : Hid (Drawn w0 W B a n c w6) := D5.out.then d6
   have K6 := K5.only d6.o hgB
   clear d6 D5 K5
   have k0 := K6.cell 0 (by simp)
   have k1 := K6.cell 1 (by simp)
   have k2 := K6.cell 2 (by simp)
   have k3 := K6.cell 3 (by simp)
   have g2 := K6.free 2
   have g3 := K6.free 3
   have Y := Z0.only D6.out.o hRB
   have z0 := Y.cell 0 (by simp)
   have z1 := Y.cell 1 (by simp)
   have z2 := Y.cell 2 (by simp)
   have z3 := Y.cell 3 (by simp)
   have f0 := Y.free 0
   have f1 := Y.free 1
   have f2 := Y.free 2
   have f3 := Y.free 3
   simp only [List.getElem_cons_zero, List.getElem_cons_succ] at k0 k1 k2 k3 z0 z1 z2 z3
   have D7 := ((D6.out.far hg0 hgW hgB 2 (.int .i64 x2)).far hg0 hgW hgB 3 (.int .i64 y2)).from hW
   go_wp2
   exact bodyPost_ret (v := bxv ⟨x0, y0, x2, y2⟩) (by simp [results, Try.results52, go_sem, z0, z1, z2, z3]) rfl ⟨⟨x0, y0, x2, y2⟩, rfl, ⟨j0, j1, hxy2.1, hxy2.2⟩, (((D7.far hw0 (Nat.le_refl _) hRB _ _).far hw0 (Nat.le_refl _) hRB _ _).far hw0 (Nat.le_refl _) hRB _ _).far hw0 (Nat.le_refl _) hRB _ _⟩
end Go.Proofs.Ytbfcmlajlppmdaa
