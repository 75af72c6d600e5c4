/-
  Tiles as data in memory.
  The tiles of a box: plain mathematics, and the list of them.
  Points as plain elements of a row that is being built.
  Contracts of TileBox, in the program and in its model: for every tile.
-/
import Derived.Test.YtldfcnlhjjiihaaGreatGE
import Derived.Test.YtldfcnlhjjiihaaGreatCB
namespace Go.Proofs.YtldfcnlhjjiihaaGreat
open Go.RowKit Go.Maps

structure TileD where
 z : Int
 x : Int
 y : Int
def TileE : Elem TileD := fun w b o d bs => bs = [] ∧ In64 d.z ∧ In64 d.x ∧ In64 d.y ∧ w.cell? ⟨b, o, none⟩ = some (.int .i64 d.z) ∧ w.cell? ⟨b, o + 1, none⟩ = some (.int .i64 d.x) ∧ w.cell? ⟨b, o + 2, none⟩ = some (.int .i64 d.y)
abbrev TileL := Sl 3 TileE
end Go.Proofs.YtldfcnlhjjiihaaGreat

namespace Go.Proofs.YtldfcnlhjjiihaaGreat
open Go.RowKit Go.Maps

/-- One plain element more. -/
theorem Gr.add1 {α : Type} {q : Nat} {E : Elem α} {P : α → Prop} {cs : α → List Value} (hF : Flat q E P cs) {T : TypeId} {lo : Nat} {w0 w2 w3 : World} {v v' : Value} {l : List α} {R : Nat → List Value} {d : α} (h : Gr q (flatV P cs) T lo w0 v l R (fun _ => []))
  (h02 : Bel w0 w2) (hp : P d) (hlo : lo ≤ w0.heap.size) (ho : w3.ownsRow lo T q v' (l.length + 1) (recs R l.length ++ cs d)) (hg : w2.grownBy w3 v.ownBlock) (hat : v'.ownBlock = v.ownBlock ∨ v'.ownBlock = some w2.heap.size) :
  ∃ R', Gr q (flatV P cs) T lo w3 v' (l ++ [d]) R' (fun _ => []) := by
 have := Gr.add hF.stays h (Bel.refl w0) h02 (vs := cs d) (d := d) (bs := []) (show flatV P cs w0 (cs d) d [] from ⟨rfl, hp, rfl⟩) (Fresh.nil w0 w0) hlo ho hg hat
 have e : updF (fun _ : Nat => ([] : List Nat)) l.length [] = fun _ => [] := by funext i; unfold updF; split <;> rfl
 rw [e] at this
 exact ⟨_, this⟩
theorem hatT {v : Value} {g n c H : Nat} (h : v.ownBlock = some g ∨ g = H) : (Value.slice (some ⟨g, 0, none⟩) n c).ownBlock = v.ownBlock ∨ (Value.slice (some ⟨g, 0, none⟩) n c).ownBlock = some H := by
 rcases h with h | h
 ·exact .inl h.symm
 ·exact .inr (by rw [h]; rfl)
end Go.Proofs.YtldfcnlhjjiihaaGreat

namespace Go.Proofs.YtldfcnlhjjiihaaGreat
open Go.RowKit Go.Maps

def PqP (d : PtD) : Prop := In64 d.x ∧ In64 d.y
def pqCs (d : PtD) : List Value := [.int .i64 d.x, .int .i64 d.y]
theorem pqF : Flat 2 PtE PqP pqCs :=
 ⟨fun _ => rfl, fun _ u hu => by simp only [pqCs, List.mem_cons, List.not_mem_nil, or_false] at hu; rcases hu with rfl | rfl <;> rfl,
  fun ⟨_, h1, h2, h3, h4⟩ => ⟨⟨h1, h2⟩, fun j hj => by match j, hj with | 0, _ => exact h3 | 1, _ => exact h4⟩,
  fun hp hc => ⟨rfl, hp.1, hp.2, hc 0 (by simp [pqCs]), hc 1 (by simp [pqCs])⟩⟩
theorem infoPq : (Tryz.prog.info? 61).map (fun i => (i.zero, i.size, i.bytes)) = some (some (.agg #[.int .i64 0, .int .i64 0]), 2, 16) := by kernel_rfl
/-- A row of points that is being built. -/
abbrev GrP (lo : Nat) (w : World) (v : Value) (l : List PtD) (R : Nat → List Value) : Prop := Gr 2 (flatV PqP pqCs) 61 lo w v l R (fun _ => [])
/-- Where such a row lies. -/
theorem GrP.place {lo : Nat} {w : World} {v : Value} {l : List PtD} {R : Nat → List Value} (h : GrP lo w v l R) : v = .slice none 0 0 ∧ l = [] ∨ ∃ g cap, v = .slice (some ⟨g, 0, none⟩) l.length cap ∧ lo ≤ g ∧ g < w.heap.size ∧ l.length ≤ cap ∧ cap ≤ maxLen ∧ (∀ j, w.frozen? ⟨g, j, none⟩ = false) ∧
  ∀ i (h : i < l.length), w.cell? ⟨g, i * 2, none⟩ = some (.int .i64 l[i].x) ∧ w.cell? ⟨g, i * 2 + 1, none⟩ = some (.int .i64 l[i].y) := by
 have hown := h.own
 rcases h.own.2 with ⟨e, hz⟩ | ⟨g, cap, cur, e, hg, e3, hn, hm, _⟩
 ·exact .inl ⟨e, List.length_eq_zero_iff.1 hz⟩
 ·subst e
  have hlt : g < w.heap.size := by
   rcases Nat.lt_or_ge g w.heap.size with h | h
   ·exact h
   ·rw [Array.getElem?_eq_none h] at e3; cases e3
  refine .inr ⟨g, cap, rfl, hg, hlt, hn, hm, fun j => by simp [World.frozen?, e3], fun i hi => ?_⟩
  obtain ⟨_, _, hv⟩ := h.el i hi
  have c0 := hown.cellAt (i * 2 + 0) (by omega)
  have c1 := hown.cellAt (i * 2 + 1) (by omega)
  rw [recs_at h.len (by decide) l.length hi, hv] at c0 c1
  exact ⟨by rw [Nat.add_zero] at c0; rw [c0]; rfl, by rw [c1]; rfl⟩
end Go.Proofs.YtldfcnlhjjiihaaGreat

namespace Go.Proofs.YtldfcnlhjjiihaaGreat
open Go.RowKit

set_option maxRecDepth 100000 in
set_option maxHeartbeats 1000000 in
theorem tileBox_any (z x y : Int) (w : World) :
  Calls Tryz.prog 60 #[til z x y] w fun e w' => e = .returned (bxv (tbx z x y)) ∧ Bel w w' := by
 obtain ⟨W, HW⟩ : ∃ W, Hid (W = (w.alloc (.cells #[.int .i64 z, .int .i64 x, .int .i64 y] 30)).alloc (.cells #[.int .i64 0, .int .i64 0, .int .i64 0, .int .i64 0] 63)) := ⟨_, (rfl : (w.alloc (.cells #[.int .i64 z, .int .i64 x, .int .i64 y] 30)).alloc (.cells #[.int .i64 0, .int .i64 0, .int .i64 0, .int .i64 0] 63) = _)⟩
 have hBW : Bel w W := by rw [HW.out]; exact bel_alloc (bel_alloc (Bel.refl _) _) _
 have X0 : Blk W w.heap.size [.int .i64 z, .int .i64 x, .int .i64 y] := by rw [HW.out]; exact (Blk.new w [.int .i64 z, .int .i64 x, .int .i64 y] _).bel (bel_alloc (Bel.refl _) _)
 have X1 : Blk W (w.heap.size + 1) [.int .i64 0, .int .i64 0, .int .i64 0, .int .i64 0] := by rw [HW.out]; exact Blk.new1 w _ [.int .i64 0, .int .i64 0, .int .i64 0, .int .i64 0] _
 go_enter Tryz.func60, Tryz.ntmps60
 go_wp2_with fail
 rw [← HW.out]
 refine (tileOk_any _ _ _ _).mono ?_
 rintro e w1 ⟨rfl, hb1⟩
 have Y0 := X0.bel hb1
 have Y1 := X1.bel hb1
 have hB1 := bel_step hBW hb1
 have c0 := Y0.cell 0 (by simp)
 have c1 := Y0.cell 1 (by simp)
 have c2 := Y0.cell 2 (by simp)
 have f0 := Y1.free 0
 have f1 := Y1.free 1
 have f2 := Y1.free 2
 have f3 := Y1.free 3
 have d0 := Y1.cell 0 (by simp)
 have d1 := Y1.cell 1 (by simp)
 have d2 := Y1.cell 2 (by simp)
 have d3 := Y1.cell 3 (by simp)
 simp only [List.getElem_cons_zero, List.getElem_cons_succ] at c0 c1 c2 d0 d1 d2 d3
 have l0 := Y0.lt
 have l1 := Y1.lt
 clear X0 X1 hb1 HW
 cases hok : tilB z x y
 ·have HB : Hid (tbx z x y = ⟨0, 0, 0, 0⟩) := tbx_no hok
  obtain ⟨V, HV⟩ : ∃ V, Hid (V = (((w1.setCell ⟨w.heap.size + 1, 0, none⟩ (.int .i64 0)).setCell ⟨w.heap.size + 1, 1, none⟩ (.int .i64 0)).setCell ⟨w.heap.size + 1, 2, none⟩ (.int .i64 0)).setCell ⟨w.heap.size + 1, 3, none⟩ (.int .i64 0)) := ⟨_, (rfl : (((w1.setCell ⟨w.heap.size + 1, 0, none⟩ (.int .i64 0)).setCell ⟨w.heap.size + 1, 1, none⟩ (.int .i64 0)).setCell ⟨w.heap.size + 1, 2, none⟩ (.int .i64 0)).setCell ⟨w.heap.size + 1, 3, none⟩ (.int .i64 0) = _)⟩
  have Z1 : Blk V (w.heap.size + 1) [.int .i64 0, .int .i64 0, .int .i64 0, .int .i64 0] := by rw [HV.out]; exact (((Y1.set 0 (.int .i64 0) (by simp)).set 1 (.int .i64 0) (by simp)).set 2 (.int .i64 0) (by simp)).set 3 (.int .i64 0) (by simp)
  have hBV : Bel w V := by rw [HV.out]; exact bel_set (bel_set (bel_set (bel_set hB1 (Nat.le_succ _) _) (Nat.le_succ _) _) (Nat.le_succ _) _) (Nat.le_succ _) _
  clear Y0 Y1 hok
  go_wp2
  rw [← HV.out]
  exact bodyPost_ret (v := .agg #[.int .i64 0, .int .i64 0, .int .i64 0, .int .i64 0]) (by simp [results, Tryz.results60, go_sem, Z1.cell 0 (by simp), Z1.cell 1 (by simp), Z1.cell 2 (by simp), Z1.cell 3 (by simp)]) rfl ⟨by rw [HB.out], hBV⟩
 ·obtain ⟨hz, h0, h1, h2, h3⟩ := til_out hok
  have hz' := hz
  obtain ⟨m0, m1⟩ := til_mul hz h0 h1
  obtain ⟨n0, n1⟩ := til_mul hz h2 h3
  have s1 := (zNS hz).2.1
  have HA0 : Hid (tbx z x y = ⟨tbA z x, tbA z y, tbA z x + zS z, tbA z y + zS z⟩) := tbx_yes hok
  have cS := fun w' => sideAt_any z w' hz
  obtain ⟨s, hs⟩ : ∃ s, zS z = s := ⟨_, rfl⟩
  unfold tbA at HA0
  rw [hs] at m0 m1 n0 n1 s1 cS HA0
  obtain ⟨a, ha⟩ : ∃ a, x * (s : Int) = a := ⟨_, rfl⟩
  obtain ⟨b, hb⟩ : ∃ b, y * (s : Int) = b := ⟨_, rfl⟩
  rw [ha] at m0 m1 HA0
  rw [hb] at n0 n1 HA0
  clear hs hok hz hz' h1 h3 h0 h2
  obtain ⟨V, HV⟩ : ∃ V, Hid (V = (((w1.setCell ⟨w.heap.size + 1, 0, none⟩ (.int .i64 (a - 16777216))).setCell ⟨w.heap.size + 1, 1, none⟩ (.int .i64 (b - 16777216))).setCell ⟨w.heap.size + 1, 2, none⟩ (.int .i64 (a - 16777216 + s))).setCell ⟨w.heap.size + 1, 3, none⟩ (.int .i64 (b - 16777216 + s))) := ⟨_, (rfl : (((w1.setCell ⟨w.heap.size + 1, 0, none⟩ (.int .i64 (a - 16777216))).setCell ⟨w.heap.size + 1, 1, none⟩ (.int .i64 (b - 16777216))).setCell ⟨w.heap.size + 1, 2, none⟩ (.int .i64 (a - 16777216 + s))).setCell ⟨w.heap.size + 1, 3, none⟩ (.int .i64 (b - 16777216 + s)) = _)⟩
  have Z0 : Blk V (w.heap.size + 1) [.int .i64 (a - 16777216), .int .i64 (b - 16777216), .int .i64 (a - 16777216 + s), .int .i64 (b - 16777216 + s)] := by rw [HV.out]; exact (((Y1.set 0 _ (by simp)).set 1 _ (by simp)).set 2 _ (by simp)).set 3 _ (by simp)
  have hBV : Bel w V := by rw [HV.out]; exact bel_set (bel_set (bel_set (bel_set hB1 (Nat.le_succ _) _) (Nat.le_succ _) _) (Nat.le_succ _) _) (Nat.le_succ _) _
  have Z1 := Z0.bel (bel_alloc (Bel.refl V) (.cells #[.int .i64 (a - 16777216), .int .i64 (b - 16777216)] 61))
  have z0 := Z1.cell 0 (by simp)
  have z1 := Z1.cell 1 (by simp)
  have z2 := Z1.cell 2 (by simp)
  have z3 := Z1.cell 3 (by simp)
  have HZ : Hid _ := And.intro z0 (And.intro z1 (And.intro z2 z3))
  clear z0 z1 z2 z3 Z0 Z1
  clear Y0 Y1
  go_wp2_with fail
  refine (cS _).mono ?_
  rintro e w2 ⟨rfl, rfl⟩
  clear cS
  go_wp2
  rw [← HV.out]
  obtain ⟨z0, z1, z2, z3⟩ := HZ.out
  simp only [List.getElem_cons_zero, List.getElem_cons_succ] at z0 z1 z2 z3
  exact bodyPost_ret (v := .agg #[.int .i64 (a - 16777216), .int .i64 (b - 16777216), .int .i64 (a - 16777216 + s), .int .i64 (b - 16777216 + s)]) (by simp [results, Tryz.results60, go_sem, z0, z1, z2, z3]) rfl ⟨by rw [HA0.out], bel_alloc hBV _⟩

set_option maxRecDepth 100000 in
set_option maxHeartbeats 1000000 in
theorem l6Box_any (z x y : Int) (w : World) (hok : tilB z x y = true) :
  Calls Tryz.prog 21 #[til z x y] w fun e w' => e = .returned (bxv (tbx z x y)) ∧ Bel w w' := by
 obtain ⟨W, HW⟩ : ∃ W, Hid (W = (w.alloc (.cells #[.int .i64 z, .int .i64 x, .int .i64 y] 30)).alloc (.cells #[.int .i64 0, .int .i64 0, .int .i64 0, .int .i64 0] 63)) := ⟨_, (rfl : (w.alloc (.cells #[.int .i64 z, .int .i64 x, .int .i64 y] 30)).alloc (.cells #[.int .i64 0, .int .i64 0, .int .i64 0, .int .i64 0] 63) = _)⟩
 have hBW : Bel w W := by rw [HW.out]; exact bel_alloc (bel_alloc (Bel.refl _) _) _
 have X0 : Blk W w.heap.size [.int .i64 z, .int .i64 x, .int .i64 y] := by rw [HW.out]; exact (Blk.new w [.int .i64 z, .int .i64 x, .int .i64 y] _).bel (bel_alloc (Bel.refl _) _)
 have X1 : Blk W (w.heap.size + 1) [.int .i64 0, .int .i64 0, .int .i64 0, .int .i64 0] := by rw [HW.out]; exact Blk.new1 w _ [.int .i64 0, .int .i64 0, .int .i64 0, .int .i64 0] _
 have Y0 := X0
 have Y1 := X1
 have hB1 := hBW
 have c0 := Y0.cell 0 (by simp)
 have c1 := Y0.cell 1 (by simp)
 have c2 := Y0.cell 2 (by simp)
 have f0 := Y1.free 0
 have f1 := Y1.free 1
 have f2 := Y1.free 2
 have f3 := Y1.free 3
 have d0 := Y1.cell 0 (by simp)
 have d1 := Y1.cell 1 (by simp)
 have d2 := Y1.cell 2 (by simp)
 have d3 := Y1.cell 3 (by simp)
 simp only [List.getElem_cons_zero, List.getElem_cons_succ] at c0 c1 c2 d0 d1 d2 d3
 have l0 := Y0.lt
 have l1 := Y1.lt
 obtain ⟨hz, h0, h1, h2, h3⟩ := til_out hok
 have hz' := hz
 obtain ⟨m0, m1⟩ := til_mul hz h0 h1
 obtain ⟨n0, n1⟩ := til_mul hz h2 h3
 have s1 := (zNS hz).2.1
 have HA0 : Hid (tbx z x y = ⟨tbA z x, tbA z y, tbA z x + zS z, tbA z y + zS z⟩) := tbx_yes hok
 have cS := fun w' => l6Side_any z w' hz
 obtain ⟨s, hs⟩ : ∃ s, zS z = s := ⟨_, rfl⟩
 unfold tbA at HA0
 rw [hs] at m0 m1 n0 n1 s1 cS HA0
 obtain ⟨a, ha⟩ : ∃ a, x * (s : Int) = a := ⟨_, rfl⟩
 obtain ⟨b, hb⟩ : ∃ b, y * (s : Int) = b := ⟨_, rfl⟩
 rw [ha] at m0 m1 HA0
 rw [hb] at n0 n1 HA0
 clear hs hok hz hz' h1 h3 h0 h2
 obtain ⟨V, HV⟩ : ∃ V, Hid (V = (((W.setCell ⟨w.heap.size + 1, 0, none⟩ (.int .i64 (a - 16777216))).setCell ⟨w.heap.size + 1, 1, none⟩ (.int .i64 (b - 16777216))).setCell ⟨w.heap.size + 1, 2, none⟩ (.int .i64 (a - 16777216 + s))).setCell ⟨w.heap.size + 1, 3, none⟩ (.int .i64 (b - 16777216 + s))) := ⟨_, (rfl : (((W.setCell ⟨w.heap.size + 1, 0, none⟩ (.int .i64 (a - 16777216))).setCell ⟨w.heap.size + 1, 1, none⟩ (.int .i64 (b - 16777216))).setCell ⟨w.heap.size + 1, 2, none⟩ (.int .i64 (a - 16777216 + s))).setCell ⟨w.heap.size + 1, 3, none⟩ (.int .i64 (b - 16777216 + s)) = _)⟩
 have Z0 : Blk V (w.heap.size + 1) [.int .i64 (a - 16777216), .int .i64 (b - 16777216), .int .i64 (a - 16777216 + s), .int .i64 (b - 16777216 + s)] := by rw [HV.out]; exact (((Y1.set 0 _ (by simp)).set 1 _ (by simp)).set 2 _ (by simp)).set 3 _ (by simp)
 have hBV : Bel w V := by rw [HV.out]; exact bel_set (bel_set (bel_set (bel_set hB1 (Nat.le_succ _) _) (Nat.le_succ _) _) (Nat.le_succ _) _) (Nat.le_succ _) _
 have Z1 := Z0.bel (bel_alloc (Bel.refl V) (.cells #[.int .i64 (a - 16777216), .int .i64 (b - 16777216)] 61))
 have z0 := Z1.cell 0 (by simp)
 have z1 := Z1.cell 1 (by simp)
 have z2 := Z1.cell 2 (by simp)
 have z3 := Z1.cell 3 (by simp)
 have HZ : Hid _ := And.intro z0 (And.intro z1 (And.intro z2 z3))
 clear z0 z1 z2 z3 Z0 Z1
 clear Y0 Y1 X0 X1
 go_enter Tryz.func21, Tryz.ntmps21
 go_wp2_with fail
 rw [← HW.out]
 refine (cS _).mono ?_
 rintro e w2 ⟨rfl, rfl⟩
 clear cS
 go_wp2
 rw [← HV.out]
 obtain ⟨z0, z1, z2, z3⟩ := HZ.out
 simp only [List.getElem_cons_zero, List.getElem_cons_succ] at z0 z1 z2 z3
 exact bodyPost_ret (v := .agg #[.int .i64 (a - 16777216), .int .i64 (b - 16777216), .int .i64 (a - 16777216 + s), .int .i64 (b - 16777216 + s)]) (by simp [results, Tryz.results21, go_sem, z0, z1, z2, z3]) rfl ⟨by rw [HA0.out], bel_alloc hBV _⟩

end Go.Proofs.YtldfcnlhjjiihaaGreat
