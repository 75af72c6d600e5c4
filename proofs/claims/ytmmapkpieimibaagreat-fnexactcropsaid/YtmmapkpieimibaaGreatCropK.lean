/-
  What the law on Crop wants besides: a box read and copied; how long a cropped map's lists are; an answer that is kept in a variable of the law's own.
-/
import Derived.Test.YtmmapkpieimibaaGreatCropM
import Derived.Test.YtmmapkpieimibaaGreatKpG
import Derived.Test.YtmmapkpieimibaaGreatMapOkL
import Derived.Test.YtmmapkpieimibaaGreatCopyC
namespace Go.Proofs.YtmmapkpieimibaaGreat
open Go.ChangeShapes Go.WideShapes Go.ChangeAt Go.RowKit Go.Deep Go.Joins

theorem cellsLBox : Tryz.prog.cellsOf 30 = 4 := by kernel_rfl
set_option maxRecDepth 100000 in
theorem open_box {H : Type} {enc : TypeId × Value → H} {W : World} {base : Nat} {v : Value} {d : DataW H} {p : List MemPlace}
    (hv : Value.okWide Tryz.prog W .any base 30 v) (h : DataW.Trod enc Tryz.prog W 0 (fun _ => true) true 30 v d p) :
    ∃ q : BoxD, v = .agg #[.int .i64 q.a, .int .i64 q.b, .int .i64 q.c, .int .i64 q.d] := by
  obtain ⟨cs, rfl, hcs⟩ := okWide_struct Tryz.underlying30 hv
  obtain ⟨fuel, hf⟩ := h
  rw [cellsLBox] at hcs
  obtain ⟨y0, y1, m, _, _, g0, g1⟩ := trod_struct2 Tryz.underlying30 hf
  obtain ⟨l⟩ := cs
  match l, hcs with
  | [v0, v1, v2, v3], _ =>
    obtain ⟨p0, p1, m', _, _, k0, k1⟩ := trod_struct2 (t := 28) Tryz.underlying28 g0
    obtain ⟨s0, e0, _, _⟩ := DataW.trod_int (t := 2) Tryz.underlying2 k0
    obtain ⟨s1, e1, _, _⟩ := DataW.trod_int (t := 2) Tryz.underlying2 k1
    obtain ⟨p2, p3, m'', _, _, k2, k3⟩ := trod_struct2 (t := 28) Tryz.underlying28 g1
    obtain ⟨s2, e2, _, _⟩ := DataW.trod_int (t := 2) Tryz.underlying2 k2
    obtain ⟨s3, e3, _, _⟩ := DataW.trod_int (t := 2) Tryz.underlying2 k3
    have e0 : v0 = .int .i64 s0 := by simpa [cellsI64, cellsLPt, Value.cells] using e0
    have e1 : v1 = .int .i64 s1 := by simpa [cellsI64, cellsLPt, Value.cells] using e1
    have e2 : v2 = .int .i64 s2 := by simpa [cellsI64, cellsLPt, Value.cells] using e2
    have e3 : v3 = .int .i64 s3 := by simpa [cellsI64, cellsLPt, Value.cells] using e3
    exact ⟨⟨s0, s1, s2, s3⟩, by rw [e0, e1, e2, e3]⟩

set_option maxRecDepth 100000 in
set_option maxHeartbeats 1000000 in
theorem toBox_any (q : BoxD) (w : World) :
    Calls Tryz.prog 8 #[.agg #[.int .i64 q.a, .int .i64 q.b, .int .i64 q.c, .int .i64 q.d]] w fun e w' => e = .returned (.agg #[.int .i64 q.a, .int .i64 q.b, .int .i64 q.c, .int .i64 q.d]) ∧ Bel w w' := by
  obtain ⟨W, HW⟩ : ∃ W, Hid (W = ((w.alloc (.cells #[.int .i64 q.a, .int .i64 q.b, .int .i64 q.c, .int .i64 q.d] 30)).alloc (.cells #[.int .i64 0, .int .i64 0, .int .i64 0, .int .i64 0] 41)).alloc (.cells #[.int .i64 0, .int .i64 0, .int .i64 0, .int .i64 0] 41)) := ⟨_, (rfl : ((w.alloc (.cells #[.int .i64 q.a, .int .i64 q.b, .int .i64 q.c, .int .i64 q.d] 30)).alloc (.cells #[.int .i64 0, .int .i64 0, .int .i64 0, .int .i64 0] 41)).alloc (.cells #[.int .i64 0, .int .i64 0, .int .i64 0, .int .i64 0] 41) = _)⟩
  have hBW : Bel w W := by rw [HW.out]; exact bel_alloc (bel_alloc (bel_alloc (Bel.refl _) _) _) _
  have X0 : Blk W w.heap.size [.int .i64 q.a, .int .i64 q.b, .int .i64 q.c, .int .i64 q.d] := by rw [HW.out]; exact (Blk.new w [.int .i64 q.a, .int .i64 q.b, .int .i64 q.c, .int .i64 q.d] _).bel (bel_alloc (bel_alloc (Bel.refl _) _) _)
  have X1 : Blk W (w.heap.size + 1) [.int .i64 0, .int .i64 0, .int .i64 0, .int .i64 0] := by rw [HW.out]; exact (Blk.new1 w _ [.int .i64 0, .int .i64 0, .int .i64 0, .int .i64 0] _).bel (bel_alloc (Bel.refl _) _)
  have X2 : Blk W (w.heap.size + 1 + 1) [.int .i64 0, .int .i64 0, .int .i64 0, .int .i64 0] := by rw [HW.out]; exact Blk.new2 w _ _ [.int .i64 0, .int .i64 0, .int .i64 0, .int .i64 0] _
  go_enter Tryz.func8, Tryz.ntmps8
  go_wp2_with fail
  rw [← HW.out]
  refine (toPoint_any _ _ _).mono ?_
  rintro e w1 ⟨rfl, hb1⟩
  have Y0 := X0.bel hb1
  have Y1 := X1.bel hb1
  have Y2 := X2.bel hb1
  have hB1 := bel_step hBW hb1
  obtain ⟨V, HV⟩ : ∃ V, Hid (V = setRow w1 (w.heap.size + 1 + 1) 0 [.int .i64 q.a, .int .i64 q.b]) := ⟨_, (rfl : setRow w1 (w.heap.size + 1 + 1) 0 [.int .i64 q.a, .int .i64 q.b] = _)⟩
  have HVe : Hid (V = (w1.setCell ⟨w.heap.size + 1 + 1, 0, none⟩ (.int .i64 q.a)).setCell ⟨w.heap.size + 1 + 1, 1, none⟩ (.int .i64 q.b)) := HV.out
  have Z0 : Blk V w.heap.size [.int .i64 q.a, .int .i64 q.b, .int .i64 q.c, .int .i64 q.d] := by rw [HVe.out]; exact (Y0.far (by omega)).far (by omega)
  have Z1 : Blk V (w.heap.size + 1) [.int .i64 0, .int .i64 0, .int .i64 0, .int .i64 0] := by rw [HVe.out]; exact (Y1.far (by omega)).far (by omega)
  have Z2 : Blk V (w.heap.size + 1 + 1) [.int .i64 q.a, .int .i64 q.b, .int .i64 0, .int .i64 0] := by rw [HVe.out]; exact (Y2.set 0 _ (by simp)).set 1 _ (by simp)
  have hBV : Bel w V := by rw [HV.out]; exact setRow_bel hB1 (by omega) _ _
  have c0 : w1.cell? ⟨w.heap.size, 2, none⟩ = some (.int .i64 q.c) := Y0.cell 2 (by simp)
  have c1 : w1.cell? ⟨w.heap.size, 3, none⟩ = some (.int .i64 q.d) := Y0.cell 3 (by simp)
  have e0 : w1.cell? ⟨w.heap.size + 1 + 1, 0, none⟩ = some (.int .i64 0) := Y2.cell 0 (by simp)
  have e1 : w1.cell? ⟨w.heap.size + 1 + 1, 1, none⟩ = some (.int .i64 0) := Y2.cell 1 (by simp)
  have f0 := Y2.free 0
  have f1 := Y2.free 1
  clear HW X0 X1 X2 Y0 Y1 Y2
  go_wp2_with fail
  rw [← HVe.out]
  refine (toPoint_any _ _ _).mono ?_
  rintro e w2 ⟨rfl, hb2⟩
  have U1 := Z1.bel hb2
  have U2 := Z2.bel hb2
  have hB2 := bel_step hBV hb2
  have g0 : w2.cell? ⟨w.heap.size + 1 + 1, 0, none⟩ = some (.int .i64 q.a) := U2.cell 0 (by simp)
  have g1 : w2.cell? ⟨w.heap.size + 1 + 1, 1, none⟩ = some (.int .i64 q.b) := U2.cell 1 (by simp)
  have g2 : w2.cell? ⟨w.heap.size + 1 + 1, 2, none⟩ = some (.int .i64 0) := U2.cell 2 (by simp)
  have g3 : w2.cell? ⟨w.heap.size + 1 + 1, 3, none⟩ = some (.int .i64 0) := U2.cell 3 (by simp)
  have h2 := U2.free 2
  have h3 := U2.free 3
  have r0 : w2.cell? ⟨w.heap.size + 1, 0, none⟩ = some (.int .i64 0) := U1.cell 0 (by simp)
  have r1 : w2.cell? ⟨w.heap.size + 1, 1, none⟩ = some (.int .i64 0) := U1.cell 1 (by simp)
  have r2 : w2.cell? ⟨w.heap.size + 1, 2, none⟩ = some (.int .i64 0) := U1.cell 2 (by simp)
  have r3 : w2.cell? ⟨w.heap.size + 1, 3, none⟩ = some (.int .i64 0) := U1.cell 3 (by simp)
  have y0 := U1.free 0
  have y1 := U1.free 1
  have y2 := U1.free 2
  have y3 := U1.free 3
  have hB : Hid (Bel w (setRow (setRow w2 (w.heap.size + 1 + 1) 2 [.int .i64 q.c, .int .i64 q.d]) (w.heap.size + 1) 0 [.int .i64 q.a, .int .i64 q.b, .int .i64 q.c, .int .i64 q.d])) := setRow_bel (setRow_bel hB2 (by omega) _ _) (by omega) _ _
  clear c0 c1 e0 e1 f0 f1 Z0 Z1 Z2 U1 U2 HVe HV
  go_wp2
  exact bodyPost_ret (v := .agg #[.int .i64 q.a, .int .i64 q.b, .int .i64 q.c, .int .i64 q.d]) (by simp [results, Tryz.results8, go_sem, r0, r1, r2, r3]) rfl ⟨rfl, hB.out⟩

theorem cropQ_L {m : MapD} {q : BoxD} (h : MapL m) : MapL (cropQ m q) := by
  unfold cropQ
  split
  · refine ⟨Nat.le_trans (List.length_filter_le _ _) h.l0, Nat.le_trans (List.length_filter_le _ _) h.l1, Nat.le_trans (List.length_filter_le _ _) h.l2, fun i hi => ?_, fun i hi => ?_, fun i hi => ?_⟩
    · obtain ⟨j, hj, e⟩ := List.mem_iff_getElem.1 (List.mem_filter.1 (List.getElem_mem hi)).1
      have := h.u0 j hj
      rw [e] at this
      exact this
    · obtain ⟨j, hj, e⟩ := List.mem_iff_getElem.1 (List.mem_filter.1 (List.getElem_mem hi)).1
      have := h.u1 j hj
      rw [e] at this
      exact this
    · obtain ⟨j, hj, e⟩ := List.mem_iff_getElem.1 (List.mem_filter.1 (List.getElem_mem hi)).1
      have := h.u2 j hj
      rw [e] at this
      exact this
  · exact ⟨Nat.zero_le _, Nat.zero_le _, Nat.zero_le _, fun i hi => absurd hi (Nat.not_lt_zero _), fun i hi => absurd hi (Nat.not_lt_zero _), fun i hi => absurd hi (Nat.not_lt_zero _)⟩

abbrev nil3 : List Value := [.slice none 0 0, .slice none 0 0, .slice none 0 0]
/-- A variable of the law's own, made in b's world or behind it, that no list of e lies in. -/
structure Vr (b : World) (w : World) (B : Nat) : Prop where
  x : Blk w B nil3
  lo : b.heap.size ≤ B
theorem Vr.new {b W w : World} {t : TypeId} (hl : b.heap.size ≤ W.heap.size) (h : Bel (W.alloc (.cells #[.slice none 0 0, .slice none 0 0, .slice none 0 0] t)) w) : Vr b w W.heap.size := ⟨(Blk.new W nil3 t).bel h, hl⟩
theorem Vr.bel {b w w' : World} {B : Nat} (h : Vr b w B) (hb : Bel w w') : Vr b w' B := ⟨h.x.bel hb, h.lo⟩
theorem Vr.cs {b w : World} {B : Nat} (h : Vr b w B) : w.cell? ⟨B, 0, none⟩ = some (.slice none 0 0) ∧ w.cell? ⟨B, 1, none⟩ = some (.slice none 0 0) ∧ w.cell? ⟨B, 2, none⟩ = some (.slice none 0 0) ∧ w.frozen? ⟨B, 0, none⟩ = false ∧ w.frozen? ⟨B, 1, none⟩ = false ∧ w.frozen? ⟨B, 2, none⟩ = false :=
  ⟨h.x.cell 0 (by simp), h.x.cell 1 (by simp), h.x.cell 2 (by simp), h.x.free 0, h.x.free 1, h.x.free 2⟩
theorem Vr.no {b w W w' : World} {B : Nat} {e : List Nat} (h : Vr b w B) (hb : Bel w W) (F : Fresh W w' e) : B ∉ e := fun hx => by
  have := (F.new B hx).1
  have := h.x.lt
  have := hb.out.size
  omega
theorem Vr.no_new {W w' : World} {t : TypeId} {e : List Nat} (F : Fresh (W.alloc (.cells #[.slice none 0 0, .slice none 0 0, .slice none 0 0] t)) w' e) : W.heap.size ∉ e := fun hx => by
  have := (F.new _ hx).1
  simp at this
  omega
/-- What a region leaves that puts an answer into such a variable. -/
structure CutR (b : World) (M : MapD) (t : Value) (w : World) : Prop where
  out : ∃ B s0 s1 s2 e, t = .pointer (some ⟨B, 0, none⟩) ∧ b.heap.size ≤ B ∧ B ∉ e ∧ Blk w B [s0, s1, s2] ∧ MapV w (.agg #[s0, s1, s2]) M e ∧ Fresh b w e ∧ Bel b w
theorem CutR.put {b w : World} {M : MapD} {B : Nat} {s0 s1 s2 : Value} {e : List Nat} (h : Vr b w B) (hn : B ∉ e) (V : MapV w (.agg #[s0, s1, s2]) M e) (F : Fresh b w e) (hb : Bel b w) :
    CutR b M (.pointer (some ⟨B, 0, none⟩)) (((w.setCell ⟨B, 0, none⟩ s0).setCell ⟨B, 1, none⟩ s1).setCell ⟨B, 2, none⟩ s2) := by
  have hA : Alike w (setRow w B 0 [s0, s1, s2]) e := setRow_far _ (fun x hx => (F.new x hx).2) hn
  exact ⟨B, s0, s1, s2, e, rfl, h.lo, hn, ((h.x.set 0 s0 (by simp)).set 1 s1 (by simp)).set 2 s2 (by simp), V.alike hA, F.alike hA, setRow_bel hb h.lo [s0, s1, s2] 0⟩
theorem CutR.fresh {b w : World} {M : MapD} {s0 s1 s2 : Value} {e : List Nat} {t : TypeId} (V : MapV w (.agg #[s0, s1, s2]) M e) (F : Fresh b w e) (hb : Bel b w) :
    CutR b M (.pointer (some ⟨w.heap.size, 0, none⟩)) (w.alloc (.cells #[s0, s1, s2] t)) := by
  have hA := bel_alloc (Bel.refl w) (.cells #[s0, s1, s2] t)
  exact ⟨w.heap.size, s0, s1, s2, e, rfl, hb.out.size, fun hx => absurd (F.new _ hx).2 (Nat.lt_irrefl _), Blk.new w [s0, s1, s2] t, V.bel hA, F.bel hA, bel_step hb hA⟩
end Go.Proofs.YtmmapkpieimibaaGreat
