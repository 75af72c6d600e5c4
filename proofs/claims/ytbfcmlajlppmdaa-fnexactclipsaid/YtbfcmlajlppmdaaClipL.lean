/-
  The walk of the law: for every row and every box Clip answers as its model does; the row that was handed in stays as it was; the answer shares no memory with it nor with the answer of another call. No condition.
-/
import Derived.Test.YtbfcmlajlppmdaaPieN
import Derived.Test.YtbfcmlajlppmdaaPtLx
import Derived.Test.YtbfcmlajlppmdaaDPoint
import Derived.Test.YtbfcmlajlppmdaaPtsE
namespace Go.Proofs.Ytbfcmlajlppmdaa
open Go.ChangeShapes Go.WideShapes Go.ChangeAt Go.RowKit Go.Joins

set_option maxRecDepth 100000 in
theorem open_box6 {H : Type} {enc : TypeId × Value → H} {W : World} {base : Nat} {v : Value} {d : DataW H} {p : List MemPlace}
  (hv : Value.okWide Try.prog W .any base 26 v) (h : DataW.Trod enc Try.prog W 0 (fun _ => true) true 26 v d p) :
  ∃ q : BoxD, v = .agg #[.int .i64 q.a, .int .i64 q.b, .int .i64 q.c, .int .i64 q.d] ∧ Box64 q := by
 obtain ⟨cs, rfl, hcs⟩ := okWide_struct Try.underlying26 hv
 obtain ⟨fuel, hf⟩ := h
 rw [cellsLBox] at hcs
 obtain ⟨y0, y1, m, _, _, g0, g1⟩ := trod_struct2 Try.underlying26 hf
 obtain ⟨l⟩ := cs
 match l, hcs with
 | [v0, v1, v2, v3], _ =>
  obtain ⟨p0, p1, m', _, _, k0, k1⟩ := trod_struct2 (t := 24) Try.underlying24 g0
  obtain ⟨s0, e0, _, zz0⟩ := DataW.trod_int (t := 2) Try.underlying2 k0
  obtain ⟨s1, e1, _, zz1⟩ := DataW.trod_int (t := 2) Try.underlying2 k1
  obtain ⟨p2, p3, m'', _, _, k2, k3⟩ := trod_struct2 (t := 24) Try.underlying24 g1
  obtain ⟨s2, e2, _, zz2⟩ := DataW.trod_int (t := 2) Try.underlying2 k2
  obtain ⟨s3, e3, _, zz3⟩ := DataW.trod_int (t := 2) Try.underlying2 k3
  have e0 : v0 = .int .i64 s0 := by simpa [cellsI64, cellsLPt, Value.cells] using e0
  have e1 : v1 = .int .i64 s1 := by simpa [cellsI64, cellsLPt, Value.cells] using e1
  have e2 : v2 = .int .i64 s2 := by simpa [cellsI64, cellsLPt, Value.cells] using e2
  have e3 : v3 = .int .i64 s3 := by simpa [cellsI64, cellsLPt, Value.cells] using e3
  exact ⟨⟨s0, s1, s2, s3⟩, by rw [e0, e1, e2, e3], ⟨in64_of_wf zz0, in64_of_wf zz1, in64_of_wf zz2, in64_of_wf zz3⟩⟩

set_option maxRecDepth 100000 in
theorem open_ptl {H : Type} {enc : TypeId × Value → H} {W : World} {base : Nat} {v : Value} {d : DataW H} {p : List MemPlace}
  (hv : Value.okWide Try.prog W .any base 22 v) (h : DataW.Trod enc Try.prog W 0 (fun _ => true) true 22 v d p) :
  ∃ a c l bs, v = .slice a l.length c ∧ PtL W a l bs ∧ l.length ≤ maxLen := by
 obtain ⟨a, n, c, rfl⟩ := okWide_slice Try.underlying22 hv
 obtain ⟨fuel, hf⟩ := h
 obtain ⟨a', c', l, bs, hcs, hT, hl⟩ := openPtL hf
 simp [Value.cells] at hcs
 obtain ⟨rfl, rfl, rfl⟩ := hcs
 exact ⟨_, _, _, _, rfl, hT, hl⟩

set_option maxRecDepth 100000 in
set_option maxHeartbeats 4000000 in
theorem lawFnExactClip_any (a : Option Addr) (c : Nat) (l : List PtD) (bs : List Nat) (q : BoxD) (h6 : Box64 q) (w : World) (hT : PtL w a l bs) (hM : l.length ≤ maxLen) :
  Calls Try.prog 3 #[.slice a l.length c, bxv q] w fun e w' => e = .returned (.bool true) ∧ Bel w w' := by
 obtain ⟨n, hn⟩ : ∃ n, l.length = n := ⟨_, rfl⟩
 rw [hn] at hM ⊢
 have Hn : Hid (l.length = n) := hn
 clear hn
 have hM9 : n ≤ 9223372036854775807 := by unfold maxLen at hM; omega
 have HQ : Hid (∀ {V : World} {d : Option Addr} {cs : List Nat}, PtL V d l cs → Pts V d n (lx l) (ly l)) := fun h => by have := h.pts; rwa [Hn.out] at this
 obtain ⟨r, Hr⟩ : ∃ r, Hid (szR 1048576 l.length = r) := ⟨_, (rfl : szR 1048576 l.length = _)⟩
 by_cases hr : 0 ≤ r
 ·have hm : n ≤ 1048576 := by
   rcases Nat.lt_or_ge 1048576 n with h | h
   ·have := Hr.out; rw [Hn.out, szR_neg (by omega)] at this; omega
   ·exact h
  have hlen0 := clipQ_len (q := q) (n := n) (X := lx l) (Y := ly l)
  obtain ⟨L, HL⟩ : ∃ L, Hid (clipQ q n (lx l) (ly l) = L) := ⟨_, (rfl : clipQ q n (lx l) (ly l) = _)⟩
  rw [HL.out] at hlen0
  have cSp := fun (d : Option Addr) (cc : Nat) (V : World) (h : Pts V d n (lx l) (ly l)) => clipS_any d n cc (lx l) (ly l) q V h hm h6
  have cIm := fun (d : Option Addr) (cc : Nat) (V : World) (h : Pts V d n (lx l) (ly l)) => clipI_any d n cc (lx l) (ly l) q V h hm h6
  rw [HL.out] at cSp cIm
  obtain ⟨m, Hm⟩ : ∃ m, Hid (L.length = m) := ⟨_, (rfl : L.length = _)⟩
  rw [Hm.out] at hlen0 cSp cIm
  have hlen : m ≤ 1048576 := Nat.le_trans hlen0 hm
  obtain ⟨TT, HTT⟩ : ∃ T, Hid (L.flatten.length = T) := ⟨_, (rfl : L.flatten.length = _)⟩
  obtain ⟨W0, HW0⟩ : ∃ V : World, Hid (V = w.alloc (.cells #[.int .i64 q.a, .int .i64 q.b, .int .i64 q.c, .int .i64 q.d] 26)) := ⟨_, (rfl : w.alloc (.cells #[.int .i64 q.a, .int .i64 q.b, .int .i64 q.c, .int .i64 q.d] 26) = _)⟩
  have S0 : Bel w W0 := by rw [HW0.out]; exact bel_alloc (Bel.refl _) _
  have XB : Blk W0 w.heap.size [.int .i64 q.a, .int .i64 q.b, .int .i64 q.c, .int .i64 q.d] := by rw [HW0.out]; exact Blk.new w [.int .i64 q.a, .int .i64 q.b, .int .i64 q.c, .int .i64 q.d] _
  go_enter Try.func3, Try.ntmps3
  go_wp2_with fail
  rw [← HW0.out]
  refine (szPtS_any _ _ _ l bs 1048576 _ (hT.bel ptE S0) Hn.out hM9 (by decide) (by decide)).mono ?_
  rintro e w1 ⟨rfl, B1⟩
  have S1 := bel_step S0 B1
  rw [Hr.out]
  have X1 := XB.bel B1
  have xl1 := X1.lt
  have hR1 : ∀ w', Bel w1 w' → w'.cell? ⟨w.heap.size, 0, none⟩ = some (.int .i64 q.a) ∧ w'.cell? ⟨w.heap.size, 1, none⟩ = some (.int .i64 q.b) ∧ w'.cell? ⟨w.heap.size, 2, none⟩ = some (.int .i64 q.c) ∧ w'.cell? ⟨w.heap.size, 3, none⟩ = some (.int .i64 q.d) := fun w' h => ⟨(X1.bel h).cell 0 (by simp), (X1.bel h).cell 1 (by simp), (X1.bel h).cell 2 (by simp), (X1.bel h).cell 3 (by simp)⟩
  have g1 : Bel w1 w1 := Bel.refl _
  go_wp2
  go_region_held3 (fun w' => Bel w1 w') (with_reducible (repeat (first | exact g1 | refine Bel.drew ?_ | assumption)))
   (first
    | (go_at_call 8; refine (toPtS_any _ _ _ l bs _ (hT.bel ptE (bel_step S1 (by assumption))) Hn.out hm).mono ?_; rintro e wp1 ⟨Bp1, dp1, rfl, Vp1, _, hbp1⟩; refine (fun hq : Bel w1 wp1 => ?_) (bel_step (by assumption) hbp1))
    | (go_at_call 9; refine (toBox_any q _).mono ?_; rintro e wb1 ⟨rfl, hbb1⟩; refine (fun hq : Bel w1 wb1 => ?_) (bel_step (by assumption) hbb1); refine (fun hpb1 : Bel wp1 wb1 => ?_) (by first | exact hbb1 | exact bel_step (Bel.drew (Bel.refl _)) hbb1))
    | (go_at_call 7; refine (cSp _ _ _ (HQ.out (Vp1.bel ptE (by first | exact hpb1 | exact bel_step hpb1 (Bel.drew (Bel.refl _)))))).mono ?_; rintro e w3 ⟨a3, c3, e3, rfl, I3, F3, hb3⟩; refine (fun hq3 : Bel w1 w3 => ?_) (bel_step (by assumption) hb3); refine (fun hsz3 : Bel wb1 w3 => ?_) (by first | exact hb3 | exact bel_step (Bel.drew (Bel.refl _)) hb3)))
  clear hR1 g1 X1 xl1 Vp1 F3
  have S3 := bel_step S1 hq3
  have B3w : Bel W0 w3 := bel_step B1 hq3
  have l3 := I3.lt rowE
  go_wp2_with fail
  refine (toPtS_any _ _ _ l bs _ (hT.bel ptE S3) Hn.out hm).mono ?_
  rintro e w4 ⟨B4, d4, rfl, V4, F4, hb4⟩
  have S4 := bel_step S3 hb4
  have I43 := I3.bel rowE hb4
  have B4w : Bel W0 w4 := bel_step B3w hb4
  have X4 := XB.bel B4w
  have xl4 := X4.lt
  have xb0 := X4.cell 0 (by simp)
  have xb1 := X4.cell 1 (by simp)
  have xb2 := X4.cell 2 (by simp)
  have xb3 := X4.cell 3 (by simp)
  simp only [List.getElem_cons_zero, List.getElem_cons_succ] at xb0 xb1 xb2 xb3
  go_wp2_with fail
  refine (toBox_any q _).mono ?_
  rintro e w4b ⟨rfl, hb4b⟩
  have S4b := bel_step S4 hb4b
  have B4b : Bel W0 w4b := bel_step B4w hb4b
  have V4b := V4.bel ptE hb4b
  have F4b := F4.bel hb4b
  have I43b := I43.bel rowE hb4b
  clear X4 xl4 xb0 xb1 xb2 xb3 V4 F4 I43
  go_wp2_with fail
  refine (cIm _ _ _ (HQ.out V4b)).mono ?_
  rintro e w5 ⟨a5, c5, e5, rfl, I5, F5, hb5⟩
  have S5 := bel_step S4b hb5
  have I53 := I43b.bel rowE hb5
  have V5 := V4b.bel ptE hb5
  have D4 := F4b.bel hb5
  have B5w : Bel W0 w5 := bel_step B4b hb5
  have F4n : Hid (∀ x ∈ d4, w3.heap.size ≤ x ∧ x < w4b.heap.size) := F4b.new
  have F5n : Hid (∀ x ∈ e5, w4b.heap.size ≤ x ∧ x < w5.heap.size) := F5.new
  clear I43b V4b F4b I3
  go_wp2_with fail
  refine (eqPR_any _ _ _ _ _ L _ _ _ I5 I53 Hm.out hlen).mono ?_
  rintro e w6 ⟨rfl, hb6⟩
  have S6 := bel_step S5 hb6
  go_wp2_with fail
  refine (toPtS_any _ _ _ l bs _ (hT.bel ptE S6) Hn.out hm).mono ?_
  rintro e w7 ⟨B7, d7, rfl, V7, _, hb7⟩
  have h67 := bel_step hb6 hb7
  go_wp2_with fail
  refine (eqPtS_same _ _ _ _ _ l d4 d7 _ (V5.bel ptE h67) V7 Hn.out hm).mono ?_
  rintro e w8 ⟨rfl, hb8⟩
  have h58 := bel_step h67 hb8
  have S8 := bel_step S5 h58
  have V8 := V5.bel ptE h58
  have F8 := D4.bel h58
  have I83 := I53.bel rowE h58
  have I85 := I5.bel rowE h58
  have R8 := F5.bel h58
  have D3 : ∀ x ∈ e3, x ∉ d4 := fun x hx hy => by have := l3 x hx; have := (F4n.out x hy).1; omega
  have D5 : ∀ x ∈ e5, x ∉ d4 := fun x hx hy => by have := (F5n.out x hx).1; have := (F4n.out x hy).2; omega
  have D35 : ∀ x ∈ e3, x ∉ e5 := fun x hx hy => by have := l3 x hx; have := (F5n.out x hy).1; have := (bel_step hb4 hb4b).out.size; omega
  have hd4 : ∀ x ∈ d4, w.heap.size ≤ x := fun x hx => by have := (F4n.out x hx).1; have := S3.out.size; omega
  have he5 : ∀ x ∈ e5, w.heap.size ≤ x := fun x hx => by have := (F5n.out x hx).1; have := S4b.out.size; omega
  have B8w : Bel W0 w8 := bel_step B5w h58
  have hdb : ∀ x ∈ d4, W0.heap.size ≤ x := fun x hx => by have := (F4n.out x hx).1; have := B3w.out.size; omega
  have heb : ∀ x ∈ e5, W0.heap.size ≤ x := fun x hx => by have := (F5n.out x hx).1; have := B4b.out.size; omega
  have hk0 : ¬ ((1 + 2 * n : Nat) : Int) < 0 := by omega
  clear I5 I53 V5 V7 F5 D4 h67 hb6 hb7 hb8 h58
  go_wp2_with fail
  refine (markPointS_any _ _ _ l d4 1 _ V8 F8.free Hn.out hm (by omega) (by omega)).mono ?_
  rintro e w9 ⟨rfl, _, _, O9⟩
  have I93 := I83.alike rowE (O9.alike (I83.lt rowE) D3)
  have I95 := I85.alike rowE (O9.alike (I85.lt rowE) D5)
  have R9 : ∀ x ∈ e5, ∀ j, w9.frozen? ⟨x, j, none⟩ = false := fun x hx j => by rw [((O9.alike (I85.lt rowE) D5) x hx).2.2 j]; exact R8.free x hx j
  have S9 : Bel w w9 := Onl.to_bel S8 O9 hd4
  have B9w : Bel W0 w9 := Onl.to_bel B8w O9 hdb
  clear I83 I85 V8 F8 O9
  go_wp2_with fail
  refine (eqPR_any _ _ _ _ _ L _ _ _ I95 I93 Hm.out hlen).mono ?_
  rintro e w10 ⟨rfl, hb10⟩
  have I103 := I93.bel rowE hb10
  have I105 := I95.bel rowE hb10
  have R10 : ∀ x ∈ e5, ∀ j, w10.frozen? ⟨x, j, none⟩ = false := fun x hx j => by rw [hb10.out.frozen (p := ⟨x, j, none⟩) (I95.lt rowE x hx)]; exact R9 x hx j
  have S10 := bel_step S9 hb10
  go_wp2_with fail
  refine (markSS_any a5 _ c5 L e5 1 _ I105 R10 Hm.out hlen (by omega) (by omega)).mono ?_
  rintro e w11 ⟨rfl, M11, _, O11⟩
  rw [HTT.out]
  have I113 := I103.alike rowE (O11.alike (I103.lt rowE) D35)
  have S11 : Bel w w11 := Onl.to_bel S10 O11 he5
  have B11w : Bel W0 w11 := Onl.to_bel (bel_step B9w hb10) O11 heb
  have hk1 : ¬ ((1 + 2 * TT : Nat) : Int) < 0 := by omega
  clear I103 I105 R10 O11 I93 I95 R9
  go_wp2_with fail
  refine (heldSS_any a5 _ c5 L e5 1 _ M11 Hm.out hlen (by omega)).mono ?_
  rintro e w12 ⟨rfl, rfl⟩
  rw [HTT.out]
  have X12 := XB.bel B11w
  have xl12 := X12.lt
  have hR11 : ∀ w', Bel w12 w' → w'.cell? ⟨w.heap.size, 0, none⟩ = some (.int .i64 q.a) ∧ w'.cell? ⟨w.heap.size, 1, none⟩ = some (.int .i64 q.b) ∧ w'.cell? ⟨w.heap.size, 2, none⟩ = some (.int .i64 q.c) ∧ w'.cell? ⟨w.heap.size, 3, none⟩ = some (.int .i64 q.d) := fun w' h => ⟨(X12.bel h).cell 0 (by simp), (X12.bel h).cell 1 (by simp), (X12.bel h).cell 2 (by simp), (X12.bel h).cell 3 (by simp)⟩
  have g11 : Bel w12 w12 := Bel.refl _
  go_wp2
  go_region_held3 (fun w' => Bel w12 w') (with_reducible (repeat (first | exact g11 | refine Bel.drew ?_ | assumption)))
   (first
    | (go_at_call 8; refine (toPtS_any _ _ _ l bs _ (hT.bel ptE (bel_step S11 (by assumption))) Hn.out hm).mono ?_; rintro e wp11 ⟨Bp11, dp11, rfl, Vp11, _, hbp11⟩; refine (fun hq : Bel w12 wp11 => ?_) (bel_step (by assumption) hbp11))
    | (go_at_call 9; refine (toBox_any q _).mono ?_; rintro e wb11 ⟨rfl, hbb11⟩; refine (fun hq : Bel w12 wb11 => ?_) (bel_step (by assumption) hbb11); refine (fun hpb11 : Bel wp11 wb11 => ?_) (by first | exact hbb11 | exact bel_step (Bel.drew (Bel.refl _)) hbb11))
    | (go_at_call 10; refine (cIm _ _ _ (HQ.out (Vp11.bel ptE (by first | exact hpb11 | exact bel_step hpb11 (Bel.drew (Bel.refl _)))))).mono ?_; rintro e w14 ⟨a14, c14, e14, rfl, I14, F14, hb14⟩; refine (fun hq14 : Bel w12 w14 => ?_) (bel_step (by assumption) hb14); refine (fun hsz14 : Bel wb11 w14 => ?_) (by first | exact hb14 | exact bel_step (Bel.drew (Bel.refl _)) hb14)))
  clear hR11 g11 X12 xl12 F14 Vp11
  have h14 := hq14
  have I143 := I113.bel rowE h14
  go_wp2_with fail
  refine (eqPR_any _ _ _ _ _ L _ _ _ I14 I143 Hm.out hlen).mono ?_
  rintro e w15 ⟨rfl, hb15⟩
  have h15 := bel_step h14 hb15
  have M15 := M11.bel rowE h15
  have S15 := bel_step S11 h15
  clear I14 I143 M11
  go_wp2_with fail
  refine (heldSS_any a5 _ c5 L e5 1 _ M15 Hm.out hlen (by omega)).mono ?_
  rintro e w16 ⟨rfl, rfl⟩
  rw [HTT.out]
  clear M15
  go_wp2
  go_ret
  exact ⟨rfl, S15⟩
 ·go_enter Try.func3, Try.ntmps3
  go_wp2_with fail
  refine (szPtS_any _ _ _ l bs 1048576 _ (hT.bel ptE (bel_alloc (Bel.refl _) _)) Hn.out hM9 (by decide) (by decide)).mono ?_
  rintro e w1 ⟨rfl, hb1⟩
  rw [Hr.out]
  go_wp2
  go_ret
  exact ⟨rfl, bel_step (bel_alloc (Bel.refl _) _) hb1⟩
end Go.Proofs.Ytbfcmlajlppmdaa
