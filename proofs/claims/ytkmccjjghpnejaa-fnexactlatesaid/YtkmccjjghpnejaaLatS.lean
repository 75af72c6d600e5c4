/-
  A trip that is late, in the model: contract.
-/
import Derived.Test.YtkmccjjghpnejaaLatI
import Derived.Test.YtkmccjjghpnejaaLcpA
import Derived.Test.YtkmccjjghpnejaaLinT
namespace Go.Proofs.Ytkmccjjghpnejaa
open Go.RowKit Go.Maps

theorem inN_no {n : Nat} {x : Int} (h : x < 0 ∨ (n : Int) ≤ x) : inN n x = false := by
 cases e : inN n x with
 | false => rfl
 | true => have := inN_iff.1 e; omega
theorem inN_yes {n : Nat} {x : Int} (h0 : ¬ x < 0) (h1 : ¬ (n : Int) ≤ x) : inN n x = true := inN_iff.2 (by omega)

set_option maxRecDepth 100000 in
set_option maxHeartbeats 8000000 in
theorem specLate_any (v : Value) (g : LinesD) (bs : List Nat) (t c x : Int) (w : World) (hV : LinV w v g bs) (hQ : LinQ g) :
  Calls Try.prog 19 #[v, .int .i64 t, .int .i64 c, .int .i64 x] w fun e w' => ∃ v' bs', e = .returned v' ∧ LinV w' v' (latQ g t c x) bs' ∧ Fresh w w' bs' ∧ Bel w w' := by
 have hV' := hV
 obtain ⟨a0, c0, a1, c1, a2, c2, b0, b1, b2, _, rfl, t0, t1, t2⟩ := hV
 obtain ⟨q0, q1, q2, q3⟩ := hQ
 have HQ : Hid (LinQ g) := (⟨q0, q1, q2, q3⟩ : LinQ g)
 obtain ⟨n0, H0⟩ : ∃ n, Hid (g.stops.length = n) := ⟨_, (rfl : g.stops.length = _)⟩
 obtain ⟨n1, H1⟩ : ∃ n, Hid (g.trips.length = n) := ⟨_, (rfl : g.trips.length = _)⟩
 obtain ⟨n2, H2⟩ : ∃ n, Hid (g.walks.length = n) := ⟨_, (rfl : g.walks.length = _)⟩
 rw [H0.out, H1.out, H2.out] at hV' ⊢
 rw [H0.out] at q0
 rw [H1.out] at q1
 rw [H2.out] at q2
 obtain ⟨W, HW⟩ : ∃ W, Hid (W = (w.alloc (.cells #[.slice a0 n0 c0, .slice a1 n1 c1, .slice a2 n2 c2] 49)).alloc (.cells #[.slice none 0 0, .slice none 0 0, .slice none 0 0] 49)) := ⟨_, (rfl : (w.alloc (.cells #[.slice a0 n0 c0, .slice a1 n1 c1, .slice a2 n2 c2] 49)).alloc (.cells #[.slice none 0 0, .slice none 0 0, .slice none 0 0] 49) = _)⟩
 have hBW : Bel w W := by rw [HW.out]; exact bel_alloc (bel_alloc (Bel.refl _) _) _
 have X0 : Blk W w.heap.size [.slice a0 n0 c0, .slice a1 n1 c1, .slice a2 n2 c2] := by rw [HW.out]; exact (Blk.new w [.slice a0 n0 c0, .slice a1 n1 c1, .slice a2 n2 c2] _).bel (bel_alloc (Bel.refl _) _)
 have R0 : Blk W (w.heap.size + 1) zerL := by rw [HW.out]; exact Blk.new1 w _ zerL _
 obtain ⟨r, Hr⟩ : ∃ r, Hid (linesB g = r) := ⟨_, (rfl : linesB g = _)⟩
 obtain ⟨LQ, HLQ⟩ : ∃ l, Hid (latQ g t c x = l) := ⟨_, (rfl : latQ g t c x = _)⟩
 rw [HLQ.out]
 go_enter Try.func19, Try.ntmps19
 go_upto_region 1 with fail
 rw [← HW.out]
 have x00 : W.cell? ⟨w.heap.size, 0, none⟩ = some (.slice a0 n0 c0) := X0.cell 0 (by simp)
 have x01 : W.cell? ⟨w.heap.size, 1, none⟩ = some (.slice a1 n1 c1) := X0.cell 1 (by simp)
 have x02 : W.cell? ⟨w.heap.size, 2, none⟩ = some (.slice a2 n2 c2) := X0.cell 2 (by simp)
 have xl0 := X0.lt
 go_wp2_with fail
 refine (specLinesOk_r _ g bs r _ (hV'.bel hBW) HQ.out Hr.out).mono ?_
 rintro e V ⟨rfl, hb1⟩
 have hBV := bel_step hBW hb1
 have X1 := X0.bel hb1
 have R1 := R0.bel hb1
 clear x00 x01 x02 xl0 X0 R0 hb1 HW
 have x10 : V.cell? ⟨w.heap.size, 0, none⟩ = some (.slice a0 n0 c0) := X1.cell 0 (by simp)
 have x11 : V.cell? ⟨w.heap.size, 1, none⟩ = some (.slice a1 n1 c1) := X1.cell 1 (by simp)
 have x12 : V.cell? ⟨w.heap.size, 2, none⟩ = some (.slice a2 n2 c2) := X1.cell 2 (by simp)
 have xl1 := X1.lt
 have y10 : V.cell? ⟨w.heap.size + 1, 0, none⟩ = some (.slice none 0 0) := R1.cell 0 (by simp)
 have y11 : V.cell? ⟨w.heap.size + 1, 1, none⟩ = some (.slice none 0 0) := R1.cell 1 (by simp)
 have y12 : V.cell? ⟨w.heap.size + 1, 2, none⟩ = some (.slice none 0 0) := R1.cell 2 (by simp)
 have yf1 := R1.free
 have yl1 := R1.lt
 have HS : Hid (∀ i (h : i < g.trips.length), g.trips[i].calls.length ≤ 1048576) := q3
 clear q3
 cases r
 ·have HZ : Hid (LQ = ⟨[], [], []⟩) := (by rw [← HLQ.out]; unfold latQ; exact if_neg (by rw [Hr.out]; simp) : LQ = ⟨[], [], []⟩)
  go_wp2
  refine bodyPost_ret (v := .agg #[.slice none 0 0, .slice none 0 0, .slice none 0 0]) (by simp [results, Try.results19, go_sem, y10, y11, y12]) rfl ⟨_, [], rfl, (by rw [HZ.out]; exact zero_lin _), Fresh.nil _ _, ?_⟩
  exact bel_set (bel_set (bel_set hBV (Nat.le_succ _) _) (Nat.le_succ _) _) (Nat.le_succ _) _
 by_cases e1 : t < 0
 ·have hk : inN n1 t = false := inN_no (.inl e1)
  have HZ : Hid (LQ = ⟨[], [], []⟩) := (by rw [← HLQ.out]; unfold latQ; exact if_neg (by rw [H1.out, hk]; simp) : LQ = ⟨[], [], []⟩)
  have hd : decide (t < 0) = true := decide_eq_true e1
  go_wp2
  refine bodyPost_ret (v := .agg #[.slice none 0 0, .slice none 0 0, .slice none 0 0]) (by simp [results, Try.results19, go_sem, y10, y11, y12]) rfl ⟨_, [], rfl, (by rw [HZ.out]; exact zero_lin _), Fresh.nil _ _, ?_⟩
  exact bel_set (bel_set (bel_set hBV (Nat.le_succ _) _) (Nat.le_succ _) _) (Nat.le_succ _) _
 have de1 : decide (t < 0) = false := decide_eq_false e1
 by_cases e2 : (n1 : Int) ≤ t
 ·have hk : inN n1 t = false := inN_no (.inr e2)
  have HZ : Hid (LQ = ⟨[], [], []⟩) := (by rw [← HLQ.out]; unfold latQ; exact if_neg (by rw [H1.out, hk]; simp) : LQ = ⟨[], [], []⟩)
  have hd : decide ((n1 : Int) ≤ t) = true := decide_eq_true e2
  go_wp2
  refine bodyPost_ret (v := .agg #[.slice none 0 0, .slice none 0 0, .slice none 0 0]) (by simp [results, Try.results19, go_sem, y10, y11, y12]) rfl ⟨_, [], rfl, (by rw [HZ.out]; exact zero_lin _), Fresh.nil _ _, ?_⟩
  exact bel_set (bel_set (bel_set hBV (Nat.le_succ _) _) (Nat.le_succ _) _) (Nat.le_succ _) _
 have de2 : decide ((n1 : Int) ≤ t) = false := decide_eq_false e2
 have k1 : inN n1 t = true := inN_yes e1 e2
 by_cases e3 : x < 0
 ·have hk : upToB x 100000 = false := by simp [upToB]; omega
  have HZ : Hid (LQ = ⟨[], [], []⟩) := (by rw [← HLQ.out]; unfold latQ; exact if_neg (by rw [hk]; simp) : LQ = ⟨[], [], []⟩)
  have hd : decide (x < 0) = true := decide_eq_true e3
  go_wp2
  refine bodyPost_ret (v := .agg #[.slice none 0 0, .slice none 0 0, .slice none 0 0]) (by simp [results, Try.results19, go_sem, y10, y11, y12]) rfl ⟨_, [], rfl, (by rw [HZ.out]; exact zero_lin _), Fresh.nil _ _, ?_⟩
  exact bel_set (bel_set (bel_set hBV (Nat.le_succ _) _) (Nat.le_succ _) _) (Nat.le_succ _) _
 have de3 : decide (x < 0) = false := decide_eq_false e3
 by_cases e4 : 100000 < x
 ·have hk : upToB x 100000 = false := by simp [upToB]; omega
  have HZ : Hid (LQ = ⟨[], [], []⟩) := (by rw [← HLQ.out]; unfold latQ; exact if_neg (by rw [hk]; simp) : LQ = ⟨[], [], []⟩)
  have hd : decide (100000 < x) = true := decide_eq_true e4
  go_wp2
  refine bodyPost_ret (v := .agg #[.slice none 0 0, .slice none 0 0, .slice none 0 0]) (by simp [results, Try.results19, go_sem, y10, y11, y12]) rfl ⟨_, [], rfl, (by rw [HZ.out]; exact zero_lin _), Fresh.nil _ _, ?_⟩
  exact bel_set (bel_set (bel_set hBV (Nat.le_succ _) _) (Nat.le_succ _) _) (Nat.le_succ _) _
 have de4 : decide (100000 < x) = false := decide_eq_false e4
 have k3 : upToB x 100000 = true := by simp [upToB]; omega
 obtain ⟨T, rfl, hT⟩ := inN_get k1
 have hTl : T < g.trips.length := by rw [H1.out]; exact hT
 have hTI : (T : Int) < (n1 : Int) := by omega
 have hcalls : callsN g (T : Int) = g.trips[T].calls.length := by simp [callsN, List.getD, hTl]
 rcases t1.bel trpE hBV with ⟨h0, _⟩ | ⟨ba, offa, fa, rfl, hba, _, hxa⟩
 ·exfalso; rw [h0] at hTl; simp at hTl
 obtain ⟨_, _, _, _, sa, sc, _, u2, _⟩ := hxa T hTl
 obtain ⟨nc, Hnc⟩ : ∃ n, Hid (g.trips[T].calls.length = n) := ⟨_, (rfl : g.trips[T].calls.length = _)⟩
 rw [Hnc.out] at u2 hcalls
 clear hxa
 by_cases e5 : c < 0
 ·have hk : inN nc c = false := inN_no (.inl e5)
  have HZ : Hid (LQ = ⟨[], [], []⟩) := (by rw [← HLQ.out]; unfold latQ; exact if_neg (by rw [hcalls, hk]; simp) : LQ = ⟨[], [], []⟩)
  have hd : decide (c < 0) = true := decide_eq_true e5
  go_wp2
  refine bodyPost_ret (v := .agg #[.slice none 0 0, .slice none 0 0, .slice none 0 0]) (by simp [results, Try.results19, go_sem, y10, y11, y12]) rfl ⟨_, [], rfl, (by rw [HZ.out]; exact zero_lin _), Fresh.nil _ _, ?_⟩
  exact bel_set (bel_set (bel_set hBV (Nat.le_succ _) _) (Nat.le_succ _) _) (Nat.le_succ _) _
 have de5 : decide (c < 0) = false := decide_eq_false e5
 by_cases e6 : (nc : Int) ≤ c
 ·have hk : inN nc c = false := inN_no (.inr e6)
  have HZ : Hid (LQ = ⟨[], [], []⟩) := (by rw [← HLQ.out]; unfold latQ; exact if_neg (by rw [hcalls, hk]; simp) : LQ = ⟨[], [], []⟩)
  have hd : decide ((nc : Int) ≤ c) = true := decide_eq_true e6
  go_wp2
  refine bodyPost_ret (v := .agg #[.slice none 0 0, .slice none 0 0, .slice none 0 0]) (by simp [results, Try.results19, go_sem, y10, y11, y12]) rfl ⟨_, [], rfl, (by rw [HZ.out]; exact zero_lin _), Fresh.nil _ _, ?_⟩
  exact bel_set (bel_set (bel_set hBV (Nat.le_succ _) _) (Nat.le_succ _) _) (Nat.le_succ _) _
 have de6 : decide ((nc : Int) ≤ c) = false := decide_eq_false e6
 have k2 : inN nc c = true := inN_yes e5 e6
 obtain ⟨C, rfl, hC⟩ := inN_get k2
 go_wp2_with fail
 refine (l15Copy_any _ _ _ _ _ _ _ _ _ g b0 b1 b2 _ (t0.bel strE hBV) (t1.bel trpE hBV) (t2.bel wlkE hBV) H0.out H1.out H2.out (by omega) (by omega) (by omega) HS.out).mono ?_
 rintro e w4 ⟨p0, s0, p1, s1, p2, s2, d0, d1, d2, rfl, T0, T1, T2, F2, hb4⟩
 obtain ⟨wA, HwA⟩ : ∃ wA, Hid (wA = w4.alloc (.cells #[.slice p0 n0 s0, .slice p1 n1 s1, .slice p2 n2 s2] 49)) := ⟨_, (rfl : w4.alloc (.cells #[.slice p0 n0 s0, .slice p1 n1 s1, .slice p2 n2 s2] 49) = _)⟩
 have hbA : Bel w4 wA := by rw [HwA.out]; exact bel_alloc (Bel.refl _) _
 have XB : Blk wA w4.heap.size [.slice p0 n0 s0, .slice p1 n1 s1, .slice p2 n2 s2] := by rw [HwA.out]; exact Blk.new w4 [.slice p0 n0 s0, .slice p1 n1 s1, .slice p2 n2 s2] _
 have hoff : w4.heap.size ∉ d0 ++ (d1 ++ d2) := fun h => by have := (F2.new _ h).2; omega
 have hB : V.heap.size ≤ w4.heap.size := hb4.out.size
 obtain ⟨B, HB⟩ : ∃ n, Hid (w4.heap.size = n) := ⟨_, (rfl : w4.heap.size = _)⟩
 rw [HB.out] at XB hoff hB
 have hBc : Bel V wA := bel_step hb4 hbA
 have HF : Fresh V wA (d0 ++ (d1 ++ d2)) := F2.bel hbA
 have T0 := T0.bel strE hbA
 have T1 := T1.bel trpEc hbA
 have T2 := T2.bel wlkE hbA
 clear x10 x11 x12 y10 y11 y12 yf1 u2 F2 de1 de2 de3 de4 de5 de6
 go_upto_region 4 with fail
 rw [← HwA.out, HB.out]
 clear HwA
 have hd := HF.nd
 obtain ⟨nd0, nd12, xd0⟩ := List.nodup_append.1 hd
 obtain ⟨nd1, nd2, xd1⟩ := List.nodup_append.1 nd12
 have hRA := R1.bel hBc
 have yz : w.heap.size + 1 < V.heap.size := R1.lt
 rcases T1 with ⟨h0, _⟩ | ⟨b, off, f, rfl, hb, hd1, hx⟩
 ·exfalso; rw [h0] at hTl; simp at hTl
 subst hd1
 obtain ⟨e2, f2, _, _, _, _, _, y2, tc, hcp⟩ := hx T hTl
 rw [Hnc.out] at y2 hcp
 have hCf : C < f2 := Nat.lt_of_lt_of_le hC hcp
 have hCf' : ¬ f2 = C := by omega
 have hx := fun i (hi : i < g.trips.length) => (hx i hi).wide
 have hCl : C < g.trips[T].calls.length := by rw [Hnc.out]; exact hC
 rcases tc with ⟨h0, _⟩ | ⟨bc, offc, fc, rfl, hbc, hfT, hxc⟩
 ·exfalso; rw [h0] at hCl; simp at hCl
 rw [Hnc.out] at hfT
 have hok := lines_out Hr.out hTl
 have htp := trip_out hok
 rw [Hnc.out] at htp
 have hnc40 := htp.1
 have hcb := cals_out htp.2
 have hfm : ∀ y ∈ f T, y ∈ b :: (List.range g.trips.length).flatMap f := fun y hy => List.mem_cons_of_mem _ (List.mem_flatMap.2 ⟨T, List.mem_range.2 hTl, hy⟩)
 have hbcm : bc ∈ f T := by rw [hfT]; simp
 have hfe : ∀ i, i < nc → fc i = [] := fun i hi => (hxc i (by rw [Hnc.out]; exact hi)).1
 have hfr0 : ∀ y ∈ d0 ++ ((b :: (List.range g.trips.length).flatMap f) ++ d2), ∀ j, wA.frozen? ⟨y, j, none⟩ = false := fun y hy j => HF.free y hy j
 have HL0 : Hid (LatW wA bc offc nc C C x g.trips[T].calls fc (f T) wA) := by
  refine (⟨fun i hi => ?_, hfr0 bc (List.mem_append.2 (.inr (List.mem_append.2 (.inl (hfm _ hbcm))))), Onl.refl _ _⟩ : LatW wA bc offc nc C C x g.trips[T].calls fc (f T) wA)
  rw [latF_old (by omega) (by rw [Hnc.out]; exact hi)]
  exact hxc i (by rw [Hnc.out]; exact hi)
 have hu := k3
 simp only [upToB, Bool.and_eq_true, decide_eq_true_eq] at hu
 obtain ⟨hu0, hu1⟩ := hu
 have hCI : (C : Int) ≤ (nc : Int) := by omega
 have z1 : wA.cell? ⟨B, 1, none⟩ = some (.slice (some ⟨b, off, none⟩) n1 s1) := XB.cell 1 (by simp)
 have zl := XB.lt
 have HX : Hid (∀ i (h : i < g.trips.length), TrpE wA b (off + i * 3) g.trips[i] (f i)) := hx
 have HND : Hid (b :: (List.range g.trips.length).flatMap f).Nodup := nd1
 have hbcl : bc < wA.heap.size := hbc
 obtain ⟨cs, Hcs⟩ : ∃ l, Hid (g.trips[T].calls = l) := ⟨_, (rfl : g.trips[T].calls = _)⟩
 have HY2 : Hid (wA.cell? ⟨b, off + T * 3 + 2, none⟩ = some (.slice (some ⟨bc, offc, none⟩) nc f2)) := y2
 rw [Hcs.out] at HL0 hcb
 have Hcl : Hid (cs.length = nc) := by rw [← Hcs.out]; exact Hnc.out
 have HFr : Hid (Fresh V wA (d0 ++ ((b :: (List.range g.trips.length).flatMap f) ++ d2))) := HF
 clear hx hxc hd nd12 nd1 htp hok HF
 have RA : Hid (Blk wA (w.heap.size + 1) zerL) := hRA
 go_wp2
 go_loopw [11] (fun i wr => ∃ j : Nat, C ≤ j ∧ j ≤ nc ∧ i = .int .i64 j ∧ LatW wA bc offc nc C j x cs fc (f T) wr) (fun i _ => nc - (intOf i).toNat)
 case atStart => exact ⟨C, Nat.le_refl _, Nat.le_of_lt hC, rfl, HL0.out⟩
 case round =>
  obtain ⟨j, hCj, hk, rfl, hL⟩ := hrel
  clear HL0
  by_cases hlt : j < nc
  ·have hj : j < cs.length := by rw [Hcl.out]; omega
   have hlt' : (j : Int) < (nc : Int) := by omega
   obtain ⟨_, i0, i1, i2, y0, y1, y2⟩ := hL.fam j (by omega)
   have he : latF C j x cs j = cs[j] := latF_old (by omega) hj
   rw [he] at i0 i1 i2 y0 y1 y2
   obtain ⟨u0, u1, u2⟩ := hcb j hj
   have HST : Hid (∀ hlat : CalD → Prop, True) := fun _ => trivial
   have hstep := latF_step (lo := C) (x := x) (l := cs) (j := j) hCj hj
   obtain ⟨d, Hd⟩ : ∃ d, Hid (cs[j] = d) := ⟨_, (rfl : cs[j] = _)⟩
   rw [Hd.out] at y0 y1 y2 u0 u1 u2 i0 i1 i2 hstep
   have HSP : Hid ((fun i => if i = j then latC x d else latF C j x cs i) = latF C (j + 1) x cs) := hstep
   have w1' : IntKind.i64.wrap (d.arr + x) = d.arr + x := by rw [IntKind.wrap_i64]; omega
   have w2' : IntKind.i64.wrap (d.dep + x) = d.dep + x := by rw [IntKind.wrap_i64]; omega
   have hbr : bc < wr.heap.size := Nat.lt_of_lt_of_le hbcl hL.onl.size
   have fr := hL.free
   have HL : Hid (LatW wA bc offc nc C j x cs fc (f T) wr) := hL
   have HF2 : Hid (LatW wA bc offc nc C (j + 1) x cs fc (f T) ((wr.setCell ⟨bc, offc + j * 3 + 1, none⟩ (.int .i64 (d.arr + x))).setCell ⟨bc, offc + j * 3 + 2, none⟩ (.int .i64 (d.dep + x)))) := by
    have hn1 : ∀ (W : World) (v : Value), (W.setCell ⟨bc, offc + j * 3 + 2, none⟩ v).cell? ⟨bc, offc + j * 3 + 1, none⟩ = W.cell? ⟨bc, offc + j * 3 + 1, none⟩ := fun W v => World.cell?_setCell_other _ _ _ _ (fun e => by have := congrArg Addr.off e; simp at this)
    have hn2 : (wr.setCell ⟨bc, offc + j * 3 + 1, none⟩ (.int .i64 (d.arr + x))).cell? ⟨bc, offc + j * 3 + 2, none⟩ = some (.int .i64 d.dep) := by
     rw [World.cell?_setCell_other _ _ _ _ (fun e => by have := congrArg Addr.off e; simp at this)]; exact y2
    refine ⟨?_, fun q => by rw [World.frozen?_setCell, World.frozen?_setCell]; exact fr q, (HL.out.onl.set hbcm _ _).set hbcm _ _⟩
    rw [← HSP.out]
    refine Fam.step calE HL.out.fam (j := j) (latC x d) (fun o ho => ?_) (fun i hi _ => by rw [hfe i hi]; exact fun z hz => nomatch hz) ?_
    ·rw [World.cell?_setCell_other _ _ _ _ (fun e => by have := congrArg Addr.off e; simp at this; omega), World.cell?_setCell_other _ _ _ _ (fun e => by have := congrArg Addr.off e; simp at this; omega)]
    ·rw [hfe j (by omega)]
     refine ⟨rfl, i0, ?_, ?_, ?_, ?_, ?_⟩
     ·show In64 (d.arr + x); unfold In64; omega
     ·show In64 (d.dep + x); unfold In64; omega
     ·rw [World.cell?_setCell_other _ _ _ _ (fun e => by have := congrArg Addr.off e; simp at this), World.cell?_setCell_other _ _ _ _ (fun e => by have := congrArg Addr.off e; simp at this)]; exact y0
     ·rw [hn1]; exact World.cell?_setCell_same _ _ _ y1
     ·exact World.cell?_setCell_same _ _ _ hn2
   have f1 := fr (offc + j * 3 + 1)
   have f2 := fr (offc + j * 3 + 2)
   clear hL i0 i1 i2 hstep he HST
   go_wp2
   go_roundw
   case rel => exact ⟨j + 1, by omega, by omega, by go_num, HF2.out⟩
   case measure => simp [intOf]; omega
  ·have ej : nc = j := by omega
   subst ej
   have hlt' : ¬ (nc : Int) < (nc : Int) := by omega
   have hO := hL.onl
   have HC2 : CalL wr (some ⟨bc, offc, none⟩) (latL C nc x cs) (f T) := by
    have := Sl.fam (l := latL C nc x cs) hL.fam (Nat.lt_of_lt_of_le hbcl hO.size) (by rw [latL_len]; exact Hcl.out) (fun i hi => (latL_at hi).symm)
    rw [hfT]
    exact this
   have hlen : (latL C nc x cs).length = g.trips[T].calls.length := by rw [latL_len, Hcs.out]
   have HT2 := trp_set (cs := latL C nc x cs) (a2 := some ⟨bc, offc, none⟩) (c2 := f2) hb HX.out HND.out hTl hO (by rw [Hnc.out]; exact HY2.out) HC2 hlen
   have hdj0 : ∀ y ∈ d0, y ∉ f T := fun y hy hy2 => xd0 y hy y (List.mem_append.2 (.inl (hfm y hy2))) rfl
   have hdj2 : ∀ y ∈ d2, y ∉ f T := fun y hy hy2 => xd1 y (hfm y hy2) y hy rfl
   have T02 := T0.alike strE (hO.alike (T0.lt strE) hdj0)
   have T22 := T2.alike wlkE (hO.alike (T2.lt wlkE) hdj2)
   have hBT : B ∉ f T := fun h => hoff (List.mem_append.2 (.inr (List.mem_append.2 (.inl (hfm B h)))))
   have hlow : ∀ y ∈ f T, V.heap.size ≤ y := fun y hy => (HFr.out.new y (List.mem_append.2 (.inr (List.mem_append.2 (.inl (hfm y hy)))))).1
   have hRT : w.heap.size + 1 ∉ f T := fun h => by have := hlow _ h; omega
   have hBr : Bel V wr := hO.to_bel hBc hlow
   have hBlt : B < wA.heap.size := XB.lt
   have XBr : Blk wr B [.slice p0 n0 s0, .slice (some ⟨b, off, none⟩) n1 s1, .slice p2 n2 s2] := ⟨Nat.lt_of_lt_of_le hBlt hO.size, fun j hj => by rw [hO.cell hBlt hBT]; exact XB.cell j hj, fun j => by rw [hO.frozen hBlt hBT]; exact XB.free j⟩
   have hRAl : w.heap.size + 1 < wA.heap.size := RA.out.lt
   have RR : Blk wr (w.heap.size + 1) zerL := ⟨Nat.lt_of_lt_of_le hRAl hO.size, fun j hj => by rw [hO.cell hRAl hRT]; exact RA.out.cell j hj, fun j => by rw [hO.frozen hRAl hRT]; exact RA.out.free j⟩
   have hLG : latG g (T : Int) (C : Int) x = ⟨g.stops, setT g.trips T (latL C nc x cs), g.walks⟩ := by
    unfold latG
    rw [hcalls]
    simp [List.getD, hTl, Hcs.out]
   have HV2 : Hid (LinV wr (.agg #[.slice p0 n0 s0, .slice (some ⟨b, off, none⟩) n1 s1, .slice p2 n2 s2]) (latG g (T : Int) (C : Int) x) (d0 ++ ((b :: (List.range g.trips.length).flatMap f) ++ d2))) := by
    rw [hLG]
    exact ⟨p0, s0, some ⟨b, off, none⟩, s1, p2, s2, d0, _, d2, rfl, by show _ = Value.agg #[.slice p0 g.stops.length s0, .slice _ (setT g.trips T (latL C nc x cs)).length s1, .slice p2 g.walks.length s2]; rw [setT_len, H0.out, H1.out, H2.out], T02, HT2, T22⟩
   have HFr2 : Hid (Fresh V wr (d0 ++ ((b :: (List.range g.trips.length).flatMap f) ++ d2))) := by
    refine ⟨HFr.out.nd, fun y hy => ⟨(HFr.out.new y hy).1, Nat.lt_of_lt_of_le (HFr.out.new y hy).2 hO.size⟩, fun y hy j => ?_⟩
    by_cases e : y ∈ f T
    ·rw [hfT] at e
     rcases List.mem_cons.1 e with rfl | e
     ·exact hL.free j
     ·obtain ⟨i, hi, e⟩ := List.mem_flatMap.1 e
      rw [hfe i (List.mem_range.1 hi)] at e
      exact nomatch e
    ·rw [hO.frozen (HFr.out.new y hy).2 e]
     exact HFr.out.free y hy j
   obtain ⟨r2, Hr2⟩ : ∃ r, Hid (linesB (latG g (T : Int) (C : Int) x) = r) := ⟨_, (rfl : linesB (latG g (T : Int) (C : Int) x) = _)⟩
   have HLG : Hid (LQ = if r2 = true then latG g (T : Int) (C : Int) x else ⟨[], [], []⟩) := by
    show LQ = _
    rw [← HLQ.out]
    unfold latQ
    rw [Hr.out, H1.out, k1, hcalls, k2, k3, Hr2.out]
    cases r2 <;> simp
   have b0' : wr.cell? ⟨B, 0, none⟩ = some (.slice p0 n0 s0) := XBr.cell 0 (by simp)
   have b1' : wr.cell? ⟨B, 1, none⟩ = some (.slice (some ⟨b, off, none⟩) n1 s1) := XBr.cell 1 (by simp)
   have b2' : wr.cell? ⟨B, 2, none⟩ = some (.slice p2 n2 s2) := XBr.cell 2 (by simp)
   have bl' := XBr.lt
   clear hL HC2 HT2 T02 T22 T0 T2 XB hLG z1 zl HX HND HY2 hcb
   go_wp2_with fail
   refine (specLinesOk_r _ _ _ r2 _ HV2.out (latG_Q HQ.out) Hr2.out).mono ?_
   rintro e wB ⟨rfl, hbB⟩
   have hBB := bel_step hBr hbB
   have XB2 := XBr.bel hbB
   have RB := RR.bel hbB
   have V2 := HV2.out.bel hbB
   have F2 := HFr2.out.bel hbB
   clear b0' b1' b2' bl' XBr RR
   have b0' : wB.cell? ⟨B, 0, none⟩ = some (.slice p0 n0 s0) := XB2.cell 0 (by simp)
   have b1' : wB.cell? ⟨B, 1, none⟩ = some (.slice (some ⟨b, off, none⟩) n1 s1) := XB2.cell 1 (by simp)
   have b2' : wB.cell? ⟨B, 2, none⟩ = some (.slice p2 n2 s2) := XB2.cell 2 (by simp)
   have bl' := XB2.lt
   have y10 : wB.cell? ⟨w.heap.size + 1, 0, none⟩ = some (.slice none 0 0) := RB.cell 0 (by simp)
   have y11 : wB.cell? ⟨w.heap.size + 1, 1, none⟩ = some (.slice none 0 0) := RB.cell 1 (by simp)
   have y12 : wB.cell? ⟨w.heap.size + 1, 2, none⟩ = some (.slice none 0 0) := RB.cell 2 (by simp)
   have yf1 := RB.free
   have yl1 := RB.lt
   have hbw : Bel w wB := bel_step hBV hBB
   cases r2
   ·have HZ : Hid (LQ = ⟨[], [], []⟩) := HLG.out
    clear b0' b1' b2' V2 F2
    go_wp2
    refine bodyPost_ret (v := .agg #[.slice none 0 0, .slice none 0 0, .slice none 0 0]) (by simp [results, Try.results19, go_sem, y10, y11, y12]) rfl ⟨_, [], rfl, (by rw [HZ.out]; exact zero_lin _), Fresh.nil _ _, ?_⟩
    exact bel_set (bel_set (bel_set hbw (Nat.le_succ _) _) (Nat.le_succ _) _) (Nat.le_succ _) _
   ·have HZ : Hid (LQ = latG g (T : Int) (C : Int) x) := HLG.out
    have hlo : ∀ y ∈ d0 ++ ((b :: (List.range g.trips.length).flatMap f) ++ d2), y < wB.heap.size := fun y hy => (F2.new y hy).2
    have hno : w.heap.size + 1 ∉ d0 ++ ((b :: (List.range g.trips.length).flatMap f) ++ d2) := fun h => by have := (F2.new _ h).1; omega
    have HA : Hid (∀ u0 u1 u2, Alike wB (((wB.setCell ⟨w.heap.size + 1, 0, none⟩ u0).setCell ⟨w.heap.size + 1, 1, none⟩ u1).setCell ⟨w.heap.size + 1, 2, none⟩ u2) (d0 ++ ((b :: (List.range g.trips.length).flatMap f) ++ d2))) := fun u0 u1 u2 => (((Alike.refl hlo).set hno _ _).set hno _ _).set hno _ _
    have HV3 : Hid (∀ u0 u1 u2, LinV (((wB.setCell ⟨w.heap.size + 1, 0, none⟩ u0).setCell ⟨w.heap.size + 1, 1, none⟩ u1).setCell ⟨w.heap.size + 1, 2, none⟩ u2) (.agg #[.slice p0 n0 s0, .slice (some ⟨b, off, none⟩) n1 s1, .slice p2 n2 s2]) LQ (d0 ++ ((b :: (List.range g.trips.length).flatMap f) ++ d2))) := fun u0 u1 u2 => by rw [HZ.out]; exact V2.alike (HA.out u0 u1 u2)
    have HF3 : Hid (∀ u0 u1 u2, Fresh w (((wB.setCell ⟨w.heap.size + 1, 0, none⟩ u0).setCell ⟨w.heap.size + 1, 1, none⟩ u1).setCell ⟨w.heap.size + 1, 2, none⟩ u2) (d0 ++ ((b :: (List.range g.trips.length).flatMap f) ++ d2))) := fun u0 u1 u2 => (F2.alike (HA.out u0 u1 u2)).old hBV.out.size
    clear V2 F2 hlo hno
    go_wp2
    refine bodyPost_ret (v := .agg #[.slice p0 n0 s0, .slice (some ⟨b, off, none⟩) n1 s1, .slice p2 n2 s2]) (by simp [results, Try.results19, go_sem, y10, y11, y12]) rfl ⟨_, _, rfl, HV3.out _ _ _, HF3.out _ _ _, ?_⟩
    exact bel_set (bel_set (bel_set hbw (Nat.le_succ _) _) (Nat.le_succ _) _) (Nat.le_succ _) _
end Go.Proofs.Ytkmccjjghpnejaa
