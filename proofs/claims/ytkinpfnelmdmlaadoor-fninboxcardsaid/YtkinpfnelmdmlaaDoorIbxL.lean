/-
  The walk of the law: for every row of bytes FnInBox says true.
-/
import Derived.Test.YtkinpfnelmdmlaaDoorXC
import Derived.Test.YtkinpfnelmdmlaaDoorXB
namespace Go.Proofs.YtkinpfnelmdmlaaDoor
open Go.RowKit

theorem lone_pts (w : World) : Pts (w.alloc (.cells #[.int .i64 0, .int .i64 0] 26)) (some ⟨w.heap.size, 0, none⟩) 1 (fun _ => 0) (fun _ => 0) := by
  have XB : Blk (w.alloc (.cells #[.int .i64 0, .int .i64 0] 26)) w.heap.size [.int .i64 0, .int .i64 0] := Blk.new w [.int .i64 0, .int .i64 0] _
  refine .inr ⟨w.heap.size, 0, rfl, XB.lt, fun i hi => ?_⟩
  obtain rfl : i = 0 := by omega
  exact ⟨XB.cell 0 (by simp), XB.cell 1 (by simp)⟩

theorem ownI_form {base : Nat} {w : World} {v : Value} {l : List Int} (h : OwnI base w v l) : ∃ a c, v = .slice a l.length c := by
  rcases h.2 with ⟨rfl, e⟩ | ⟨g, cap, cur, rfl, _⟩
  · exact ⟨none, 0, by rw [e]⟩
  · exact ⟨_, _, rfl⟩

set_option maxRecDepth 100000 in
set_option maxHeartbeats 8000000 in
theorem lawFnInBox_any (a : Option Addr) (n0 c0 : Nat) (w : World) (hS : Bts w a n0) (_hm : n0 ≤ 9223372036854775807) (hT : SpTab w) :
    Calls Tryd.prog 3 #[.slice a n0 c0] w fun e w' => e = .returned (.bool true) ∧ Bel w w' := by
  by_cases hn0 : n0 ≤ 1048576
  rotate_left
  · have hbig : decide (1048576 < (n0 : Int)) = true := by simp; omega
    go_enter Tryd.func3, Tryd.ntmps3
    go_wp2_with fail
    refine (big_any a n0 c0 w).mono ?_
    rintro e w' ⟨rfl, rfl⟩
    rw [hbig]
    go_wp2
    go_ret
    exact ⟨rfl, Bel.refl _⟩
  have hbig : decide (1048576 < (n0 : Int)) = false := by simp; omega
  have HSB : Hid (Bts w a n0) := hS
  have HT : Hid (SpTab w) := hT
  go_enter Tryd.func3, Tryd.ntmps3
  go_wp2_with fail
  refine (big_any a n0 c0 w).mono ?_
  rintro e w' ⟨rfl, hw⟩
  have hw := hw.symm
  subst hw
  rw [hbig]
  go_wp2_with fail
  refine (drawInBox_any a n0 c0 w hS hn0).mono ?_
  rintro e w1 ⟨v, m, xs, q, rfl, hm, hO, hX, hB1⟩
  obtain ⟨va, vc, X, Y, rfl, _, hP1⟩ := own_pts hO hX
  clear hO hX xs hS hT
  obtain ⟨U, HU⟩ : ∃ U, Hid (U = w1.alloc (.cells #[.int .i64 q.a, .int .i64 q.b, .int .i64 q.c, .int .i64 q.d] 28)) := ⟨_, (rfl : w1.alloc (.cells #[.int .i64 q.a, .int .i64 q.b, .int .i64 q.c, .int .i64 q.d] 28) = _)⟩
  have hbU : Bel w1 U := by rw [HU.out]; exact bel_alloc (Bel.refl _) _
  have XU : Blk U w1.heap.size [.int .i64 q.a, .int .i64 q.b, .int .i64 q.c, .int .i64 q.d] := by rw [HU.out]; exact Blk.new w1 [.int .i64 q.a, .int .i64 q.b, .int .i64 q.c, .int .i64 q.d] _
  obtain ⟨V, HV⟩ : ∃ V, Hid (V = U.alloc (.cells #[.int .i64 0, .int .i64 0] 26)) := ⟨_, (rfl : U.alloc (.cells #[.int .i64 0, .int .i64 0] 26) = _)⟩
  have hbV : Bel U V := by rw [HV.out]; exact bel_alloc (Bel.refl _) _
  have hLo : Pts V (some ⟨U.heap.size, 0, none⟩) 1 (fun _ => 0) (fun _ => 0) := by rw [HV.out]; exact lone_pts U
  have hUs : U.heap.size = w1.heap.size + 1 := by rw [HU.out]; simp
  rw [hUs] at hLo
  have hTV : SpTab V := HT.out.bel (bel_step hB1 (bel_step hbU hbV))
  go_wp2_with fail
  rw [← HU.out, ← HV.out]
  refine (sortSpace_any _ 1 1 _ _ V hLo hTV (by decide)).mono ?_
  rintro e w2 ⟨v2, l2, rfl, hO2, hL2, hb2⟩
  obtain ⟨a2, c2, bs2, rfl, _, _, _⟩ := hO2
  rw [hL2.lone]
  have hBu2 : Bel U w2 := bel_step hbV hb2
  have HB2 : Hid (Bel w w2) := bel_step hB1 (bel_step hbU hBu2)
  have HP2 : Hid (Pts w2 va m X Y) := hP1.bel (bel_step hbU hBu2)
  have X2 := XU.bel hBu2
  obtain ⟨B, HBq⟩ : ∃ x, Hid (w1.heap.size = x) := ⟨_, (rfl : w1.heap.size = _)⟩
  rw [HBq.out] at X2 ⊢
  have HX2 : Hid (∀ w', Bel w2 w' → w'.cell? ⟨B, 0, none⟩ = some (.int .i64 q.a) ∧ w'.cell? ⟨B, 1, none⟩ = some (.int .i64 q.b) ∧ w'.cell? ⟨B, 2, none⟩ = some (.int .i64 q.c) ∧ w'.cell? ⟨B, 3, none⟩ = some (.int .i64 q.d)) := fun w' h => ⟨(X2.bel h).cell 0 (by simp), (X2.bel h).cell 1 (by simp), (X2.bel h).cell 2 (by simp), (X2.bel h).cell 3 (by simp)⟩
  clear hUs hP1 hbU hbV hLo hTV hL2 hb2 hBu2 X2 XU hB1 HU HV HBq
  by_cases h2k : 2000 < m
  · have h2b : decide ((2000 : Int) < (m : Int)) = true := by simp only [decide_eq_true_eq]; omega
    have HRB : Hid (rowB m X Y = false) := rowB_big h2k
    obtain ⟨x0, x1, x2, x3⟩ := HX2.out _ (Bel.refl _)
    clear h2k
    go_wp2_with fail
    refine (inBox_any va m vc X Y q _ HP2.out (HT.out.bel HB2.out) (by omega)).mono ?_
    rintro e w3 ⟨v3, l3, rfl, hO3, hL3, hb3⟩
    obtain ⟨a3, c3, bs3, rfl, _, _, _⟩ := hO3
    rw [hL3.none HRB.out]
    go_wp2
    go_ret
    exact ⟨rfl, bel_step HB2.out hb3⟩
  have h2b : decide ((2000 : Int) < (m : Int)) = false := by simp only [decide_eq_false_iff_not]; omega
  go_wp2_with fail
  refine (allOk_any va m vc X Y _ HP2.out (by omega)).mono ?_
  rintro e w3 ⟨rfl, hb3⟩
  have HRk : Hid (rowB m X Y = okA m X Y) := rowB_okA (by omega)
  obtain ⟨x0, x1, x2, x3⟩ := HX2.out _ hb3
  have HB3 : Hid (Bel w w3) := bel_step HB2.out hb3
  have HP3 : Hid (Pts w3 va m X Y) := HP2.out.bel hb3
  have HX3 : Hid (∀ w', Bel w3 w' → w'.cell? ⟨B, 0, none⟩ = some (.int .i64 q.a) ∧ w'.cell? ⟨B, 1, none⟩ = some (.int .i64 q.b) ∧ w'.cell? ⟨B, 2, none⟩ = some (.int .i64 q.c) ∧ w'.cell? ⟨B, 3, none⟩ = some (.int .i64 q.d)) := fun w' h => HX2.out w' (bel_step hb3 h)
  clear HX2 HP2 HB2 hb3
  cases hok : okA m X Y
  · have HRB : Hid (rowB m X Y = false) := (by rw [HRk.out, hok] : rowB m X Y = false)
    clear hok
    go_wp2_with fail
    refine (inBox_any va m vc X Y q _ HP3.out (HT.out.bel HB3.out) (by omega)).mono ?_
    rintro e w4 ⟨v4, l4, rfl, hO4, hL4, hb4⟩
    obtain ⟨a4, c4, bs4, rfl, _, _, _⟩ := hO4
    rw [hL4.none HRB.out]
    go_wp2
    go_ret
    exact ⟨rfl, bel_step HB3.out hb4⟩
  have HRB : Hid (rowB m X Y = true) := (by rw [HRk.out, hok] : rowB m X Y = true)
  clear hok HRk
  go_wp2_with fail
  refine (inBox_any va m vc X Y q _ HP3.out (HT.out.bel HB3.out) (by omega)).mono ?_
  rintro e w4 ⟨v4, L, rfl, hO4, hL4, hb4⟩
  obtain ⟨aL, cL, bL, rfl, hI4, _, _⟩ := hO4
  obtain ⟨f1, f2, f3, f4⟩ := hL4.facts HRB.out
  have HF1 : Hid (∀ i : Nat, i < m → decide ((i : Int) ∈ L) = ptB q (X i) (Y i)) := f1
  have HF2 : Hid (∀ t (h : t < L.length), ∃ i : Nat, i < m ∧ L[t] = (i : Int)) := f2
  have HF3 : Hid (∀ (t i j : Nat) (ht : t + 1 < L.length), L[t]'(Nat.lt_of_succ_lt ht) = (i : Int) → L[t + 1] = (j : Int) → cod (X i) (Y i) ≤ cod (X j) (Y j)) := f3
  obtain ⟨g, Hg⟩ : ∃ x, Hid (L.length = x) := ⟨_, (rfl : L.length = _)⟩
  have HC : Hid (cntB X Y q m = g) := (by rw [← Hg.out, f4] : cntB X Y q m = g)
  have hg : g ≤ m := by rw [← HC.out]; exact cntB_le X Y q m
  rw [Hg.out]
  have HI4 : Hid (Ints w4 aL L bL) := hI4
  have HB4 : Hid (Bel w w4) := bel_step HB3.out hb4
  have HP4 : Hid (Pts w4 va m X Y) := HP3.out.bel hb4
  have HX4 : Hid (∀ w', Bel w4 w' → w'.cell? ⟨B, 0, none⟩ = some (.int .i64 q.a) ∧ w'.cell? ⟨B, 1, none⟩ = some (.int .i64 q.b) ∧ w'.cell? ⟨B, 2, none⟩ = some (.int .i64 q.c) ∧ w'.cell? ⟨B, 3, none⟩ = some (.int .i64 q.d)) := fun w' h => HX3.out w' (bel_step hb4 h)
  clear HX3 HP3 HB3 hb4 hI4 f1 f2 f3 f4 hL4 HRB x0 x1 x2 x3
  go_wp2
  go_loopw [6, 7] (fun nx ix wr => ∃ i : Nat, i ≤ m ∧ ix = .int .i64 i ∧ nx = .int .i64 (cntB X Y q i : Nat) ∧ Bel w4 wr) (fun _ ix _ => m - (intOf ix).toNat)
  case atStart => exact ⟨0, Nat.zero_le _, rfl, rfl, Bel.refl _⟩
  case round =>
    obtain ⟨i, hi, rfl, rfl, hBo⟩ := hrel
    by_cases hlt : i < m
    · have hlt' : (i : Int) < (m : Int) := by omega
      obtain ⟨pb, po, rfl, hpb, hpc⟩ := (HP4.out.bel hBo).some hlt
      obtain ⟨p0, p1⟩ := hpc i hlt
      obtain ⟨N, HN⟩ : ∃ x, Hid (cntB X Y q i = x) := ⟨_, (rfl : cntB X Y q i = _)⟩
      have hN : N ≤ 2000 := by rw [← HN.out]; exact Nat.le_trans (cntB_le X Y q i) (by omega)
      rw [HN.out]
      obtain ⟨x, Hx⟩ : ∃ x, Hid (X i = x) := ⟨_, (rfl : X i = _)⟩
      obtain ⟨y, Hy⟩ : ∃ x, Hid (Y i = x) := ⟨_, (rfl : Y i = _)⟩
      rw [Hx.out] at p0
      rw [Hy.out] at p1
      have hbx : ∀ w', Bel wr w' → w'.cell? ⟨B, 0, none⟩ = some (.int .i64 q.a) ∧ w'.cell? ⟨B, 1, none⟩ = some (.int .i64 q.b) ∧ w'.cell? ⟨B, 2, none⟩ = some (.int .i64 q.c) ∧ w'.cell? ⟨B, 3, none⟩ = some (.int .i64 q.d) := fun w' h => HX4.out w' (bel_step hBo h)
      have hpx : ∀ w', Bel wr w' → w'.cell? ⟨pb, po + i * 2, none⟩ = some (.int .i64 x) ∧ w'.cell? ⟨pb, po + i * 2 + 1, none⟩ = some (.int .i64 y) := fun w' h => ⟨bel_cellM h hpb p0, bel_cellM h hpb p1⟩
      have g0 : Bel wr wr := Bel.refl _
      have hIL := HI4.out.bel intE hBo
      have hF := HF1.out i hlt
      rw [Hx.out, Hy.out] at hF
      have hHs0 : ∀ w', Bel wr w' → Calls Tryd.prog 10 #[.slice aL g cL, .int .i64 (i : Int)] w' fun e w2 => e = .returned (.bool (ptB q x y)) ∧ Bel w' w2 := fun w' h => by
        refine (lawHas_any aL g cL L bL i w' (hIL.bel intE h) Hg.out (by omega)).mono ?_
        rintro e w2 ⟨rfl, rfl⟩
        rw [hF]
        exact ⟨rfl, Bel.refl _⟩
      have hIn0 : ∀ w', Bel wr w' → Calls Tryd.prog 9 #[.agg #[.int .i64 q.a, .int .i64 q.b, .int .i64 q.c, .int .i64 q.d], .agg #[.int .i64 x, .int .i64 y]] w' fun e w2 => e = .returned (.bool (ptB q x y)) ∧ Bel w' w2 := fun w' _ => lawIn_any q x y w'
      have HPT : Hid (ptB q (X i) (Y i) = ptB q x y) := (by rw [Hx.out, Hy.out] : ptB q (X i) (Y i) = ptB q x y)
      obtain ⟨P, HPP⟩ : ∃ P, Hid (ptB q x y = P) := ⟨_, (rfl : ptB q x y = _)⟩
      rw [HPP.out] at hHs0 hIn0
      clear p0 p1 hpc hIL hF
      cases P
      · have HE : Hid (cntB X Y q (i + 1) = N) := (by rw [cntB_no (by rw [HPT.out, HPP.out]), HN.out] : cntB X Y q (i + 1) = N)
        go_upto_region 13 with fail
        refine wp_region_noPanic ?_
        refine wp_region_held_drew (S := fun w' => Bel wr w') (by kernel_rfl) (Bel.drew g0) (fun hHeld => ?_)
        refine wpAnyH_take (i := 0) (oi := { dst := some 49, op := Go.Op.load 28 (Go.Operand.tmp 4), type := 28, pos := "laws.go:473", after := #[], guard := none }) (v := ?vab0) rfl (by kernel_rfl) (by kernel_rfl) (by kernel_rfl) (fun _ _ _ h => h) (Or.inl ⟨by rfl, ?hab0⟩) hHeld ?rab0
        case hab0 => (intro w hSw; (try dsimp only at hSw); go_simp; try with_reducible rfl)
        try simp only [Act.put, List.setIfInBounds_toArray, List.set_cons_zero, List.set_cons_succ]
        refine wpAnyH_take (i := 1) (oi := { dst := some 50, op := Go.Op.move (Go.Operand.tmp 3), type := 24, pos := "laws.go:473", after := #[], guard := none }) (v := ?vab1) rfl (by kernel_rfl) (by kernel_rfl) (by kernel_rfl) (fun _ _ _ h => h) (Or.inl ⟨by rfl, ?hab1⟩) hHeld ?rab1
        case hab1 => (intro w hSw; (try dsimp only at hSw); go_simp; try with_reducible rfl)
        try simp only [Act.put, List.setIfInBounds_toArray, List.set_cons_zero, List.set_cons_succ]
        refine wpAnyH_take (i := 2) (oi := { dst := some 51, op := Go.Op.move (Go.Operand.tmp 7), type := 3, pos := "laws.go:473", after := #[], guard := none }) (v := ?vab2) rfl (by kernel_rfl) (by kernel_rfl) (by kernel_rfl) (fun _ _ _ h => h) (Or.inl ⟨by rfl, ?hab2⟩) hHeld ?rab2
        case hab2 => (intro w hSw; (try dsimp only at hSw); go_simp; try with_reducible rfl)
        try simp only [Act.put, List.setIfInBounds_toArray, List.set_cons_zero, List.set_cons_succ]
        refine wpAnyH_take (i := 3) (oi := { dst := some 52, op := Go.Op.indexAddr 24 (Go.Operand.tmp 50) (Go.Operand.tmp 51), type := 0, pos := "laws.go:473", after := #[{ on := 1, ground := Go.Ground.data }, { on := 2, ground := Go.Ground.data }], guard := none }) (v := ?vab3) rfl (by kernel_rfl) (by kernel_rfl) (by kernel_rfl) (fun _ _ _ h => h) (Or.inl ⟨by rfl, ?hab3⟩) hHeld ?rab3
        case hab3 => (intro w hSw; (try dsimp only at hSw); go_simp; try with_reducible rfl)
        try simp only [Act.put, List.setIfInBounds_toArray, List.set_cons_zero, List.set_cons_succ]
        refine wpAnyH_take (i := 4) (oi := { dst := some 53, op := Go.Op.load 26 (Go.Operand.tmp 52), type := 26, pos := "laws.go:473", after := #[{ on := 3, ground := Go.Ground.data }], guard := none }) (v := ?vab4) rfl (by kernel_rfl) (by kernel_rfl) (by kernel_rfl) (fun _ _ _ h => h) (Or.inl ⟨by rfl, ?hab4⟩) hHeld ?rab4
        case hab4 => (intro w hSw; (try dsimp only at hSw); go_simp; try with_reducible rfl)
        try simp only [Act.put, List.setIfInBounds_toArray, List.set_cons_zero, List.set_cons_succ]
        refine wpAnyH_take (i := 6) (oi := { dst := some 55, op := Go.Op.move (Go.Operand.tmp 5), type := 31, pos := "laws.go:473", after := #[], guard := none }) (v := ?vab6) rfl (by kernel_rfl) (by kernel_rfl) (by kernel_rfl) (fun _ _ _ h => h) (Or.inl ⟨by rfl, ?hab6⟩) hHeld ?rab6
        case hab6 => (intro w hSw; (try dsimp only at hSw); go_simp; try with_reducible rfl)
        try simp only [Act.put, List.setIfInBounds_toArray, List.set_cons_zero, List.set_cons_succ]
        refine wpAnyH_take (i := 7) (oi := { dst := some 56, op := Go.Op.move (Go.Operand.tmp 7), type := 3, pos := "laws.go:473", after := #[], guard := none }) (v := ?vab7) rfl (by kernel_rfl) (by kernel_rfl) (by kernel_rfl) (fun _ _ _ h => h) (Or.inl ⟨by rfl, ?hab7⟩) hHeld ?rab7
        case hab7 => (intro w hSw; (try dsimp only at hSw); go_simp; try with_reducible rfl)
        try simp only [Act.put, List.setIfInBounds_toArray, List.set_cons_zero, List.set_cons_succ]
        refine wpAnyH_ready (rs := [5]) (by kernel_rfl) (by simp) ?_
        refine AllReadyH.cons (o := { dst := some 54, op := Go.Op.call { callee := Go.Callee.value (Go.Operand.func 9), args := #[Go.Operand.tmp 49, Go.Operand.tmp 53], argTypes := #[28, 26] }, type := 4, pos := "laws.go:473", after := #[{ on := 0, ground := Go.Ground.data }, { on := 4, ground := Go.Ground.data }], guard := none }) rfl (fun K hK => ?_) AllReadyH.nil
        go_simp
        refine (hIn0 _ hHeld).mono ?_
        rintro e w6 ⟨rfl, hb6⟩
        go_wp2_with fail
        refine hK.out _ _ (bel_step hHeld hb6) (fun hHeld' => ?_)
        clear hK K hHeld
        have hHeld := hHeld'
        clear hHeld'
        try simp only [Act.put, List.setIfInBounds_toArray, List.set_cons_zero, List.set_cons_succ]
        refine wpAnyH_ready (rs := [8]) (by kernel_rfl) (by simp) ?_
        refine AllReadyH.cons (o := { dst := some 57, op := Go.Op.call { callee := Go.Callee.value (Go.Operand.func 10), args := #[Go.Operand.tmp 55, Go.Operand.tmp 56], argTypes := #[31, 2] }, type := 4, pos := "laws.go:473", after := #[{ on := 6, ground := Go.Ground.data }, { on := 7, ground := Go.Ground.data }, { on := 5, ground := Go.Ground.chain }], guard := none }) rfl (fun K hK => ?_) AllReadyH.nil
        go_simp
        refine (hHs0 _ hHeld).mono ?_
        rintro e w6 ⟨rfl, hb6⟩
        go_wp2_with fail
        refine hK.out _ _ (bel_step hHeld hb6) (fun hHeld' => ?_)
        clear hK K hHeld
        have hHeld := hHeld'
        clear hHeld'
        try simp only [Act.put, List.setIfInBounds_toArray, List.set_cons_zero, List.set_cons_succ]
        refine wpAnyH_take (i := 9) (oi := { dst := some 58, op := Go.Op.binOp Go.BinOp.neq 4 (Go.Operand.tmp 54) (Go.Operand.tmp 57) 4, type := 4, pos := "laws.go:473", after := #[{ on := 5, ground := Go.Ground.data }, { on := 8, ground := Go.Ground.data }], guard := none }) (v := ?vab9) rfl (by kernel_rfl) (by kernel_rfl) (by kernel_rfl) (fun _ _ _ h => h) (Or.inl ⟨by rfl, ?hab9⟩) hHeld ?rab9
        case hab9 => (intro w hSw; (try dsimp only at hSw); go_simp; try with_reducible rfl)
        try simp only [Act.put, List.setIfInBounds_toArray, List.set_cons_zero, List.set_cons_succ]
        refine wpAnyH_done (by kernel_rfl) ?_ _
        refine NoPanic.normal ?_
        have g1 := hHeld
        clear hHeld
        go_upto_region 15 with fail
        refine wp_region_noPanic ?_
        refine wp_region_held_drew (S := fun w' => Bel wr w') (by kernel_rfl) (Bel.drew g1) (fun hHeld => ?_)
        refine wpAnyH_take (i := 0) (oi := { dst := some 59, op := Go.Op.load 28 (Go.Operand.tmp 4), type := 28, pos := "laws.go:476", after := #[], guard := none }) (v := ?vac0) rfl (by kernel_rfl) (by kernel_rfl) (by kernel_rfl) (fun _ _ _ h => h) (Or.inl ⟨by rfl, ?hac0⟩) hHeld ?rac0
        case hac0 => (intro w hSw; (try dsimp only at hSw); go_simp; try with_reducible rfl)
        try simp only [Act.put, List.setIfInBounds_toArray, List.set_cons_zero, List.set_cons_succ]
        refine wpAnyH_take (i := 1) (oi := { dst := some 60, op := Go.Op.move (Go.Operand.tmp 3), type := 24, pos := "laws.go:476", after := #[], guard := none }) (v := ?vac1) rfl (by kernel_rfl) (by kernel_rfl) (by kernel_rfl) (fun _ _ _ h => h) (Or.inl ⟨by rfl, ?hac1⟩) hHeld ?rac1
        case hac1 => (intro w hSw; (try dsimp only at hSw); go_simp; try with_reducible rfl)
        try simp only [Act.put, List.setIfInBounds_toArray, List.set_cons_zero, List.set_cons_succ]
        refine wpAnyH_take (i := 2) (oi := { dst := some 61, op := Go.Op.move (Go.Operand.tmp 7), type := 3, pos := "laws.go:476", after := #[], guard := none }) (v := ?vac2) rfl (by kernel_rfl) (by kernel_rfl) (by kernel_rfl) (fun _ _ _ h => h) (Or.inl ⟨by rfl, ?hac2⟩) hHeld ?rac2
        case hac2 => (intro w hSw; (try dsimp only at hSw); go_simp; try with_reducible rfl)
        try simp only [Act.put, List.setIfInBounds_toArray, List.set_cons_zero, List.set_cons_succ]
        refine wpAnyH_take (i := 3) (oi := { dst := some 62, op := Go.Op.indexAddr 24 (Go.Operand.tmp 60) (Go.Operand.tmp 61), type := 0, pos := "laws.go:476", after := #[{ on := 1, ground := Go.Ground.data }, { on := 2, ground := Go.Ground.data }], guard := none }) (v := ?vac3) rfl (by kernel_rfl) (by kernel_rfl) (by kernel_rfl) (fun _ _ _ h => h) (Or.inl ⟨by rfl, ?hac3⟩) hHeld ?rac3
        case hac3 => (intro w hSw; (try dsimp only at hSw); go_simp; try with_reducible rfl)
        try simp only [Act.put, List.setIfInBounds_toArray, List.set_cons_zero, List.set_cons_succ]
        refine wpAnyH_take (i := 4) (oi := { dst := some 63, op := Go.Op.load 26 (Go.Operand.tmp 62), type := 26, pos := "laws.go:476", after := #[{ on := 3, ground := Go.Ground.data }], guard := none }) (v := ?vac4) rfl (by kernel_rfl) (by kernel_rfl) (by kernel_rfl) (fun _ _ _ h => h) (Or.inl ⟨by rfl, ?hac4⟩) hHeld ?rac4
        case hac4 => (intro w hSw; (try dsimp only at hSw); go_simp; try with_reducible rfl)
        try simp only [Act.put, List.setIfInBounds_toArray, List.set_cons_zero, List.set_cons_succ]
        refine wpAnyH_ready (rs := [5]) (by kernel_rfl) (by simp) ?_
        refine AllReadyH.cons (o := { dst := some 64, op := Go.Op.call { callee := Go.Callee.value (Go.Operand.func 9), args := #[Go.Operand.tmp 59, Go.Operand.tmp 63], argTypes := #[28, 26] }, type := 4, pos := "laws.go:476", after := #[{ on := 0, ground := Go.Ground.data }, { on := 4, ground := Go.Ground.data }], guard := none }) rfl (fun K hK => ?_) AllReadyH.nil
        go_simp
        refine (hIn0 _ hHeld).mono ?_
        rintro e w6 ⟨rfl, hb6⟩
        go_wp2_with fail
        refine hK.out _ _ (bel_step hHeld hb6) (fun hHeld' => ?_)
        clear hK K hHeld
        have hHeld := hHeld'
        clear hHeld'
        try simp only [Act.put, List.setIfInBounds_toArray, List.set_cons_zero, List.set_cons_succ]
        refine wpAnyH_done (by kernel_rfl) ?_ _
        refine NoPanic.normal ?_
        have hB9 := bel_step hBo hHeld
        clear hHs0 hIn0 hbx hpx hHeld g0 g1
        go_wp2
        go_roundw
        case rel => exact ⟨i + 1, by omega, by go_num, by rw [HE.out], hB9⟩
        case measure => simp [intOf]; omega
      · have HE : Hid (cntB X Y q (i + 1) = N + 1) := (by rw [cntB_yes (by rw [HPT.out, HPP.out]), HN.out] : cntB X Y q (i + 1) = N + 1)
        go_upto_region 13 with fail
        refine wp_region_noPanic ?_
        refine wp_region_held_drew (S := fun w' => Bel wr w') (by kernel_rfl) (Bel.drew g0) (fun hHeld => ?_)
        refine wpAnyH_take (i := 0) (oi := { dst := some 49, op := Go.Op.load 28 (Go.Operand.tmp 4), type := 28, pos := "laws.go:473", after := #[], guard := none }) (v := ?vad0) rfl (by kernel_rfl) (by kernel_rfl) (by kernel_rfl) (fun _ _ _ h => h) (Or.inl ⟨by rfl, ?had0⟩) hHeld ?rad0
        case had0 => (intro w hSw; (try dsimp only at hSw); go_simp; try with_reducible rfl)
        try simp only [Act.put, List.setIfInBounds_toArray, List.set_cons_zero, List.set_cons_succ]
        refine wpAnyH_take (i := 1) (oi := { dst := some 50, op := Go.Op.move (Go.Operand.tmp 3), type := 24, pos := "laws.go:473", after := #[], guard := none }) (v := ?vad1) rfl (by kernel_rfl) (by kernel_rfl) (by kernel_rfl) (fun _ _ _ h => h) (Or.inl ⟨by rfl, ?had1⟩) hHeld ?rad1
        case had1 => (intro w hSw; (try dsimp only at hSw); go_simp; try with_reducible rfl)
        try simp only [Act.put, List.setIfInBounds_toArray, List.set_cons_zero, List.set_cons_succ]
        refine wpAnyH_take (i := 2) (oi := { dst := some 51, op := Go.Op.move (Go.Operand.tmp 7), type := 3, pos := "laws.go:473", after := #[], guard := none }) (v := ?vad2) rfl (by kernel_rfl) (by kernel_rfl) (by kernel_rfl) (fun _ _ _ h => h) (Or.inl ⟨by rfl, ?had2⟩) hHeld ?rad2
        case had2 => (intro w hSw; (try dsimp only at hSw); go_simp; try with_reducible rfl)
        try simp only [Act.put, List.setIfInBounds_toArray, List.set_cons_zero, List.set_cons_succ]
        refine wpAnyH_take (i := 3) (oi := { dst := some 52, op := Go.Op.indexAddr 24 (Go.Operand.tmp 50) (Go.Operand.tmp 51), type := 0, pos := "laws.go:473", after := #[{ on := 1, ground := Go.Ground.data }, { on := 2, ground := Go.Ground.data }], guard := none }) (v := ?vad3) rfl (by kernel_rfl) (by kernel_rfl) (by kernel_rfl) (fun _ _ _ h => h) (Or.inl ⟨by rfl, ?had3⟩) hHeld ?rad3
        case had3 => (intro w hSw; (try dsimp only at hSw); go_simp; try with_reducible rfl)
        try simp only [Act.put, List.setIfInBounds_toArray, List.set_cons_zero, List.set_cons_succ]
        refine wpAnyH_take (i := 4) (oi := { dst := some 53, op := Go.Op.load 26 (Go.Operand.tmp 52), type := 26, pos := "laws.go:473", after := #[{ on := 3, ground := Go.Ground.data }], guard := none }) (v := ?vad4) rfl (by kernel_rfl) (by kernel_rfl) (by kernel_rfl) (fun _ _ _ h => h) (Or.inl ⟨by rfl, ?had4⟩) hHeld ?rad4
        case had4 => (intro w hSw; (try dsimp only at hSw); go_simp; try with_reducible rfl)
        try simp only [Act.put, List.setIfInBounds_toArray, List.set_cons_zero, List.set_cons_succ]
        refine wpAnyH_take (i := 6) (oi := { dst := some 55, op := Go.Op.move (Go.Operand.tmp 5), type := 31, pos := "laws.go:473", after := #[], guard := none }) (v := ?vad6) rfl (by kernel_rfl) (by kernel_rfl) (by kernel_rfl) (fun _ _ _ h => h) (Or.inl ⟨by rfl, ?had6⟩) hHeld ?rad6
        case had6 => (intro w hSw; (try dsimp only at hSw); go_simp; try with_reducible rfl)
        try simp only [Act.put, List.setIfInBounds_toArray, List.set_cons_zero, List.set_cons_succ]
        refine wpAnyH_take (i := 7) (oi := { dst := some 56, op := Go.Op.move (Go.Operand.tmp 7), type := 3, pos := "laws.go:473", after := #[], guard := none }) (v := ?vad7) rfl (by kernel_rfl) (by kernel_rfl) (by kernel_rfl) (fun _ _ _ h => h) (Or.inl ⟨by rfl, ?had7⟩) hHeld ?rad7
        case had7 => (intro w hSw; (try dsimp only at hSw); go_simp; try with_reducible rfl)
        try simp only [Act.put, List.setIfInBounds_toArray, List.set_cons_zero, List.set_cons_succ]
        refine wpAnyH_ready (rs := [5]) (by kernel_rfl) (by simp) ?_
        refine AllReadyH.cons (o := { dst := some 54, op := Go.Op.call { callee := Go.Callee.value (Go.Operand.func 9), args := #[Go.Operand.tmp 49, Go.Operand.tmp 53], argTypes := #[28, 26] }, type := 4, pos := "laws.go:473", after := #[{ on := 0, ground := Go.Ground.data }, { on := 4, ground := Go.Ground.data }], guard := none }) rfl (fun K hK => ?_) AllReadyH.nil
        go_simp
        refine (hIn0 _ hHeld).mono ?_
        rintro e w6 ⟨rfl, hb6⟩
        go_wp2_with fail
        refine hK.out _ _ (bel_step hHeld hb6) (fun hHeld' => ?_)
        clear hK K hHeld
        have hHeld := hHeld'
        clear hHeld'
        try simp only [Act.put, List.setIfInBounds_toArray, List.set_cons_zero, List.set_cons_succ]
        refine wpAnyH_ready (rs := [8]) (by kernel_rfl) (by simp) ?_
        refine AllReadyH.cons (o := { dst := some 57, op := Go.Op.call { callee := Go.Callee.value (Go.Operand.func 10), args := #[Go.Operand.tmp 55, Go.Operand.tmp 56], argTypes := #[31, 2] }, type := 4, pos := "laws.go:473", after := #[{ on := 6, ground := Go.Ground.data }, { on := 7, ground := Go.Ground.data }, { on := 5, ground := Go.Ground.chain }], guard := none }) rfl (fun K hK => ?_) AllReadyH.nil
        go_simp
        refine (hHs0 _ hHeld).mono ?_
        rintro e w6 ⟨rfl, hb6⟩
        go_wp2_with fail
        refine hK.out _ _ (bel_step hHeld hb6) (fun hHeld' => ?_)
        clear hK K hHeld
        have hHeld := hHeld'
        clear hHeld'
        try simp only [Act.put, List.setIfInBounds_toArray, List.set_cons_zero, List.set_cons_succ]
        refine wpAnyH_take (i := 9) (oi := { dst := some 58, op := Go.Op.binOp Go.BinOp.neq 4 (Go.Operand.tmp 54) (Go.Operand.tmp 57) 4, type := 4, pos := "laws.go:473", after := #[{ on := 5, ground := Go.Ground.data }, { on := 8, ground := Go.Ground.data }], guard := none }) (v := ?vad9) rfl (by kernel_rfl) (by kernel_rfl) (by kernel_rfl) (fun _ _ _ h => h) (Or.inl ⟨by rfl, ?had9⟩) hHeld ?rad9
        case had9 => (intro w hSw; (try dsimp only at hSw); go_simp; try with_reducible rfl)
        try simp only [Act.put, List.setIfInBounds_toArray, List.set_cons_zero, List.set_cons_succ]
        refine wpAnyH_done (by kernel_rfl) ?_ _
        refine NoPanic.normal ?_
        have g1 := hHeld
        clear hHeld
        go_upto_region 15 with fail
        refine wp_region_noPanic ?_
        refine wp_region_held_drew (S := fun w' => Bel wr w') (by kernel_rfl) (Bel.drew g1) (fun hHeld => ?_)
        refine wpAnyH_take (i := 0) (oi := { dst := some 59, op := Go.Op.load 28 (Go.Operand.tmp 4), type := 28, pos := "laws.go:476", after := #[], guard := none }) (v := ?vae0) rfl (by kernel_rfl) (by kernel_rfl) (by kernel_rfl) (fun _ _ _ h => h) (Or.inl ⟨by rfl, ?hae0⟩) hHeld ?rae0
        case hae0 => (intro w hSw; (try dsimp only at hSw); go_simp; try with_reducible rfl)
        try simp only [Act.put, List.setIfInBounds_toArray, List.set_cons_zero, List.set_cons_succ]
        refine wpAnyH_take (i := 1) (oi := { dst := some 60, op := Go.Op.move (Go.Operand.tmp 3), type := 24, pos := "laws.go:476", after := #[], guard := none }) (v := ?vae1) rfl (by kernel_rfl) (by kernel_rfl) (by kernel_rfl) (fun _ _ _ h => h) (Or.inl ⟨by rfl, ?hae1⟩) hHeld ?rae1
        case hae1 => (intro w hSw; (try dsimp only at hSw); go_simp; try with_reducible rfl)
        try simp only [Act.put, List.setIfInBounds_toArray, List.set_cons_zero, List.set_cons_succ]
        refine wpAnyH_take (i := 2) (oi := { dst := some 61, op := Go.Op.move (Go.Operand.tmp 7), type := 3, pos := "laws.go:476", after := #[], guard := none }) (v := ?vae2) rfl (by kernel_rfl) (by kernel_rfl) (by kernel_rfl) (fun _ _ _ h => h) (Or.inl ⟨by rfl, ?hae2⟩) hHeld ?rae2
        case hae2 => (intro w hSw; (try dsimp only at hSw); go_simp; try with_reducible rfl)
        try simp only [Act.put, List.setIfInBounds_toArray, List.set_cons_zero, List.set_cons_succ]
        refine wpAnyH_take (i := 3) (oi := { dst := some 62, op := Go.Op.indexAddr 24 (Go.Operand.tmp 60) (Go.Operand.tmp 61), type := 0, pos := "laws.go:476", after := #[{ on := 1, ground := Go.Ground.data }, { on := 2, ground := Go.Ground.data }], guard := none }) (v := ?vae3) rfl (by kernel_rfl) (by kernel_rfl) (by kernel_rfl) (fun _ _ _ h => h) (Or.inl ⟨by rfl, ?hae3⟩) hHeld ?rae3
        case hae3 => (intro w hSw; (try dsimp only at hSw); go_simp; try with_reducible rfl)
        try simp only [Act.put, List.setIfInBounds_toArray, List.set_cons_zero, List.set_cons_succ]
        refine wpAnyH_take (i := 4) (oi := { dst := some 63, op := Go.Op.load 26 (Go.Operand.tmp 62), type := 26, pos := "laws.go:476", after := #[{ on := 3, ground := Go.Ground.data }], guard := none }) (v := ?vae4) rfl (by kernel_rfl) (by kernel_rfl) (by kernel_rfl) (fun _ _ _ h => h) (Or.inl ⟨by rfl, ?hae4⟩) hHeld ?rae4
        case hae4 => (intro w hSw; (try dsimp only at hSw); go_simp; try with_reducible rfl)
        try simp only [Act.put, List.setIfInBounds_toArray, List.set_cons_zero, List.set_cons_succ]
        refine wpAnyH_ready (rs := [5]) (by kernel_rfl) (by simp) ?_
        refine AllReadyH.cons (o := { dst := some 64, op := Go.Op.call { callee := Go.Callee.value (Go.Operand.func 9), args := #[Go.Operand.tmp 59, Go.Operand.tmp 63], argTypes := #[28, 26] }, type := 4, pos := "laws.go:476", after := #[{ on := 0, ground := Go.Ground.data }, { on := 4, ground := Go.Ground.data }], guard := none }) rfl (fun K hK => ?_) AllReadyH.nil
        go_simp
        refine (hIn0 _ hHeld).mono ?_
        rintro e w6 ⟨rfl, hb6⟩
        go_wp2_with fail
        refine hK.out _ _ (bel_step hHeld hb6) (fun hHeld' => ?_)
        clear hK K hHeld
        have hHeld := hHeld'
        clear hHeld'
        try simp only [Act.put, List.setIfInBounds_toArray, List.set_cons_zero, List.set_cons_succ]
        refine wpAnyH_done (by kernel_rfl) ?_ _
        refine NoPanic.normal ?_
        have hB9 := bel_step hBo hHeld
        clear hHs0 hIn0 hbx hpx hHeld g0 g1
        go_wp2
        go_roundw
        case rel => exact ⟨i + 1, by omega, by go_num, by rw [HE.out]; rfl, hB9⟩
        case measure => simp [intOf]; omega
    · have e : i = m := by omega
      subst e
      rw [HC.out]
      have HBo : Hid (Bel w4 wr) := hBo
      obtain ⟨wo, ho⟩ : ∃ V, V = wr := ⟨_, rfl⟩
      subst ho
      clear hBo
      go_wp2
      go_loopw [8] (fun ix wr => ∃ k : Nat, k ≤ g ∧ ix = .int .i64 ((k + 1 : Nat) : Int) ∧ Bel wo wr) (fun ix _ => g + 1 - (intOf ix).toNat)
      case atStart => exact ⟨0, Nat.zero_le _, rfl, Bel.refl _⟩
      case round =>
        obtain ⟨k, hk, rfl, hBr⟩ := hrel
        obtain ⟨j, Hj⟩ : ∃ x, Hid (k + 1 = x) := ⟨_, (rfl : k + 1 = _)⟩
        rw [Hj.out]
        have hkj : k + 1 = j := Hj.out
        by_cases hlt2 : j < g
        · have hl1 : (j : Int) < (g : Int) := by omega
          have hl0 : (k : Int) < (g : Int) := by omega
          have hjl : k + 1 < L.length := by rw [Hg.out]; omega
          obtain ⟨u, hu, Lu⟩ := HF2.out k (by omega)
          obtain ⟨t, ht, Lt⟩ := HF2.out (k + 1) hjl
          have hle := HF3.out k u t hjl Lu Lt
          have hum : (u : Int) < (i : Int) := by omega
          have htm : (t : Int) < (i : Int) := by omega
          have hBr4 := bel_step HBo.out hBr
          have hIL := HI4.out.bel intE hBr4
          obtain ⟨lb, lo, f, rfl, hlb, _⟩ := hIL.out hjl
          have z0 := (int_k hIL (k := k) (by omega)).2
          have z1 := (int_k hIL hjl).2
          rw [Lu] at z0
          rw [Lt, Hj.out] at z1
          obtain ⟨pb, po, rfl, hpb, hpc⟩ := (HP4.out.bel hBr4).some hu
          obtain ⟨p0, p1⟩ := hpc u hu
          obtain ⟨p2, p3⟩ := hpc t ht
          obtain ⟨xu, Hxu⟩ : ∃ x, Hid (X u = x) := ⟨_, (rfl : X u = _)⟩
          obtain ⟨yu, Hyu⟩ : ∃ x, Hid (Y u = x) := ⟨_, (rfl : Y u = _)⟩
          obtain ⟨xt, Hxt⟩ : ∃ x, Hid (X t = x) := ⟨_, (rfl : X t = _)⟩
          obtain ⟨yt, Hyt⟩ : ∃ x, Hid (Y t = x) := ⟨_, (rfl : Y t = _)⟩
          rw [Hxu.out] at p0
          rw [Hyu.out] at p1
          rw [Hxt.out] at p2
          rw [Hyt.out] at p3
          rw [Hxu.out, Hyu.out, Hxt.out, Hyt.out] at hle
          obtain ⟨cu, Hcu⟩ : ∃ x, Hid (cod xu yu = x) := ⟨_, (rfl : cod xu yu = _)⟩
          obtain ⟨ct, Hct⟩ : ∃ x, Hid (cod xt yt = x) := ⟨_, (rfl : cod xt yt = _)⟩
          rw [Hcu.out, Hct.out] at hle
          have hcd : decide (ct < cu) = false := by simp only [decide_eq_false_iff_not]; omega
          have hTr : SpTab wr := HT.out.bel (bel_step HB4.out hBr4)
          have hC1 : ∀ w', Bel wr w' → Calls Tryd.prog 11 #[.agg #[.int .i64 xu, .int .i64 yu]] w' fun e w2 => e = .returned (.int .u64 cu) ∧ Bel w' w2 := fun w' h => by
            refine (codeOf_any xu yu w' (hTr.bel h)).mono ?_
            rintro e w2 ⟨rfl, hb2⟩
            rw [Hcu.out]
            exact ⟨rfl, hb2⟩
          have hC2 : ∀ w', Bel wr w' → Calls Tryd.prog 11 #[.agg #[.int .i64 xt, .int .i64 yt]] w' fun e w2 => e = .returned (.int .u64 ct) ∧ Bel w' w2 := fun w' h => by
            refine (codeOf_any xt yt w' (hTr.bel h)).mono ?_
            rintro e w2 ⟨rfl, hb2⟩
            rw [Hct.out]
            exact ⟨rfl, hb2⟩
          have hcl : ∀ w', Bel wr w' → w'.cell? ⟨lb, lo + k, none⟩ = some (.int .i64 (u : Int)) ∧ w'.cell? ⟨lb, lo + j, none⟩ = some (.int .i64 (t : Int)) ∧ w'.cell? ⟨pb, po + u * 2, none⟩ = some (.int .i64 xu) ∧ w'.cell? ⟨pb, po + u * 2 + 1, none⟩ = some (.int .i64 yu) ∧ w'.cell? ⟨pb, po + t * 2, none⟩ = some (.int .i64 xt) ∧ w'.cell? ⟨pb, po + t * 2 + 1, none⟩ = some (.int .i64 yt) := fun w' h => ⟨bel_cellM h hlb z0, bel_cellM h hlb z1, bel_cellM h hpb p0, bel_cellM h hpb p1, bel_cellM h hpb p2, bel_cellM h hpb p3⟩
          have hwk : IntKind.i64.wrap ((j : Int) - 1) = (k : Int) := by rw [IntKind.wrap_i64]; omega
          have g0 : Bel wr wr := Bel.refl _
          clear z0 z1 p0 p1 p2 p3 hpc hIL Lu Lt hTr hBr4
          go_upto_region 20 with fail
          refine wp_region_noPanic ?_
          refine wp_region_held_drew (S := fun w' => Bel wr w') (by kernel_rfl) (Bel.drew g0) (fun hHeld => ?_)
          refine wpAnyH_take (i := 0) (oi := { dst := some 73, op := Go.Op.move (Go.Operand.tmp 3), type := 24, pos := "laws.go:481", after := #[], guard := none }) (v := ?vaf0) rfl (by kernel_rfl) (by kernel_rfl) (by kernel_rfl) (fun _ _ _ h => h) (Or.inl ⟨by rfl, ?haf0⟩) hHeld ?raf0
          case haf0 => (intro w hSw; (try dsimp only at hSw); go_simp; try with_reducible rfl)
          try simp only [Act.put, List.setIfInBounds_toArray, List.set_cons_zero, List.set_cons_succ]
          refine wpAnyH_take (i := 1) (oi := { dst := some 74, op := Go.Op.move (Go.Operand.tmp 5), type := 31, pos := "laws.go:481", after := #[], guard := none }) (v := ?vaf1) rfl (by kernel_rfl) (by kernel_rfl) (by kernel_rfl) (fun _ _ _ h => h) (Or.inl ⟨by rfl, ?haf1⟩) hHeld ?raf1
          case haf1 => (intro w hSw; (try dsimp only at hSw); go_simp; try with_reducible rfl)
          try simp only [Act.put, List.setIfInBounds_toArray, List.set_cons_zero, List.set_cons_succ]
          refine wpAnyH_take (i := 2) (oi := { dst := some 75, op := Go.Op.move (Go.Operand.tmp 8), type := 3, pos := "laws.go:481", after := #[], guard := none }) (v := ?vaf2) rfl (by kernel_rfl) (by kernel_rfl) (by kernel_rfl) (fun _ _ _ h => h) (Or.inl ⟨by rfl, ?haf2⟩) hHeld ?raf2
          case haf2 => (intro w hSw; (try dsimp only at hSw); go_simp; try with_reducible rfl)
          try simp only [Act.put, List.setIfInBounds_toArray, List.set_cons_zero, List.set_cons_succ]
          refine wpAnyH_take (i := 3) (oi := { dst := some 76, op := Go.Op.binOp Go.BinOp.sub 3 (Go.Operand.tmp 75) (Go.Operand.const (Go.Value.int Go.IntKind.i64 1)) 3, type := 3, pos := "laws.go:481", after := #[{ on := 2, ground := Go.Ground.data }], guard := none }) (v := ?vaf3) rfl (by kernel_rfl) (by kernel_rfl) (by kernel_rfl) (fun _ _ _ h => h) (Or.inl ⟨by rfl, ?haf3⟩) hHeld ?raf3
          case haf3 => (intro w hSw; (try dsimp only at hSw); go_simp; try with_reducible rfl)
          try simp only [Act.put, List.setIfInBounds_toArray, List.set_cons_zero, List.set_cons_succ]
          refine wpAnyH_take (i := 4) (oi := { dst := some 77, op := Go.Op.indexAddr 31 (Go.Operand.tmp 74) (Go.Operand.tmp 76), type := 0, pos := "laws.go:481", after := #[{ on := 1, ground := Go.Ground.data }, { on := 3, ground := Go.Ground.data }], guard := none }) (v := ?vaf4) rfl (by kernel_rfl) (by kernel_rfl) (by kernel_rfl) (fun _ _ _ h => h) (Or.inl ⟨by rfl, ?haf4⟩) hHeld ?raf4
          case haf4 => (intro w hSw; (try dsimp only at hSw); go_simp; try with_reducible rfl)
          try simp only [Act.put, List.setIfInBounds_toArray, List.set_cons_zero, List.set_cons_succ]
          refine wpAnyH_take (i := 5) (oi := { dst := some 78, op := Go.Op.load 2 (Go.Operand.tmp 77), type := 2, pos := "laws.go:481", after := #[{ on := 4, ground := Go.Ground.data }], guard := none }) (v := ?vaf5) rfl (by kernel_rfl) (by kernel_rfl) (by kernel_rfl) (fun _ _ _ h => h) (Or.inl ⟨by rfl, ?haf5⟩) hHeld ?raf5
          case haf5 => (intro w hSw; (try dsimp only at hSw); go_simp; try with_reducible rfl)
          try simp only [Act.put, List.setIfInBounds_toArray, List.set_cons_zero, List.set_cons_succ]
          refine wpAnyH_take (i := 6) (oi := { dst := some 79, op := Go.Op.indexAddr 24 (Go.Operand.tmp 73) (Go.Operand.tmp 78), type := 0, pos := "laws.go:481", after := #[{ on := 0, ground := Go.Ground.data }, { on := 5, ground := Go.Ground.data }], guard := none }) (v := ?vaf6) rfl (by kernel_rfl) (by kernel_rfl) (by kernel_rfl) (fun _ _ _ h => h) (Or.inl ⟨by rfl, ?haf6⟩) hHeld ?raf6
          case haf6 => (intro w hSw; (try dsimp only at hSw); go_simp; try with_reducible rfl)
          try simp only [Act.put, List.setIfInBounds_toArray, List.set_cons_zero, List.set_cons_succ]
          refine wpAnyH_take (i := 7) (oi := { dst := some 80, op := Go.Op.load 26 (Go.Operand.tmp 79), type := 26, pos := "laws.go:481", after := #[{ on := 6, ground := Go.Ground.data }], guard := none }) (v := ?vaf7) rfl (by kernel_rfl) (by kernel_rfl) (by kernel_rfl) (fun _ _ _ h => h) (Or.inl ⟨by rfl, ?haf7⟩) hHeld ?raf7
          case haf7 => (intro w hSw; (try dsimp only at hSw); go_simp; try with_reducible rfl)
          try simp only [Act.put, List.setIfInBounds_toArray, List.set_cons_zero, List.set_cons_succ]
          refine wpAnyH_take (i := 9) (oi := { dst := some 82, op := Go.Op.move (Go.Operand.tmp 3), type := 24, pos := "laws.go:481", after := #[], guard := none }) (v := ?vaf9) rfl (by kernel_rfl) (by kernel_rfl) (by kernel_rfl) (fun _ _ _ h => h) (Or.inl ⟨by rfl, ?haf9⟩) hHeld ?raf9
          case haf9 => (intro w hSw; (try dsimp only at hSw); go_simp; try with_reducible rfl)
          try simp only [Act.put, List.setIfInBounds_toArray, List.set_cons_zero, List.set_cons_succ]
          refine wpAnyH_take (i := 10) (oi := { dst := some 83, op := Go.Op.move (Go.Operand.tmp 5), type := 31, pos := "laws.go:481", after := #[], guard := none }) (v := ?vaf10) rfl (by kernel_rfl) (by kernel_rfl) (by kernel_rfl) (fun _ _ _ h => h) (Or.inl ⟨by rfl, ?haf10⟩) hHeld ?raf10
          case haf10 => (intro w hSw; (try dsimp only at hSw); go_simp; try with_reducible rfl)
          try simp only [Act.put, List.setIfInBounds_toArray, List.set_cons_zero, List.set_cons_succ]
          refine wpAnyH_take (i := 11) (oi := { dst := some 84, op := Go.Op.move (Go.Operand.tmp 8), type := 3, pos := "laws.go:481", after := #[], guard := none }) (v := ?vaf11) rfl (by kernel_rfl) (by kernel_rfl) (by kernel_rfl) (fun _ _ _ h => h) (Or.inl ⟨by rfl, ?haf11⟩) hHeld ?raf11
          case haf11 => (intro w hSw; (try dsimp only at hSw); go_simp; try with_reducible rfl)
          try simp only [Act.put, List.setIfInBounds_toArray, List.set_cons_zero, List.set_cons_succ]
          refine wpAnyH_take (i := 12) (oi := { dst := some 85, op := Go.Op.indexAddr 31 (Go.Operand.tmp 83) (Go.Operand.tmp 84), type := 0, pos := "laws.go:481", after := #[{ on := 10, ground := Go.Ground.data }, { on := 11, ground := Go.Ground.data }], guard := none }) (v := ?vaf12) rfl (by kernel_rfl) (by kernel_rfl) (by kernel_rfl) (fun _ _ _ h => h) (Or.inl ⟨by rfl, ?haf12⟩) hHeld ?raf12
          case haf12 => (intro w hSw; (try dsimp only at hSw); go_simp; try with_reducible rfl)
          try simp only [Act.put, List.setIfInBounds_toArray, List.set_cons_zero, List.set_cons_succ]
          refine wpAnyH_take (i := 13) (oi := { dst := some 86, op := Go.Op.load 2 (Go.Operand.tmp 85), type := 2, pos := "laws.go:481", after := #[{ on := 12, ground := Go.Ground.data }], guard := none }) (v := ?vaf13) rfl (by kernel_rfl) (by kernel_rfl) (by kernel_rfl) (fun _ _ _ h => h) (Or.inl ⟨by rfl, ?haf13⟩) hHeld ?raf13
          case haf13 => (intro w hSw; (try dsimp only at hSw); go_simp; try with_reducible rfl)
          try simp only [Act.put, List.setIfInBounds_toArray, List.set_cons_zero, List.set_cons_succ]
          refine wpAnyH_take (i := 14) (oi := { dst := some 87, op := Go.Op.indexAddr 24 (Go.Operand.tmp 82) (Go.Operand.tmp 86), type := 0, pos := "laws.go:481", after := #[{ on := 9, ground := Go.Ground.data }, { on := 13, ground := Go.Ground.data }], guard := none }) (v := ?vaf14) rfl (by kernel_rfl) (by kernel_rfl) (by kernel_rfl) (fun _ _ _ h => h) (Or.inl ⟨by rfl, ?haf14⟩) hHeld ?raf14
          case haf14 => (intro w hSw; (try dsimp only at hSw); go_simp; try with_reducible rfl)
          try simp only [Act.put, List.setIfInBounds_toArray, List.set_cons_zero, List.set_cons_succ]
          refine wpAnyH_take (i := 15) (oi := { dst := some 88, op := Go.Op.load 26 (Go.Operand.tmp 87), type := 26, pos := "laws.go:481", after := #[{ on := 14, ground := Go.Ground.data }], guard := none }) (v := ?vaf15) rfl (by kernel_rfl) (by kernel_rfl) (by kernel_rfl) (fun _ _ _ h => h) (Or.inl ⟨by rfl, ?haf15⟩) hHeld ?raf15
          case haf15 => (intro w hSw; (try dsimp only at hSw); go_simp; try with_reducible rfl)
          try simp only [Act.put, List.setIfInBounds_toArray, List.set_cons_zero, List.set_cons_succ]
          refine wpAnyH_ready (rs := [8]) (by kernel_rfl) (by simp) ?_
          refine AllReadyH.cons (o := { dst := some 81, op := Go.Op.call { callee := Go.Callee.value (Go.Operand.func 11), args := #[Go.Operand.tmp 80], argTypes := #[26] }, type := 37, pos := "laws.go:481", after := #[{ on := 7, ground := Go.Ground.data }], guard := none }) rfl (fun K hK => ?_) AllReadyH.nil
          go_simp
          refine (hC1 _ hHeld).mono ?_
          rintro e w6 ⟨rfl, hb6⟩
          go_wp2_with fail
          refine hK.out _ _ (bel_step hHeld hb6) (fun hHeld' => ?_)
          clear hK K hHeld
          have hHeld := hHeld'
          clear hHeld'
          try simp only [Act.put, List.setIfInBounds_toArray, List.set_cons_zero, List.set_cons_succ]
          refine wpAnyH_ready (rs := [16]) (by kernel_rfl) (by simp) ?_
          refine AllReadyH.cons (o := { dst := some 89, op := Go.Op.call { callee := Go.Callee.value (Go.Operand.func 11), args := #[Go.Operand.tmp 88], argTypes := #[26] }, type := 37, pos := "laws.go:481", after := #[{ on := 15, ground := Go.Ground.data }, { on := 8, ground := Go.Ground.chain }], guard := none }) rfl (fun K hK => ?_) AllReadyH.nil
          go_simp
          refine (hC2 _ hHeld).mono ?_
          rintro e w6 ⟨rfl, hb6⟩
          go_wp2_with fail
          refine hK.out _ _ (bel_step hHeld hb6) (fun hHeld' => ?_)
          clear hK K hHeld
          have hHeld := hHeld'
          clear hHeld'
          try simp only [Act.put, List.setIfInBounds_toArray, List.set_cons_zero, List.set_cons_succ]
          refine wpAnyH_take (i := 17) (oi := { dst := some 90, op := Go.Op.binOp Go.BinOp.gtr 37 (Go.Operand.tmp 81) (Go.Operand.tmp 89) 37, type := 4, pos := "laws.go:481", after := #[{ on := 8, ground := Go.Ground.data }, { on := 16, ground := Go.Ground.data }], guard := none }) (v := ?vaf17) rfl (by kernel_rfl) (by kernel_rfl) (by kernel_rfl) (fun _ _ _ h => h) (Or.inl ⟨by rfl, ?haf17⟩) hHeld ?raf17
          case haf17 => (intro w hSw; (try dsimp only at hSw); go_simp; try with_reducible rfl)
          try simp only [Act.put, List.setIfInBounds_toArray, List.set_cons_zero, List.set_cons_succ]
          refine wpAnyH_done (by kernel_rfl) ?_ _
          refine NoPanic.normal ?_
          have hB9 := bel_step hBr hHeld
          clear hC1 hC2 hcl hHeld g0 hwk
          go_wp2
          go_roundw
          case rel => exact ⟨j, by omega, by go_num, hB9⟩
          case measure => simp [intOf]; omega
        · have hl1 : decide ((j : Int) < (g : Int)) = false := by simp only [decide_eq_false_iff_not]; omega
          have HBr : Hid (Bel w4 wr) := bel_step HBo.out hBr
          obtain ⟨w5, ho⟩ : ∃ V, V = wr := ⟨_, rfl⟩
          subst ho
          have hS5 := HSB.out.bel (bel_step HB4.out HBr.out)
          clear hBr HBo
          go_wp2_with fail
          refine (drawNearest_any a n0 c0 w5 hS5 hn0).mono ?_
          rintro e w6 ⟨v6, n, xs, px, py, kk, rfl, hn, hkk, hO, hX, hB6⟩
          obtain ⟨na, nc, X', Y', rfl, _, hP6⟩ := own_pts hO hX
          clear hO hX xs hS5
          obtain ⟨U, HU⟩ : ∃ U, Hid (U = w6.alloc (.cells #[.int .i64 px, .int .i64 py] 26)) := ⟨_, (rfl : w6.alloc (.cells #[.int .i64 px, .int .i64 py] 26) = _)⟩
          have hbU : Bel w6 U := by rw [HU.out]; exact bel_alloc (Bel.refl _) _
          have XU : Blk U w6.heap.size [.int .i64 px, .int .i64 py] := by rw [HU.out]; exact Blk.new w6 [.int .i64 px, .int .i64 py] _
          have HPU : Hid (Pts U na n X' Y') := hP6.bel hbU
          have hk64 : In64 kk := ⟨by omega, by omega⟩
          obtain ⟨hk1, hk2⟩ := hkk
          go_wp2_with fail
          rw [← HU.out]
          refine (nearest_any na n nc X' Y' px py kk U HPU.out (by omega) hk64).mono ?_
          rintro e w7 ⟨v7, M, rfl, hO7, hM, hb7⟩
          obtain ⟨aM, cM, bM, rfl, hIM, _, _⟩ := hO7
          obtain ⟨B', HB'⟩ : ∃ x, Hid (w6.heap.size = x) := ⟨_, (rfl : w6.heap.size = _)⟩
          have X7 := XU.bel hb7
          rw [HB'.out] at X7 ⊢
          have HX7 : Hid (∀ w', Bel w7 w' → w'.cell? ⟨B', 0, none⟩ = some (.int .i64 px) ∧ w'.cell? ⟨B', 1, none⟩ = some (.int .i64 py)) := fun w' h => ⟨(X7.bel h).cell 0 (by simp), (X7.bel h).cell 1 (by simp)⟩
          obtain ⟨x0, x1⟩ := HX7.out _ (Bel.refl _)
          obtain ⟨r, Hr⟩ : ∃ x, Hid (M.length = x) := ⟨_, (rfl : M.length = _)⟩
          have hr : r ≤ n := by rw [← Hr.out]; exact hM.len
          rw [Hr.out]
          have HM : Hid (NstL n X' Y' px py kk M) := hM
          have HP7 : Hid (Pts w7 na n X' Y') := HPU.out.bel hb7
          have HI7 : Hid (Ints w7 aM M bM) := hIM
          have HB7 : Hid (Bel w w7) := bel_step (bel_step HB4.out HBr.out) (bel_step hB6 (bel_step hbU hb7))
          clear hP6 hbU XU HPU hb7 X7 hM hIM hB6 HU HB' HBr HX4 HF1 HF2 HF3 HI4 HP4
          go_wp2_with fail
          refine (specNearest_any na n nc X' Y' px py kk w7 HP7.out (by omega) hk64).mono ?_
          rintro e w8 ⟨v8, M8, rfl, hO8, hM8, hb8⟩
          have hMM := hM8.one HM.out
          subst hMM
          obtain ⟨a8, c8, rfl⟩ := ownI_form hO8
          rw [Hr.out]
          have HI8 : Hid (Ints w8 aM M8 bM) := HI7.out.bel intE hb8
          have HP8 : Hid (Pts w8 na n X' Y') := HP7.out.bel hb8
          have HB8 : Hid (Bel w w8) := bel_step HB7.out hb8
          have HX8 : Hid (∀ w', Bel w8 w' → w'.cell? ⟨B', 0, none⟩ = some (.int .i64 px) ∧ w'.cell? ⟨B', 1, none⟩ = some (.int .i64 py)) := fun w' h => HX7.out w' (bel_step hb8 h)
          have hrr : ((r : Int) != (r : Int)) = false := by simp
          clear HI7 HP7 HB7 HX7 hO8 hM8 hb8 hk64 x0 x1
          go_wp2
          go_loopw [13, 14] (fun ix _ wr => ∃ i : Nat, i ≤ r ∧ ix = .int .i64 i ∧ Bel w8 wr) (fun ix _ _ => r - (intOf ix).toNat)
          case atStart => exact ⟨0, Nat.zero_le _, rfl, Bel.refl _⟩
          case round =>
            obtain ⟨s, hs, rfl, hBo⟩ := hrel
            obtain ⟨wo, ho⟩ : ∃ V, V = wr := ⟨_, rfl⟩
            subst ho
            by_cases hlt3 : s < r
            · have hls : (s : Int) < (r : Int) := by omega
              have hsl : s < M8.length := by rw [Hr.out]; exact hlt3
              obtain ⟨f0, f1, f2, f3, f4⟩ := HM.out.facts (by omega)
              have HF0 : Hid (POk px py) := f0
              have HF1 : Hid (∀ i, i < n → POk (X' i) (Y' i)) := f1
              have HF2 : Hid (∀ t (h : t < M8.length), ∃ i : Nat, i < n ∧ M8[t] = (i : Int)) := f2
              have HF3 : Hid (∀ (t i j : Nat) (ht : t + 1 < M8.length), M8[t]'(Nat.lt_of_succ_lt ht) = (i : Int) → M8[t + 1] = (j : Int) → dsq px py (X' i) (Y' i) ≤ dsq px py (X' j) (Y' j)) := f3
              have HF4 : Hid (∀ (j t i : Nat), j < n → decide ((j : Int) ∈ M8) = false → (ht : t < M8.length) → M8[t] = (i : Int) → dsq px py (X' i) (Y' i) ≤ dsq px py (X' j) (Y' j)) := f4
              clear f0 f1 f2 f3 f4
              obtain ⟨u, hu, Lu⟩ := HF2.out s hsl
              have HLu : Hid (M8[s] = (u : Int)) := Lu
              clear Lu
              go_wp2
              go_loopw [14] (fun jx wr => ∃ j : Nat, j ≤ n ∧ jx = .int .i64 j ∧ Bel w8 wr) (fun jx _ => n - (intOf jx).toNat)
              case atStart => exact ⟨0, Nat.zero_le _, rfl, hBo⟩
              case round =>
                obtain ⟨t, ht, rfl, hBr⟩ := hrel
                by_cases hlt4 : t < n
                · have hlt' : (t : Int) < (n : Int) := by omega
                  have hun : (u : Int) < (n : Int) := by omega
                  have g0 : Bel wr wr := Bel.refl _
                  have hIL := HI8.out.bel intE hBr
                  have hHs0 : ∀ w', Bel wr w' → Calls Tryd.prog 10 #[.slice aM r cM, .int .i64 (t : Int)] w' fun e w2 => e = .returned (.bool (decide ((t : Int) ∈ M8))) ∧ Bel w' w2 := fun w' h => by
                    refine (lawHas_any aM r cM M8 bM t w' (hIL.bel intE h) Hr.out (by omega)).mono ?_
                    rintro e w2 ⟨rfl, rfl⟩
                    exact ⟨rfl, Bel.refl _⟩
                  obtain ⟨lb, lo, f, rfl, hlb, _⟩ := hIL.out hsl
                  have z0 := (int_k hIL hsl).2
                  rw [HLu.out] at z0
                  obtain ⟨pb, po, rfl, hpb, hpc⟩ := (HP8.out.bel hBr).some hu
                  obtain ⟨p0, p1⟩ := hpc u hu
                  obtain ⟨p2, p3⟩ := hpc t hlt4
                  have HPC : Hid (∀ i, i < n → wr.cell? ⟨pb, po + i * 2, none⟩ = some (.int .i64 (X' i)) ∧ wr.cell? ⟨pb, po + i * 2 + 1, none⟩ = some (.int .i64 (Y' i))) := hpc
                  obtain ⟨xu, Hxu⟩ : ∃ x, Hid (X' u = x) := ⟨_, (rfl : X' u = _)⟩
                  obtain ⟨yu, Hyu⟩ : ∃ x, Hid (Y' u = x) := ⟨_, (rfl : Y' u = _)⟩
                  obtain ⟨xt, Hxt⟩ : ∃ x, Hid (X' t = x) := ⟨_, (rfl : X' t = _)⟩
                  obtain ⟨yt, Hyt⟩ : ∃ x, Hid (Y' t = x) := ⟨_, (rfl : Y' t = _)⟩
                  rw [Hxu.out] at p0
                  rw [Hyu.out] at p1
                  rw [Hxt.out] at p2
                  rw [Hyt.out] at p3
                  obtain ⟨du, Hdu⟩ : ∃ x, Hid (dsq px py xu yu = x) := ⟨_, (rfl : dsq px py xu yu = _)⟩
                  obtain ⟨dt, Hdt⟩ : ∃ x, Hid (dsq px py xt yt = x) := ⟨_, (rfl : dsq px py xt yt = _)⟩
                  have HKu : Hid (POk xu yu) := by have := HF1.out u hu; rw [Hxu.out, Hyu.out] at this; exact this
                  have HKt : Hid (POk xt yt) := by have := HF1.out t hlt4; rw [Hxt.out, Hyt.out] at this; exact this
                  have hQu : ∀ w', Bel wr w' → Calls Tryd.prog 15 #[.agg #[.int .i64 xu, .int .i64 yu], .agg #[.int .i64 px, .int .i64 py]] w' fun e w2 => e = .returned (.int .i64 du) ∧ Bel w' w2 := fun w' _ => by
                    refine (lawSquare_any xu yu px py w' HKu.out HF0.out).mono ?_
                    rintro e w2 ⟨rfl, hb2⟩
                    rw [Hdu.out]
                    exact ⟨rfl, hb2⟩
                  have hQt : ∀ w', Bel wr w' → Calls Tryd.prog 15 #[.agg #[.int .i64 xt, .int .i64 yt], .agg #[.int .i64 px, .int .i64 py]] w' fun e w2 => e = .returned (.int .i64 dt) ∧ Bel w' w2 := fun w' _ => by
                    refine (lawSquare_any xt yt px py w' HKt.out HF0.out).mono ?_
                    rintro e w2 ⟨rfl, hb2⟩
                    rw [Hdt.out]
                    exact ⟨rfl, hb2⟩
                  have hcl : ∀ w', Bel wr w' → w'.cell? ⟨B', 0, none⟩ = some (.int .i64 px) ∧ w'.cell? ⟨B', 1, none⟩ = some (.int .i64 py) ∧ w'.cell? ⟨lb, lo + s, none⟩ = some (.int .i64 (u : Int)) ∧ w'.cell? ⟨pb, po + u * 2, none⟩ = some (.int .i64 xu) ∧ w'.cell? ⟨pb, po + u * 2 + 1, none⟩ = some (.int .i64 yu) ∧ w'.cell? ⟨pb, po + t * 2, none⟩ = some (.int .i64 xt) ∧ w'.cell? ⟨pb, po + t * 2 + 1, none⟩ = some (.int .i64 yt) := fun w' h => ⟨(HX8.out w' (bel_step hBr h)).1, (HX8.out w' (bel_step hBr h)).2, bel_cellM h hlb z0, bel_cellM h hpb p0, bel_cellM h hpb p1, bel_cellM h hpb p2, bel_cellM h hpb p3⟩
                  clear z0 p0 p1 p2 p3 hpc
                  cases hMt : decide ((t : Int) ∈ M8)
                  · have hdd : decide (dt < du) = false := by
                      have := HF4.out t s u hlt4 hMt hsl HLu.out
                      rw [Hxu.out, Hyu.out, Hxt.out, Hyt.out, Hdu.out, Hdt.out] at this
                      simp only [decide_eq_false_iff_not]; omega
                    rw [hMt] at hHs0
                    clear hMt
                    by_cases hs0 : s = 0
                    · have hz1 : decide ((0 : Int) < (s : Int)) = false := by simp only [decide_eq_false_iff_not]; omega
                      have hz2 : ¬ 0 < s := by omega
                      have hz3 : decide (0 < s) = false := by simp only [hz2, decide_false]
                      clear hIL hs0
                      go_upto_region 32 with fail
                      refine wp_region_noPanic ?_
                      refine wp_region_held_drew (S := fun w' => Bel wr w') (by kernel_rfl) (Bel.drew g0) (fun hHeld => ?_)
                      refine wpAnyH_take (i := 0) (oi := { dst := some 121, op := Go.Op.move (Go.Operand.tmp 12), type := 31, pos := "laws.go:492", after := #[], guard := none }) (v := ?vag0) rfl (by kernel_rfl) (by kernel_rfl) (by kernel_rfl) (fun _ _ _ h => h) (Or.inl ⟨by rfl, ?hag0⟩) hHeld ?rag0
                      case hag0 => (intro w hSw; (try dsimp only at hSw); go_simp; try with_reducible rfl)
                      try simp only [Act.put, List.setIfInBounds_toArray, List.set_cons_zero, List.set_cons_succ]
                      refine wpAnyH_take (i := 1) (oi := { dst := some 122, op := Go.Op.move (Go.Operand.tmp 14), type := 3, pos := "laws.go:492", after := #[], guard := none }) (v := ?vag1) rfl (by kernel_rfl) (by kernel_rfl) (by kernel_rfl) (fun _ _ _ h => h) (Or.inl ⟨by rfl, ?hag1⟩) hHeld ?rag1
                      case hag1 => (intro w hSw; (try dsimp only at hSw); go_simp; try with_reducible rfl)
                      try simp only [Act.put, List.setIfInBounds_toArray, List.set_cons_zero, List.set_cons_succ]
                      refine wpAnyH_ready (rs := [2]) (by kernel_rfl) (by simp) ?_
                      refine AllReadyH.cons (o := { dst := some 123, op := Go.Op.call { callee := Go.Callee.value (Go.Operand.func 10), args := #[Go.Operand.tmp 121, Go.Operand.tmp 122], argTypes := #[31, 2] }, type := 4, pos := "laws.go:492", after := #[{ on := 0, ground := Go.Ground.data }, { on := 1, ground := Go.Ground.data }], guard := none }) rfl (fun K hK => ?_) AllReadyH.nil
                      go_simp
                      refine (hHs0 _ hHeld).mono ?_
                      rintro e w6 ⟨rfl, hb6⟩
                      go_wp2_with fail
                      refine hK.out _ _ (bel_step hHeld hb6) (fun hHeld' => ?_)
                      clear hK K hHeld
                      have hHeld := hHeld'
                      clear hHeld'
                      try simp only [Act.put, List.setIfInBounds_toArray, List.set_cons_zero, List.set_cons_succ]
                      refine wpAnyH_take (i := 3) (oi := { dst := some 124, op := Go.Op.unOp Go.UnOp.not 4 (Go.Operand.tmp 123), type := 4, pos := "laws.go:492", after := #[{ on := 2, ground := Go.Ground.data }], guard := none }) (v := ?vag3) rfl (by kernel_rfl) (by kernel_rfl) (by kernel_rfl) (fun _ _ _ h => h) (Or.inl ⟨by rfl, ?hag3⟩) hHeld ?rag3
                      case hag3 => (intro w hSw; (try dsimp only at hSw); go_simp; try with_reducible rfl)
                      try simp only [Act.put, List.setIfInBounds_toArray, List.set_cons_zero, List.set_cons_succ]
                      refine wpAnyH_take (i := 4) (oi := { dst := some 125, op := Go.Op.move (Go.Operand.tmp 124), type := 4, pos := "laws.go:492", after := #[{ on := 3, ground := Go.Ground.data }, { on := 2, ground := Go.Ground.chain }], guard := none }) (v := ?vag4) rfl (by kernel_rfl) (by kernel_rfl) (by kernel_rfl) (fun _ _ _ h => h) (Or.inl ⟨by rfl, ?hag4⟩) hHeld ?rag4
                      case hag4 => (intro w hSw; (try dsimp only at hSw); go_simp; try with_reducible rfl)
                      try simp only [Act.put, List.setIfInBounds_toArray, List.set_cons_zero, List.set_cons_succ]
                      refine wpAnyH_take (i := 5) (oi := { dst := some 126, op := Go.Op.move (Go.Operand.tmp 9), type := 24, pos := "laws.go:492", after := #[{ on := 4, ground := Go.Ground.guard }], guard := some (4, true) }) (v := ?vag5) rfl (by kernel_rfl) (by kernel_rfl) (by kernel_rfl) (fun _ _ _ h => h) (Or.inl ⟨by rfl, ?hag5⟩) hHeld ?rag5
                      case hag5 => (intro w hSw; (try dsimp only at hSw); go_simp; try with_reducible rfl)
                      try simp only [Act.put, List.setIfInBounds_toArray, List.set_cons_zero, List.set_cons_succ]
                      refine wpAnyH_take (i := 6) (oi := { dst := some 127, op := Go.Op.move (Go.Operand.tmp 14), type := 3, pos := "laws.go:492", after := #[{ on := 4, ground := Go.Ground.guard }], guard := some (4, true) }) (v := ?vag6) rfl (by kernel_rfl) (by kernel_rfl) (by kernel_rfl) (fun _ _ _ h => h) (Or.inl ⟨by rfl, ?hag6⟩) hHeld ?rag6
                      case hag6 => (intro w hSw; (try dsimp only at hSw); go_simp; try with_reducible rfl)
                      try simp only [Act.put, List.setIfInBounds_toArray, List.set_cons_zero, List.set_cons_succ]
                      refine wpAnyH_take (i := 7) (oi := { dst := some 128, op := Go.Op.indexAddr 24 (Go.Operand.tmp 126) (Go.Operand.tmp 127), type := 0, pos := "laws.go:492", after := #[{ on := 5, ground := Go.Ground.data }, { on := 6, ground := Go.Ground.data }, { on := 4, ground := Go.Ground.guard }], guard := some (4, true) }) (v := ?vag7) rfl (by kernel_rfl) (by kernel_rfl) (by kernel_rfl) (fun _ _ _ h => h) (Or.inl ⟨by rfl, ?hag7⟩) hHeld ?rag7
                      case hag7 => (intro w hSw; (try dsimp only at hSw); go_simp; try with_reducible rfl)
                      try simp only [Act.put, List.setIfInBounds_toArray, List.set_cons_zero, List.set_cons_succ]
                      refine wpAnyH_take (i := 8) (oi := { dst := some 129, op := Go.Op.load 26 (Go.Operand.tmp 128), type := 26, pos := "laws.go:492", after := #[{ on := 7, ground := Go.Ground.data }, { on := 4, ground := Go.Ground.guard }], guard := some (4, true) }) (v := ?vag8) rfl (by kernel_rfl) (by kernel_rfl) (by kernel_rfl) (fun _ _ _ h => h) (Or.inl ⟨by rfl, ?hag8⟩) hHeld ?rag8
                      case hag8 => (intro w hSw; (try dsimp only at hSw); go_simp; try with_reducible rfl)
                      try simp only [Act.put, List.setIfInBounds_toArray, List.set_cons_zero, List.set_cons_succ]
                      refine wpAnyH_take (i := 9) (oi := { dst := some 130, op := Go.Op.load 26 (Go.Operand.tmp 10), type := 26, pos := "laws.go:492", after := #[{ on := 4, ground := Go.Ground.guard }], guard := some (4, true) }) (v := ?vag9) rfl (by kernel_rfl) (by kernel_rfl) (by kernel_rfl) (fun _ _ _ h => h) (Or.inl ⟨by rfl, ?hag9⟩) hHeld ?rag9
                      case hag9 => (intro w hSw; (try dsimp only at hSw); go_simp; try with_reducible rfl)
                      try simp only [Act.put, List.setIfInBounds_toArray, List.set_cons_zero, List.set_cons_succ]
                      refine wpAnyH_take (i := 11) (oi := { dst := some 132, op := Go.Op.move (Go.Operand.tmp 9), type := 24, pos := "laws.go:492", after := #[{ on := 4, ground := Go.Ground.guard }], guard := some (4, true) }) (v := ?vag11) rfl (by kernel_rfl) (by kernel_rfl) (by kernel_rfl) (fun _ _ _ h => h) (Or.inl ⟨by rfl, ?hag11⟩) hHeld ?rag11
                      case hag11 => (intro w hSw; (try dsimp only at hSw); go_simp; try with_reducible rfl)
                      try simp only [Act.put, List.setIfInBounds_toArray, List.set_cons_zero, List.set_cons_succ]
                      refine wpAnyH_take (i := 12) (oi := { dst := some 133, op := Go.Op.move (Go.Operand.tmp 12), type := 31, pos := "laws.go:492", after := #[{ on := 4, ground := Go.Ground.guard }], guard := some (4, true) }) (v := ?vag12) rfl (by kernel_rfl) (by kernel_rfl) (by kernel_rfl) (fun _ _ _ h => h) (Or.inl ⟨by rfl, ?hag12⟩) hHeld ?rag12
                      case hag12 => (intro w hSw; (try dsimp only at hSw); go_simp; try with_reducible rfl)
                      try simp only [Act.put, List.setIfInBounds_toArray, List.set_cons_zero, List.set_cons_succ]
                      refine wpAnyH_take (i := 13) (oi := { dst := some 134, op := Go.Op.move (Go.Operand.tmp 13), type := 3, pos := "laws.go:492", after := #[{ on := 4, ground := Go.Ground.guard }], guard := some (4, true) }) (v := ?vag13) rfl (by kernel_rfl) (by kernel_rfl) (by kernel_rfl) (fun _ _ _ h => h) (Or.inl ⟨by rfl, ?hag13⟩) hHeld ?rag13
                      case hag13 => (intro w hSw; (try dsimp only at hSw); go_simp; try with_reducible rfl)
                      try simp only [Act.put, List.setIfInBounds_toArray, List.set_cons_zero, List.set_cons_succ]
                      refine wpAnyH_take (i := 14) (oi := { dst := some 135, op := Go.Op.indexAddr 31 (Go.Operand.tmp 133) (Go.Operand.tmp 134), type := 0, pos := "laws.go:492", after := #[{ on := 12, ground := Go.Ground.data }, { on := 13, ground := Go.Ground.data }, { on := 4, ground := Go.Ground.guard }], guard := some (4, true) }) (v := ?vag14) rfl (by kernel_rfl) (by kernel_rfl) (by kernel_rfl) (fun _ _ _ h => h) (Or.inl ⟨by rfl, ?hag14⟩) hHeld ?rag14
                      case hag14 => (intro w hSw; (try dsimp only at hSw); go_simp; try with_reducible rfl)
                      try simp only [Act.put, List.setIfInBounds_toArray, List.set_cons_zero, List.set_cons_succ]
                      refine wpAnyH_take (i := 15) (oi := { dst := some 136, op := Go.Op.load 2 (Go.Operand.tmp 135), type := 2, pos := "laws.go:492", after := #[{ on := 14, ground := Go.Ground.data }, { on := 4, ground := Go.Ground.guard }], guard := some (4, true) }) (v := ?vag15) rfl (by kernel_rfl) (by kernel_rfl) (by kernel_rfl) (fun _ _ _ h => h) (Or.inl ⟨by rfl, ?hag15⟩) hHeld ?rag15
                      case hag15 => (intro w hSw; (try dsimp only at hSw); go_simp; try with_reducible rfl)
                      try simp only [Act.put, List.setIfInBounds_toArray, List.set_cons_zero, List.set_cons_succ]
                      refine wpAnyH_take (i := 16) (oi := { dst := some 137, op := Go.Op.indexAddr 24 (Go.Operand.tmp 132) (Go.Operand.tmp 136), type := 0, pos := "laws.go:492", after := #[{ on := 11, ground := Go.Ground.data }, { on := 15, ground := Go.Ground.data }, { on := 4, ground := Go.Ground.guard }], guard := some (4, true) }) (v := ?vag16) rfl (by kernel_rfl) (by kernel_rfl) (by kernel_rfl) (fun _ _ _ h => h) (Or.inl ⟨by rfl, ?hag16⟩) hHeld ?rag16
                      case hag16 => (intro w hSw; (try dsimp only at hSw); go_simp; try with_reducible rfl)
                      try simp only [Act.put, List.setIfInBounds_toArray, List.set_cons_zero, List.set_cons_succ]
                      refine wpAnyH_take (i := 17) (oi := { dst := some 138, op := Go.Op.load 26 (Go.Operand.tmp 137), type := 26, pos := "laws.go:492", after := #[{ on := 16, ground := Go.Ground.data }, { on := 4, ground := Go.Ground.guard }], guard := some (4, true) }) (v := ?vag17) rfl (by kernel_rfl) (by kernel_rfl) (by kernel_rfl) (fun _ _ _ h => h) (Or.inl ⟨by rfl, ?hag17⟩) hHeld ?rag17
                      case hag17 => (intro w hSw; (try dsimp only at hSw); go_simp; try with_reducible rfl)
                      try simp only [Act.put, List.setIfInBounds_toArray, List.set_cons_zero, List.set_cons_succ]
                      refine wpAnyH_take (i := 18) (oi := { dst := some 139, op := Go.Op.load 26 (Go.Operand.tmp 10), type := 26, pos := "laws.go:492", after := #[{ on := 4, ground := Go.Ground.guard }], guard := some (4, true) }) (v := ?vag18) rfl (by kernel_rfl) (by kernel_rfl) (by kernel_rfl) (fun _ _ _ h => h) (Or.inl ⟨by rfl, ?hag18⟩) hHeld ?rag18
                      case hag18 => (intro w hSw; (try dsimp only at hSw); go_simp; try with_reducible rfl)
                      try simp only [Act.put, List.setIfInBounds_toArray, List.set_cons_zero, List.set_cons_succ]
                      refine wpAnyH_ready (rs := [10]) (by kernel_rfl) (by simp) ?_
                      refine AllReadyH.cons (o := { dst := some 131, op := Go.Op.call { callee := Go.Callee.value (Go.Operand.func 15), args := #[Go.Operand.tmp 129, Go.Operand.tmp 130], argTypes := #[26, 26] }, type := 2, pos := "laws.go:492", after := #[{ on := 8, ground := Go.Ground.data }, { on := 9, ground := Go.Ground.data }, { on := 4, ground := Go.Ground.chain }, { on := 4, ground := Go.Ground.guard }], guard := some (4, true) }) rfl (fun K hK => ?_) AllReadyH.nil
                      go_simp
                      refine (hQt _ hHeld).mono ?_
                      rintro e w6 ⟨rfl, hb6⟩
                      go_wp2_with fail
                      refine hK.out _ _ (bel_step hHeld hb6) (fun hHeld' => ?_)
                      clear hK K hHeld
                      have hHeld := hHeld'
                      clear hHeld'
                      try simp only [Act.put, List.setIfInBounds_toArray, List.set_cons_zero, List.set_cons_succ]
                      refine wpAnyH_ready (rs := [19]) (by kernel_rfl) (by simp) ?_
                      refine AllReadyH.cons (o := { dst := some 140, op := Go.Op.call { callee := Go.Callee.value (Go.Operand.func 15), args := #[Go.Operand.tmp 138, Go.Operand.tmp 139], argTypes := #[26, 26] }, type := 2, pos := "laws.go:492", after := #[{ on := 17, ground := Go.Ground.data }, { on := 18, ground := Go.Ground.data }, { on := 10, ground := Go.Ground.chain }, { on := 4, ground := Go.Ground.guard }], guard := some (4, true) }) rfl (fun K hK => ?_) AllReadyH.nil
                      go_simp
                      refine (hQu _ hHeld).mono ?_
                      rintro e w6 ⟨rfl, hb6⟩
                      go_wp2_with fail
                      refine hK.out _ _ (bel_step hHeld hb6) (fun hHeld' => ?_)
                      clear hK K hHeld
                      have hHeld := hHeld'
                      clear hHeld'
                      try simp only [Act.put, List.setIfInBounds_toArray, List.set_cons_zero, List.set_cons_succ]
                      refine wpAnyH_take (i := 20) (oi := { dst := some 141, op := Go.Op.binOp Go.BinOp.lss 2 (Go.Operand.tmp 131) (Go.Operand.tmp 140) 2, type := 4, pos := "laws.go:492", after := #[{ on := 10, ground := Go.Ground.data }, { on := 19, ground := Go.Ground.data }, { on := 4, ground := Go.Ground.guard }], guard := some (4, true) }) (v := ?vag20) rfl (by kernel_rfl) (by kernel_rfl) (by kernel_rfl) (fun _ _ _ h => h) (Or.inl ⟨by rfl, ?hag20⟩) hHeld ?rag20
                      case hag20 => (intro w hSw; (try dsimp only at hSw); go_simp; try with_reducible rfl)
                      try simp only [Act.put, List.setIfInBounds_toArray, List.set_cons_zero, List.set_cons_succ]
                      refine wpAnyH_take (i := 21) (oi := { dst := some 142, op := Go.Op.pick (Go.Operand.tmp 125) (Go.Operand.tmp 141) (Go.Operand.const (Go.Value.bool false)), type := 4, pos := "laws.go:492", after := #[{ on := 4, ground := Go.Ground.data }, { on := 20, ground := Go.Ground.data }], guard := none }) (v := ?vag21) rfl (by kernel_rfl) (by kernel_rfl) (by kernel_rfl) (fun _ _ _ h => h) (Or.inl ⟨by rfl, ?hag21⟩) hHeld ?rag21
                      case hag21 => (intro w hSw; (try dsimp only at hSw); go_simp; try with_reducible rfl)
                      try simp only [Act.put, List.setIfInBounds_toArray, List.set_cons_zero, List.set_cons_succ]
                      refine wpAnyH_take (i := 22) (oi := { dst := some 143, op := Go.Op.move (Go.Operand.tmp 142), type := 4, pos := "laws.go:492", after := #[{ on := 21, ground := Go.Ground.data }, { on := 19, ground := Go.Ground.chain }], guard := none }) (v := ?vag22) rfl (by kernel_rfl) (by kernel_rfl) (by kernel_rfl) (fun _ _ _ h => h) (Or.inl ⟨by rfl, ?hag22⟩) hHeld ?rag22
                      case hag22 => (intro w hSw; (try dsimp only at hSw); go_simp; try with_reducible rfl)
                      try simp only [Act.put, List.setIfInBounds_toArray, List.set_cons_zero, List.set_cons_succ]
                      refine wpAnyH_take (i := 23) (oi := { dst := some 144, op := Go.Op.move (Go.Operand.tmp 13), type := 3, pos := "laws.go:492", after := #[{ on := 22, ground := Go.Ground.guard }], guard := some (22, false) }) (v := ?vag23) rfl (by kernel_rfl) (by kernel_rfl) (by kernel_rfl) (fun _ _ _ h => h) (Or.inl ⟨by rfl, ?hag23⟩) hHeld ?rag23
                      case hag23 => (intro w hSw; (try dsimp only at hSw); go_simp; try with_reducible rfl)
                      try simp only [Act.put, List.setIfInBounds_toArray, List.set_cons_zero, List.set_cons_succ]
                      refine wpAnyH_take (i := 24) (oi := { dst := some 145, op := Go.Op.binOp Go.BinOp.gtr 3 (Go.Operand.tmp 144) (Go.Operand.const (Go.Value.int Go.IntKind.i64 0)) 3, type := 4, pos := "laws.go:492", after := #[{ on := 23, ground := Go.Ground.data }, { on := 22, ground := Go.Ground.guard }], guard := some (22, false) }) (v := ?vag24) rfl (by kernel_rfl) (by kernel_rfl) (by kernel_rfl) (fun _ _ _ h => h) (Or.inl ⟨by rfl, ?hag24⟩) hHeld ?rag24
                      case hag24 => (intro w hSw; (try dsimp only at hSw); go_simp; try with_reducible rfl)
                      try simp only [Act.put, List.setIfInBounds_toArray, List.set_cons_zero, List.set_cons_succ]
                      refine wpAnyH_take (i := 25) (oi := { dst := some 146, op := Go.Op.move (Go.Operand.tmp 145), type := 4, pos := "laws.go:492", after := #[{ on := 24, ground := Go.Ground.data }, { on := 22, ground := Go.Ground.chain }, { on := 22, ground := Go.Ground.guard }], guard := some (22, false) }) (v := ?vag25) rfl (by kernel_rfl) (by kernel_rfl) (by kernel_rfl) (fun _ _ _ h => h) (Or.inl ⟨by rfl, ?hag25⟩) hHeld ?rag25
                      case hag25 => (intro w hSw; (try dsimp only at hSw); go_simp; try with_reducible rfl)
                      try simp only [Act.put, List.setIfInBounds_toArray, List.set_cons_zero, List.set_cons_succ]
                      refine wpAnyH_take (i := 26) (oi := { dst := some 147, op := Go.Op.move (Go.Operand.tmp 9), type := 24, pos := "laws.go:492", after := #[{ on := 25, ground := Go.Ground.guard }], guard := some (25, true) }) (v := undef) rfl (by kernel_rfl) (by kernel_rfl) (by kernel_rfl) (fun _ _ _ h => h) (Or.inr ⟨by rfl, rfl⟩) hHeld ?_
                      try simp only [Act.put, List.setIfInBounds_toArray, List.set_cons_zero, List.set_cons_succ]
                      refine wpAnyH_take (i := 27) (oi := { dst := some 148, op := Go.Op.move (Go.Operand.tmp 12), type := 31, pos := "laws.go:492", after := #[{ on := 25, ground := Go.Ground.guard }], guard := some (25, true) }) (v := undef) rfl (by kernel_rfl) (by kernel_rfl) (by kernel_rfl) (fun _ _ _ h => h) (Or.inr ⟨by rfl, rfl⟩) hHeld ?_
                      try simp only [Act.put, List.setIfInBounds_toArray, List.set_cons_zero, List.set_cons_succ]
                      refine wpAnyH_take (i := 28) (oi := { dst := some 149, op := Go.Op.move (Go.Operand.tmp 13), type := 3, pos := "laws.go:492", after := #[{ on := 25, ground := Go.Ground.guard }], guard := some (25, true) }) (v := undef) rfl (by kernel_rfl) (by kernel_rfl) (by kernel_rfl) (fun _ _ _ h => h) (Or.inr ⟨by rfl, rfl⟩) hHeld ?_
                      try simp only [Act.put, List.setIfInBounds_toArray, List.set_cons_zero, List.set_cons_succ]
                      refine wpAnyH_take (i := 29) (oi := { dst := some 150, op := Go.Op.binOp Go.BinOp.sub 3 (Go.Operand.tmp 149) (Go.Operand.const (Go.Value.int Go.IntKind.i64 1)) 3, type := 3, pos := "laws.go:492", after := #[{ on := 28, ground := Go.Ground.data }, { on := 25, ground := Go.Ground.guard }], guard := some (25, true) }) (v := undef) rfl (by kernel_rfl) (by kernel_rfl) (by kernel_rfl) (fun _ _ _ h => h) (Or.inr ⟨by rfl, rfl⟩) hHeld ?_
                      try simp only [Act.put, List.setIfInBounds_toArray, List.set_cons_zero, List.set_cons_succ]
                      refine wpAnyH_take (i := 30) (oi := { dst := some 151, op := Go.Op.indexAddr 31 (Go.Operand.tmp 148) (Go.Operand.tmp 150), type := 0, pos := "laws.go:492", after := #[{ on := 27, ground := Go.Ground.data }, { on := 29, ground := Go.Ground.data }, { on := 25, ground := Go.Ground.guard }], guard := some (25, true) }) (v := undef) rfl (by kernel_rfl) (by kernel_rfl) (by kernel_rfl) (fun _ _ _ h => h) (Or.inr ⟨by rfl, rfl⟩) hHeld ?_
                      try simp only [Act.put, List.setIfInBounds_toArray, List.set_cons_zero, List.set_cons_succ]
                      refine wpAnyH_take (i := 31) (oi := { dst := some 152, op := Go.Op.load 2 (Go.Operand.tmp 151), type := 2, pos := "laws.go:492", after := #[{ on := 30, ground := Go.Ground.data }, { on := 25, ground := Go.Ground.guard }], guard := some (25, true) }) (v := undef) rfl (by kernel_rfl) (by kernel_rfl) (by kernel_rfl) (fun _ _ _ h => h) (Or.inr ⟨by rfl, rfl⟩) hHeld ?_
                      try simp only [Act.put, List.setIfInBounds_toArray, List.set_cons_zero, List.set_cons_succ]
                      refine wpAnyH_take (i := 32) (oi := { dst := some 153, op := Go.Op.indexAddr 24 (Go.Operand.tmp 147) (Go.Operand.tmp 152), type := 0, pos := "laws.go:492", after := #[{ on := 26, ground := Go.Ground.data }, { on := 31, ground := Go.Ground.data }, { on := 25, ground := Go.Ground.guard }], guard := some (25, true) }) (v := undef) rfl (by kernel_rfl) (by kernel_rfl) (by kernel_rfl) (fun _ _ _ h => h) (Or.inr ⟨by rfl, rfl⟩) hHeld ?_
                      try simp only [Act.put, List.setIfInBounds_toArray, List.set_cons_zero, List.set_cons_succ]
                      refine wpAnyH_take (i := 33) (oi := { dst := some 154, op := Go.Op.load 26 (Go.Operand.tmp 153), type := 26, pos := "laws.go:492", after := #[{ on := 32, ground := Go.Ground.data }, { on := 25, ground := Go.Ground.guard }], guard := some (25, true) }) (v := undef) rfl (by kernel_rfl) (by kernel_rfl) (by kernel_rfl) (fun _ _ _ h => h) (Or.inr ⟨by rfl, rfl⟩) hHeld ?_
                      try simp only [Act.put, List.setIfInBounds_toArray, List.set_cons_zero, List.set_cons_succ]
                      refine wpAnyH_take (i := 34) (oi := { dst := some 155, op := Go.Op.load 26 (Go.Operand.tmp 10), type := 26, pos := "laws.go:492", after := #[{ on := 25, ground := Go.Ground.guard }], guard := some (25, true) }) (v := undef) rfl (by kernel_rfl) (by kernel_rfl) (by kernel_rfl) (fun _ _ _ h => h) (Or.inr ⟨by rfl, rfl⟩) hHeld ?_
                      try simp only [Act.put, List.setIfInBounds_toArray, List.set_cons_zero, List.set_cons_succ]
                      refine wpAnyH_take (i := 35) (oi := { dst := some 156, op := Go.Op.call { callee := Go.Callee.value (Go.Operand.func 15), args := #[Go.Operand.tmp 154, Go.Operand.tmp 155], argTypes := #[26, 26] }, type := 2, pos := "laws.go:492", after := #[{ on := 33, ground := Go.Ground.data }, { on := 34, ground := Go.Ground.data }, { on := 25, ground := Go.Ground.chain }, { on := 25, ground := Go.Ground.guard }], guard := some (25, true) }) (v := undef) rfl (by kernel_rfl) (by kernel_rfl) (by kernel_rfl) (fun _ _ _ h => h) (Or.inr ⟨by rfl, rfl⟩) hHeld ?_
                      try simp only [Act.put, List.setIfInBounds_toArray, List.set_cons_zero, List.set_cons_succ]
                      refine wpAnyH_take (i := 36) (oi := { dst := some 157, op := Go.Op.move (Go.Operand.tmp 9), type := 24, pos := "laws.go:492", after := #[{ on := 25, ground := Go.Ground.guard }], guard := some (25, true) }) (v := undef) rfl (by kernel_rfl) (by kernel_rfl) (by kernel_rfl) (fun _ _ _ h => h) (Or.inr ⟨by rfl, rfl⟩) hHeld ?_
                      try simp only [Act.put, List.setIfInBounds_toArray, List.set_cons_zero, List.set_cons_succ]
                      refine wpAnyH_take (i := 37) (oi := { dst := some 158, op := Go.Op.move (Go.Operand.tmp 12), type := 31, pos := "laws.go:492", after := #[{ on := 25, ground := Go.Ground.guard }], guard := some (25, true) }) (v := undef) rfl (by kernel_rfl) (by kernel_rfl) (by kernel_rfl) (fun _ _ _ h => h) (Or.inr ⟨by rfl, rfl⟩) hHeld ?_
                      try simp only [Act.put, List.setIfInBounds_toArray, List.set_cons_zero, List.set_cons_succ]
                      refine wpAnyH_take (i := 38) (oi := { dst := some 159, op := Go.Op.move (Go.Operand.tmp 13), type := 3, pos := "laws.go:492", after := #[{ on := 25, ground := Go.Ground.guard }], guard := some (25, true) }) (v := undef) rfl (by kernel_rfl) (by kernel_rfl) (by kernel_rfl) (fun _ _ _ h => h) (Or.inr ⟨by rfl, rfl⟩) hHeld ?_
                      try simp only [Act.put, List.setIfInBounds_toArray, List.set_cons_zero, List.set_cons_succ]
                      refine wpAnyH_take (i := 39) (oi := { dst := some 160, op := Go.Op.indexAddr 31 (Go.Operand.tmp 158) (Go.Operand.tmp 159), type := 0, pos := "laws.go:492", after := #[{ on := 37, ground := Go.Ground.data }, { on := 38, ground := Go.Ground.data }, { on := 25, ground := Go.Ground.guard }], guard := some (25, true) }) (v := undef) rfl (by kernel_rfl) (by kernel_rfl) (by kernel_rfl) (fun _ _ _ h => h) (Or.inr ⟨by rfl, rfl⟩) hHeld ?_
                      try simp only [Act.put, List.setIfInBounds_toArray, List.set_cons_zero, List.set_cons_succ]
                      refine wpAnyH_take (i := 40) (oi := { dst := some 161, op := Go.Op.load 2 (Go.Operand.tmp 160), type := 2, pos := "laws.go:492", after := #[{ on := 39, ground := Go.Ground.data }, { on := 25, ground := Go.Ground.guard }], guard := some (25, true) }) (v := undef) rfl (by kernel_rfl) (by kernel_rfl) (by kernel_rfl) (fun _ _ _ h => h) (Or.inr ⟨by rfl, rfl⟩) hHeld ?_
                      try simp only [Act.put, List.setIfInBounds_toArray, List.set_cons_zero, List.set_cons_succ]
                      refine wpAnyH_take (i := 41) (oi := { dst := some 162, op := Go.Op.indexAddr 24 (Go.Operand.tmp 157) (Go.Operand.tmp 161), type := 0, pos := "laws.go:492", after := #[{ on := 36, ground := Go.Ground.data }, { on := 40, ground := Go.Ground.data }, { on := 25, ground := Go.Ground.guard }], guard := some (25, true) }) (v := undef) rfl (by kernel_rfl) (by kernel_rfl) (by kernel_rfl) (fun _ _ _ h => h) (Or.inr ⟨by rfl, rfl⟩) hHeld ?_
                      try simp only [Act.put, List.setIfInBounds_toArray, List.set_cons_zero, List.set_cons_succ]
                      refine wpAnyH_take (i := 42) (oi := { dst := some 163, op := Go.Op.load 26 (Go.Operand.tmp 162), type := 26, pos := "laws.go:492", after := #[{ on := 41, ground := Go.Ground.data }, { on := 25, ground := Go.Ground.guard }], guard := some (25, true) }) (v := undef) rfl (by kernel_rfl) (by kernel_rfl) (by kernel_rfl) (fun _ _ _ h => h) (Or.inr ⟨by rfl, rfl⟩) hHeld ?_
                      try simp only [Act.put, List.setIfInBounds_toArray, List.set_cons_zero, List.set_cons_succ]
                      refine wpAnyH_take (i := 43) (oi := { dst := some 164, op := Go.Op.load 26 (Go.Operand.tmp 10), type := 26, pos := "laws.go:492", after := #[{ on := 25, ground := Go.Ground.guard }], guard := some (25, true) }) (v := undef) rfl (by kernel_rfl) (by kernel_rfl) (by kernel_rfl) (fun _ _ _ h => h) (Or.inr ⟨by rfl, rfl⟩) hHeld ?_
                      try simp only [Act.put, List.setIfInBounds_toArray, List.set_cons_zero, List.set_cons_succ]
                      refine wpAnyH_take (i := 44) (oi := { dst := some 165, op := Go.Op.call { callee := Go.Callee.value (Go.Operand.func 15), args := #[Go.Operand.tmp 163, Go.Operand.tmp 164], argTypes := #[26, 26] }, type := 2, pos := "laws.go:492", after := #[{ on := 42, ground := Go.Ground.data }, { on := 43, ground := Go.Ground.data }, { on := 35, ground := Go.Ground.chain }, { on := 25, ground := Go.Ground.guard }], guard := some (25, true) }) (v := undef) rfl (by kernel_rfl) (by kernel_rfl) (by kernel_rfl) (fun _ _ _ h => h) (Or.inr ⟨by rfl, rfl⟩) hHeld ?_
                      try simp only [Act.put, List.setIfInBounds_toArray, List.set_cons_zero, List.set_cons_succ]
                      refine wpAnyH_take (i := 45) (oi := { dst := some 166, op := Go.Op.binOp Go.BinOp.gtr 2 (Go.Operand.tmp 156) (Go.Operand.tmp 165) 2, type := 4, pos := "laws.go:492", after := #[{ on := 35, ground := Go.Ground.data }, { on := 44, ground := Go.Ground.data }, { on := 25, ground := Go.Ground.guard }], guard := some (25, true) }) (v := undef) rfl (by kernel_rfl) (by kernel_rfl) (by kernel_rfl) (fun _ _ _ h => h) (Or.inr ⟨by rfl, rfl⟩) hHeld ?_
                      try simp only [Act.put, List.setIfInBounds_toArray, List.set_cons_zero, List.set_cons_succ]
                      refine wpAnyH_take (i := 46) (oi := { dst := some 167, op := Go.Op.pick (Go.Operand.tmp 146) (Go.Operand.tmp 166) (Go.Operand.const (Go.Value.bool false)), type := 4, pos := "laws.go:492", after := #[{ on := 25, ground := Go.Ground.data }, { on := 45, ground := Go.Ground.data }, { on := 22, ground := Go.Ground.guard }], guard := some (22, false) }) (v := ?vag46) rfl (by kernel_rfl) (by kernel_rfl) (by kernel_rfl) (fun _ _ _ h => h) (Or.inl ⟨by rfl, ?hag46⟩) hHeld ?rag46
                      case hag46 => (intro w hSw; (try dsimp only at hSw); go_simp; try with_reducible rfl)
                      try simp only [Act.put, List.setIfInBounds_toArray, List.set_cons_zero, List.set_cons_succ]
                      refine wpAnyH_take (i := 47) (oi := { dst := some 168, op := Go.Op.pick (Go.Operand.tmp 143) (Go.Operand.const (Go.Value.bool true)) (Go.Operand.tmp 167), type := 4, pos := "laws.go:492", after := #[{ on := 22, ground := Go.Ground.data }, { on := 46, ground := Go.Ground.data }], guard := none }) (v := ?vag47) rfl (by kernel_rfl) (by kernel_rfl) (by kernel_rfl) (fun _ _ _ h => h) (Or.inl ⟨by rfl, ?hag47⟩) hHeld ?rag47
                      case hag47 => (intro w hSw; (try dsimp only at hSw); go_simp; try with_reducible rfl)
                      try simp only [Act.put, List.setIfInBounds_toArray, List.set_cons_zero, List.set_cons_succ]
                      refine wpAnyH_done (by kernel_rfl) ?_ _
                      refine NoPanic.normal ?_
                      have hB9 := bel_step hBr hHeld
                      clear hHs0 hQu hQt hcl hHeld g0
                      go_wp2
                      go_roundw
                      case rel => exact ⟨t + 1, by omega, by go_num, hB9⟩
                      case measure => simp [intOf]; omega
                    · obtain ⟨k, Hk⟩ : ∃ k, Hid (s = k + 1) := ⟨s - 1, (by omega : s = (s - 1) + 1)⟩
                      have hsk : s = k + 1 := Hk.out
                      have hkl : k + 1 < M8.length := by omega
                      have hlk : (k : Int) < (r : Int) := by omega
                      have hs1 : decide ((0 : Int) < (s : Int)) = true := by simp only [decide_eq_true_eq]; omega
                      have hs2 : 0 < s := by omega
                      have hs3 : decide (0 < s) = true := by simp only [hs2, decide_true]
                      have hs4 : (0 : Int) < (s : Int) := by omega
                      obtain ⟨x, hx, Lx⟩ := HF2.out k (by omega)
                      have hxn : (x : Int) < (n : Int) := by omega
                      have hle := HF3.out k x u hkl Lx (by have := HLu.out; simp only [hsk] at this; exact this)
                      have z0 := (int_k hIL (k := k) (by omega)).2
                      rw [Lx] at z0
                      obtain ⟨p0, p1⟩ := HPC.out x hx
                      obtain ⟨xk, Hxk⟩ : ∃ z, Hid (X' x = z) := ⟨_, (rfl : X' x = _)⟩
                      obtain ⟨yk, Hyk⟩ : ∃ z, Hid (Y' x = z) := ⟨_, (rfl : Y' x = _)⟩
                      rw [Hxk.out] at p0
                      rw [Hyk.out] at p1
                      obtain ⟨dk, Hdk⟩ : ∃ z, Hid (dsq px py xk yk = z) := ⟨_, (rfl : dsq px py xk yk = _)⟩
                      rw [Hxk.out, Hyk.out, Hxu.out, Hyu.out, Hdu.out, Hdk.out] at hle
                      have hdk : decide (du < dk) = false := by simp only [decide_eq_false_iff_not]; omega
                      have HKk : Hid (POk xk yk) := by have := HF1.out x hx; rw [Hxk.out, Hyk.out] at this; exact this
                      have hQk : ∀ w', Bel wr w' → Calls Tryd.prog 15 #[.agg #[.int .i64 xk, .int .i64 yk], .agg #[.int .i64 px, .int .i64 py]] w' fun e w2 => e = .returned (.int .i64 dk) ∧ Bel w' w2 := fun w' _ => by
                        refine (lawSquare_any xk yk px py w' HKk.out HF0.out).mono ?_
                        rintro e w2 ⟨rfl, hb2⟩
                        rw [Hdk.out]
                        exact ⟨rfl, hb2⟩
                      have hck : ∀ w', Bel wr w' → w'.cell? ⟨lb, lo + k, none⟩ = some (.int .i64 (x : Int)) ∧ w'.cell? ⟨pb, po + x * 2, none⟩ = some (.int .i64 xk) ∧ w'.cell? ⟨pb, po + x * 2 + 1, none⟩ = some (.int .i64 yk) := fun w' h => ⟨bel_cellM h hlb z0, bel_cellM h hpb p0, bel_cellM h hpb p1⟩
                      have hwk : IntKind.i64.wrap ((s : Int) - 1) = (k : Int) := by rw [IntKind.wrap_i64]; omega
                      clear z0 p0 p1 Lx hle hIL hsk
                      go_upto_region 32 with fail
                      refine wp_region_noPanic ?_
                      refine wp_region_held_drew (S := fun w' => Bel wr w') (by kernel_rfl) (Bel.drew g0) (fun hHeld => ?_)
                      refine wpAnyH_take (i := 0) (oi := { dst := some 121, op := Go.Op.move (Go.Operand.tmp 12), type := 31, pos := "laws.go:492", after := #[], guard := none }) (v := ?vah0) rfl (by kernel_rfl) (by kernel_rfl) (by kernel_rfl) (fun _ _ _ h => h) (Or.inl ⟨by rfl, ?hah0⟩) hHeld ?rah0
                      case hah0 => (intro w hSw; (try dsimp only at hSw); go_simp; try with_reducible rfl)
                      try simp only [Act.put, List.setIfInBounds_toArray, List.set_cons_zero, List.set_cons_succ]
                      refine wpAnyH_take (i := 1) (oi := { dst := some 122, op := Go.Op.move (Go.Operand.tmp 14), type := 3, pos := "laws.go:492", after := #[], guard := none }) (v := ?vah1) rfl (by kernel_rfl) (by kernel_rfl) (by kernel_rfl) (fun _ _ _ h => h) (Or.inl ⟨by rfl, ?hah1⟩) hHeld ?rah1
                      case hah1 => (intro w hSw; (try dsimp only at hSw); go_simp; try with_reducible rfl)
                      try simp only [Act.put, List.setIfInBounds_toArray, List.set_cons_zero, List.set_cons_succ]
                      refine wpAnyH_ready (rs := [2]) (by kernel_rfl) (by simp) ?_
                      refine AllReadyH.cons (o := { dst := some 123, op := Go.Op.call { callee := Go.Callee.value (Go.Operand.func 10), args := #[Go.Operand.tmp 121, Go.Operand.tmp 122], argTypes := #[31, 2] }, type := 4, pos := "laws.go:492", after := #[{ on := 0, ground := Go.Ground.data }, { on := 1, ground := Go.Ground.data }], guard := none }) rfl (fun K hK => ?_) AllReadyH.nil
                      go_simp
                      refine (hHs0 _ hHeld).mono ?_
                      rintro e w6 ⟨rfl, hb6⟩
                      go_wp2_with fail
                      refine hK.out _ _ (bel_step hHeld hb6) (fun hHeld' => ?_)
                      clear hK K hHeld
                      have hHeld := hHeld'
                      clear hHeld'
                      try simp only [Act.put, List.setIfInBounds_toArray, List.set_cons_zero, List.set_cons_succ]
                      refine wpAnyH_take (i := 3) (oi := { dst := some 124, op := Go.Op.unOp Go.UnOp.not 4 (Go.Operand.tmp 123), type := 4, pos := "laws.go:492", after := #[{ on := 2, ground := Go.Ground.data }], guard := none }) (v := ?vah3) rfl (by kernel_rfl) (by kernel_rfl) (by kernel_rfl) (fun _ _ _ h => h) (Or.inl ⟨by rfl, ?hah3⟩) hHeld ?rah3
                      case hah3 => (intro w hSw; (try dsimp only at hSw); go_simp; try with_reducible rfl)
                      try simp only [Act.put, List.setIfInBounds_toArray, List.set_cons_zero, List.set_cons_succ]
                      refine wpAnyH_take (i := 4) (oi := { dst := some 125, op := Go.Op.move (Go.Operand.tmp 124), type := 4, pos := "laws.go:492", after := #[{ on := 3, ground := Go.Ground.data }, { on := 2, ground := Go.Ground.chain }], guard := none }) (v := ?vah4) rfl (by kernel_rfl) (by kernel_rfl) (by kernel_rfl) (fun _ _ _ h => h) (Or.inl ⟨by rfl, ?hah4⟩) hHeld ?rah4
                      case hah4 => (intro w hSw; (try dsimp only at hSw); go_simp; try with_reducible rfl)
                      try simp only [Act.put, List.setIfInBounds_toArray, List.set_cons_zero, List.set_cons_succ]
                      refine wpAnyH_take (i := 5) (oi := { dst := some 126, op := Go.Op.move (Go.Operand.tmp 9), type := 24, pos := "laws.go:492", after := #[{ on := 4, ground := Go.Ground.guard }], guard := some (4, true) }) (v := ?vah5) rfl (by kernel_rfl) (by kernel_rfl) (by kernel_rfl) (fun _ _ _ h => h) (Or.inl ⟨by rfl, ?hah5⟩) hHeld ?rah5
                      case hah5 => (intro w hSw; (try dsimp only at hSw); go_simp; try with_reducible rfl)
                      try simp only [Act.put, List.setIfInBounds_toArray, List.set_cons_zero, List.set_cons_succ]
                      refine wpAnyH_take (i := 6) (oi := { dst := some 127, op := Go.Op.move (Go.Operand.tmp 14), type := 3, pos := "laws.go:492", after := #[{ on := 4, ground := Go.Ground.guard }], guard := some (4, true) }) (v := ?vah6) rfl (by kernel_rfl) (by kernel_rfl) (by kernel_rfl) (fun _ _ _ h => h) (Or.inl ⟨by rfl, ?hah6⟩) hHeld ?rah6
                      case hah6 => (intro w hSw; (try dsimp only at hSw); go_simp; try with_reducible rfl)
                      try simp only [Act.put, List.setIfInBounds_toArray, List.set_cons_zero, List.set_cons_succ]
                      refine wpAnyH_take (i := 7) (oi := { dst := some 128, op := Go.Op.indexAddr 24 (Go.Operand.tmp 126) (Go.Operand.tmp 127), type := 0, pos := "laws.go:492", after := #[{ on := 5, ground := Go.Ground.data }, { on := 6, ground := Go.Ground.data }, { on := 4, ground := Go.Ground.guard }], guard := some (4, true) }) (v := ?vah7) rfl (by kernel_rfl) (by kernel_rfl) (by kernel_rfl) (fun _ _ _ h => h) (Or.inl ⟨by rfl, ?hah7⟩) hHeld ?rah7
                      case hah7 => (intro w hSw; (try dsimp only at hSw); go_simp; try with_reducible rfl)
                      try simp only [Act.put, List.setIfInBounds_toArray, List.set_cons_zero, List.set_cons_succ]
                      refine wpAnyH_take (i := 8) (oi := { dst := some 129, op := Go.Op.load 26 (Go.Operand.tmp 128), type := 26, pos := "laws.go:492", after := #[{ on := 7, ground := Go.Ground.data }, { on := 4, ground := Go.Ground.guard }], guard := some (4, true) }) (v := ?vah8) rfl (by kernel_rfl) (by kernel_rfl) (by kernel_rfl) (fun _ _ _ h => h) (Or.inl ⟨by rfl, ?hah8⟩) hHeld ?rah8
                      case hah8 => (intro w hSw; (try dsimp only at hSw); go_simp; try with_reducible rfl)
                      try simp only [Act.put, List.setIfInBounds_toArray, List.set_cons_zero, List.set_cons_succ]
                      refine wpAnyH_take (i := 9) (oi := { dst := some 130, op := Go.Op.load 26 (Go.Operand.tmp 10), type := 26, pos := "laws.go:492", after := #[{ on := 4, ground := Go.Ground.guard }], guard := some (4, true) }) (v := ?vah9) rfl (by kernel_rfl) (by kernel_rfl) (by kernel_rfl) (fun _ _ _ h => h) (Or.inl ⟨by rfl, ?hah9⟩) hHeld ?rah9
                      case hah9 => (intro w hSw; (try dsimp only at hSw); go_simp; try with_reducible rfl)
                      try simp only [Act.put, List.setIfInBounds_toArray, List.set_cons_zero, List.set_cons_succ]
                      refine wpAnyH_take (i := 11) (oi := { dst := some 132, op := Go.Op.move (Go.Operand.tmp 9), type := 24, pos := "laws.go:492", after := #[{ on := 4, ground := Go.Ground.guard }], guard := some (4, true) }) (v := ?vah11) rfl (by kernel_rfl) (by kernel_rfl) (by kernel_rfl) (fun _ _ _ h => h) (Or.inl ⟨by rfl, ?hah11⟩) hHeld ?rah11
                      case hah11 => (intro w hSw; (try dsimp only at hSw); go_simp; try with_reducible rfl)
                      try simp only [Act.put, List.setIfInBounds_toArray, List.set_cons_zero, List.set_cons_succ]
                      refine wpAnyH_take (i := 12) (oi := { dst := some 133, op := Go.Op.move (Go.Operand.tmp 12), type := 31, pos := "laws.go:492", after := #[{ on := 4, ground := Go.Ground.guard }], guard := some (4, true) }) (v := ?vah12) rfl (by kernel_rfl) (by kernel_rfl) (by kernel_rfl) (fun _ _ _ h => h) (Or.inl ⟨by rfl, ?hah12⟩) hHeld ?rah12
                      case hah12 => (intro w hSw; (try dsimp only at hSw); go_simp; try with_reducible rfl)
                      try simp only [Act.put, List.setIfInBounds_toArray, List.set_cons_zero, List.set_cons_succ]
                      refine wpAnyH_take (i := 13) (oi := { dst := some 134, op := Go.Op.move (Go.Operand.tmp 13), type := 3, pos := "laws.go:492", after := #[{ on := 4, ground := Go.Ground.guard }], guard := some (4, true) }) (v := ?vah13) rfl (by kernel_rfl) (by kernel_rfl) (by kernel_rfl) (fun _ _ _ h => h) (Or.inl ⟨by rfl, ?hah13⟩) hHeld ?rah13
                      case hah13 => (intro w hSw; (try dsimp only at hSw); go_simp; try with_reducible rfl)
                      try simp only [Act.put, List.setIfInBounds_toArray, List.set_cons_zero, List.set_cons_succ]
                      refine wpAnyH_take (i := 14) (oi := { dst := some 135, op := Go.Op.indexAddr 31 (Go.Operand.tmp 133) (Go.Operand.tmp 134), type := 0, pos := "laws.go:492", after := #[{ on := 12, ground := Go.Ground.data }, { on := 13, ground := Go.Ground.data }, { on := 4, ground := Go.Ground.guard }], guard := some (4, true) }) (v := ?vah14) rfl (by kernel_rfl) (by kernel_rfl) (by kernel_rfl) (fun _ _ _ h => h) (Or.inl ⟨by rfl, ?hah14⟩) hHeld ?rah14
                      case hah14 => (intro w hSw; (try dsimp only at hSw); go_simp; try with_reducible rfl)
                      try simp only [Act.put, List.setIfInBounds_toArray, List.set_cons_zero, List.set_cons_succ]
                      refine wpAnyH_take (i := 15) (oi := { dst := some 136, op := Go.Op.load 2 (Go.Operand.tmp 135), type := 2, pos := "laws.go:492", after := #[{ on := 14, ground := Go.Ground.data }, { on := 4, ground := Go.Ground.guard }], guard := some (4, true) }) (v := ?vah15) rfl (by kernel_rfl) (by kernel_rfl) (by kernel_rfl) (fun _ _ _ h => h) (Or.inl ⟨by rfl, ?hah15⟩) hHeld ?rah15
                      case hah15 => (intro w hSw; (try dsimp only at hSw); go_simp; try with_reducible rfl)
                      try simp only [Act.put, List.setIfInBounds_toArray, List.set_cons_zero, List.set_cons_succ]
                      refine wpAnyH_take (i := 16) (oi := { dst := some 137, op := Go.Op.indexAddr 24 (Go.Operand.tmp 132) (Go.Operand.tmp 136), type := 0, pos := "laws.go:492", after := #[{ on := 11, ground := Go.Ground.data }, { on := 15, ground := Go.Ground.data }, { on := 4, ground := Go.Ground.guard }], guard := some (4, true) }) (v := ?vah16) rfl (by kernel_rfl) (by kernel_rfl) (by kernel_rfl) (fun _ _ _ h => h) (Or.inl ⟨by rfl, ?hah16⟩) hHeld ?rah16
                      case hah16 => (intro w hSw; (try dsimp only at hSw); go_simp; try with_reducible rfl)
                      try simp only [Act.put, List.setIfInBounds_toArray, List.set_cons_zero, List.set_cons_succ]
                      refine wpAnyH_take (i := 17) (oi := { dst := some 138, op := Go.Op.load 26 (Go.Operand.tmp 137), type := 26, pos := "laws.go:492", after := #[{ on := 16, ground := Go.Ground.data }, { on := 4, ground := Go.Ground.guard }], guard := some (4, true) }) (v := ?vah17) rfl (by kernel_rfl) (by kernel_rfl) (by kernel_rfl) (fun _ _ _ h => h) (Or.inl ⟨by rfl, ?hah17⟩) hHeld ?rah17
                      case hah17 => (intro w hSw; (try dsimp only at hSw); go_simp; try with_reducible rfl)
                      try simp only [Act.put, List.setIfInBounds_toArray, List.set_cons_zero, List.set_cons_succ]
                      refine wpAnyH_take (i := 18) (oi := { dst := some 139, op := Go.Op.load 26 (Go.Operand.tmp 10), type := 26, pos := "laws.go:492", after := #[{ on := 4, ground := Go.Ground.guard }], guard := some (4, true) }) (v := ?vah18) rfl (by kernel_rfl) (by kernel_rfl) (by kernel_rfl) (fun _ _ _ h => h) (Or.inl ⟨by rfl, ?hah18⟩) hHeld ?rah18
                      case hah18 => (intro w hSw; (try dsimp only at hSw); go_simp; try with_reducible rfl)
                      try simp only [Act.put, List.setIfInBounds_toArray, List.set_cons_zero, List.set_cons_succ]
                      refine wpAnyH_ready (rs := [10]) (by kernel_rfl) (by simp) ?_
                      refine AllReadyH.cons (o := { dst := some 131, op := Go.Op.call { callee := Go.Callee.value (Go.Operand.func 15), args := #[Go.Operand.tmp 129, Go.Operand.tmp 130], argTypes := #[26, 26] }, type := 2, pos := "laws.go:492", after := #[{ on := 8, ground := Go.Ground.data }, { on := 9, ground := Go.Ground.data }, { on := 4, ground := Go.Ground.chain }, { on := 4, ground := Go.Ground.guard }], guard := some (4, true) }) rfl (fun K hK => ?_) AllReadyH.nil
                      go_simp
                      refine (hQt _ hHeld).mono ?_
                      rintro e w6 ⟨rfl, hb6⟩
                      go_wp2_with fail
                      refine hK.out _ _ (bel_step hHeld hb6) (fun hHeld' => ?_)
                      clear hK K hHeld
                      have hHeld := hHeld'
                      clear hHeld'
                      try simp only [Act.put, List.setIfInBounds_toArray, List.set_cons_zero, List.set_cons_succ]
                      refine wpAnyH_ready (rs := [19]) (by kernel_rfl) (by simp) ?_
                      refine AllReadyH.cons (o := { dst := some 140, op := Go.Op.call { callee := Go.Callee.value (Go.Operand.func 15), args := #[Go.Operand.tmp 138, Go.Operand.tmp 139], argTypes := #[26, 26] }, type := 2, pos := "laws.go:492", after := #[{ on := 17, ground := Go.Ground.data }, { on := 18, ground := Go.Ground.data }, { on := 10, ground := Go.Ground.chain }, { on := 4, ground := Go.Ground.guard }], guard := some (4, true) }) rfl (fun K hK => ?_) AllReadyH.nil
                      go_simp
                      refine (hQu _ hHeld).mono ?_
                      rintro e w6 ⟨rfl, hb6⟩
                      go_wp2_with fail
                      refine hK.out _ _ (bel_step hHeld hb6) (fun hHeld' => ?_)
                      clear hK K hHeld
                      have hHeld := hHeld'
                      clear hHeld'
                      try simp only [Act.put, List.setIfInBounds_toArray, List.set_cons_zero, List.set_cons_succ]
                      refine wpAnyH_take (i := 20) (oi := { dst := some 141, op := Go.Op.binOp Go.BinOp.lss 2 (Go.Operand.tmp 131) (Go.Operand.tmp 140) 2, type := 4, pos := "laws.go:492", after := #[{ on := 10, ground := Go.Ground.data }, { on := 19, ground := Go.Ground.data }, { on := 4, ground := Go.Ground.guard }], guard := some (4, true) }) (v := ?vah20) rfl (by kernel_rfl) (by kernel_rfl) (by kernel_rfl) (fun _ _ _ h => h) (Or.inl ⟨by rfl, ?hah20⟩) hHeld ?rah20
                      case hah20 => (intro w hSw; (try dsimp only at hSw); go_simp; try with_reducible rfl)
                      try simp only [Act.put, List.setIfInBounds_toArray, List.set_cons_zero, List.set_cons_succ]
                      refine wpAnyH_take (i := 21) (oi := { dst := some 142, op := Go.Op.pick (Go.Operand.tmp 125) (Go.Operand.tmp 141) (Go.Operand.const (Go.Value.bool false)), type := 4, pos := "laws.go:492", after := #[{ on := 4, ground := Go.Ground.data }, { on := 20, ground := Go.Ground.data }], guard := none }) (v := ?vah21) rfl (by kernel_rfl) (by kernel_rfl) (by kernel_rfl) (fun _ _ _ h => h) (Or.inl ⟨by rfl, ?hah21⟩) hHeld ?rah21
                      case hah21 => (intro w hSw; (try dsimp only at hSw); go_simp; try with_reducible rfl)
                      try simp only [Act.put, List.setIfInBounds_toArray, List.set_cons_zero, List.set_cons_succ]
                      refine wpAnyH_take (i := 22) (oi := { dst := some 143, op := Go.Op.move (Go.Operand.tmp 142), type := 4, pos := "laws.go:492", after := #[{ on := 21, ground := Go.Ground.data }, { on := 19, ground := Go.Ground.chain }], guard := none }) (v := ?vah22) rfl (by kernel_rfl) (by kernel_rfl) (by kernel_rfl) (fun _ _ _ h => h) (Or.inl ⟨by rfl, ?hah22⟩) hHeld ?rah22
                      case hah22 => (intro w hSw; (try dsimp only at hSw); go_simp; try with_reducible rfl)
                      try simp only [Act.put, List.setIfInBounds_toArray, List.set_cons_zero, List.set_cons_succ]
                      refine wpAnyH_take (i := 23) (oi := { dst := some 144, op := Go.Op.move (Go.Operand.tmp 13), type := 3, pos := "laws.go:492", after := #[{ on := 22, ground := Go.Ground.guard }], guard := some (22, false) }) (v := ?vah23) rfl (by kernel_rfl) (by kernel_rfl) (by kernel_rfl) (fun _ _ _ h => h) (Or.inl ⟨by rfl, ?hah23⟩) hHeld ?rah23
                      case hah23 => (intro w hSw; (try dsimp only at hSw); go_simp; try with_reducible rfl)
                      try simp only [Act.put, List.setIfInBounds_toArray, List.set_cons_zero, List.set_cons_succ]
                      refine wpAnyH_take (i := 24) (oi := { dst := some 145, op := Go.Op.binOp Go.BinOp.gtr 3 (Go.Operand.tmp 144) (Go.Operand.const (Go.Value.int Go.IntKind.i64 0)) 3, type := 4, pos := "laws.go:492", after := #[{ on := 23, ground := Go.Ground.data }, { on := 22, ground := Go.Ground.guard }], guard := some (22, false) }) (v := ?vah24) rfl (by kernel_rfl) (by kernel_rfl) (by kernel_rfl) (fun _ _ _ h => h) (Or.inl ⟨by rfl, ?hah24⟩) hHeld ?rah24
                      case hah24 => (intro w hSw; (try dsimp only at hSw); go_simp; try with_reducible rfl)
                      try simp only [Act.put, List.setIfInBounds_toArray, List.set_cons_zero, List.set_cons_succ]
                      refine wpAnyH_take (i := 25) (oi := { dst := some 146, op := Go.Op.move (Go.Operand.tmp 145), type := 4, pos := "laws.go:492", after := #[{ on := 24, ground := Go.Ground.data }, { on := 22, ground := Go.Ground.chain }, { on := 22, ground := Go.Ground.guard }], guard := some (22, false) }) (v := ?vah25) rfl (by kernel_rfl) (by kernel_rfl) (by kernel_rfl) (fun _ _ _ h => h) (Or.inl ⟨by rfl, ?hah25⟩) hHeld ?rah25
                      case hah25 => (intro w hSw; (try dsimp only at hSw); go_simp; try with_reducible rfl)
                      try simp only [Act.put, List.setIfInBounds_toArray, List.set_cons_zero, List.set_cons_succ]
                      refine wpAnyH_take (i := 26) (oi := { dst := some 147, op := Go.Op.move (Go.Operand.tmp 9), type := 24, pos := "laws.go:492", after := #[{ on := 25, ground := Go.Ground.guard }], guard := some (25, true) }) (v := ?vah26) rfl (by kernel_rfl) (by kernel_rfl) (by kernel_rfl) (fun _ _ _ h => h) (Or.inl ⟨by rfl, ?hah26⟩) hHeld ?rah26
                      case hah26 => (intro w hSw; (try dsimp only at hSw); go_simp; try with_reducible rfl)
                      try simp only [Act.put, List.setIfInBounds_toArray, List.set_cons_zero, List.set_cons_succ]
                      refine wpAnyH_take (i := 27) (oi := { dst := some 148, op := Go.Op.move (Go.Operand.tmp 12), type := 31, pos := "laws.go:492", after := #[{ on := 25, ground := Go.Ground.guard }], guard := some (25, true) }) (v := ?vah27) rfl (by kernel_rfl) (by kernel_rfl) (by kernel_rfl) (fun _ _ _ h => h) (Or.inl ⟨by rfl, ?hah27⟩) hHeld ?rah27
                      case hah27 => (intro w hSw; (try dsimp only at hSw); go_simp; try with_reducible rfl)
                      try simp only [Act.put, List.setIfInBounds_toArray, List.set_cons_zero, List.set_cons_succ]
                      refine wpAnyH_take (i := 28) (oi := { dst := some 149, op := Go.Op.move (Go.Operand.tmp 13), type := 3, pos := "laws.go:492", after := #[{ on := 25, ground := Go.Ground.guard }], guard := some (25, true) }) (v := ?vah28) rfl (by kernel_rfl) (by kernel_rfl) (by kernel_rfl) (fun _ _ _ h => h) (Or.inl ⟨by rfl, ?hah28⟩) hHeld ?rah28
                      case hah28 => (intro w hSw; (try dsimp only at hSw); go_simp; try with_reducible rfl)
                      try simp only [Act.put, List.setIfInBounds_toArray, List.set_cons_zero, List.set_cons_succ]
                      refine wpAnyH_take (i := 29) (oi := { dst := some 150, op := Go.Op.binOp Go.BinOp.sub 3 (Go.Operand.tmp 149) (Go.Operand.const (Go.Value.int Go.IntKind.i64 1)) 3, type := 3, pos := "laws.go:492", after := #[{ on := 28, ground := Go.Ground.data }, { on := 25, ground := Go.Ground.guard }], guard := some (25, true) }) (v := ?vah29) rfl (by kernel_rfl) (by kernel_rfl) (by kernel_rfl) (fun _ _ _ h => h) (Or.inl ⟨by rfl, ?hah29⟩) hHeld ?rah29
                      case hah29 => (intro w hSw; (try dsimp only at hSw); go_simp; try with_reducible rfl)
                      try simp only [Act.put, List.setIfInBounds_toArray, List.set_cons_zero, List.set_cons_succ]
                      refine wpAnyH_take (i := 30) (oi := { dst := some 151, op := Go.Op.indexAddr 31 (Go.Operand.tmp 148) (Go.Operand.tmp 150), type := 0, pos := "laws.go:492", after := #[{ on := 27, ground := Go.Ground.data }, { on := 29, ground := Go.Ground.data }, { on := 25, ground := Go.Ground.guard }], guard := some (25, true) }) (v := ?vah30) rfl (by kernel_rfl) (by kernel_rfl) (by kernel_rfl) (fun _ _ _ h => h) (Or.inl ⟨by rfl, ?hah30⟩) hHeld ?rah30
                      case hah30 => (intro w hSw; (try dsimp only at hSw); go_simp; try with_reducible rfl)
                      try simp only [Act.put, List.setIfInBounds_toArray, List.set_cons_zero, List.set_cons_succ]
                      refine wpAnyH_take (i := 31) (oi := { dst := some 152, op := Go.Op.load 2 (Go.Operand.tmp 151), type := 2, pos := "laws.go:492", after := #[{ on := 30, ground := Go.Ground.data }, { on := 25, ground := Go.Ground.guard }], guard := some (25, true) }) (v := ?vah31) rfl (by kernel_rfl) (by kernel_rfl) (by kernel_rfl) (fun _ _ _ h => h) (Or.inl ⟨by rfl, ?hah31⟩) hHeld ?rah31
                      case hah31 => (intro w hSw; (try dsimp only at hSw); go_simp; try with_reducible rfl)
                      try simp only [Act.put, List.setIfInBounds_toArray, List.set_cons_zero, List.set_cons_succ]
                      refine wpAnyH_take (i := 32) (oi := { dst := some 153, op := Go.Op.indexAddr 24 (Go.Operand.tmp 147) (Go.Operand.tmp 152), type := 0, pos := "laws.go:492", after := #[{ on := 26, ground := Go.Ground.data }, { on := 31, ground := Go.Ground.data }, { on := 25, ground := Go.Ground.guard }], guard := some (25, true) }) (v := ?vah32) rfl (by kernel_rfl) (by kernel_rfl) (by kernel_rfl) (fun _ _ _ h => h) (Or.inl ⟨by rfl, ?hah32⟩) hHeld ?rah32
                      case hah32 => (intro w hSw; (try dsimp only at hSw); go_simp; try with_reducible rfl)
                      try simp only [Act.put, List.setIfInBounds_toArray, List.set_cons_zero, List.set_cons_succ]
                      refine wpAnyH_take (i := 33) (oi := { dst := some 154, op := Go.Op.load 26 (Go.Operand.tmp 153), type := 26, pos := "laws.go:492", after := #[{ on := 32, ground := Go.Ground.data }, { on := 25, ground := Go.Ground.guard }], guard := some (25, true) }) (v := ?vah33) rfl (by kernel_rfl) (by kernel_rfl) (by kernel_rfl) (fun _ _ _ h => h) (Or.inl ⟨by rfl, ?hah33⟩) hHeld ?rah33
                      case hah33 => (intro w hSw; (try dsimp only at hSw); go_simp; try with_reducible rfl)
                      try simp only [Act.put, List.setIfInBounds_toArray, List.set_cons_zero, List.set_cons_succ]
                      refine wpAnyH_take (i := 34) (oi := { dst := some 155, op := Go.Op.load 26 (Go.Operand.tmp 10), type := 26, pos := "laws.go:492", after := #[{ on := 25, ground := Go.Ground.guard }], guard := some (25, true) }) (v := ?vah34) rfl (by kernel_rfl) (by kernel_rfl) (by kernel_rfl) (fun _ _ _ h => h) (Or.inl ⟨by rfl, ?hah34⟩) hHeld ?rah34
                      case hah34 => (intro w hSw; (try dsimp only at hSw); go_simp; try with_reducible rfl)
                      try simp only [Act.put, List.setIfInBounds_toArray, List.set_cons_zero, List.set_cons_succ]
                      refine wpAnyH_take (i := 36) (oi := { dst := some 157, op := Go.Op.move (Go.Operand.tmp 9), type := 24, pos := "laws.go:492", after := #[{ on := 25, ground := Go.Ground.guard }], guard := some (25, true) }) (v := ?vah36) rfl (by kernel_rfl) (by kernel_rfl) (by kernel_rfl) (fun _ _ _ h => h) (Or.inl ⟨by rfl, ?hah36⟩) hHeld ?rah36
                      case hah36 => (intro w hSw; (try dsimp only at hSw); go_simp; try with_reducible rfl)
                      try simp only [Act.put, List.setIfInBounds_toArray, List.set_cons_zero, List.set_cons_succ]
                      refine wpAnyH_take (i := 37) (oi := { dst := some 158, op := Go.Op.move (Go.Operand.tmp 12), type := 31, pos := "laws.go:492", after := #[{ on := 25, ground := Go.Ground.guard }], guard := some (25, true) }) (v := ?vah37) rfl (by kernel_rfl) (by kernel_rfl) (by kernel_rfl) (fun _ _ _ h => h) (Or.inl ⟨by rfl, ?hah37⟩) hHeld ?rah37
                      case hah37 => (intro w hSw; (try dsimp only at hSw); go_simp; try with_reducible rfl)
                      try simp only [Act.put, List.setIfInBounds_toArray, List.set_cons_zero, List.set_cons_succ]
                      refine wpAnyH_take (i := 38) (oi := { dst := some 159, op := Go.Op.move (Go.Operand.tmp 13), type := 3, pos := "laws.go:492", after := #[{ on := 25, ground := Go.Ground.guard }], guard := some (25, true) }) (v := ?vah38) rfl (by kernel_rfl) (by kernel_rfl) (by kernel_rfl) (fun _ _ _ h => h) (Or.inl ⟨by rfl, ?hah38⟩) hHeld ?rah38
                      case hah38 => (intro w hSw; (try dsimp only at hSw); go_simp; try with_reducible rfl)
                      try simp only [Act.put, List.setIfInBounds_toArray, List.set_cons_zero, List.set_cons_succ]
                      refine wpAnyH_take (i := 39) (oi := { dst := some 160, op := Go.Op.indexAddr 31 (Go.Operand.tmp 158) (Go.Operand.tmp 159), type := 0, pos := "laws.go:492", after := #[{ on := 37, ground := Go.Ground.data }, { on := 38, ground := Go.Ground.data }, { on := 25, ground := Go.Ground.guard }], guard := some (25, true) }) (v := ?vah39) rfl (by kernel_rfl) (by kernel_rfl) (by kernel_rfl) (fun _ _ _ h => h) (Or.inl ⟨by rfl, ?hah39⟩) hHeld ?rah39
                      case hah39 => (intro w hSw; (try dsimp only at hSw); go_simp; try with_reducible rfl)
                      try simp only [Act.put, List.setIfInBounds_toArray, List.set_cons_zero, List.set_cons_succ]
                      refine wpAnyH_take (i := 40) (oi := { dst := some 161, op := Go.Op.load 2 (Go.Operand.tmp 160), type := 2, pos := "laws.go:492", after := #[{ on := 39, ground := Go.Ground.data }, { on := 25, ground := Go.Ground.guard }], guard := some (25, true) }) (v := ?vah40) rfl (by kernel_rfl) (by kernel_rfl) (by kernel_rfl) (fun _ _ _ h => h) (Or.inl ⟨by rfl, ?hah40⟩) hHeld ?rah40
                      case hah40 => (intro w hSw; (try dsimp only at hSw); go_simp; try with_reducible rfl)
                      try simp only [Act.put, List.setIfInBounds_toArray, List.set_cons_zero, List.set_cons_succ]
                      refine wpAnyH_take (i := 41) (oi := { dst := some 162, op := Go.Op.indexAddr 24 (Go.Operand.tmp 157) (Go.Operand.tmp 161), type := 0, pos := "laws.go:492", after := #[{ on := 36, ground := Go.Ground.data }, { on := 40, ground := Go.Ground.data }, { on := 25, ground := Go.Ground.guard }], guard := some (25, true) }) (v := ?vah41) rfl (by kernel_rfl) (by kernel_rfl) (by kernel_rfl) (fun _ _ _ h => h) (Or.inl ⟨by rfl, ?hah41⟩) hHeld ?rah41
                      case hah41 => (intro w hSw; (try dsimp only at hSw); go_simp; try with_reducible rfl)
                      try simp only [Act.put, List.setIfInBounds_toArray, List.set_cons_zero, List.set_cons_succ]
                      refine wpAnyH_take (i := 42) (oi := { dst := some 163, op := Go.Op.load 26 (Go.Operand.tmp 162), type := 26, pos := "laws.go:492", after := #[{ on := 41, ground := Go.Ground.data }, { on := 25, ground := Go.Ground.guard }], guard := some (25, true) }) (v := ?vah42) rfl (by kernel_rfl) (by kernel_rfl) (by kernel_rfl) (fun _ _ _ h => h) (Or.inl ⟨by rfl, ?hah42⟩) hHeld ?rah42
                      case hah42 => (intro w hSw; (try dsimp only at hSw); go_simp; try with_reducible rfl)
                      try simp only [Act.put, List.setIfInBounds_toArray, List.set_cons_zero, List.set_cons_succ]
                      refine wpAnyH_take (i := 43) (oi := { dst := some 164, op := Go.Op.load 26 (Go.Operand.tmp 10), type := 26, pos := "laws.go:492", after := #[{ on := 25, ground := Go.Ground.guard }], guard := some (25, true) }) (v := ?vah43) rfl (by kernel_rfl) (by kernel_rfl) (by kernel_rfl) (fun _ _ _ h => h) (Or.inl ⟨by rfl, ?hah43⟩) hHeld ?rah43
                      case hah43 => (intro w hSw; (try dsimp only at hSw); go_simp; try with_reducible rfl)
                      try simp only [Act.put, List.setIfInBounds_toArray, List.set_cons_zero, List.set_cons_succ]
                      refine wpAnyH_ready (rs := [35]) (by kernel_rfl) (by simp) ?_
                      refine AllReadyH.cons (o := { dst := some 156, op := Go.Op.call { callee := Go.Callee.value (Go.Operand.func 15), args := #[Go.Operand.tmp 154, Go.Operand.tmp 155], argTypes := #[26, 26] }, type := 2, pos := "laws.go:492", after := #[{ on := 33, ground := Go.Ground.data }, { on := 34, ground := Go.Ground.data }, { on := 25, ground := Go.Ground.chain }, { on := 25, ground := Go.Ground.guard }], guard := some (25, true) }) rfl (fun K hK => ?_) AllReadyH.nil
                      go_simp
                      refine (hQk _ hHeld).mono ?_
                      rintro e w6 ⟨rfl, hb6⟩
                      go_wp2_with fail
                      refine hK.out _ _ (bel_step hHeld hb6) (fun hHeld' => ?_)
                      clear hK K hHeld
                      have hHeld := hHeld'
                      clear hHeld'
                      try simp only [Act.put, List.setIfInBounds_toArray, List.set_cons_zero, List.set_cons_succ]
                      refine wpAnyH_ready (rs := [44]) (by kernel_rfl) (by simp) ?_
                      refine AllReadyH.cons (o := { dst := some 165, op := Go.Op.call { callee := Go.Callee.value (Go.Operand.func 15), args := #[Go.Operand.tmp 163, Go.Operand.tmp 164], argTypes := #[26, 26] }, type := 2, pos := "laws.go:492", after := #[{ on := 42, ground := Go.Ground.data }, { on := 43, ground := Go.Ground.data }, { on := 35, ground := Go.Ground.chain }, { on := 25, ground := Go.Ground.guard }], guard := some (25, true) }) rfl (fun K hK => ?_) AllReadyH.nil
                      go_simp
                      refine (hQu _ hHeld).mono ?_
                      rintro e w6 ⟨rfl, hb6⟩
                      go_wp2_with fail
                      refine hK.out _ _ (bel_step hHeld hb6) (fun hHeld' => ?_)
                      clear hK K hHeld
                      have hHeld := hHeld'
                      clear hHeld'
                      try simp only [Act.put, List.setIfInBounds_toArray, List.set_cons_zero, List.set_cons_succ]
                      refine wpAnyH_take (i := 45) (oi := { dst := some 166, op := Go.Op.binOp Go.BinOp.gtr 2 (Go.Operand.tmp 156) (Go.Operand.tmp 165) 2, type := 4, pos := "laws.go:492", after := #[{ on := 35, ground := Go.Ground.data }, { on := 44, ground := Go.Ground.data }, { on := 25, ground := Go.Ground.guard }], guard := some (25, true) }) (v := ?vah45) rfl (by kernel_rfl) (by kernel_rfl) (by kernel_rfl) (fun _ _ _ h => h) (Or.inl ⟨by rfl, ?hah45⟩) hHeld ?rah45
                      case hah45 => (intro w hSw; (try dsimp only at hSw); go_simp; try with_reducible rfl)
                      try simp only [Act.put, List.setIfInBounds_toArray, List.set_cons_zero, List.set_cons_succ]
                      refine wpAnyH_take (i := 46) (oi := { dst := some 167, op := Go.Op.pick (Go.Operand.tmp 146) (Go.Operand.tmp 166) (Go.Operand.const (Go.Value.bool false)), type := 4, pos := "laws.go:492", after := #[{ on := 25, ground := Go.Ground.data }, { on := 45, ground := Go.Ground.data }, { on := 22, ground := Go.Ground.guard }], guard := some (22, false) }) (v := ?vah46) rfl (by kernel_rfl) (by kernel_rfl) (by kernel_rfl) (fun _ _ _ h => h) (Or.inl ⟨by rfl, ?hah46⟩) hHeld ?rah46
                      case hah46 => (intro w hSw; (try dsimp only at hSw); go_simp; try with_reducible rfl)
                      try simp only [Act.put, List.setIfInBounds_toArray, List.set_cons_zero, List.set_cons_succ]
                      refine wpAnyH_take (i := 47) (oi := { dst := some 168, op := Go.Op.pick (Go.Operand.tmp 143) (Go.Operand.const (Go.Value.bool true)) (Go.Operand.tmp 167), type := 4, pos := "laws.go:492", after := #[{ on := 22, ground := Go.Ground.data }, { on := 46, ground := Go.Ground.data }], guard := none }) (v := ?vah47) rfl (by kernel_rfl) (by kernel_rfl) (by kernel_rfl) (fun _ _ _ h => h) (Or.inl ⟨by rfl, ?hah47⟩) hHeld ?rah47
                      case hah47 => (intro w hSw; (try dsimp only at hSw); go_simp; try with_reducible rfl)
                      try simp only [Act.put, List.setIfInBounds_toArray, List.set_cons_zero, List.set_cons_succ]
                      refine wpAnyH_done (by kernel_rfl) ?_ _
                      refine NoPanic.normal ?_
                      have hB9 := bel_step hBr hHeld
                      clear hHs0 hQu hQt hQk hcl hck hHeld g0 hwk
                      go_wp2
                      go_roundw
                      case rel => exact ⟨t + 1, by omega, by go_num, hB9⟩
                      case measure => simp [intOf]; omega
                  · rw [hMt] at hHs0
                    clear hMt
                    by_cases hs0 : s = 0
                    · have hz1 : decide ((0 : Int) < (s : Int)) = false := by simp only [decide_eq_false_iff_not]; omega
                      have hz2 : ¬ 0 < s := by omega
                      have hz3 : decide (0 < s) = false := by simp only [hz2, decide_false]
                      clear hIL hs0
                      go_upto_region 32 with fail
                      refine wp_region_noPanic ?_
                      refine wp_region_held_drew (S := fun w' => Bel wr w') (by kernel_rfl) (Bel.drew g0) (fun hHeld => ?_)
                      refine wpAnyH_take (i := 0) (oi := { dst := some 121, op := Go.Op.move (Go.Operand.tmp 12), type := 31, pos := "laws.go:492", after := #[], guard := none }) (v := ?vai0) rfl (by kernel_rfl) (by kernel_rfl) (by kernel_rfl) (fun _ _ _ h => h) (Or.inl ⟨by rfl, ?hai0⟩) hHeld ?rai0
                      case hai0 => (intro w hSw; (try dsimp only at hSw); go_simp; try with_reducible rfl)
                      try simp only [Act.put, List.setIfInBounds_toArray, List.set_cons_zero, List.set_cons_succ]
                      refine wpAnyH_take (i := 1) (oi := { dst := some 122, op := Go.Op.move (Go.Operand.tmp 14), type := 3, pos := "laws.go:492", after := #[], guard := none }) (v := ?vai1) rfl (by kernel_rfl) (by kernel_rfl) (by kernel_rfl) (fun _ _ _ h => h) (Or.inl ⟨by rfl, ?hai1⟩) hHeld ?rai1
                      case hai1 => (intro w hSw; (try dsimp only at hSw); go_simp; try with_reducible rfl)
                      try simp only [Act.put, List.setIfInBounds_toArray, List.set_cons_zero, List.set_cons_succ]
                      refine wpAnyH_ready (rs := [2]) (by kernel_rfl) (by simp) ?_
                      refine AllReadyH.cons (o := { dst := some 123, op := Go.Op.call { callee := Go.Callee.value (Go.Operand.func 10), args := #[Go.Operand.tmp 121, Go.Operand.tmp 122], argTypes := #[31, 2] }, type := 4, pos := "laws.go:492", after := #[{ on := 0, ground := Go.Ground.data }, { on := 1, ground := Go.Ground.data }], guard := none }) rfl (fun K hK => ?_) AllReadyH.nil
                      go_simp
                      refine (hHs0 _ hHeld).mono ?_
                      rintro e w6 ⟨rfl, hb6⟩
                      go_wp2_with fail
                      refine hK.out _ _ (bel_step hHeld hb6) (fun hHeld' => ?_)
                      clear hK K hHeld
                      have hHeld := hHeld'
                      clear hHeld'
                      try simp only [Act.put, List.setIfInBounds_toArray, List.set_cons_zero, List.set_cons_succ]
                      refine wpAnyH_take (i := 3) (oi := { dst := some 124, op := Go.Op.unOp Go.UnOp.not 4 (Go.Operand.tmp 123), type := 4, pos := "laws.go:492", after := #[{ on := 2, ground := Go.Ground.data }], guard := none }) (v := ?vai3) rfl (by kernel_rfl) (by kernel_rfl) (by kernel_rfl) (fun _ _ _ h => h) (Or.inl ⟨by rfl, ?hai3⟩) hHeld ?rai3
                      case hai3 => (intro w hSw; (try dsimp only at hSw); go_simp; try with_reducible rfl)
                      try simp only [Act.put, List.setIfInBounds_toArray, List.set_cons_zero, List.set_cons_succ]
                      refine wpAnyH_take (i := 4) (oi := { dst := some 125, op := Go.Op.move (Go.Operand.tmp 124), type := 4, pos := "laws.go:492", after := #[{ on := 3, ground := Go.Ground.data }, { on := 2, ground := Go.Ground.chain }], guard := none }) (v := ?vai4) rfl (by kernel_rfl) (by kernel_rfl) (by kernel_rfl) (fun _ _ _ h => h) (Or.inl ⟨by rfl, ?hai4⟩) hHeld ?rai4
                      case hai4 => (intro w hSw; (try dsimp only at hSw); go_simp; try with_reducible rfl)
                      try simp only [Act.put, List.setIfInBounds_toArray, List.set_cons_zero, List.set_cons_succ]
                      refine wpAnyH_take (i := 5) (oi := { dst := some 126, op := Go.Op.move (Go.Operand.tmp 9), type := 24, pos := "laws.go:492", after := #[{ on := 4, ground := Go.Ground.guard }], guard := some (4, true) }) (v := undef) rfl (by kernel_rfl) (by kernel_rfl) (by kernel_rfl) (fun _ _ _ h => h) (Or.inr ⟨by rfl, rfl⟩) hHeld ?_
                      try simp only [Act.put, List.setIfInBounds_toArray, List.set_cons_zero, List.set_cons_succ]
                      refine wpAnyH_take (i := 6) (oi := { dst := some 127, op := Go.Op.move (Go.Operand.tmp 14), type := 3, pos := "laws.go:492", after := #[{ on := 4, ground := Go.Ground.guard }], guard := some (4, true) }) (v := undef) rfl (by kernel_rfl) (by kernel_rfl) (by kernel_rfl) (fun _ _ _ h => h) (Or.inr ⟨by rfl, rfl⟩) hHeld ?_
                      try simp only [Act.put, List.setIfInBounds_toArray, List.set_cons_zero, List.set_cons_succ]
                      refine wpAnyH_take (i := 7) (oi := { dst := some 128, op := Go.Op.indexAddr 24 (Go.Operand.tmp 126) (Go.Operand.tmp 127), type := 0, pos := "laws.go:492", after := #[{ on := 5, ground := Go.Ground.data }, { on := 6, ground := Go.Ground.data }, { on := 4, ground := Go.Ground.guard }], guard := some (4, true) }) (v := undef) rfl (by kernel_rfl) (by kernel_rfl) (by kernel_rfl) (fun _ _ _ h => h) (Or.inr ⟨by rfl, rfl⟩) hHeld ?_
                      try simp only [Act.put, List.setIfInBounds_toArray, List.set_cons_zero, List.set_cons_succ]
                      refine wpAnyH_take (i := 8) (oi := { dst := some 129, op := Go.Op.load 26 (Go.Operand.tmp 128), type := 26, pos := "laws.go:492", after := #[{ on := 7, ground := Go.Ground.data }, { on := 4, ground := Go.Ground.guard }], guard := some (4, true) }) (v := undef) rfl (by kernel_rfl) (by kernel_rfl) (by kernel_rfl) (fun _ _ _ h => h) (Or.inr ⟨by rfl, rfl⟩) hHeld ?_
                      try simp only [Act.put, List.setIfInBounds_toArray, List.set_cons_zero, List.set_cons_succ]
                      refine wpAnyH_take (i := 9) (oi := { dst := some 130, op := Go.Op.load 26 (Go.Operand.tmp 10), type := 26, pos := "laws.go:492", after := #[{ on := 4, ground := Go.Ground.guard }], guard := some (4, true) }) (v := undef) rfl (by kernel_rfl) (by kernel_rfl) (by kernel_rfl) (fun _ _ _ h => h) (Or.inr ⟨by rfl, rfl⟩) hHeld ?_
                      try simp only [Act.put, List.setIfInBounds_toArray, List.set_cons_zero, List.set_cons_succ]
                      refine wpAnyH_take (i := 10) (oi := { dst := some 131, op := Go.Op.call { callee := Go.Callee.value (Go.Operand.func 15), args := #[Go.Operand.tmp 129, Go.Operand.tmp 130], argTypes := #[26, 26] }, type := 2, pos := "laws.go:492", after := #[{ on := 8, ground := Go.Ground.data }, { on := 9, ground := Go.Ground.data }, { on := 4, ground := Go.Ground.chain }, { on := 4, ground := Go.Ground.guard }], guard := some (4, true) }) (v := undef) rfl (by kernel_rfl) (by kernel_rfl) (by kernel_rfl) (fun _ _ _ h => h) (Or.inr ⟨by rfl, rfl⟩) hHeld ?_
                      try simp only [Act.put, List.setIfInBounds_toArray, List.set_cons_zero, List.set_cons_succ]
                      refine wpAnyH_take (i := 11) (oi := { dst := some 132, op := Go.Op.move (Go.Operand.tmp 9), type := 24, pos := "laws.go:492", after := #[{ on := 4, ground := Go.Ground.guard }], guard := some (4, true) }) (v := undef) rfl (by kernel_rfl) (by kernel_rfl) (by kernel_rfl) (fun _ _ _ h => h) (Or.inr ⟨by rfl, rfl⟩) hHeld ?_
                      try simp only [Act.put, List.setIfInBounds_toArray, List.set_cons_zero, List.set_cons_succ]
                      refine wpAnyH_take (i := 12) (oi := { dst := some 133, op := Go.Op.move (Go.Operand.tmp 12), type := 31, pos := "laws.go:492", after := #[{ on := 4, ground := Go.Ground.guard }], guard := some (4, true) }) (v := undef) rfl (by kernel_rfl) (by kernel_rfl) (by kernel_rfl) (fun _ _ _ h => h) (Or.inr ⟨by rfl, rfl⟩) hHeld ?_
                      try simp only [Act.put, List.setIfInBounds_toArray, List.set_cons_zero, List.set_cons_succ]
                      refine wpAnyH_take (i := 13) (oi := { dst := some 134, op := Go.Op.move (Go.Operand.tmp 13), type := 3, pos := "laws.go:492", after := #[{ on := 4, ground := Go.Ground.guard }], guard := some (4, true) }) (v := undef) rfl (by kernel_rfl) (by kernel_rfl) (by kernel_rfl) (fun _ _ _ h => h) (Or.inr ⟨by rfl, rfl⟩) hHeld ?_
                      try simp only [Act.put, List.setIfInBounds_toArray, List.set_cons_zero, List.set_cons_succ]
                      refine wpAnyH_take (i := 14) (oi := { dst := some 135, op := Go.Op.indexAddr 31 (Go.Operand.tmp 133) (Go.Operand.tmp 134), type := 0, pos := "laws.go:492", after := #[{ on := 12, ground := Go.Ground.data }, { on := 13, ground := Go.Ground.data }, { on := 4, ground := Go.Ground.guard }], guard := some (4, true) }) (v := undef) rfl (by kernel_rfl) (by kernel_rfl) (by kernel_rfl) (fun _ _ _ h => h) (Or.inr ⟨by rfl, rfl⟩) hHeld ?_
                      try simp only [Act.put, List.setIfInBounds_toArray, List.set_cons_zero, List.set_cons_succ]
                      refine wpAnyH_take (i := 15) (oi := { dst := some 136, op := Go.Op.load 2 (Go.Operand.tmp 135), type := 2, pos := "laws.go:492", after := #[{ on := 14, ground := Go.Ground.data }, { on := 4, ground := Go.Ground.guard }], guard := some (4, true) }) (v := undef) rfl (by kernel_rfl) (by kernel_rfl) (by kernel_rfl) (fun _ _ _ h => h) (Or.inr ⟨by rfl, rfl⟩) hHeld ?_
                      try simp only [Act.put, List.setIfInBounds_toArray, List.set_cons_zero, List.set_cons_succ]
                      refine wpAnyH_take (i := 16) (oi := { dst := some 137, op := Go.Op.indexAddr 24 (Go.Operand.tmp 132) (Go.Operand.tmp 136), type := 0, pos := "laws.go:492", after := #[{ on := 11, ground := Go.Ground.data }, { on := 15, ground := Go.Ground.data }, { on := 4, ground := Go.Ground.guard }], guard := some (4, true) }) (v := undef) rfl (by kernel_rfl) (by kernel_rfl) (by kernel_rfl) (fun _ _ _ h => h) (Or.inr ⟨by rfl, rfl⟩) hHeld ?_
                      try simp only [Act.put, List.setIfInBounds_toArray, List.set_cons_zero, List.set_cons_succ]
                      refine wpAnyH_take (i := 17) (oi := { dst := some 138, op := Go.Op.load 26 (Go.Operand.tmp 137), type := 26, pos := "laws.go:492", after := #[{ on := 16, ground := Go.Ground.data }, { on := 4, ground := Go.Ground.guard }], guard := some (4, true) }) (v := undef) rfl (by kernel_rfl) (by kernel_rfl) (by kernel_rfl) (fun _ _ _ h => h) (Or.inr ⟨by rfl, rfl⟩) hHeld ?_
                      try simp only [Act.put, List.setIfInBounds_toArray, List.set_cons_zero, List.set_cons_succ]
                      refine wpAnyH_take (i := 18) (oi := { dst := some 139, op := Go.Op.load 26 (Go.Operand.tmp 10), type := 26, pos := "laws.go:492", after := #[{ on := 4, ground := Go.Ground.guard }], guard := some (4, true) }) (v := undef) rfl (by kernel_rfl) (by kernel_rfl) (by kernel_rfl) (fun _ _ _ h => h) (Or.inr ⟨by rfl, rfl⟩) hHeld ?_
                      try simp only [Act.put, List.setIfInBounds_toArray, List.set_cons_zero, List.set_cons_succ]
                      refine wpAnyH_take (i := 19) (oi := { dst := some 140, op := Go.Op.call { callee := Go.Callee.value (Go.Operand.func 15), args := #[Go.Operand.tmp 138, Go.Operand.tmp 139], argTypes := #[26, 26] }, type := 2, pos := "laws.go:492", after := #[{ on := 17, ground := Go.Ground.data }, { on := 18, ground := Go.Ground.data }, { on := 10, ground := Go.Ground.chain }, { on := 4, ground := Go.Ground.guard }], guard := some (4, true) }) (v := undef) rfl (by kernel_rfl) (by kernel_rfl) (by kernel_rfl) (fun _ _ _ h => h) (Or.inr ⟨by rfl, rfl⟩) hHeld ?_
                      try simp only [Act.put, List.setIfInBounds_toArray, List.set_cons_zero, List.set_cons_succ]
                      refine wpAnyH_take (i := 20) (oi := { dst := some 141, op := Go.Op.binOp Go.BinOp.lss 2 (Go.Operand.tmp 131) (Go.Operand.tmp 140) 2, type := 4, pos := "laws.go:492", after := #[{ on := 10, ground := Go.Ground.data }, { on := 19, ground := Go.Ground.data }, { on := 4, ground := Go.Ground.guard }], guard := some (4, true) }) (v := undef) rfl (by kernel_rfl) (by kernel_rfl) (by kernel_rfl) (fun _ _ _ h => h) (Or.inr ⟨by rfl, rfl⟩) hHeld ?_
                      try simp only [Act.put, List.setIfInBounds_toArray, List.set_cons_zero, List.set_cons_succ]
                      refine wpAnyH_take (i := 21) (oi := { dst := some 142, op := Go.Op.pick (Go.Operand.tmp 125) (Go.Operand.tmp 141) (Go.Operand.const (Go.Value.bool false)), type := 4, pos := "laws.go:492", after := #[{ on := 4, ground := Go.Ground.data }, { on := 20, ground := Go.Ground.data }], guard := none }) (v := ?vai21) rfl (by kernel_rfl) (by kernel_rfl) (by kernel_rfl) (fun _ _ _ h => h) (Or.inl ⟨by rfl, ?hai21⟩) hHeld ?rai21
                      case hai21 => (intro w hSw; (try dsimp only at hSw); go_simp; try with_reducible rfl)
                      try simp only [Act.put, List.setIfInBounds_toArray, List.set_cons_zero, List.set_cons_succ]
                      refine wpAnyH_take (i := 22) (oi := { dst := some 143, op := Go.Op.move (Go.Operand.tmp 142), type := 4, pos := "laws.go:492", after := #[{ on := 21, ground := Go.Ground.data }, { on := 19, ground := Go.Ground.chain }], guard := none }) (v := ?vai22) rfl (by kernel_rfl) (by kernel_rfl) (by kernel_rfl) (fun _ _ _ h => h) (Or.inl ⟨by rfl, ?hai22⟩) hHeld ?rai22
                      case hai22 => (intro w hSw; (try dsimp only at hSw); go_simp; try with_reducible rfl)
                      try simp only [Act.put, List.setIfInBounds_toArray, List.set_cons_zero, List.set_cons_succ]
                      refine wpAnyH_take (i := 23) (oi := { dst := some 144, op := Go.Op.move (Go.Operand.tmp 13), type := 3, pos := "laws.go:492", after := #[{ on := 22, ground := Go.Ground.guard }], guard := some (22, false) }) (v := ?vai23) rfl (by kernel_rfl) (by kernel_rfl) (by kernel_rfl) (fun _ _ _ h => h) (Or.inl ⟨by rfl, ?hai23⟩) hHeld ?rai23
                      case hai23 => (intro w hSw; (try dsimp only at hSw); go_simp; try with_reducible rfl)
                      try simp only [Act.put, List.setIfInBounds_toArray, List.set_cons_zero, List.set_cons_succ]
                      refine wpAnyH_take (i := 24) (oi := { dst := some 145, op := Go.Op.binOp Go.BinOp.gtr 3 (Go.Operand.tmp 144) (Go.Operand.const (Go.Value.int Go.IntKind.i64 0)) 3, type := 4, pos := "laws.go:492", after := #[{ on := 23, ground := Go.Ground.data }, { on := 22, ground := Go.Ground.guard }], guard := some (22, false) }) (v := ?vai24) rfl (by kernel_rfl) (by kernel_rfl) (by kernel_rfl) (fun _ _ _ h => h) (Or.inl ⟨by rfl, ?hai24⟩) hHeld ?rai24
                      case hai24 => (intro w hSw; (try dsimp only at hSw); go_simp; try with_reducible rfl)
                      try simp only [Act.put, List.setIfInBounds_toArray, List.set_cons_zero, List.set_cons_succ]
                      refine wpAnyH_take (i := 25) (oi := { dst := some 146, op := Go.Op.move (Go.Operand.tmp 145), type := 4, pos := "laws.go:492", after := #[{ on := 24, ground := Go.Ground.data }, { on := 22, ground := Go.Ground.chain }, { on := 22, ground := Go.Ground.guard }], guard := some (22, false) }) (v := ?vai25) rfl (by kernel_rfl) (by kernel_rfl) (by kernel_rfl) (fun _ _ _ h => h) (Or.inl ⟨by rfl, ?hai25⟩) hHeld ?rai25
                      case hai25 => (intro w hSw; (try dsimp only at hSw); go_simp; try with_reducible rfl)
                      try simp only [Act.put, List.setIfInBounds_toArray, List.set_cons_zero, List.set_cons_succ]
                      refine wpAnyH_take (i := 26) (oi := { dst := some 147, op := Go.Op.move (Go.Operand.tmp 9), type := 24, pos := "laws.go:492", after := #[{ on := 25, ground := Go.Ground.guard }], guard := some (25, true) }) (v := undef) rfl (by kernel_rfl) (by kernel_rfl) (by kernel_rfl) (fun _ _ _ h => h) (Or.inr ⟨by rfl, rfl⟩) hHeld ?_
                      try simp only [Act.put, List.setIfInBounds_toArray, List.set_cons_zero, List.set_cons_succ]
                      refine wpAnyH_take (i := 27) (oi := { dst := some 148, op := Go.Op.move (Go.Operand.tmp 12), type := 31, pos := "laws.go:492", after := #[{ on := 25, ground := Go.Ground.guard }], guard := some (25, true) }) (v := undef) rfl (by kernel_rfl) (by kernel_rfl) (by kernel_rfl) (fun _ _ _ h => h) (Or.inr ⟨by rfl, rfl⟩) hHeld ?_
                      try simp only [Act.put, List.setIfInBounds_toArray, List.set_cons_zero, List.set_cons_succ]
                      refine wpAnyH_take (i := 28) (oi := { dst := some 149, op := Go.Op.move (Go.Operand.tmp 13), type := 3, pos := "laws.go:492", after := #[{ on := 25, ground := Go.Ground.guard }], guard := some (25, true) }) (v := undef) rfl (by kernel_rfl) (by kernel_rfl) (by kernel_rfl) (fun _ _ _ h => h) (Or.inr ⟨by rfl, rfl⟩) hHeld ?_
                      try simp only [Act.put, List.setIfInBounds_toArray, List.set_cons_zero, List.set_cons_succ]
                      refine wpAnyH_take (i := 29) (oi := { dst := some 150, op := Go.Op.binOp Go.BinOp.sub 3 (Go.Operand.tmp 149) (Go.Operand.const (Go.Value.int Go.IntKind.i64 1)) 3, type := 3, pos := "laws.go:492", after := #[{ on := 28, ground := Go.Ground.data }, { on := 25, ground := Go.Ground.guard }], guard := some (25, true) }) (v := undef) rfl (by kernel_rfl) (by kernel_rfl) (by kernel_rfl) (fun _ _ _ h => h) (Or.inr ⟨by rfl, rfl⟩) hHeld ?_
                      try simp only [Act.put, List.setIfInBounds_toArray, List.set_cons_zero, List.set_cons_succ]
                      refine wpAnyH_take (i := 30) (oi := { dst := some 151, op := Go.Op.indexAddr 31 (Go.Operand.tmp 148) (Go.Operand.tmp 150), type := 0, pos := "laws.go:492", after := #[{ on := 27, ground := Go.Ground.data }, { on := 29, ground := Go.Ground.data }, { on := 25, ground := Go.Ground.guard }], guard := some (25, true) }) (v := undef) rfl (by kernel_rfl) (by kernel_rfl) (by kernel_rfl) (fun _ _ _ h => h) (Or.inr ⟨by rfl, rfl⟩) hHeld ?_
                      try simp only [Act.put, List.setIfInBounds_toArray, List.set_cons_zero, List.set_cons_succ]
                      refine wpAnyH_take (i := 31) (oi := { dst := some 152, op := Go.Op.load 2 (Go.Operand.tmp 151), type := 2, pos := "laws.go:492", after := #[{ on := 30, ground := Go.Ground.data }, { on := 25, ground := Go.Ground.guard }], guard := some (25, true) }) (v := undef) rfl (by kernel_rfl) (by kernel_rfl) (by kernel_rfl) (fun _ _ _ h => h) (Or.inr ⟨by rfl, rfl⟩) hHeld ?_
                      try simp only [Act.put, List.setIfInBounds_toArray, List.set_cons_zero, List.set_cons_succ]
                      refine wpAnyH_take (i := 32) (oi := { dst := some 153, op := Go.Op.indexAddr 24 (Go.Operand.tmp 147) (Go.Operand.tmp 152), type := 0, pos := "laws.go:492", after := #[{ on := 26, ground := Go.Ground.data }, { on := 31, ground := Go.Ground.data }, { on := 25, ground := Go.Ground.guard }], guard := some (25, true) }) (v := undef) rfl (by kernel_rfl) (by kernel_rfl) (by kernel_rfl) (fun _ _ _ h => h) (Or.inr ⟨by rfl, rfl⟩) hHeld ?_
                      try simp only [Act.put, List.setIfInBounds_toArray, List.set_cons_zero, List.set_cons_succ]
                      refine wpAnyH_take (i := 33) (oi := { dst := some 154, op := Go.Op.load 26 (Go.Operand.tmp 153), type := 26, pos := "laws.go:492", after := #[{ on := 32, ground := Go.Ground.data }, { on := 25, ground := Go.Ground.guard }], guard := some (25, true) }) (v := undef) rfl (by kernel_rfl) (by kernel_rfl) (by kernel_rfl) (fun _ _ _ h => h) (Or.inr ⟨by rfl, rfl⟩) hHeld ?_
                      try simp only [Act.put, List.setIfInBounds_toArray, List.set_cons_zero, List.set_cons_succ]
                      refine wpAnyH_take (i := 34) (oi := { dst := some 155, op := Go.Op.load 26 (Go.Operand.tmp 10), type := 26, pos := "laws.go:492", after := #[{ on := 25, ground := Go.Ground.guard }], guard := some (25, true) }) (v := undef) rfl (by kernel_rfl) (by kernel_rfl) (by kernel_rfl) (fun _ _ _ h => h) (Or.inr ⟨by rfl, rfl⟩) hHeld ?_
                      try simp only [Act.put, List.setIfInBounds_toArray, List.set_cons_zero, List.set_cons_succ]
                      refine wpAnyH_take (i := 35) (oi := { dst := some 156, op := Go.Op.call { callee := Go.Callee.value (Go.Operand.func 15), args := #[Go.Operand.tmp 154, Go.Operand.tmp 155], argTypes := #[26, 26] }, type := 2, pos := "laws.go:492", after := #[{ on := 33, ground := Go.Ground.data }, { on := 34, ground := Go.Ground.data }, { on := 25, ground := Go.Ground.chain }, { on := 25, ground := Go.Ground.guard }], guard := some (25, true) }) (v := undef) rfl (by kernel_rfl) (by kernel_rfl) (by kernel_rfl) (fun _ _ _ h => h) (Or.inr ⟨by rfl, rfl⟩) hHeld ?_
                      try simp only [Act.put, List.setIfInBounds_toArray, List.set_cons_zero, List.set_cons_succ]
                      refine wpAnyH_take (i := 36) (oi := { dst := some 157, op := Go.Op.move (Go.Operand.tmp 9), type := 24, pos := "laws.go:492", after := #[{ on := 25, ground := Go.Ground.guard }], guard := some (25, true) }) (v := undef) rfl (by kernel_rfl) (by kernel_rfl) (by kernel_rfl) (fun _ _ _ h => h) (Or.inr ⟨by rfl, rfl⟩) hHeld ?_
                      try simp only [Act.put, List.setIfInBounds_toArray, List.set_cons_zero, List.set_cons_succ]
                      refine wpAnyH_take (i := 37) (oi := { dst := some 158, op := Go.Op.move (Go.Operand.tmp 12), type := 31, pos := "laws.go:492", after := #[{ on := 25, ground := Go.Ground.guard }], guard := some (25, true) }) (v := undef) rfl (by kernel_rfl) (by kernel_rfl) (by kernel_rfl) (fun _ _ _ h => h) (Or.inr ⟨by rfl, rfl⟩) hHeld ?_
                      try simp only [Act.put, List.setIfInBounds_toArray, List.set_cons_zero, List.set_cons_succ]
                      refine wpAnyH_take (i := 38) (oi := { dst := some 159, op := Go.Op.move (Go.Operand.tmp 13), type := 3, pos := "laws.go:492", after := #[{ on := 25, ground := Go.Ground.guard }], guard := some (25, true) }) (v := undef) rfl (by kernel_rfl) (by kernel_rfl) (by kernel_rfl) (fun _ _ _ h => h) (Or.inr ⟨by rfl, rfl⟩) hHeld ?_
                      try simp only [Act.put, List.setIfInBounds_toArray, List.set_cons_zero, List.set_cons_succ]
                      refine wpAnyH_take (i := 39) (oi := { dst := some 160, op := Go.Op.indexAddr 31 (Go.Operand.tmp 158) (Go.Operand.tmp 159), type := 0, pos := "laws.go:492", after := #[{ on := 37, ground := Go.Ground.data }, { on := 38, ground := Go.Ground.data }, { on := 25, ground := Go.Ground.guard }], guard := some (25, true) }) (v := undef) rfl (by kernel_rfl) (by kernel_rfl) (by kernel_rfl) (fun _ _ _ h => h) (Or.inr ⟨by rfl, rfl⟩) hHeld ?_
                      try simp only [Act.put, List.setIfInBounds_toArray, List.set_cons_zero, List.set_cons_succ]
                      refine wpAnyH_take (i := 40) (oi := { dst := some 161, op := Go.Op.load 2 (Go.Operand.tmp 160), type := 2, pos := "laws.go:492", after := #[{ on := 39, ground := Go.Ground.data }, { on := 25, ground := Go.Ground.guard }], guard := some (25, true) }) (v := undef) rfl (by kernel_rfl) (by kernel_rfl) (by kernel_rfl) (fun _ _ _ h => h) (Or.inr ⟨by rfl, rfl⟩) hHeld ?_
                      try simp only [Act.put, List.setIfInBounds_toArray, List.set_cons_zero, List.set_cons_succ]
                      refine wpAnyH_take (i := 41) (oi := { dst := some 162, op := Go.Op.indexAddr 24 (Go.Operand.tmp 157) (Go.Operand.tmp 161), type := 0, pos := "laws.go:492", after := #[{ on := 36, ground := Go.Ground.data }, { on := 40, ground := Go.Ground.data }, { on := 25, ground := Go.Ground.guard }], guard := some (25, true) }) (v := undef) rfl (by kernel_rfl) (by kernel_rfl) (by kernel_rfl) (fun _ _ _ h => h) (Or.inr ⟨by rfl, rfl⟩) hHeld ?_
                      try simp only [Act.put, List.setIfInBounds_toArray, List.set_cons_zero, List.set_cons_succ]
                      refine wpAnyH_take (i := 42) (oi := { dst := some 163, op := Go.Op.load 26 (Go.Operand.tmp 162), type := 26, pos := "laws.go:492", after := #[{ on := 41, ground := Go.Ground.data }, { on := 25, ground := Go.Ground.guard }], guard := some (25, true) }) (v := undef) rfl (by kernel_rfl) (by kernel_rfl) (by kernel_rfl) (fun _ _ _ h => h) (Or.inr ⟨by rfl, rfl⟩) hHeld ?_
                      try simp only [Act.put, List.setIfInBounds_toArray, List.set_cons_zero, List.set_cons_succ]
                      refine wpAnyH_take (i := 43) (oi := { dst := some 164, op := Go.Op.load 26 (Go.Operand.tmp 10), type := 26, pos := "laws.go:492", after := #[{ on := 25, ground := Go.Ground.guard }], guard := some (25, true) }) (v := undef) rfl (by kernel_rfl) (by kernel_rfl) (by kernel_rfl) (fun _ _ _ h => h) (Or.inr ⟨by rfl, rfl⟩) hHeld ?_
                      try simp only [Act.put, List.setIfInBounds_toArray, List.set_cons_zero, List.set_cons_succ]
                      refine wpAnyH_take (i := 44) (oi := { dst := some 165, op := Go.Op.call { callee := Go.Callee.value (Go.Operand.func 15), args := #[Go.Operand.tmp 163, Go.Operand.tmp 164], argTypes := #[26, 26] }, type := 2, pos := "laws.go:492", after := #[{ on := 42, ground := Go.Ground.data }, { on := 43, ground := Go.Ground.data }, { on := 35, ground := Go.Ground.chain }, { on := 25, ground := Go.Ground.guard }], guard := some (25, true) }) (v := undef) rfl (by kernel_rfl) (by kernel_rfl) (by kernel_rfl) (fun _ _ _ h => h) (Or.inr ⟨by rfl, rfl⟩) hHeld ?_
                      try simp only [Act.put, List.setIfInBounds_toArray, List.set_cons_zero, List.set_cons_succ]
                      refine wpAnyH_take (i := 45) (oi := { dst := some 166, op := Go.Op.binOp Go.BinOp.gtr 2 (Go.Operand.tmp 156) (Go.Operand.tmp 165) 2, type := 4, pos := "laws.go:492", after := #[{ on := 35, ground := Go.Ground.data }, { on := 44, ground := Go.Ground.data }, { on := 25, ground := Go.Ground.guard }], guard := some (25, true) }) (v := undef) rfl (by kernel_rfl) (by kernel_rfl) (by kernel_rfl) (fun _ _ _ h => h) (Or.inr ⟨by rfl, rfl⟩) hHeld ?_
                      try simp only [Act.put, List.setIfInBounds_toArray, List.set_cons_zero, List.set_cons_succ]
                      refine wpAnyH_take (i := 46) (oi := { dst := some 167, op := Go.Op.pick (Go.Operand.tmp 146) (Go.Operand.tmp 166) (Go.Operand.const (Go.Value.bool false)), type := 4, pos := "laws.go:492", after := #[{ on := 25, ground := Go.Ground.data }, { on := 45, ground := Go.Ground.data }, { on := 22, ground := Go.Ground.guard }], guard := some (22, false) }) (v := ?vai46) rfl (by kernel_rfl) (by kernel_rfl) (by kernel_rfl) (fun _ _ _ h => h) (Or.inl ⟨by rfl, ?hai46⟩) hHeld ?rai46
                      case hai46 => (intro w hSw; (try dsimp only at hSw); go_simp; try with_reducible rfl)
                      try simp only [Act.put, List.setIfInBounds_toArray, List.set_cons_zero, List.set_cons_succ]
                      refine wpAnyH_take (i := 47) (oi := { dst := some 168, op := Go.Op.pick (Go.Operand.tmp 143) (Go.Operand.const (Go.Value.bool true)) (Go.Operand.tmp 167), type := 4, pos := "laws.go:492", after := #[{ on := 22, ground := Go.Ground.data }, { on := 46, ground := Go.Ground.data }], guard := none }) (v := ?vai47) rfl (by kernel_rfl) (by kernel_rfl) (by kernel_rfl) (fun _ _ _ h => h) (Or.inl ⟨by rfl, ?hai47⟩) hHeld ?rai47
                      case hai47 => (intro w hSw; (try dsimp only at hSw); go_simp; try with_reducible rfl)
                      try simp only [Act.put, List.setIfInBounds_toArray, List.set_cons_zero, List.set_cons_succ]
                      refine wpAnyH_done (by kernel_rfl) ?_ _
                      refine NoPanic.normal ?_
                      have hB9 := bel_step hBr hHeld
                      clear hHs0 hQu hQt hcl hHeld g0
                      go_wp2
                      go_roundw
                      case rel => exact ⟨t + 1, by omega, by go_num, hB9⟩
                      case measure => simp [intOf]; omega
                    · obtain ⟨k, Hk⟩ : ∃ k, Hid (s = k + 1) := ⟨s - 1, (by omega : s = (s - 1) + 1)⟩
                      have hsk : s = k + 1 := Hk.out
                      have hkl : k + 1 < M8.length := by omega
                      have hlk : (k : Int) < (r : Int) := by omega
                      have hs1 : decide ((0 : Int) < (s : Int)) = true := by simp only [decide_eq_true_eq]; omega
                      have hs2 : 0 < s := by omega
                      have hs3 : decide (0 < s) = true := by simp only [hs2, decide_true]
                      have hs4 : (0 : Int) < (s : Int) := by omega
                      obtain ⟨x, hx, Lx⟩ := HF2.out k (by omega)
                      have hxn : (x : Int) < (n : Int) := by omega
                      have hle := HF3.out k x u hkl Lx (by have := HLu.out; simp only [hsk] at this; exact this)
                      have z0 := (int_k hIL (k := k) (by omega)).2
                      rw [Lx] at z0
                      obtain ⟨p0, p1⟩ := HPC.out x hx
                      obtain ⟨xk, Hxk⟩ : ∃ z, Hid (X' x = z) := ⟨_, (rfl : X' x = _)⟩
                      obtain ⟨yk, Hyk⟩ : ∃ z, Hid (Y' x = z) := ⟨_, (rfl : Y' x = _)⟩
                      rw [Hxk.out] at p0
                      rw [Hyk.out] at p1
                      obtain ⟨dk, Hdk⟩ : ∃ z, Hid (dsq px py xk yk = z) := ⟨_, (rfl : dsq px py xk yk = _)⟩
                      rw [Hxk.out, Hyk.out, Hxu.out, Hyu.out, Hdu.out, Hdk.out] at hle
                      have hdk : decide (du < dk) = false := by simp only [decide_eq_false_iff_not]; omega
                      have HKk : Hid (POk xk yk) := by have := HF1.out x hx; rw [Hxk.out, Hyk.out] at this; exact this
                      have hQk : ∀ w', Bel wr w' → Calls Tryd.prog 15 #[.agg #[.int .i64 xk, .int .i64 yk], .agg #[.int .i64 px, .int .i64 py]] w' fun e w2 => e = .returned (.int .i64 dk) ∧ Bel w' w2 := fun w' _ => by
                        refine (lawSquare_any xk yk px py w' HKk.out HF0.out).mono ?_
                        rintro e w2 ⟨rfl, hb2⟩
                        rw [Hdk.out]
                        exact ⟨rfl, hb2⟩
                      have hck : ∀ w', Bel wr w' → w'.cell? ⟨lb, lo + k, none⟩ = some (.int .i64 (x : Int)) ∧ w'.cell? ⟨pb, po + x * 2, none⟩ = some (.int .i64 xk) ∧ w'.cell? ⟨pb, po + x * 2 + 1, none⟩ = some (.int .i64 yk) := fun w' h => ⟨bel_cellM h hlb z0, bel_cellM h hpb p0, bel_cellM h hpb p1⟩
                      have hwk : IntKind.i64.wrap ((s : Int) - 1) = (k : Int) := by rw [IntKind.wrap_i64]; omega
                      clear z0 p0 p1 Lx hle hIL hsk
                      go_upto_region 32 with fail
                      refine wp_region_noPanic ?_
                      refine wp_region_held_drew (S := fun w' => Bel wr w') (by kernel_rfl) (Bel.drew g0) (fun hHeld => ?_)
                      refine wpAnyH_take (i := 0) (oi := { dst := some 121, op := Go.Op.move (Go.Operand.tmp 12), type := 31, pos := "laws.go:492", after := #[], guard := none }) (v := ?vaj0) rfl (by kernel_rfl) (by kernel_rfl) (by kernel_rfl) (fun _ _ _ h => h) (Or.inl ⟨by rfl, ?haj0⟩) hHeld ?raj0
                      case haj0 => (intro w hSw; (try dsimp only at hSw); go_simp; try with_reducible rfl)
                      try simp only [Act.put, List.setIfInBounds_toArray, List.set_cons_zero, List.set_cons_succ]
                      refine wpAnyH_take (i := 1) (oi := { dst := some 122, op := Go.Op.move (Go.Operand.tmp 14), type := 3, pos := "laws.go:492", after := #[], guard := none }) (v := ?vaj1) rfl (by kernel_rfl) (by kernel_rfl) (by kernel_rfl) (fun _ _ _ h => h) (Or.inl ⟨by rfl, ?haj1⟩) hHeld ?raj1
                      case haj1 => (intro w hSw; (try dsimp only at hSw); go_simp; try with_reducible rfl)
                      try simp only [Act.put, List.setIfInBounds_toArray, List.set_cons_zero, List.set_cons_succ]
                      refine wpAnyH_ready (rs := [2]) (by kernel_rfl) (by simp) ?_
                      refine AllReadyH.cons (o := { dst := some 123, op := Go.Op.call { callee := Go.Callee.value (Go.Operand.func 10), args := #[Go.Operand.tmp 121, Go.Operand.tmp 122], argTypes := #[31, 2] }, type := 4, pos := "laws.go:492", after := #[{ on := 0, ground := Go.Ground.data }, { on := 1, ground := Go.Ground.data }], guard := none }) rfl (fun K hK => ?_) AllReadyH.nil
                      go_simp
                      refine (hHs0 _ hHeld).mono ?_
                      rintro e w6 ⟨rfl, hb6⟩
                      go_wp2_with fail
                      refine hK.out _ _ (bel_step hHeld hb6) (fun hHeld' => ?_)
                      clear hK K hHeld
                      have hHeld := hHeld'
                      clear hHeld'
                      try simp only [Act.put, List.setIfInBounds_toArray, List.set_cons_zero, List.set_cons_succ]
                      refine wpAnyH_take (i := 3) (oi := { dst := some 124, op := Go.Op.unOp Go.UnOp.not 4 (Go.Operand.tmp 123), type := 4, pos := "laws.go:492", after := #[{ on := 2, ground := Go.Ground.data }], guard := none }) (v := ?vaj3) rfl (by kernel_rfl) (by kernel_rfl) (by kernel_rfl) (fun _ _ _ h => h) (Or.inl ⟨by rfl, ?haj3⟩) hHeld ?raj3
                      case haj3 => (intro w hSw; (try dsimp only at hSw); go_simp; try with_reducible rfl)
                      try simp only [Act.put, List.setIfInBounds_toArray, List.set_cons_zero, List.set_cons_succ]
                      refine wpAnyH_take (i := 4) (oi := { dst := some 125, op := Go.Op.move (Go.Operand.tmp 124), type := 4, pos := "laws.go:492", after := #[{ on := 3, ground := Go.Ground.data }, { on := 2, ground := Go.Ground.chain }], guard := none }) (v := ?vaj4) rfl (by kernel_rfl) (by kernel_rfl) (by kernel_rfl) (fun _ _ _ h => h) (Or.inl ⟨by rfl, ?haj4⟩) hHeld ?raj4
                      case haj4 => (intro w hSw; (try dsimp only at hSw); go_simp; try with_reducible rfl)
                      try simp only [Act.put, List.setIfInBounds_toArray, List.set_cons_zero, List.set_cons_succ]
                      refine wpAnyH_take (i := 5) (oi := { dst := some 126, op := Go.Op.move (Go.Operand.tmp 9), type := 24, pos := "laws.go:492", after := #[{ on := 4, ground := Go.Ground.guard }], guard := some (4, true) }) (v := undef) rfl (by kernel_rfl) (by kernel_rfl) (by kernel_rfl) (fun _ _ _ h => h) (Or.inr ⟨by rfl, rfl⟩) hHeld ?_
                      try simp only [Act.put, List.setIfInBounds_toArray, List.set_cons_zero, List.set_cons_succ]
                      refine wpAnyH_take (i := 6) (oi := { dst := some 127, op := Go.Op.move (Go.Operand.tmp 14), type := 3, pos := "laws.go:492", after := #[{ on := 4, ground := Go.Ground.guard }], guard := some (4, true) }) (v := undef) rfl (by kernel_rfl) (by kernel_rfl) (by kernel_rfl) (fun _ _ _ h => h) (Or.inr ⟨by rfl, rfl⟩) hHeld ?_
                      try simp only [Act.put, List.setIfInBounds_toArray, List.set_cons_zero, List.set_cons_succ]
                      refine wpAnyH_take (i := 7) (oi := { dst := some 128, op := Go.Op.indexAddr 24 (Go.Operand.tmp 126) (Go.Operand.tmp 127), type := 0, pos := "laws.go:492", after := #[{ on := 5, ground := Go.Ground.data }, { on := 6, ground := Go.Ground.data }, { on := 4, ground := Go.Ground.guard }], guard := some (4, true) }) (v := undef) rfl (by kernel_rfl) (by kernel_rfl) (by kernel_rfl) (fun _ _ _ h => h) (Or.inr ⟨by rfl, rfl⟩) hHeld ?_
                      try simp only [Act.put, List.setIfInBounds_toArray, List.set_cons_zero, List.set_cons_succ]
                      refine wpAnyH_take (i := 8) (oi := { dst := some 129, op := Go.Op.load 26 (Go.Operand.tmp 128), type := 26, pos := "laws.go:492", after := #[{ on := 7, ground := Go.Ground.data }, { on := 4, ground := Go.Ground.guard }], guard := some (4, true) }) (v := undef) rfl (by kernel_rfl) (by kernel_rfl) (by kernel_rfl) (fun _ _ _ h => h) (Or.inr ⟨by rfl, rfl⟩) hHeld ?_
                      try simp only [Act.put, List.setIfInBounds_toArray, List.set_cons_zero, List.set_cons_succ]
                      refine wpAnyH_take (i := 9) (oi := { dst := some 130, op := Go.Op.load 26 (Go.Operand.tmp 10), type := 26, pos := "laws.go:492", after := #[{ on := 4, ground := Go.Ground.guard }], guard := some (4, true) }) (v := undef) rfl (by kernel_rfl) (by kernel_rfl) (by kernel_rfl) (fun _ _ _ h => h) (Or.inr ⟨by rfl, rfl⟩) hHeld ?_
                      try simp only [Act.put, List.setIfInBounds_toArray, List.set_cons_zero, List.set_cons_succ]
                      refine wpAnyH_take (i := 10) (oi := { dst := some 131, op := Go.Op.call { callee := Go.Callee.value (Go.Operand.func 15), args := #[Go.Operand.tmp 129, Go.Operand.tmp 130], argTypes := #[26, 26] }, type := 2, pos := "laws.go:492", after := #[{ on := 8, ground := Go.Ground.data }, { on := 9, ground := Go.Ground.data }, { on := 4, ground := Go.Ground.chain }, { on := 4, ground := Go.Ground.guard }], guard := some (4, true) }) (v := undef) rfl (by kernel_rfl) (by kernel_rfl) (by kernel_rfl) (fun _ _ _ h => h) (Or.inr ⟨by rfl, rfl⟩) hHeld ?_
                      try simp only [Act.put, List.setIfInBounds_toArray, List.set_cons_zero, List.set_cons_succ]
                      refine wpAnyH_take (i := 11) (oi := { dst := some 132, op := Go.Op.move (Go.Operand.tmp 9), type := 24, pos := "laws.go:492", after := #[{ on := 4, ground := Go.Ground.guard }], guard := some (4, true) }) (v := undef) rfl (by kernel_rfl) (by kernel_rfl) (by kernel_rfl) (fun _ _ _ h => h) (Or.inr ⟨by rfl, rfl⟩) hHeld ?_
                      try simp only [Act.put, List.setIfInBounds_toArray, List.set_cons_zero, List.set_cons_succ]
                      refine wpAnyH_take (i := 12) (oi := { dst := some 133, op := Go.Op.move (Go.Operand.tmp 12), type := 31, pos := "laws.go:492", after := #[{ on := 4, ground := Go.Ground.guard }], guard := some (4, true) }) (v := undef) rfl (by kernel_rfl) (by kernel_rfl) (by kernel_rfl) (fun _ _ _ h => h) (Or.inr ⟨by rfl, rfl⟩) hHeld ?_
                      try simp only [Act.put, List.setIfInBounds_toArray, List.set_cons_zero, List.set_cons_succ]
                      refine wpAnyH_take (i := 13) (oi := { dst := some 134, op := Go.Op.move (Go.Operand.tmp 13), type := 3, pos := "laws.go:492", after := #[{ on := 4, ground := Go.Ground.guard }], guard := some (4, true) }) (v := undef) rfl (by kernel_rfl) (by kernel_rfl) (by kernel_rfl) (fun _ _ _ h => h) (Or.inr ⟨by rfl, rfl⟩) hHeld ?_
                      try simp only [Act.put, List.setIfInBounds_toArray, List.set_cons_zero, List.set_cons_succ]
                      refine wpAnyH_take (i := 14) (oi := { dst := some 135, op := Go.Op.indexAddr 31 (Go.Operand.tmp 133) (Go.Operand.tmp 134), type := 0, pos := "laws.go:492", after := #[{ on := 12, ground := Go.Ground.data }, { on := 13, ground := Go.Ground.data }, { on := 4, ground := Go.Ground.guard }], guard := some (4, true) }) (v := undef) rfl (by kernel_rfl) (by kernel_rfl) (by kernel_rfl) (fun _ _ _ h => h) (Or.inr ⟨by rfl, rfl⟩) hHeld ?_
                      try simp only [Act.put, List.setIfInBounds_toArray, List.set_cons_zero, List.set_cons_succ]
                      refine wpAnyH_take (i := 15) (oi := { dst := some 136, op := Go.Op.load 2 (Go.Operand.tmp 135), type := 2, pos := "laws.go:492", after := #[{ on := 14, ground := Go.Ground.data }, { on := 4, ground := Go.Ground.guard }], guard := some (4, true) }) (v := undef) rfl (by kernel_rfl) (by kernel_rfl) (by kernel_rfl) (fun _ _ _ h => h) (Or.inr ⟨by rfl, rfl⟩) hHeld ?_
                      try simp only [Act.put, List.setIfInBounds_toArray, List.set_cons_zero, List.set_cons_succ]
                      refine wpAnyH_take (i := 16) (oi := { dst := some 137, op := Go.Op.indexAddr 24 (Go.Operand.tmp 132) (Go.Operand.tmp 136), type := 0, pos := "laws.go:492", after := #[{ on := 11, ground := Go.Ground.data }, { on := 15, ground := Go.Ground.data }, { on := 4, ground := Go.Ground.guard }], guard := some (4, true) }) (v := undef) rfl (by kernel_rfl) (by kernel_rfl) (by kernel_rfl) (fun _ _ _ h => h) (Or.inr ⟨by rfl, rfl⟩) hHeld ?_
                      try simp only [Act.put, List.setIfInBounds_toArray, List.set_cons_zero, List.set_cons_succ]
                      refine wpAnyH_take (i := 17) (oi := { dst := some 138, op := Go.Op.load 26 (Go.Operand.tmp 137), type := 26, pos := "laws.go:492", after := #[{ on := 16, ground := Go.Ground.data }, { on := 4, ground := Go.Ground.guard }], guard := some (4, true) }) (v := undef) rfl (by kernel_rfl) (by kernel_rfl) (by kernel_rfl) (fun _ _ _ h => h) (Or.inr ⟨by rfl, rfl⟩) hHeld ?_
                      try simp only [Act.put, List.setIfInBounds_toArray, List.set_cons_zero, List.set_cons_succ]
                      refine wpAnyH_take (i := 18) (oi := { dst := some 139, op := Go.Op.load 26 (Go.Operand.tmp 10), type := 26, pos := "laws.go:492", after := #[{ on := 4, ground := Go.Ground.guard }], guard := some (4, true) }) (v := undef) rfl (by kernel_rfl) (by kernel_rfl) (by kernel_rfl) (fun _ _ _ h => h) (Or.inr ⟨by rfl, rfl⟩) hHeld ?_
                      try simp only [Act.put, List.setIfInBounds_toArray, List.set_cons_zero, List.set_cons_succ]
                      refine wpAnyH_take (i := 19) (oi := { dst := some 140, op := Go.Op.call { callee := Go.Callee.value (Go.Operand.func 15), args := #[Go.Operand.tmp 138, Go.Operand.tmp 139], argTypes := #[26, 26] }, type := 2, pos := "laws.go:492", after := #[{ on := 17, ground := Go.Ground.data }, { on := 18, ground := Go.Ground.data }, { on := 10, ground := Go.Ground.chain }, { on := 4, ground := Go.Ground.guard }], guard := some (4, true) }) (v := undef) rfl (by kernel_rfl) (by kernel_rfl) (by kernel_rfl) (fun _ _ _ h => h) (Or.inr ⟨by rfl, rfl⟩) hHeld ?_
                      try simp only [Act.put, List.setIfInBounds_toArray, List.set_cons_zero, List.set_cons_succ]
                      refine wpAnyH_take (i := 20) (oi := { dst := some 141, op := Go.Op.binOp Go.BinOp.lss 2 (Go.Operand.tmp 131) (Go.Operand.tmp 140) 2, type := 4, pos := "laws.go:492", after := #[{ on := 10, ground := Go.Ground.data }, { on := 19, ground := Go.Ground.data }, { on := 4, ground := Go.Ground.guard }], guard := some (4, true) }) (v := undef) rfl (by kernel_rfl) (by kernel_rfl) (by kernel_rfl) (fun _ _ _ h => h) (Or.inr ⟨by rfl, rfl⟩) hHeld ?_
                      try simp only [Act.put, List.setIfInBounds_toArray, List.set_cons_zero, List.set_cons_succ]
                      refine wpAnyH_take (i := 21) (oi := { dst := some 142, op := Go.Op.pick (Go.Operand.tmp 125) (Go.Operand.tmp 141) (Go.Operand.const (Go.Value.bool false)), type := 4, pos := "laws.go:492", after := #[{ on := 4, ground := Go.Ground.data }, { on := 20, ground := Go.Ground.data }], guard := none }) (v := ?vaj21) rfl (by kernel_rfl) (by kernel_rfl) (by kernel_rfl) (fun _ _ _ h => h) (Or.inl ⟨by rfl, ?haj21⟩) hHeld ?raj21
                      case haj21 => (intro w hSw; (try dsimp only at hSw); go_simp; try with_reducible rfl)
                      try simp only [Act.put, List.setIfInBounds_toArray, List.set_cons_zero, List.set_cons_succ]
                      refine wpAnyH_take (i := 22) (oi := { dst := some 143, op := Go.Op.move (Go.Operand.tmp 142), type := 4, pos := "laws.go:492", after := #[{ on := 21, ground := Go.Ground.data }, { on := 19, ground := Go.Ground.chain }], guard := none }) (v := ?vaj22) rfl (by kernel_rfl) (by kernel_rfl) (by kernel_rfl) (fun _ _ _ h => h) (Or.inl ⟨by rfl, ?haj22⟩) hHeld ?raj22
                      case haj22 => (intro w hSw; (try dsimp only at hSw); go_simp; try with_reducible rfl)
                      try simp only [Act.put, List.setIfInBounds_toArray, List.set_cons_zero, List.set_cons_succ]
                      refine wpAnyH_take (i := 23) (oi := { dst := some 144, op := Go.Op.move (Go.Operand.tmp 13), type := 3, pos := "laws.go:492", after := #[{ on := 22, ground := Go.Ground.guard }], guard := some (22, false) }) (v := ?vaj23) rfl (by kernel_rfl) (by kernel_rfl) (by kernel_rfl) (fun _ _ _ h => h) (Or.inl ⟨by rfl, ?haj23⟩) hHeld ?raj23
                      case haj23 => (intro w hSw; (try dsimp only at hSw); go_simp; try with_reducible rfl)
                      try simp only [Act.put, List.setIfInBounds_toArray, List.set_cons_zero, List.set_cons_succ]
                      refine wpAnyH_take (i := 24) (oi := { dst := some 145, op := Go.Op.binOp Go.BinOp.gtr 3 (Go.Operand.tmp 144) (Go.Operand.const (Go.Value.int Go.IntKind.i64 0)) 3, type := 4, pos := "laws.go:492", after := #[{ on := 23, ground := Go.Ground.data }, { on := 22, ground := Go.Ground.guard }], guard := some (22, false) }) (v := ?vaj24) rfl (by kernel_rfl) (by kernel_rfl) (by kernel_rfl) (fun _ _ _ h => h) (Or.inl ⟨by rfl, ?haj24⟩) hHeld ?raj24
                      case haj24 => (intro w hSw; (try dsimp only at hSw); go_simp; try with_reducible rfl)
                      try simp only [Act.put, List.setIfInBounds_toArray, List.set_cons_zero, List.set_cons_succ]
                      refine wpAnyH_take (i := 25) (oi := { dst := some 146, op := Go.Op.move (Go.Operand.tmp 145), type := 4, pos := "laws.go:492", after := #[{ on := 24, ground := Go.Ground.data }, { on := 22, ground := Go.Ground.chain }, { on := 22, ground := Go.Ground.guard }], guard := some (22, false) }) (v := ?vaj25) rfl (by kernel_rfl) (by kernel_rfl) (by kernel_rfl) (fun _ _ _ h => h) (Or.inl ⟨by rfl, ?haj25⟩) hHeld ?raj25
                      case haj25 => (intro w hSw; (try dsimp only at hSw); go_simp; try with_reducible rfl)
                      try simp only [Act.put, List.setIfInBounds_toArray, List.set_cons_zero, List.set_cons_succ]
                      refine wpAnyH_take (i := 26) (oi := { dst := some 147, op := Go.Op.move (Go.Operand.tmp 9), type := 24, pos := "laws.go:492", after := #[{ on := 25, ground := Go.Ground.guard }], guard := some (25, true) }) (v := ?vaj26) rfl (by kernel_rfl) (by kernel_rfl) (by kernel_rfl) (fun _ _ _ h => h) (Or.inl ⟨by rfl, ?haj26⟩) hHeld ?raj26
                      case haj26 => (intro w hSw; (try dsimp only at hSw); go_simp; try with_reducible rfl)
                      try simp only [Act.put, List.setIfInBounds_toArray, List.set_cons_zero, List.set_cons_succ]
                      refine wpAnyH_take (i := 27) (oi := { dst := some 148, op := Go.Op.move (Go.Operand.tmp 12), type := 31, pos := "laws.go:492", after := #[{ on := 25, ground := Go.Ground.guard }], guard := some (25, true) }) (v := ?vaj27) rfl (by kernel_rfl) (by kernel_rfl) (by kernel_rfl) (fun _ _ _ h => h) (Or.inl ⟨by rfl, ?haj27⟩) hHeld ?raj27
                      case haj27 => (intro w hSw; (try dsimp only at hSw); go_simp; try with_reducible rfl)
                      try simp only [Act.put, List.setIfInBounds_toArray, List.set_cons_zero, List.set_cons_succ]
                      refine wpAnyH_take (i := 28) (oi := { dst := some 149, op := Go.Op.move (Go.Operand.tmp 13), type := 3, pos := "laws.go:492", after := #[{ on := 25, ground := Go.Ground.guard }], guard := some (25, true) }) (v := ?vaj28) rfl (by kernel_rfl) (by kernel_rfl) (by kernel_rfl) (fun _ _ _ h => h) (Or.inl ⟨by rfl, ?haj28⟩) hHeld ?raj28
                      case haj28 => (intro w hSw; (try dsimp only at hSw); go_simp; try with_reducible rfl)
                      try simp only [Act.put, List.setIfInBounds_toArray, List.set_cons_zero, List.set_cons_succ]
                      refine wpAnyH_take (i := 29) (oi := { dst := some 150, op := Go.Op.binOp Go.BinOp.sub 3 (Go.Operand.tmp 149) (Go.Operand.const (Go.Value.int Go.IntKind.i64 1)) 3, type := 3, pos := "laws.go:492", after := #[{ on := 28, ground := Go.Ground.data }, { on := 25, ground := Go.Ground.guard }], guard := some (25, true) }) (v := ?vaj29) rfl (by kernel_rfl) (by kernel_rfl) (by kernel_rfl) (fun _ _ _ h => h) (Or.inl ⟨by rfl, ?haj29⟩) hHeld ?raj29
                      case haj29 => (intro w hSw; (try dsimp only at hSw); go_simp; try with_reducible rfl)
                      try simp only [Act.put, List.setIfInBounds_toArray, List.set_cons_zero, List.set_cons_succ]
                      refine wpAnyH_take (i := 30) (oi := { dst := some 151, op := Go.Op.indexAddr 31 (Go.Operand.tmp 148) (Go.Operand.tmp 150), type := 0, pos := "laws.go:492", after := #[{ on := 27, ground := Go.Ground.data }, { on := 29, ground := Go.Ground.data }, { on := 25, ground := Go.Ground.guard }], guard := some (25, true) }) (v := ?vaj30) rfl (by kernel_rfl) (by kernel_rfl) (by kernel_rfl) (fun _ _ _ h => h) (Or.inl ⟨by rfl, ?haj30⟩) hHeld ?raj30
                      case haj30 => (intro w hSw; (try dsimp only at hSw); go_simp; try with_reducible rfl)
                      try simp only [Act.put, List.setIfInBounds_toArray, List.set_cons_zero, List.set_cons_succ]
                      refine wpAnyH_take (i := 31) (oi := { dst := some 152, op := Go.Op.load 2 (Go.Operand.tmp 151), type := 2, pos := "laws.go:492", after := #[{ on := 30, ground := Go.Ground.data }, { on := 25, ground := Go.Ground.guard }], guard := some (25, true) }) (v := ?vaj31) rfl (by kernel_rfl) (by kernel_rfl) (by kernel_rfl) (fun _ _ _ h => h) (Or.inl ⟨by rfl, ?haj31⟩) hHeld ?raj31
                      case haj31 => (intro w hSw; (try dsimp only at hSw); go_simp; try with_reducible rfl)
                      try simp only [Act.put, List.setIfInBounds_toArray, List.set_cons_zero, List.set_cons_succ]
                      refine wpAnyH_take (i := 32) (oi := { dst := some 153, op := Go.Op.indexAddr 24 (Go.Operand.tmp 147) (Go.Operand.tmp 152), type := 0, pos := "laws.go:492", after := #[{ on := 26, ground := Go.Ground.data }, { on := 31, ground := Go.Ground.data }, { on := 25, ground := Go.Ground.guard }], guard := some (25, true) }) (v := ?vaj32) rfl (by kernel_rfl) (by kernel_rfl) (by kernel_rfl) (fun _ _ _ h => h) (Or.inl ⟨by rfl, ?haj32⟩) hHeld ?raj32
                      case haj32 => (intro w hSw; (try dsimp only at hSw); go_simp; try with_reducible rfl)
                      try simp only [Act.put, List.setIfInBounds_toArray, List.set_cons_zero, List.set_cons_succ]
                      refine wpAnyH_take (i := 33) (oi := { dst := some 154, op := Go.Op.load 26 (Go.Operand.tmp 153), type := 26, pos := "laws.go:492", after := #[{ on := 32, ground := Go.Ground.data }, { on := 25, ground := Go.Ground.guard }], guard := some (25, true) }) (v := ?vaj33) rfl (by kernel_rfl) (by kernel_rfl) (by kernel_rfl) (fun _ _ _ h => h) (Or.inl ⟨by rfl, ?haj33⟩) hHeld ?raj33
                      case haj33 => (intro w hSw; (try dsimp only at hSw); go_simp; try with_reducible rfl)
                      try simp only [Act.put, List.setIfInBounds_toArray, List.set_cons_zero, List.set_cons_succ]
                      refine wpAnyH_take (i := 34) (oi := { dst := some 155, op := Go.Op.load 26 (Go.Operand.tmp 10), type := 26, pos := "laws.go:492", after := #[{ on := 25, ground := Go.Ground.guard }], guard := some (25, true) }) (v := ?vaj34) rfl (by kernel_rfl) (by kernel_rfl) (by kernel_rfl) (fun _ _ _ h => h) (Or.inl ⟨by rfl, ?haj34⟩) hHeld ?raj34
                      case haj34 => (intro w hSw; (try dsimp only at hSw); go_simp; try with_reducible rfl)
                      try simp only [Act.put, List.setIfInBounds_toArray, List.set_cons_zero, List.set_cons_succ]
                      refine wpAnyH_take (i := 36) (oi := { dst := some 157, op := Go.Op.move (Go.Operand.tmp 9), type := 24, pos := "laws.go:492", after := #[{ on := 25, ground := Go.Ground.guard }], guard := some (25, true) }) (v := ?vaj36) rfl (by kernel_rfl) (by kernel_rfl) (by kernel_rfl) (fun _ _ _ h => h) (Or.inl ⟨by rfl, ?haj36⟩) hHeld ?raj36
                      case haj36 => (intro w hSw; (try dsimp only at hSw); go_simp; try with_reducible rfl)
                      try simp only [Act.put, List.setIfInBounds_toArray, List.set_cons_zero, List.set_cons_succ]
                      refine wpAnyH_take (i := 37) (oi := { dst := some 158, op := Go.Op.move (Go.Operand.tmp 12), type := 31, pos := "laws.go:492", after := #[{ on := 25, ground := Go.Ground.guard }], guard := some (25, true) }) (v := ?vaj37) rfl (by kernel_rfl) (by kernel_rfl) (by kernel_rfl) (fun _ _ _ h => h) (Or.inl ⟨by rfl, ?haj37⟩) hHeld ?raj37
                      case haj37 => (intro w hSw; (try dsimp only at hSw); go_simp; try with_reducible rfl)
                      try simp only [Act.put, List.setIfInBounds_toArray, List.set_cons_zero, List.set_cons_succ]
                      refine wpAnyH_take (i := 38) (oi := { dst := some 159, op := Go.Op.move (Go.Operand.tmp 13), type := 3, pos := "laws.go:492", after := #[{ on := 25, ground := Go.Ground.guard }], guard := some (25, true) }) (v := ?vaj38) rfl (by kernel_rfl) (by kernel_rfl) (by kernel_rfl) (fun _ _ _ h => h) (Or.inl ⟨by rfl, ?haj38⟩) hHeld ?raj38
                      case haj38 => (intro w hSw; (try dsimp only at hSw); go_simp; try with_reducible rfl)
                      try simp only [Act.put, List.setIfInBounds_toArray, List.set_cons_zero, List.set_cons_succ]
                      refine wpAnyH_take (i := 39) (oi := { dst := some 160, op := Go.Op.indexAddr 31 (Go.Operand.tmp 158) (Go.Operand.tmp 159), type := 0, pos := "laws.go:492", after := #[{ on := 37, ground := Go.Ground.data }, { on := 38, ground := Go.Ground.data }, { on := 25, ground := Go.Ground.guard }], guard := some (25, true) }) (v := ?vaj39) rfl (by kernel_rfl) (by kernel_rfl) (by kernel_rfl) (fun _ _ _ h => h) (Or.inl ⟨by rfl, ?haj39⟩) hHeld ?raj39
                      case haj39 => (intro w hSw; (try dsimp only at hSw); go_simp; try with_reducible rfl)
                      try simp only [Act.put, List.setIfInBounds_toArray, List.set_cons_zero, List.set_cons_succ]
                      refine wpAnyH_take (i := 40) (oi := { dst := some 161, op := Go.Op.load 2 (Go.Operand.tmp 160), type := 2, pos := "laws.go:492", after := #[{ on := 39, ground := Go.Ground.data }, { on := 25, ground := Go.Ground.guard }], guard := some (25, true) }) (v := ?vaj40) rfl (by kernel_rfl) (by kernel_rfl) (by kernel_rfl) (fun _ _ _ h => h) (Or.inl ⟨by rfl, ?haj40⟩) hHeld ?raj40
                      case haj40 => (intro w hSw; (try dsimp only at hSw); go_simp; try with_reducible rfl)
                      try simp only [Act.put, List.setIfInBounds_toArray, List.set_cons_zero, List.set_cons_succ]
                      refine wpAnyH_take (i := 41) (oi := { dst := some 162, op := Go.Op.indexAddr 24 (Go.Operand.tmp 157) (Go.Operand.tmp 161), type := 0, pos := "laws.go:492", after := #[{ on := 36, ground := Go.Ground.data }, { on := 40, ground := Go.Ground.data }, { on := 25, ground := Go.Ground.guard }], guard := some (25, true) }) (v := ?vaj41) rfl (by kernel_rfl) (by kernel_rfl) (by kernel_rfl) (fun _ _ _ h => h) (Or.inl ⟨by rfl, ?haj41⟩) hHeld ?raj41
                      case haj41 => (intro w hSw; (try dsimp only at hSw); go_simp; try with_reducible rfl)
                      try simp only [Act.put, List.setIfInBounds_toArray, List.set_cons_zero, List.set_cons_succ]
                      refine wpAnyH_take (i := 42) (oi := { dst := some 163, op := Go.Op.load 26 (Go.Operand.tmp 162), type := 26, pos := "laws.go:492", after := #[{ on := 41, ground := Go.Ground.data }, { on := 25, ground := Go.Ground.guard }], guard := some (25, true) }) (v := ?vaj42) rfl (by kernel_rfl) (by kernel_rfl) (by kernel_rfl) (fun _ _ _ h => h) (Or.inl ⟨by rfl, ?haj42⟩) hHeld ?raj42
                      case haj42 => (intro w hSw; (try dsimp only at hSw); go_simp; try with_reducible rfl)
                      try simp only [Act.put, List.setIfInBounds_toArray, List.set_cons_zero, List.set_cons_succ]
                      refine wpAnyH_take (i := 43) (oi := { dst := some 164, op := Go.Op.load 26 (Go.Operand.tmp 10), type := 26, pos := "laws.go:492", after := #[{ on := 25, ground := Go.Ground.guard }], guard := some (25, true) }) (v := ?vaj43) rfl (by kernel_rfl) (by kernel_rfl) (by kernel_rfl) (fun _ _ _ h => h) (Or.inl ⟨by rfl, ?haj43⟩) hHeld ?raj43
                      case haj43 => (intro w hSw; (try dsimp only at hSw); go_simp; try with_reducible rfl)
                      try simp only [Act.put, List.setIfInBounds_toArray, List.set_cons_zero, List.set_cons_succ]
                      refine wpAnyH_ready (rs := [35]) (by kernel_rfl) (by simp) ?_
                      refine AllReadyH.cons (o := { dst := some 156, op := Go.Op.call { callee := Go.Callee.value (Go.Operand.func 15), args := #[Go.Operand.tmp 154, Go.Operand.tmp 155], argTypes := #[26, 26] }, type := 2, pos := "laws.go:492", after := #[{ on := 33, ground := Go.Ground.data }, { on := 34, ground := Go.Ground.data }, { on := 25, ground := Go.Ground.chain }, { on := 25, ground := Go.Ground.guard }], guard := some (25, true) }) rfl (fun K hK => ?_) AllReadyH.nil
                      go_simp
                      refine (hQk _ hHeld).mono ?_
                      rintro e w6 ⟨rfl, hb6⟩
                      go_wp2_with fail
                      refine hK.out _ _ (bel_step hHeld hb6) (fun hHeld' => ?_)
                      clear hK K hHeld
                      have hHeld := hHeld'
                      clear hHeld'
                      try simp only [Act.put, List.setIfInBounds_toArray, List.set_cons_zero, List.set_cons_succ]
                      refine wpAnyH_ready (rs := [44]) (by kernel_rfl) (by simp) ?_
                      refine AllReadyH.cons (o := { dst := some 165, op := Go.Op.call { callee := Go.Callee.value (Go.Operand.func 15), args := #[Go.Operand.tmp 163, Go.Operand.tmp 164], argTypes := #[26, 26] }, type := 2, pos := "laws.go:492", after := #[{ on := 42, ground := Go.Ground.data }, { on := 43, ground := Go.Ground.data }, { on := 35, ground := Go.Ground.chain }, { on := 25, ground := Go.Ground.guard }], guard := some (25, true) }) rfl (fun K hK => ?_) AllReadyH.nil
                      go_simp
                      refine (hQu _ hHeld).mono ?_
                      rintro e w6 ⟨rfl, hb6⟩
                      go_wp2_with fail
                      refine hK.out _ _ (bel_step hHeld hb6) (fun hHeld' => ?_)
                      clear hK K hHeld
                      have hHeld := hHeld'
                      clear hHeld'
                      try simp only [Act.put, List.setIfInBounds_toArray, List.set_cons_zero, List.set_cons_succ]
                      refine wpAnyH_take (i := 45) (oi := { dst := some 166, op := Go.Op.binOp Go.BinOp.gtr 2 (Go.Operand.tmp 156) (Go.Operand.tmp 165) 2, type := 4, pos := "laws.go:492", after := #[{ on := 35, ground := Go.Ground.data }, { on := 44, ground := Go.Ground.data }, { on := 25, ground := Go.Ground.guard }], guard := some (25, true) }) (v := ?vaj45) rfl (by kernel_rfl) (by kernel_rfl) (by kernel_rfl) (fun _ _ _ h => h) (Or.inl ⟨by rfl, ?haj45⟩) hHeld ?raj45
                      case haj45 => (intro w hSw; (try dsimp only at hSw); go_simp; try with_reducible rfl)
                      try simp only [Act.put, List.setIfInBounds_toArray, List.set_cons_zero, List.set_cons_succ]
                      refine wpAnyH_take (i := 46) (oi := { dst := some 167, op := Go.Op.pick (Go.Operand.tmp 146) (Go.Operand.tmp 166) (Go.Operand.const (Go.Value.bool false)), type := 4, pos := "laws.go:492", after := #[{ on := 25, ground := Go.Ground.data }, { on := 45, ground := Go.Ground.data }, { on := 22, ground := Go.Ground.guard }], guard := some (22, false) }) (v := ?vaj46) rfl (by kernel_rfl) (by kernel_rfl) (by kernel_rfl) (fun _ _ _ h => h) (Or.inl ⟨by rfl, ?haj46⟩) hHeld ?raj46
                      case haj46 => (intro w hSw; (try dsimp only at hSw); go_simp; try with_reducible rfl)
                      try simp only [Act.put, List.setIfInBounds_toArray, List.set_cons_zero, List.set_cons_succ]
                      refine wpAnyH_take (i := 47) (oi := { dst := some 168, op := Go.Op.pick (Go.Operand.tmp 143) (Go.Operand.const (Go.Value.bool true)) (Go.Operand.tmp 167), type := 4, pos := "laws.go:492", after := #[{ on := 22, ground := Go.Ground.data }, { on := 46, ground := Go.Ground.data }], guard := none }) (v := ?vaj47) rfl (by kernel_rfl) (by kernel_rfl) (by kernel_rfl) (fun _ _ _ h => h) (Or.inl ⟨by rfl, ?haj47⟩) hHeld ?raj47
                      case haj47 => (intro w hSw; (try dsimp only at hSw); go_simp; try with_reducible rfl)
                      try simp only [Act.put, List.setIfInBounds_toArray, List.set_cons_zero, List.set_cons_succ]
                      refine wpAnyH_done (by kernel_rfl) ?_ _
                      refine NoPanic.normal ?_
                      have hB9 := bel_step hBr hHeld
                      clear hHs0 hQu hQt hQk hcl hck hHeld g0 hwk
                      go_wp2
                      go_roundw
                      case rel => exact ⟨t + 1, by omega, by go_num, hB9⟩
                      case measure => simp [intOf]; omega
                · have e : t = n := by omega
                  subst e
                  go_wp2
                  go_roundw
                  case rel => exact ⟨s + 1, by omega, by go_num, hBr⟩
                  case measure => simp [intOf]; omega
            · have e : s = r := by omega
              subst e
              have hgg : ((g : Int) == (g : Int)) = true := by simp
              go_wp2
              go_ret
              exact ⟨rfl, bel_step HB8.out hBo⟩
end Go.Proofs.YtkinpfnelmdmlaaDoor

