/-
  The model's search for least costs: l10Back: contract.
-/
import Derived.Test.YtdjofkgmpbiofaaDoorGA
import Derived.Test.YtdjofkgmpbiofaaDoorGQ
import Derived.Test.YtdjofkgmpbiofaaDoorTsI
import Derived.Deep.RegionHeld3
namespace Go.Proofs.YtdjofkgmpbiofaaDoor
open Go.RowKit Go.Maps

theorem infoBo : (Tryd.prog.info? 4).map (fun i => (i.zero, i.size, i.bytes)) = some (some (.bool false), 1, 1) := by kernel_rfl
theorem tm_at {w : World} {B : Nat} {l : List Cst} (h : Blk w B (tmV l)) {x : Nat} (hx : x < l.length) : w.cell? ⟨B, x, none⟩ = some (.int .i64 (cAt l x).t) := by
  rw [h.cell x (by simpa using hx), cAt_eq hx]; simp
theorem ct_at {w : World} {B : Nat} {l : List Cst} (h : Blk w B (ctV l)) {x : Nat} (hx : x < l.length) : w.cell? ⟨B, x, none⟩ = some (.int .i64 (cAt l x).c) := by
  rw [h.cell x (by simpa using hx), cAt_eq hx]; simp
theorem dn_at {w : World} {B n : Nat} {D : List Nat} (h : Blk w B (dnV n D)) {x : Nat} (hx : x < n) : w.cell? ⟨B, x, none⟩ = some (.bool (decide (x ∈ D))) := by
  rw [h.cell x (by simpa using hx)]; simp
theorem op_at {w : World} {lo g n cap : Nat} {l : List Nat} (h : w.ownsRow lo 2 1 (.slice (some ⟨g, 0, none⟩) n cap) n (intsN l)) {i : Nat} (hi : i < l.length) (hn : l.length = n) : w.cell? ⟨g, i, none⟩ = some (.int .i64 (l[i] : Int)) := by
  rw [h.cellAt i (by omega)]
  unfold intsN
  rw [List.getElem?_map, List.getElem?_eq_getElem hi]; rfl

/-- A number of a list. -/
def nAt (l : List Nat) (i : Nat) : Nat := l[i]?.getD 0
theorem nAt_eq {l : List Nat} {i : Nat} (h : i < l.length) : nAt l i = l[i] := by simp [nAt, h]

set_option maxRecDepth 100000 in
set_option maxHeartbeats 20000000 in
theorem l10Back_any (a0 : Option Addr) (n0 c0 : Nat) (a1 : Option Addr) (n1 c1 : Nat) (a2 : Option Addr) (n2 c2 : Nat) (g : GraphD) (b0 b1 b2 : List Nat) (p : Nat) (w : World) (t0 : SpotL w a0 g.places b0) (t1 : RoadL w a1 g.roads b1) (t2 : BanL w a2 g.bans b2) (e0 : g.places.length = n0) (e1 : g.roads.length = n1) (e2 : g.bans.length = n2) (hP : graphP g) :
    Calls Tryd.prog 34 #[gphV a0 n0 c0 a1 n1 c1 a2 n2 c2, .int .i64 (p : Int)] w fun e w' => BakOut w g p e w' := by
  have H0 : Hid (g.places.length = n0) := e0
  have H1 : Hid (g.roads.length = n1) := e1
  have H2 : Hid (g.bans.length = n2) := e2
  have HP : Hid (graphP g) := hP
  have m0 : n0 ≤ 5000 := by rw [← e0]; exact hP.1.1
  have m1 : n1 ≤ 8000 := by rw [← e1]; exact hP.1.2.1
  have hmk : ∀ w : World, (Instr.makeSlice 28 (.int .i64 n1) (.int .i64 n1)).run Tryd.prog w = .ok (.slice (some ⟨w.heap.size, 0, none⟩) n1 n1) (w.alloc (.cells (madeCells #[.int .i64 0] n1) 2)) := fun w => by
    obtain ⟨i0, hi, hz0, hz1, hz2⟩ := info_parts infoI64
    have := run_make (P := Tryd.prog) w 28 2 i0 (.int .i64 0) Tryd.underlying28 hi hz0 .i64 .i64 n1 n1 (by omega) (by omega) (by rw [hz2]; omega) (by omega)
    rw [hz1, Nat.mul_one] at this
    exact this
  have hmb : ∀ w : World, (Instr.makeSlice 95 (.int .i64 n1) (.int .i64 n1)).run Tryd.prog w = .ok (.slice (some ⟨w.heap.size, 0, none⟩) n1 n1) (w.alloc (.cells (madeCells #[.bool false] n1) 4)) := fun w => by
    obtain ⟨i0, hi, hz0, hz1, hz2⟩ := info_parts infoBo
    have := run_make (P := Tryd.prog) w 95 4 i0 (.bool false) Tryd.underlying95 hi hz0 .i64 .i64 n1 n1 (by omega) (by omega) (by rw [hz2]; omega) (by omega)
    rw [hz1, Nat.mul_one] at this
    exact this
  obtain ⟨i0, hi0, hz0, hz1, hz2⟩ := info_parts infoI64
  obtain ⟨W, HW⟩ : ∃ W, Hid (W = (w.alloc (.cells #[.slice a0 n0 c0, .slice a1 n1 c1, .slice a2 n2 c2] 34)).alloc (.cells #[.slice none 0 0, .slice none 0 0] 71)) := ⟨_, (rfl : (w.alloc (.cells #[.slice a0 n0 c0, .slice a1 n1 c1, .slice a2 n2 c2] 34)).alloc (.cells #[.slice none 0 0, .slice none 0 0] 71) = _)⟩
  have hBW : Bel w W := by rw [HW.out]; exact bel_alloc (bel_alloc (Bel.refl _) _) _
  obtain ⟨nw, Hnw⟩ : ∃ n, Hid (w.heap.size = n) := ⟨_, (rfl : w.heap.size = _)⟩
  have XG : Blk W nw [.slice a0 n0 c0, .slice a1 n1 c1, .slice a2 n2 c2] := by rw [HW.out, ← Hnw.out]; exact (Blk.new w [.slice a0 n0 c0, .slice a1 n1 c1, .slice a2 n2 c2] _).bel (bel_alloc (Bel.refl _) _)
  have X4 : Blk W (nw + 1) [.slice none 0 0, .slice none 0 0] := by rw [HW.out, ← Hnw.out]; exact Blk.new1 w _ [.slice none 0 0, .slice none 0 0] _
  have x1 : W.cell? ⟨nw, 1, none⟩ = some (.slice a1 n1 c1) := XG.cell 1 (by simp)
  have xl := XG.lt
  have xl4 := X4.lt
  have HXG : Hid (Blk W nw [.slice a0 n0 c0, .slice a1 n1 c1, .slice a2 n2 c2]) := XG
  have HX4 : Hid (Blk W (nw + 1) [.slice none 0 0, .slice none 0 0]) := X4
  have HBW : Hid (Bel w W) := hBW
  have HT0 : Hid (SpotL w a0 g.places b0) := t0
  have HT1 : Hid (RoadL w a1 g.roads b1) := t1
  have HT2 : Hid (BanL w a2 g.bans b2) := t2
  have HPl : Hid (∀ i, i < n1 → ∃ q : Nat, q < n0 ∧ (rdAt g i).fr = (q : Int)) := (fun i h => by
    have hi : i < g.roads.length := by rw [H1.out]; exact h
    obtain ⟨q, hq, e⟩ := inN_nat (n := g.places.length) (x := g.roads[i].fr) (inN_iff.2 (roadB_out (HP.out.2.2.1 i hi)).1)
    exact ⟨q, by omega, by rw [rdAt_eq hi]; exact e⟩ : ∀ i, i < n1 → ∃ q : Nat, q < n0 ∧ (rdAt g i).fr = (q : Int))
  clear t0 t1 t2 XG X4 hBW hP
  go_enter Tryd.func34, Tryd.ntmps34
  go_upto_region 2 with fail
  rw [← HW.out, Hnw.out]
  go_cut [6] (fun t wx => Mb2 W n1 t wx)
  case first =>
    as_aux_lemma =>
    clear x1
    refine wp_region_noPanic ?_
    refine wp_region_held_drew (S := (fun _ => True)) (by kernel_rfl) (trivial) (fun hHeld => ?_)
    have hbV0 : Bel W W.drew := (Bel.refl _).drew
    generalize W.drew = V0 at hHeld hbV0 ⊢
    refine tk 0 hHeld ?_; refine tk 2 hHeld ?_
    refine wpAnyH_ready (rs := [1, 3, 5]) (by kernel_rfl) (by simp) ?_
    refine AllReadyH.cons (o := { dst := some 25, op := Go.Op.makeSlice 28 (Go.Operand.tmp 24) (Go.Operand.tmp 24), type := 28, pos := "l10_paths.go:91", after := #[{ on := 0, ground := Go.Ground.data }, { on := 0, ground := Go.Ground.data }], guard := none }) rfl (fun K hK => ?_) (AllReadyH.cons (o := { dst := some 27, op := Go.Op.makeSlice 28 (Go.Operand.tmp 26) (Go.Operand.tmp 26), type := 28, pos := "l10_paths.go:91", after := #[{ on := 2, ground := Go.Ground.data }, { on := 2, ground := Go.Ground.data }], guard := none }) rfl (fun K hK => ?_) (AllReadyH.cons (o := { dst := some 6, op := Go.Op.alloc 71, type := 0, pos := "l10_paths.go:91", after := #[], guard := none }) rfl (fun K hK => ?_) AllReadyH.nil))
    · go_simp
      refine hK.out _ _ (trivial) (fun hHeld' => ?_)
      clear hK K hHeld
      have hHeld := hHeld'
      clear hHeld'
      try simp only [Act.put, List.setIfInBounds_toArray, List.set_cons_zero, List.set_cons_succ]
      have hA : Bel V0 (V0.alloc (.cells (madeCells #[.int .i64 0] n1) 2)) := bel_alloc (Bel.refl _) _
      have hXT := blk_made (heap_alloc_new V0 (.cells (madeCells #[.int .i64 0] n1) 2))
      have HsV1 : Hid ((V0.alloc (.cells (madeCells #[.int .i64 0] n1) 2)).heap.size = V0.heap.size + 1) := (by simp : (V0.alloc (.cells (madeCells #[.int .i64 0] n1) 2)).heap.size = V0.heap.size + 1)
      obtain ⟨bT, HbT⟩ : ∃ n, Hid (V0.heap.size = n) := ⟨_, (rfl : V0.heap.size = _)⟩
      have hzT : W.heap.size ≤ bT := (by have h1 := hbV0.out.size; have h2 := HbT.out; omega)
      rw [HbT.out] at hXT HsV1
      try rw [HbT.out]
      have hbV1 := bel_step hbV0 hA
      clear hA
      generalize V0.alloc (.cells (madeCells #[.int .i64 0] n1) 2) = V1 at *
      refine rd2 3 5 (fun K hK => ?_) (fun K hK => ?_)
      · go_simp
        refine hK.out _ _ (trivial) (fun hHeld' => ?_)
        clear hK K hHeld
        have hHeld := hHeld'
        clear hHeld'
        try simp only [Act.put, List.setIfInBounds_toArray, List.set_cons_zero, List.set_cons_succ]
        have hA : Bel V1 (V1.alloc (.cells (madeCells #[.int .i64 0] n1) 2)) := bel_alloc (Bel.refl _) _
        have hXC := blk_made (heap_alloc_new V1 (.cells (madeCells #[.int .i64 0] n1) 2))
        have HsV2 : Hid ((V1.alloc (.cells (madeCells #[.int .i64 0] n1) 2)).heap.size = V1.heap.size + 1) := (by simp : (V1.alloc (.cells (madeCells #[.int .i64 0] n1) 2)).heap.size = V1.heap.size + 1)
        obtain ⟨bC, HbC⟩ : ∃ n, Hid (V1.heap.size = n) := ⟨_, (rfl : V1.heap.size = _)⟩
        have hltC : bT < bC := (by have h1 := HsV1.out; have h2 := HbC.out; omega)
        have hzC : W.heap.size ≤ bC := (by have h1 := hbV1.out.size; have h2 := HbC.out; omega)
        rw [HbC.out] at hXC HsV2
        try rw [HbC.out]
        have hbV2 := bel_step hbV1 hA
        replace hXT := hXT.bel hA
        clear hA
        generalize V1.alloc (.cells (madeCells #[.int .i64 0] n1) 2) = V2 at *
        refine tk 4 hHeld ?_
        refine rd1 5 (fun K hK => ?_)
        go_simp
        refine hK.out _ _ (trivial) (fun hHeld' => ?_)
        clear hK K hHeld
        have hHeld := hHeld'
        clear hHeld'
        try simp only [Act.put, List.setIfInBounds_toArray, List.set_cons_zero, List.set_cons_succ]
        have hA : Bel V2 (V2.alloc (.cells #[.slice none 0 0, .slice none 0 0] 71)) := bel_alloc (Bel.refl _) _
        have hXR := Blk.new V2 [.slice none 0 0, .slice none 0 0] 71
        have HsV3 : Hid ((V2.alloc (.cells #[.slice none 0 0, .slice none 0 0] 71)).heap.size = V2.heap.size + 1) := (by simp : (V2.alloc (.cells #[.slice none 0 0, .slice none 0 0] 71)).heap.size = V2.heap.size + 1)
        obtain ⟨bR, HbR⟩ : ∃ n, Hid (V2.heap.size = n) := ⟨_, (rfl : V2.heap.size = _)⟩
        have hltR : bC < bR := (by have h1 := HsV2.out; have h2 := HbR.out; omega)
        have hzR : W.heap.size ≤ bR := (by have h1 := hbV2.out.size; have h2 := HbR.out; omega)
        rw [HbR.out] at hXR HsV3
        try rw [HbR.out]
        have hbV3 := bel_step hbV2 hA
        replace hXT := hXT.bel hA
        replace hXC := hXC.bel hA
        clear hA
        generalize V2.alloc (.cells #[.slice none 0 0, .slice none 0 0] 71) = V3 at *
        have s0 := hXR.cell 0 (by simp)
        have s1 := hXR.cell 1 (by simp)
        have s2 := hXR.free 0
        have s3 := hXR.free 1
        have s4 := hXR.lt
        simp only [List.getElem_cons_zero, List.getElem_cons_succ] at s0 s1
        refine rd1 6 (fun K hK => ?_)
        go_simp
        refine hK.out _ _ (trivial) (fun hHeld' => ?_)
        clear hK K hHeld
        have hHeld := hHeld'
        clear hHeld'
        try simp only [Act.put, List.setIfInBounds_toArray, List.set_cons_zero, List.set_cons_succ]
        refine wpAnyH_done (by kernel_rfl) ?_ _
        refine NoPanic.normal ?_
        go_wp2_with fail
        go_meet
        case rel => exact Mb2.put hXR hXT hXC (by omega) (by omega) (by omega) (by omega) (by omega) (by omega) hbV3
      · go_simp
        refine hK.out _ _ (trivial) (fun hHeld' => ?_)
        clear hK K hHeld
        have hHeld := hHeld'
        clear hHeld'
        try simp only [Act.put, List.setIfInBounds_toArray, List.set_cons_zero, List.set_cons_succ]
        have hA : Bel V1 (V1.alloc (.cells #[.slice none 0 0, .slice none 0 0] 71)) := bel_alloc (Bel.refl _) _
        have hXR := Blk.new V1 [.slice none 0 0, .slice none 0 0] 71
        have HsV4 : Hid ((V1.alloc (.cells #[.slice none 0 0, .slice none 0 0] 71)).heap.size = V1.heap.size + 1) := (by simp : (V1.alloc (.cells #[.slice none 0 0, .slice none 0 0] 71)).heap.size = V1.heap.size + 1)
        obtain ⟨bR, HbR⟩ : ∃ n, Hid (V1.heap.size = n) := ⟨_, (rfl : V1.heap.size = _)⟩
        have hltR : bT < bR := (by have h1 := HsV1.out; have h2 := HbR.out; omega)
        have hzR : W.heap.size ≤ bR := (by have h1 := hbV1.out.size; have h2 := HbR.out; omega)
        rw [HbR.out] at hXR HsV4
        try rw [HbR.out]
        have hbV4 := bel_step hbV1 hA
        replace hXT := hXT.bel hA
        clear hA
        generalize V1.alloc (.cells #[.slice none 0 0, .slice none 0 0] 71) = V4 at *
        refine rd1 3 (fun K hK => ?_)
        go_simp
        refine hK.out _ _ (trivial) (fun hHeld' => ?_)
        clear hK K hHeld
        have hHeld := hHeld'
        clear hHeld'
        try simp only [Act.put, List.setIfInBounds_toArray, List.set_cons_zero, List.set_cons_succ]
        have hA : Bel V4 (V4.alloc (.cells (madeCells #[.int .i64 0] n1) 2)) := bel_alloc (Bel.refl _) _
        have hXC := blk_made (heap_alloc_new V4 (.cells (madeCells #[.int .i64 0] n1) 2))
        have HsV5 : Hid ((V4.alloc (.cells (madeCells #[.int .i64 0] n1) 2)).heap.size = V4.heap.size + 1) := (by simp : (V4.alloc (.cells (madeCells #[.int .i64 0] n1) 2)).heap.size = V4.heap.size + 1)
        obtain ⟨bC, HbC⟩ : ∃ n, Hid (V4.heap.size = n) := ⟨_, (rfl : V4.heap.size = _)⟩
        have hltC : bR < bC := (by have h1 := HsV4.out; have h2 := HbC.out; omega)
        have hzC : W.heap.size ≤ bC := (by have h1 := hbV4.out.size; have h2 := HbC.out; omega)
        rw [HbC.out] at hXC HsV5
        try rw [HbC.out]
        have hbV5 := bel_step hbV4 hA
        replace hXT := hXT.bel hA
        replace hXR := hXR.bel hA
        clear hA
        generalize V4.alloc (.cells (madeCells #[.int .i64 0] n1) 2) = V5 at *
        refine tk 4 hHeld ?_
        have s0 := hXR.cell 0 (by simp)
        have s1 := hXR.cell 1 (by simp)
        have s2 := hXR.free 0
        have s3 := hXR.free 1
        have s4 := hXR.lt
        simp only [List.getElem_cons_zero, List.getElem_cons_succ] at s0 s1
        refine rd1 6 (fun K hK => ?_)
        go_simp
        refine hK.out _ _ (trivial) (fun hHeld' => ?_)
        clear hK K hHeld
        have hHeld := hHeld'
        clear hHeld'
        try simp only [Act.put, List.setIfInBounds_toArray, List.set_cons_zero, List.set_cons_succ]
        refine wpAnyH_done (by kernel_rfl) ?_ _
        refine NoPanic.normal ?_
        go_wp2_with fail
        go_meet
        case rel => exact Mb2.put hXR hXT hXC (by omega) (by omega) (by omega) (by omega) (by omega) (by omega) hbV5
    · go_simp
      refine hK.out _ _ (trivial) (fun hHeld' => ?_)
      clear hK K hHeld
      have hHeld := hHeld'
      clear hHeld'
      try simp only [Act.put, List.setIfInBounds_toArray, List.set_cons_zero, List.set_cons_succ]
      have hA : Bel V0 (V0.alloc (.cells (madeCells #[.int .i64 0] n1) 2)) := bel_alloc (Bel.refl _) _
      have hXC := blk_made (heap_alloc_new V0 (.cells (madeCells #[.int .i64 0] n1) 2))
      have HsV6 : Hid ((V0.alloc (.cells (madeCells #[.int .i64 0] n1) 2)).heap.size = V0.heap.size + 1) := (by simp : (V0.alloc (.cells (madeCells #[.int .i64 0] n1) 2)).heap.size = V0.heap.size + 1)
      obtain ⟨bC, HbC⟩ : ∃ n, Hid (V0.heap.size = n) := ⟨_, (rfl : V0.heap.size = _)⟩
      have hzC : W.heap.size ≤ bC := (by have h1 := hbV0.out.size; have h2 := HbC.out; omega)
      rw [HbC.out] at hXC HsV6
      try rw [HbC.out]
      have hbV6 := bel_step hbV0 hA
      clear hA
      generalize V0.alloc (.cells (madeCells #[.int .i64 0] n1) 2) = V6 at *
      refine rd2 1 5 (fun K hK => ?_) (fun K hK => ?_)
      · go_simp
        refine hK.out _ _ (trivial) (fun hHeld' => ?_)
        clear hK K hHeld
        have hHeld := hHeld'
        clear hHeld'
        try simp only [Act.put, List.setIfInBounds_toArray, List.set_cons_zero, List.set_cons_succ]
        have hA : Bel V6 (V6.alloc (.cells (madeCells #[.int .i64 0] n1) 2)) := bel_alloc (Bel.refl _) _
        have hXT := blk_made (heap_alloc_new V6 (.cells (madeCells #[.int .i64 0] n1) 2))
        have HsV7 : Hid ((V6.alloc (.cells (madeCells #[.int .i64 0] n1) 2)).heap.size = V6.heap.size + 1) := (by simp : (V6.alloc (.cells (madeCells #[.int .i64 0] n1) 2)).heap.size = V6.heap.size + 1)
        obtain ⟨bT, HbT⟩ : ∃ n, Hid (V6.heap.size = n) := ⟨_, (rfl : V6.heap.size = _)⟩
        have hltT : bC < bT := (by have h1 := HsV6.out; have h2 := HbT.out; omega)
        have hzT : W.heap.size ≤ bT := (by have h1 := hbV6.out.size; have h2 := HbT.out; omega)
        rw [HbT.out] at hXT HsV7
        try rw [HbT.out]
        have hbV7 := bel_step hbV6 hA
        replace hXC := hXC.bel hA
        clear hA
        generalize V6.alloc (.cells (madeCells #[.int .i64 0] n1) 2) = V7 at *
        refine tk 4 hHeld ?_
        refine rd1 5 (fun K hK => ?_)
        go_simp
        refine hK.out _ _ (trivial) (fun hHeld' => ?_)
        clear hK K hHeld
        have hHeld := hHeld'
        clear hHeld'
        try simp only [Act.put, List.setIfInBounds_toArray, List.set_cons_zero, List.set_cons_succ]
        have hA : Bel V7 (V7.alloc (.cells #[.slice none 0 0, .slice none 0 0] 71)) := bel_alloc (Bel.refl _) _
        have hXR := Blk.new V7 [.slice none 0 0, .slice none 0 0] 71
        have HsV8 : Hid ((V7.alloc (.cells #[.slice none 0 0, .slice none 0 0] 71)).heap.size = V7.heap.size + 1) := (by simp : (V7.alloc (.cells #[.slice none 0 0, .slice none 0 0] 71)).heap.size = V7.heap.size + 1)
        obtain ⟨bR, HbR⟩ : ∃ n, Hid (V7.heap.size = n) := ⟨_, (rfl : V7.heap.size = _)⟩
        have hltR : bT < bR := (by have h1 := HsV7.out; have h2 := HbR.out; omega)
        have hzR : W.heap.size ≤ bR := (by have h1 := hbV7.out.size; have h2 := HbR.out; omega)
        rw [HbR.out] at hXR HsV8
        try rw [HbR.out]
        have hbV8 := bel_step hbV7 hA
        replace hXC := hXC.bel hA
        replace hXT := hXT.bel hA
        clear hA
        generalize V7.alloc (.cells #[.slice none 0 0, .slice none 0 0] 71) = V8 at *
        have s0 := hXR.cell 0 (by simp)
        have s1 := hXR.cell 1 (by simp)
        have s2 := hXR.free 0
        have s3 := hXR.free 1
        have s4 := hXR.lt
        simp only [List.getElem_cons_zero, List.getElem_cons_succ] at s0 s1
        refine rd1 6 (fun K hK => ?_)
        go_simp
        refine hK.out _ _ (trivial) (fun hHeld' => ?_)
        clear hK K hHeld
        have hHeld := hHeld'
        clear hHeld'
        try simp only [Act.put, List.setIfInBounds_toArray, List.set_cons_zero, List.set_cons_succ]
        refine wpAnyH_done (by kernel_rfl) ?_ _
        refine NoPanic.normal ?_
        go_wp2_with fail
        go_meet
        case rel => exact Mb2.put hXR hXT hXC (by omega) (by omega) (by omega) (by omega) (by omega) (by omega) hbV8
      · go_simp
        refine hK.out _ _ (trivial) (fun hHeld' => ?_)
        clear hK K hHeld
        have hHeld := hHeld'
        clear hHeld'
        try simp only [Act.put, List.setIfInBounds_toArray, List.set_cons_zero, List.set_cons_succ]
        have hA : Bel V6 (V6.alloc (.cells #[.slice none 0 0, .slice none 0 0] 71)) := bel_alloc (Bel.refl _) _
        have hXR := Blk.new V6 [.slice none 0 0, .slice none 0 0] 71
        have HsV9 : Hid ((V6.alloc (.cells #[.slice none 0 0, .slice none 0 0] 71)).heap.size = V6.heap.size + 1) := (by simp : (V6.alloc (.cells #[.slice none 0 0, .slice none 0 0] 71)).heap.size = V6.heap.size + 1)
        obtain ⟨bR, HbR⟩ : ∃ n, Hid (V6.heap.size = n) := ⟨_, (rfl : V6.heap.size = _)⟩
        have hltR : bC < bR := (by have h1 := HsV6.out; have h2 := HbR.out; omega)
        have hzR : W.heap.size ≤ bR := (by have h1 := hbV6.out.size; have h2 := HbR.out; omega)
        rw [HbR.out] at hXR HsV9
        try rw [HbR.out]
        have hbV9 := bel_step hbV6 hA
        replace hXC := hXC.bel hA
        clear hA
        generalize V6.alloc (.cells #[.slice none 0 0, .slice none 0 0] 71) = V9 at *
        refine rd1 1 (fun K hK => ?_)
        go_simp
        refine hK.out _ _ (trivial) (fun hHeld' => ?_)
        clear hK K hHeld
        have hHeld := hHeld'
        clear hHeld'
        try simp only [Act.put, List.setIfInBounds_toArray, List.set_cons_zero, List.set_cons_succ]
        have hA : Bel V9 (V9.alloc (.cells (madeCells #[.int .i64 0] n1) 2)) := bel_alloc (Bel.refl _) _
        have hXT := blk_made (heap_alloc_new V9 (.cells (madeCells #[.int .i64 0] n1) 2))
        have HsV10 : Hid ((V9.alloc (.cells (madeCells #[.int .i64 0] n1) 2)).heap.size = V9.heap.size + 1) := (by simp : (V9.alloc (.cells (madeCells #[.int .i64 0] n1) 2)).heap.size = V9.heap.size + 1)
        obtain ⟨bT, HbT⟩ : ∃ n, Hid (V9.heap.size = n) := ⟨_, (rfl : V9.heap.size = _)⟩
        have hltT : bR < bT := (by have h1 := HsV9.out; have h2 := HbT.out; omega)
        have hzT : W.heap.size ≤ bT := (by have h1 := hbV9.out.size; have h2 := HbT.out; omega)
        rw [HbT.out] at hXT HsV10
        try rw [HbT.out]
        have hbV10 := bel_step hbV9 hA
        replace hXC := hXC.bel hA
        replace hXR := hXR.bel hA
        clear hA
        generalize V9.alloc (.cells (madeCells #[.int .i64 0] n1) 2) = V10 at *
        refine tk 4 hHeld ?_
        have s0 := hXR.cell 0 (by simp)
        have s1 := hXR.cell 1 (by simp)
        have s2 := hXR.free 0
        have s3 := hXR.free 1
        have s4 := hXR.lt
        simp only [List.getElem_cons_zero, List.getElem_cons_succ] at s0 s1
        refine rd1 6 (fun K hK => ?_)
        go_simp
        refine hK.out _ _ (trivial) (fun hHeld' => ?_)
        clear hK K hHeld
        have hHeld := hHeld'
        clear hHeld'
        try simp only [Act.put, List.setIfInBounds_toArray, List.set_cons_zero, List.set_cons_succ]
        refine wpAnyH_done (by kernel_rfl) ?_ _
        refine NoPanic.normal ?_
        go_wp2_with fail
        go_meet
        case rel => exact Mb2.put hXR hXT hXC (by omega) (by omega) (by omega) (by omega) (by omega) (by omega) hbV10
    · go_simp
      refine hK.out _ _ (trivial) (fun hHeld' => ?_)
      clear hK K hHeld
      have hHeld := hHeld'
      clear hHeld'
      try simp only [Act.put, List.setIfInBounds_toArray, List.set_cons_zero, List.set_cons_succ]
      have hA : Bel V0 (V0.alloc (.cells #[.slice none 0 0, .slice none 0 0] 71)) := bel_alloc (Bel.refl _) _
      have hXR := Blk.new V0 [.slice none 0 0, .slice none 0 0] 71
      have HsV11 : Hid ((V0.alloc (.cells #[.slice none 0 0, .slice none 0 0] 71)).heap.size = V0.heap.size + 1) := (by simp : (V0.alloc (.cells #[.slice none 0 0, .slice none 0 0] 71)).heap.size = V0.heap.size + 1)
      obtain ⟨bR, HbR⟩ : ∃ n, Hid (V0.heap.size = n) := ⟨_, (rfl : V0.heap.size = _)⟩
      have hzR : W.heap.size ≤ bR := (by have h1 := hbV0.out.size; have h2 := HbR.out; omega)
      rw [HbR.out] at hXR HsV11
      try rw [HbR.out]
      have hbV11 := bel_step hbV0 hA
      clear hA
      generalize V0.alloc (.cells #[.slice none 0 0, .slice none 0 0] 71) = V11 at *
      refine rd2 1 3 (fun K hK => ?_) (fun K hK => ?_)
      · go_simp
        refine hK.out _ _ (trivial) (fun hHeld' => ?_)
        clear hK K hHeld
        have hHeld := hHeld'
        clear hHeld'
        try simp only [Act.put, List.setIfInBounds_toArray, List.set_cons_zero, List.set_cons_succ]
        have hA : Bel V11 (V11.alloc (.cells (madeCells #[.int .i64 0] n1) 2)) := bel_alloc (Bel.refl _) _
        have hXT := blk_made (heap_alloc_new V11 (.cells (madeCells #[.int .i64 0] n1) 2))
        have HsV12 : Hid ((V11.alloc (.cells (madeCells #[.int .i64 0] n1) 2)).heap.size = V11.heap.size + 1) := (by simp : (V11.alloc (.cells (madeCells #[.int .i64 0] n1) 2)).heap.size = V11.heap.size + 1)
        obtain ⟨bT, HbT⟩ : ∃ n, Hid (V11.heap.size = n) := ⟨_, (rfl : V11.heap.size = _)⟩
        have hltT : bR < bT := (by have h1 := HsV11.out; have h2 := HbT.out; omega)
        have hzT : W.heap.size ≤ bT := (by have h1 := hbV11.out.size; have h2 := HbT.out; omega)
        rw [HbT.out] at hXT HsV12
        try rw [HbT.out]
        have hbV12 := bel_step hbV11 hA
        replace hXR := hXR.bel hA
        clear hA
        generalize V11.alloc (.cells (madeCells #[.int .i64 0] n1) 2) = V12 at *
        refine rd1 3 (fun K hK => ?_)
        go_simp
        refine hK.out _ _ (trivial) (fun hHeld' => ?_)
        clear hK K hHeld
        have hHeld := hHeld'
        clear hHeld'
        try simp only [Act.put, List.setIfInBounds_toArray, List.set_cons_zero, List.set_cons_succ]
        have hA : Bel V12 (V12.alloc (.cells (madeCells #[.int .i64 0] n1) 2)) := bel_alloc (Bel.refl _) _
        have hXC := blk_made (heap_alloc_new V12 (.cells (madeCells #[.int .i64 0] n1) 2))
        have HsV13 : Hid ((V12.alloc (.cells (madeCells #[.int .i64 0] n1) 2)).heap.size = V12.heap.size + 1) := (by simp : (V12.alloc (.cells (madeCells #[.int .i64 0] n1) 2)).heap.size = V12.heap.size + 1)
        obtain ⟨bC, HbC⟩ : ∃ n, Hid (V12.heap.size = n) := ⟨_, (rfl : V12.heap.size = _)⟩
        have hltC : bT < bC := (by have h1 := HsV12.out; have h2 := HbC.out; omega)
        have hzC : W.heap.size ≤ bC := (by have h1 := hbV12.out.size; have h2 := HbC.out; omega)
        rw [HbC.out] at hXC HsV13
        try rw [HbC.out]
        have hbV13 := bel_step hbV12 hA
        replace hXR := hXR.bel hA
        replace hXT := hXT.bel hA
        clear hA
        generalize V12.alloc (.cells (madeCells #[.int .i64 0] n1) 2) = V13 at *
        refine tk 4 hHeld ?_
        have s0 := hXR.cell 0 (by simp)
        have s1 := hXR.cell 1 (by simp)
        have s2 := hXR.free 0
        have s3 := hXR.free 1
        have s4 := hXR.lt
        simp only [List.getElem_cons_zero, List.getElem_cons_succ] at s0 s1
        refine rd1 6 (fun K hK => ?_)
        go_simp
        refine hK.out _ _ (trivial) (fun hHeld' => ?_)
        clear hK K hHeld
        have hHeld := hHeld'
        clear hHeld'
        try simp only [Act.put, List.setIfInBounds_toArray, List.set_cons_zero, List.set_cons_succ]
        refine wpAnyH_done (by kernel_rfl) ?_ _
        refine NoPanic.normal ?_
        go_wp2_with fail
        go_meet
        case rel => exact Mb2.put hXR hXT hXC (by omega) (by omega) (by omega) (by omega) (by omega) (by omega) hbV13
      · go_simp
        refine hK.out _ _ (trivial) (fun hHeld' => ?_)
        clear hK K hHeld
        have hHeld := hHeld'
        clear hHeld'
        try simp only [Act.put, List.setIfInBounds_toArray, List.set_cons_zero, List.set_cons_succ]
        have hA : Bel V11 (V11.alloc (.cells (madeCells #[.int .i64 0] n1) 2)) := bel_alloc (Bel.refl _) _
        have hXC := blk_made (heap_alloc_new V11 (.cells (madeCells #[.int .i64 0] n1) 2))
        have HsV14 : Hid ((V11.alloc (.cells (madeCells #[.int .i64 0] n1) 2)).heap.size = V11.heap.size + 1) := (by simp : (V11.alloc (.cells (madeCells #[.int .i64 0] n1) 2)).heap.size = V11.heap.size + 1)
        obtain ⟨bC, HbC⟩ : ∃ n, Hid (V11.heap.size = n) := ⟨_, (rfl : V11.heap.size = _)⟩
        have hltC : bR < bC := (by have h1 := HsV11.out; have h2 := HbC.out; omega)
        have hzC : W.heap.size ≤ bC := (by have h1 := hbV11.out.size; have h2 := HbC.out; omega)
        rw [HbC.out] at hXC HsV14
        try rw [HbC.out]
        have hbV14 := bel_step hbV11 hA
        replace hXR := hXR.bel hA
        clear hA
        generalize V11.alloc (.cells (madeCells #[.int .i64 0] n1) 2) = V14 at *
        refine rd1 1 (fun K hK => ?_)
        go_simp
        refine hK.out _ _ (trivial) (fun hHeld' => ?_)
        clear hK K hHeld
        have hHeld := hHeld'
        clear hHeld'
        try simp only [Act.put, List.setIfInBounds_toArray, List.set_cons_zero, List.set_cons_succ]
        have hA : Bel V14 (V14.alloc (.cells (madeCells #[.int .i64 0] n1) 2)) := bel_alloc (Bel.refl _) _
        have hXT := blk_made (heap_alloc_new V14 (.cells (madeCells #[.int .i64 0] n1) 2))
        have HsV15 : Hid ((V14.alloc (.cells (madeCells #[.int .i64 0] n1) 2)).heap.size = V14.heap.size + 1) := (by simp : (V14.alloc (.cells (madeCells #[.int .i64 0] n1) 2)).heap.size = V14.heap.size + 1)
        obtain ⟨bT, HbT⟩ : ∃ n, Hid (V14.heap.size = n) := ⟨_, (rfl : V14.heap.size = _)⟩
        have hltT : bC < bT := (by have h1 := HsV14.out; have h2 := HbT.out; omega)
        have hzT : W.heap.size ≤ bT := (by have h1 := hbV14.out.size; have h2 := HbT.out; omega)
        rw [HbT.out] at hXT HsV15
        try rw [HbT.out]
        have hbV15 := bel_step hbV14 hA
        replace hXR := hXR.bel hA
        replace hXC := hXC.bel hA
        clear hA
        generalize V14.alloc (.cells (madeCells #[.int .i64 0] n1) 2) = V15 at *
        refine tk 4 hHeld ?_
        have s0 := hXR.cell 0 (by simp)
        have s1 := hXR.cell 1 (by simp)
        have s2 := hXR.free 0
        have s3 := hXR.free 1
        have s4 := hXR.lt
        simp only [List.getElem_cons_zero, List.getElem_cons_succ] at s0 s1
        refine rd1 6 (fun K hK => ?_)
        go_simp
        refine hK.out _ _ (trivial) (fun hHeld' => ?_)
        clear hK K hHeld
        have hHeld := hHeld'
        clear hHeld'
        try simp only [Act.put, List.setIfInBounds_toArray, List.set_cons_zero, List.set_cons_succ]
        refine wpAnyH_done (by kernel_rfl) ?_ _
        refine NoPanic.normal ?_
        go_wp2_with fail
        go_meet
        case rel => exact Mb2.put hXR hXT hXC (by omega) (by omega) (by omega) (by omega) (by omega) (by omega) hbV15
  case rest =>
    obtain ⟨Bt, Bc, Br, rfl, XR, hT, hC, d1, d2, d3, l1, l2, l3, hbW⟩ := hcut.out
    obtain ⟨wx, rfl⟩ : ∃ V, V = wc := ⟨_, rfl⟩
    obtain ⟨X0, HX0⟩ : ∃ X, Hid (X = (wx.alloc (.cells (madeCells #[.bool false] n1) 4)).alloc (.cells #[] 2)) := ⟨_, (rfl : (wx.alloc (.cells (madeCells #[.bool false] n1) 4)).alloc (.cells #[] 2) = _)⟩
    have hM0 := MbW.start (S := mkS n1 true) (g := g) (st := (p : Int)) rfl HX0.out hT hC rfl
    obtain ⟨Bd, HBd⟩ : ∃ n, Hid (wx.heap.size = n) := ⟨_, (rfl : wx.heap.size = _)⟩
    rw [HBd.out] at hM0
    have hb0 : Bel wx X0 := by rw [HX0.out]; exact bel_alloc (bel_alloc (Bel.refl _) _) _
    have hXs : X0.heap.size = Bd + 2 := by rw [HX0.out, ← HBd.out]; simp
    have hMP : MbP (Bd + 1) (Bd + 2) Bt Bc Bd X0 := ⟨by rw [← HBd.out]; exact Nat.lt_succ_of_lt hT.lt, by rw [← HBd.out]; exact Nat.lt_succ_of_lt hC.lt, Nat.lt_succ_self _, d1, by rw [← HBd.out]; exact Nat.ne_of_lt hT.lt, by rw [← HBd.out]; exact Nat.ne_of_lt hC.lt, Nat.le_succ _, by rw [hXs]; exact Nat.le_refl _⟩
    have HMP : Hid (MbP (Bd + 1) (Bd + 2) Bt Bc Bd X0) := hMP
    have HM0 : Hid (MbW (Bd + 1) (Bd + 2) Bt Bc Bd X0 n1 [] (mB (mkS n1 true) g (p : Int) 0) (some ⟨Bd + 1, 0, none⟩) 0 0 X0) := hM0
    have hBr : Br < Bd := by rw [← HBd.out]; exact XR.lt
    have hwB : nw + 2 ≤ Bt ∧ nw + 2 ≤ Bc ∧ nw + 2 ≤ Br := ⟨by omega, by omega, by omega⟩
    have hwd : nw + 2 ≤ Bd := by omega
    have HXG0 : Hid (Blk X0 nw [.slice a0 n0 c0, .slice a1 n1 c1, .slice a2 n2 c2]) := (HXG.out.bel hbW).bel hb0
    have HX40 : Hid (Blk X0 (nw + 1) [.slice none 0 0, .slice none 0 0]) := (HX4.out.bel hbW).bel hb0
    have HXR0 : Hid (Blk X0 Br [.slice (some ⟨Bt, 0, none⟩) n1 n1, .slice (some ⟨Bc, 0, none⟩) n1 n1]) := XR.bel hb0
    have HB0 : Hid (Bel w X0) := bel_step HBW.out (bel_step hbW hb0)
    have Hd : Hid (Br ≠ Bt ∧ Br ≠ Bc) := ⟨d2, d3⟩
    have HXs : Hid (X0.heap.size = Bd + 2) := hXs
    clear hcut XR hT hC hM0 hMP hb0 hbW d2 d3 x1 xl xl4 hXs hmk HXG HX4 HW HBW
    go_upto_region 5 with fail
    rw [← HX0.out, HBd.out]
    clear HX0 hmb
    go_wp2
    go_loopw [8, 9] (fun vo i wr => ∃ (k : Nat) (va : Option Addr) (m vc : Nat), k ≤ n1 ∧ i = .int .i64 k ∧ vo = .slice va m vc ∧ Hid (MbW (Bd + 1) (Bd + 2) Bt Bc Bd X0 n1 [] (mB (mkS n1 true) g (p : Int) k) va m vc wr)) (fun _ i _ => n1 - (intOf i).toNat)
    case atStart => exact ⟨0, _, _, _, Nat.zero_le _, rfl, rfl, HM0⟩
    case round =>
      clear HM0
      obtain ⟨k, va, m, vc, hk, rfl, rfl, HM⟩ := hrel
      have HXRr : Hid (Blk wr Br [.slice (some ⟨Bt, 0, none⟩) n1 n1, .slice (some ⟨Bc, 0, none⟩) n1 n1]) := HM.out.fr.blk HXR0.out ⟨Hd.out.1, Hd.out.2, by omega, .inl (by omega)⟩
      have HXGr : Hid (Blk wr nw [.slice a0 n0 c0, .slice a1 n1 c1, .slice a2 n2 c2]) := HM.out.fr.blk HXG0.out ⟨by omega, by omega, by omega, .inl (by omega)⟩
      have HX4r : Hid (Blk wr (nw + 1) [.slice none 0 0, .slice none 0 0]) := HM.out.fr.blk HX40.out ⟨by omega, by omega, by omega, .inl (by omega)⟩
      have HBr : Hid (Bel w wr) := HB0.out.out.trans (HM.out.fr.below (fun y hy => by rw [Hnw.out] at hy; exact ⟨by omega, by omega, by omega, .inl (by omega)⟩) HB0.out.out.size)
      by_cases hlt : k < n1
      · as_aux_lemma =>
        have hkl : k < g.roads.length := by rw [H1.out]; exact hlt
        obtain ⟨b, off, f, rfl, hb, hx⟩ := (HT1.out.bel roadE HBr.out).out hkl
        obtain ⟨_, _, _, _, _, _, _, _, y1, _, y3, _⟩ := hx k hkl
        rw [← rdAt_eq hkl] at y1 y3
        have hbn : b < nw := by
          have h := HT1.out.out hkl
          obtain ⟨b', off', f', e, hb', _⟩ := h
          injection e with e
          injection e with e _
          rw [e, ← Hnw.out]; exact hb'
        have q0 : wr.cell? ⟨Br, 0, none⟩ = some (.slice (some ⟨Bt, 0, none⟩) n1 n1) := HXRr.out.cell 0 (by simp)
        have q1 : wr.cell? ⟨Br, 1, none⟩ = some (.slice (some ⟨Bc, 0, none⟩) n1 n1) := HXRr.out.cell 1 (by simp)
        have ql := HXRr.out.lt
        have g1 : wr.cell? ⟨nw, 1, none⟩ = some (.slice (some ⟨b, off, none⟩) n1 c1) := HXGr.out.cell 1 (by simp)
        have gl := HXGr.out.lt
        have hkd : k < (mB (mkS n1 true) g (p : Int) k).dl.length := by rw [mB_len]; exact hlt
        have z0 := tm_at HM.out.tm hkd
        have z1 := HM.out.tm.free k
        have z2 := HM.out.tm.lt
        have zc0 := ct_at HM.out.ct hkd
        have zc1 := HM.out.ct.free k
        have zc2 := HM.out.ct.lt
        have Hat : Hid (cAt (mB (mkS n1 true) g (p : Int) k).dl k = ⟨0, 0⟩) := (by rw [mB_at (S := mkS n1 true) hlt, if_neg (Nat.lt_irrefl _)] : cAt (mB (mkS n1 true) g (p : Int) k).dl k = ⟨0, 0⟩)
        rw [Hat.out] at z0 zc0
        have hltI : (k : Int) < (n1 : Int) := by omega
        have hM1 := HM.out.time HMP.out k (-1) hkd
        rw [Hat.out] at hM1
        obtain ⟨To, HTo⟩ : ∃ t, Hid ((rdAt g k).to = t) := ⟨_, (rfl : (rdAt g k).to = _)⟩
        obtain ⟨Ti, HTi⟩ : ∃ t, Hid ((rdAt g k).time = t) := ⟨_, (rfl : (rdAt g k).time = _)⟩
        rw [HTo.out] at y1
        rw [HTi.out] at y3
        obtain ⟨W1, HW1⟩ : ∃ X, Hid (X = wr.setCell ⟨Bt, k, none⟩ (.int .i64 (-1))) := ⟨_, (rfl : wr.setCell ⟨Bt, k, none⟩ (.int .i64 (-1)) = _)⟩
        have hne1 : b ≠ Bt := by omega
        have hne2 : nw ≠ Bt := by omega
        have hne3 : Br ≠ Bt := Hd.out.1
        have r0 : W1.cell? ⟨Br, 0, none⟩ = some (.slice (some ⟨Bt, 0, none⟩) n1 n1) := by rw [HW1.out, World.cell?_setCell_other _ _ _ _ (fun e => hne3 (congrArg Addr.block e).symm)]; exact q0
        have r1 : W1.cell? ⟨Br, 1, none⟩ = some (.slice (some ⟨Bc, 0, none⟩) n1 n1) := by rw [HW1.out, World.cell?_setCell_other _ _ _ _ (fun e => hne3 (congrArg Addr.block e).symm)]; exact q1
        have rg : W1.cell? ⟨nw, 1, none⟩ = some (.slice (some ⟨b, off, none⟩) n1 c1) := by rw [HW1.out, World.cell?_setCell_other _ _ _ _ (fun e => hne2 (congrArg Addr.block e).symm)]; exact g1
        have ry1 : W1.cell? ⟨b, off + k * 6 + 1, none⟩ = some (.int .i64 To) := by rw [HW1.out, World.cell?_setCell_other _ _ _ _ (fun e => hne1 (congrArg Addr.block e).symm)]; exact y1
        have ry3 : W1.cell? ⟨b, off + k * 6 + 3, none⟩ = some (.int .i64 Ti) := by rw [HW1.out, World.cell?_setCell_other _ _ _ _ (fun e => hne1 (congrArg Addr.block e).symm)]; exact y3
        rw [← HW1.out] at hM1
        have HM1 : Hid (MbW (Bd + 1) (Bd + 2) Bt Bc Bd X0 n1 [] ⟨(mB (mkS n1 true) g (p : Int) k).dl.set k ⟨-1, 0⟩, (mB (mkS n1 true) g (p : Int) k).op⟩ va m vc W1) := hM1
        have s1l : W1.heap.size = wr.heap.size := by rw [HW1.out]; simp
        have hs1 : Br < W1.heap.size ∧ nw < W1.heap.size ∧ b < W1.heap.size := ⟨by omega, by omega, by omega⟩
        obtain ⟨hs1a, hs1b, hs1c⟩ := hs1
        clear hx y1 y3 hM1 HXRr HXGr HX4r HBr
        by_cases hto : To = (p : Int)
        · have HS : Hid (mB (mkS n1 true) g (p : Int) (k + 1) = ⟨(mB (mkS n1 true) g (p : Int) k).dl.set k ⟨Ti, 1⟩, (mB (mkS n1 true) g (p : Int) k).op ++ [k]⟩) := (by
            rw [← HTi.out]
            exact mB_yes (by show (rdAt g k).to = _; rw [HTo.out, hto]) : mB (mkS n1 true) g (p : Int) (k + 1) = ⟨(mB (mkS n1 true) g (p : Int) k).dl.set k ⟨Ti, 1⟩, (mB (mkS n1 true) g (p : Int) k).op ++ [k]⟩)
          have heq : (To == (p : Int)) = true := by rw [beq_iff_eq]; exact hto
          have hM2 := HM1.out.both HMP.out k ⟨Ti, 1⟩ (by simpa using hkd)
          simp only [List.set_set] at hM2
          have v0 := tm_at HM1.out.tm (x := k) (by simpa using hkd)
          have v1 := HM1.out.tm.free k
          have v2 := HM1.out.tm.lt
          rw [cAt_set_self hkd] at v0
          obtain ⟨W2, HW2⟩ : ∃ X, Hid (X = (W1.setCell ⟨Bt, k, none⟩ (.int .i64 Ti)).drew) := ⟨_, (rfl : (W1.setCell ⟨Bt, k, none⟩ (.int .i64 Ti)).drew = _)⟩
          have hM3 : MbW (Bd + 1) (Bd + 2) Bt Bc Bd X0 n1 [] ⟨(mB (mkS n1 true) g (p : Int) k).dl.set k ⟨Ti, 0⟩, (mB (mkS n1 true) g (p : Int) k).op⟩ va m vc W2 := by
            have h := HM1.out.time HMP.out k Ti (by simpa using hkd)
            simp only [List.set_set, cAt_set_self hkd] at h
            rw [HW2.out]
            exact h.bel (Bel.refl _).drew
          have a0' : W2.cell? ⟨Br, 1, none⟩ = some (.slice (some ⟨Bc, 0, none⟩) n1 n1) := by
            rw [HW2.out]
            show (W1.setCell ⟨Bt, k, none⟩ (.int .i64 Ti)).cell? _ = _
            rw [World.cell?_setCell_other _ _ _ _ (fun e => hne3 (congrArg Addr.block e).symm)]; exact r1
          have a1' : Br < W2.heap.size := by rw [HW2.out]; show Br < (W1.setCell ⟨Bt, k, none⟩ (.int .i64 Ti)).heap.size; simpa using hs1a
          have b0' := ct_at hM3.ct (x := k) (by simpa using hkd)
          have b1' := hM3.ct.free k
          have b2' := hM3.ct.lt
          rw [cAt_set_self hkd] at b0'
          have hM4 := hM3.numb HMP.out k 1 (by simpa using hkd)
          simp only [List.set_set, cAt_set_self hkd] at hM4
          have HM4 : Hid (MbW (Bd + 1) (Bd + 2) Bt Bc Bd X0 n1 [] ⟨(mB (mkS n1 true) g (p : Int) k).dl.set k ⟨Ti, 1⟩, (mB (mkS n1 true) g (p : Int) k).op⟩ va m vc (W2.setCell ⟨Bc, k, none⟩ (.int .i64 1))) := hM4
          have hml : m ≤ 8000 := by rw [← HM.out.ol]; exact Nat.le_trans (mB_ol _ _ _ _) (by omega)
          clear hM2 hM3 hM4
          go_upto_region 9 with fail
          rw [← HW1.out]
          go_upto_region 10 with fail
          go_big_region
          rw [← HW2.out]
          clear HW1 HW2 z0 z1 z2 zc0 zc1 zc2 q0 q1 ql g1 gl r0 r1 rg ry1 ry3 v0 v1 v2
          go_upto_region 12 with fail
          obtain ⟨W3, HW3⟩ : ∃ X, Hid (X = W2.setCell ⟨Bc, k, none⟩ (.int .i64 1)) := ⟨_, (rfl : W2.setCell ⟨Bc, k, none⟩ (.int .i64 1) = _)⟩
          rw [← HW3.out] at HM4 ⊢
          clear a0' a1' b0' b1' b2' HW3
          have hownA : (W3.alloc (.cells #[.int .i64 (k : Int)] 2)).ownsRow (Bd + 1) 2 1 (.slice va m vc) m (intsN (mB (mkS n1 true) g (p : Int) k).op) := World.ownsRow.alloc HM4.out.op _
          have HN : Hid (∀ j u, [Value.int .i64 (k : Int)][j]? = some u → (W3.alloc (.cells #[.int .i64 (k : Int)] 2)).cell? (Addr.add ⟨W3.heap.size, 0, none⟩ j) = some u) := World.news_of_block (cs := #[.int .i64 (k : Int)]) (heap_alloc_new W3 _)
          have hlos : Bd + 1 ≤ W3.heap.size := by have := HM4.out.fr.size; have := HXs.out; omega
          go_wp2_with (first
            | (at_builtin; refine wpList_append_lies _ rfl _ _ 28 rfl (Bd + 1) 2 i0 (.int .i64 0) 1 8 Tryd.underlying28 hi0 hz0 hz1 hz2 rfl (by decide) _ _ _ rfl hownA ⟨W3.heap.size, 0, none⟩ 1 1 [.int .i64 (k : Int)] rfl rfl HN.out (by simp [Value.oneCell']) (by decide) (by unfold maxLen; omega) (by omega) (by simp; omega) (W3.heap.size + 1) (by simp) ?_)
            | go_in)
          intro g2 cap2 w2 hown2 hgrow hat _
          have HM5 : Hid (MbW (Bd + 1) (Bd + 2) Bt Bc Bd X0 n1 [] (mB (mkS n1 true) g (p : Int) (k + 1)) (some ⟨g2, 0, none⟩) (m + 1) cap2 w2) := (by
            rw [HS.out]
            exact HM4.out.push HMP.out (bel_alloc (Bel.refl W3) _) hown2 hgrow (by simpa using hat) : MbW (Bd + 1) (Bd + 2) Bt Bc Bd X0 n1 [] (mB (mkS n1 true) g (p : Int) (k + 1)) (some ⟨g2, 0, none⟩) (m + 1) cap2 w2)
          clear hown2 hgrow hat hownA
          go_wp2
          go_roundw
          case rel => exact ⟨k + 1, _, _, _, by omega, by go_num, rfl, HM5⟩
          case measure => simp [intOf]; omega
        · have HS : Hid (mB (mkS n1 true) g (p : Int) (k + 1) = ⟨(mB (mkS n1 true) g (p : Int) k).dl.set k ⟨-1, 0⟩, (mB (mkS n1 true) g (p : Int) k).op⟩) := mB_no (by show (rdAt g k).to ≠ _; rw [HTo.out]; exact hto)
          have heq : (To == (p : Int)) = false := by rw [beq_eq_false_iff_ne]; exact hto
          have HM5 : Hid (MbW (Bd + 1) (Bd + 2) Bt Bc Bd X0 n1 [] (mB (mkS n1 true) g (p : Int) (k + 1)) va m vc W1) := (by rw [HS.out]; exact HM1.out : MbW (Bd + 1) (Bd + 2) Bt Bc Bd X0 n1 [] (mB (mkS n1 true) g (p : Int) (k + 1)) va m vc W1)
          go_upto_region 9 with fail
          rw [← HW1.out]
          clear HW1 z0 z1 z2 zc0 zc1 zc2 q0 q1 ql g1 gl
          go_wp2
          go_roundw
          case rel => exact ⟨k + 1, _, _, _, by omega, by go_num, rfl, HM5⟩
          case measure => simp [intOf]; omega
      · have e : n1 = k := by omega
        have HMn : Hid (MbW (Bd + 1) (Bd + 2) Bt Bc Bd X0 n1 [] (mB (mkS n1 true) g (p : Int) n1) va m vc wr) := (by
          have h := HM.out
          rw [← e] at h
          exact h : MbW (Bd + 1) (Bd + 2) Bt Bc Bd X0 n1 [] (mB (mkS n1 true) g (p : Int) n1) va m vc wr)
        subst e
        have g0 : wr.cell? ⟨nw, 0, none⟩ = some (.slice a0 n0 c0) := HXGr.out.cell 0 (by simp)
        have g1 : wr.cell? ⟨nw, 1, none⟩ = some (.slice a1 n1 c1) := HXGr.out.cell 1 (by simp)
        have g2 : wr.cell? ⟨nw, 2, none⟩ = some (.slice a2 n2 c2) := HXGr.out.cell 2 (by simp)
        have gl := HXGr.out.lt
        have cA := l10At_any a0 n0 c0 a1 n1 c1 a2 n2 c2 g b1 true wr (HT1.out.bel roadE HBr.out) H0.out H1.out HP.out
        have HcA : Hid (Calls Tryd.prog 41 #[gphV a0 n0 c0 a1 n1 c1 a2 n2 c2, .bool true] wr fun e w' => AtOut wr g (!true) e w') := cA
        clear HM cA
        go_wp2_with fail
        refine HcA.out.mono ?_
        rintro e wA ⟨⟨lo2, BE, V, rfl, hTab, hBE, hlo2, hbA⟩⟩
        rw [H0.out, H1.out] at hTab
        rw [H0.out]
        have hs0 : Bd + 1 < wr.heap.size := by have := HMn.out.fr.size; have := HXs.out; omega
        have HMA : Hid (MbW (Bd + 1) wr.heap.size Bt Bc Bd wA n1 [] (mB (mkS n1 true) g (p : Int) n1) va m vc wA) := (by
          have h := HMn.out.bel hbA
          exact ⟨h.tm, h.ct, h.dn, h.op, h.ol, fun k e => .inl (HMn.out.op.lt k e).2, Frx.refl _ _⟩ : MbW (Bd + 1) wr.heap.size Bt Bc Bd wA n1 [] (mB (mkS n1 true) g (p : Int) n1) va m vc wA)
        have HMPA : Hid (MbP (Bd + 1) wr.heap.size Bt Bc Bd wA) := (by
          have h := HMP.out
          exact ⟨h.t, h.c, h.d, h.tc, h.td, h.cd, by omega, hbA.out.size⟩ : MbP (Bd + 1) wr.heap.size Bt Bc Bd wA)
        obtain ⟨s0, Hs0⟩ : ∃ n, Hid (wr.heap.size = n) := ⟨_, (rfl : wr.heap.size = _)⟩
        rw [Hs0.out] at HMA HMPA hs0 hBE hlo2
        have HXGA : Hid (Blk wA nw [.slice a0 n0 c0, .slice a1 n1 c1, .slice a2 n2 c2]) := HXGr.out.bel hbA
        have HX4A : Hid (Blk wA (nw + 1) [.slice none 0 0, .slice none 0 0]) := HX4r.out.bel hbA
        have HXRA : Hid (Blk wA Br [.slice (some ⟨Bt, 0, none⟩) n1 n1, .slice (some ⟨Bc, 0, none⟩) n1 n1]) := HXRr.out.bel hbA
        have HBA : Hid (Bel w wA) := bel_step HBr.out hbA
        have HTab : Hid (Tab1 lo2 wA BE n0 V (bgF g.roads n1 false)) := hTab
        have HJ0 : Hid (MJ (mkS n1 true) g (p : Int) [] (mB (mkS n1 true) g (p : Int) n1)) := MJ.start HP.out H1.out
        have HB00 : Hid (MbB (Bd + 1) s0 Bt Bc Bd wA n1 g p (n1 - 0) (.slice va m vc) wA) := ⟨[], _, va, m, vc, rfl, HJ0.out, HMA.out, rfl⟩
        clear g0 g1 g2 gl HcA hbA hTab HMn HXGr HX4r HXRr HBr HMP HXG0 HX40 HXR0 HB0 HXs HMA HJ0 hk hlt
        go_wp2
        go_loopw [8, 11, 12, 13, 14, 15, 16, 17, 18, 19, 20] (fun vo _ _ _ _ _ _ _ _ _ _ wr => ∃ N, Hid (MbB (Bd + 1) s0 Bt Bc Bd wA n1 g p N vo wr)) (fun vo _ _ _ _ _ _ _ _ _ _ wr => lstN fun N => Hid (MbB (Bd + 1) s0 Bt Bc Bd wA n1 g p N vo wr))
        case atStart => exact ⟨_, HB00⟩
        case round =>
          clear HB00
          have hrel' : Hid (MbB (Bd + 1) s0 Bt Bc Bd wA n1 g p (lstN fun N => Hid (MbB (Bd + 1) s0 Bt Bc Bd wA n1 g p N u8 wr)) u8 wr) := lstN_at hrel
          obtain ⟨LN, HLN⟩ : ∃ n, Hid ((lstN fun N => Hid (MbB (Bd + 1) s0 Bt Bc Bd wA n1 g p N u8 wr)) = n) := ⟨_, (rfl : (lstN fun N => Hid (MbB (Bd + 1) s0 Bt Bc Bd wA n1 g p N u8 wr)) = _)⟩
          rw [HLN.out] at hrel'
          obtain ⟨D, s, va, m, vc, rfl, hJ, hM, hN⟩ := hrel'.out
          have HJ : Hid (MJ (mkS n1 true) g (p : Int) D s) := hJ
          have HM : Hid (MbW (Bd + 1) s0 Bt Bc Bd wA n1 D s va m vc wr) := hM
          have HNN : Hid (LN = n1 - D.length) := hN
          have HBtl : Hid (Bt < Bd + 1 ∧ Bc < Bd + 1) := ⟨HMPA.out.t, HMPA.out.c⟩
          have HXRr : Hid (Blk wr Br [.slice (some ⟨Bt, 0, none⟩) n1 n1, .slice (some ⟨Bc, 0, none⟩) n1 n1]) := hM.fr.blk HXRA.out ⟨Hd.out.1, Hd.out.2, by omega, .inl (by omega)⟩
          have HX4r : Hid (Blk wr (nw + 1) [.slice none 0 0, .slice none 0 0]) := hM.fr.blk HX4A.out ⟨by omega, by omega, by omega, .inl (by omega)⟩
          have HBr : Hid (Bel w wr) := HBA.out.out.trans (hM.fr.below (fun y hy => by rw [Hnw.out] at hy; exact ⟨by omega, by omega, by omega, .inl (by omega)⟩) HBA.out.out.size)
          have hol := hJ.ol
          have hom : m ≤ n1 := by rw [← hM.ol]; exact hol
          have q0 : wr.cell? ⟨Br, 0, none⟩ = some (.slice (some ⟨Bt, 0, none⟩) n1 n1) := HXRr.out.cell 0 (by simp)
          have q1 : wr.cell? ⟨Br, 1, none⟩ = some (.slice (some ⟨Bc, 0, none⟩) n1 n1) := HXRr.out.cell 1 (by simp)
          have ql := HXRr.out.lt
          clear hJ hM hN hrel hrel'
          by_cases hm : m = 0
          · as_aux_lemma =>
            have HE : Hid (s.op = []) := (by have h := HM.out.ol; rw [hm] at h; exact List.length_eq_zero_iff.1 h : s.op = [])
            have f0 : wr.cell? ⟨nw + 1, 0, none⟩ = some (.slice none 0 0) := HX4r.out.cell 0 (by simp)
            have f1 : wr.cell? ⟨nw + 1, 1, none⟩ = some (.slice none 0 0) := HX4r.out.cell 1 (by simp)
            have f2 := HX4r.out.free 0
            have f3 := HX4r.out.free 1
            have fl := HX4r.out.lt
            have hX5 : Blk ((wr.setCell ⟨nw + 1, 0, none⟩ (.slice (some ⟨Bt, 0, none⟩) n1 n1)).setCell ⟨nw + 1, 1, none⟩ (.slice (some ⟨Bc, 0, none⟩) n1 n1)) (nw + 1) [.slice (some ⟨Bt, 0, none⟩) n1 n1, .slice (some ⟨Bc, 0, none⟩) n1 n1] := (HX4r.out.set 0 _ (by simp)).set 1 _ (by simp)
            have r0 := hX5.cell 0 (by simp)
            have r1 := hX5.cell 1 (by simp)
            simp only [List.getElem_cons_zero, List.getElem_cons_succ] at r0 r1
            have HF : Hid (BakOut w g p (.returned (.agg #[.slice (some ⟨Bt, 0, none⟩) n1 n1, .slice (some ⟨Bc, 0, none⟩) n1 n1])) ((wr.setCell ⟨nw + 1, 0, none⟩ (.slice (some ⟨Bt, 0, none⟩) n1 n1)).setCell ⟨nw + 1, 1, none⟩ (.slice (some ⟨Bc, 0, none⟩) n1 n1))) := (by
              refine ⟨Bt, Bc, D, s, by rw [H1.out], (HM.out.tm.far (by omega)).far (by omega), (HM.out.ct.far (by omega)).far (by omega), by rw [H1.out]; exact HJ.out, HE.out, by rw [Hnw.out]; omega, by rw [Hnw.out]; omega, HMPA.out.tc, ?_⟩
              exact bel_set (bel_set HBr.out (by show w.heap.size ≤ nw + 1; rw [Hnw.out]; omega) _) (by show w.heap.size ≤ nw + 1; rw [Hnw.out]; omega) _ : BakOut w g p _ _)
            obtain ⟨X, HX⟩ : ∃ X, Hid (X = (wr.setCell ⟨nw + 1, 0, none⟩ (.slice (some ⟨Bt, 0, none⟩) n1 n1)).setCell ⟨nw + 1, 1, none⟩ (.slice (some ⟨Bc, 0, none⟩) n1 n1)) := ⟨_, (rfl : (wr.setCell ⟨nw + 1, 0, none⟩ (.slice (some ⟨Bt, 0, none⟩) n1 n1)).setCell ⟨nw + 1, 1, none⟩ (.slice (some ⟨Bc, 0, none⟩) n1 n1) = _)⟩
            rw [← HX.out] at r0 r1 HF
            subst hm
            clear hX5
            go_wp2
            rw [← HX.out]
            exact bodyPost_ret (v := .agg #[.slice (some ⟨Bt, 0, none⟩) n1 n1, .slice (some ⟨Bc, 0, none⟩) n1 n1]) (by simp [results, Tryd.results34, go_sem, r0, r1]) rfl HF.out
          · obtain ⟨mm, rfl⟩ : ∃ k, m = k + 1 := ⟨m - 1, by omega⟩
            obtain ⟨ga, gc, ev, _, hga⟩ := own_in HM.out.op (by omega)
            simp only [Value.slice.injEq, true_and] at ev
            obtain ⟨rfl, rfl⟩ := ev
            have Hop : Hid (∀ i, i < mm + 1 → ∀ w', Bel wr w' → w'.cell? ⟨ga, i, none⟩ = some (.int .i64 (nAt s.op i : Int))) := (fun i hi w' hb => by
              have h := op_at (own_bel HM.out.op hb) (i := i) (by rw [HM.out.ol]; exact hi) HM.out.ol
              rw [h, nAt_eq (by rw [HM.out.ol]; exact hi)] : ∀ i, i < mm + 1 → ∀ w', Bel wr w' → w'.cell? ⟨ga, i, none⟩ = some (.int .i64 (nAt s.op i : Int)))
            have Hon : Hid (∀ i, i < mm + 1 → nAt s.op i < n1 ∧ nAt s.op i ∉ D) := (fun i hi => by
              have hi' : i < s.op.length := by rw [HM.out.ol]; exact hi
              have h := (HJ.out.opn (nAt s.op i)).1 (by rw [nAt_eq hi']; exact List.getElem_mem _)
              exact ⟨h.1, h.2.1⟩ : ∀ i, i < mm + 1 → nAt s.op i < n1 ∧ nAt s.op i ∉ D)
            have Hdl : Hid (s.dl.length = n1) := HJ.out.len
            have hgt : decide ((0 : Int) < ((mm + 1 : Nat) : Int)) = true := by simp
            clear q0 q1 ql hm
            go_wp2
            obtain ⟨wo, rfl⟩ : ∃ V, V = wr := ⟨_, rfl⟩
            go_loopw [11, 12, 13, 14] (fun kv iv _ _ wr => ∃ kk j : Nat, kk < j ∧ j ≤ mm + 1 ∧ kv = .int .i64 kk ∧ iv = .int .i64 j ∧ Hid (∀ t, t < j → (cAt s.dl (nAt s.op kk)).le (cAt s.dl (nAt s.op t))) ∧ Hid (Bel wo wr)) (fun _ iv _ _ _ => mm + 1 - (intOf iv).toNat)
            case atStart => exact ⟨0, 1, by omega, by omega, rfl, rfl, (fun t ht => by obtain rfl : t = 0 := (by omega); exact Cst.le_refl _), Bel.refl _⟩
            case round =>
              obtain ⟨kk, j, hkj, hjm, rfl, rfl, HL, HBl⟩ := hrel
              have hkm : kk < mm + 1 := by omega
              by_cases hlt : j < mm + 1
              · obtain ⟨A, HA⟩ : ∃ c, Hid (cAt s.dl (nAt s.op j) = c) := ⟨_, (rfl : cAt s.dl (nAt s.op j) = _)⟩
                obtain ⟨B, HB⟩ : ∃ c, Hid (cAt s.dl (nAt s.op kk) = c) := ⟨_, (rfl : cAt s.dl (nAt s.op kk) = _)⟩
                have hoa := (Hon.out j hlt).1
                have hob := (Hon.out kk hkm).1
                have k1 := Hop.out j hlt wr HBl.out
                have k2 := Hop.out kk hkm wr HBl.out
                obtain ⟨xa, Hxa⟩ : ∃ x, Hid (nAt s.op j = x) := ⟨_, (rfl : nAt s.op j = _)⟩
                obtain ⟨xb, Hxb⟩ : ∃ x, Hid (nAt s.op kk = x) := ⟨_, (rfl : nAt s.op kk = _)⟩
                rw [Hxa.out] at k1 hoa HA
                rw [Hxb.out] at k2 hob HB
                have hS : ∀ w', Bel wr w' → w'.cell? ⟨Br, 0, none⟩ = some (.slice (some ⟨Bt, 0, none⟩) n1 n1) ∧ w'.cell? ⟨Br, 1, none⟩ = some (.slice (some ⟨Bc, 0, none⟩) n1 n1) ∧ w'.cell? ⟨Bt, xa, none⟩ = some (.int .i64 A.t) ∧ w'.cell? ⟨Bt, xb, none⟩ = some (.int .i64 B.t) ∧ w'.cell? ⟨Bc, xa, none⟩ = some (.int .i64 A.c) ∧ w'.cell? ⟨Bc, xb, none⟩ = some (.int .i64 B.c) := fun w' h => by
                  have h' := bel_step HBl.out h
                  have hM := HM.out.bel h'
                  have e1 := tm_at hM.tm (x := xa) (by rw [Hdl.out]; exact hoa)
                  have e2 := tm_at hM.tm (x := xb) (by rw [Hdl.out]; exact hob)
                  have e3 := ct_at hM.ct (x := xa) (by rw [Hdl.out]; exact hoa)
                  have e4 := ct_at hM.ct (x := xb) (by rw [Hdl.out]; exact hob)
                  rw [HA.out] at e1 e3
                  rw [HB.out] at e2 e4
                  exact ⟨(HXRr.out.bel h').cell 0 (by simp), (HXRr.out.bel h').cell 1 (by simp), e1, e2, e3, e4⟩
                have hjI : (j : Int) < ((mm + 1 : Nat) : Int) := by omega
                have hjI2 : (j : Int) < (mm : Int) + 1 := by omega
                have hkI : (kk : Int) < ((mm + 1 : Nat) : Int) := by omega
                have hkI2 : (kk : Int) < (mm : Int) + 1 := by omega
                have haI : (xa : Int) < (n1 : Int) := by omega
                have hbI : (xb : Int) < (n1 : Int) := by omega
                have hgl : ga < wr.heap.size := by have := HBl.out.out.size; omega
                have g0 : Bel wr wr := Bel.refl _
                by_cases h1 : A.t < B.t
                · as_aux_lemma =>
                  have hd : decide (A.t < B.t) = true := by simp [h1]
                  have HL2 : Hid (∀ t, t < j + 1 → (cAt s.dl (nAt s.op j)).le (cAt s.dl (nAt s.op t))) := (fun t ht => by
                    by_cases e : t = j
                    · subst e; exact Cst.le_refl _
                    · have h := HL.out t (by omega)
                      rw [Hxb.out, HB.out] at h
                      rw [Hxa.out, HA.out]
                      exact Cst.le_trans (.inl h1) h : ∀ t, t < j + 1 → (cAt s.dl (nAt s.op j)).le (cAt s.dl (nAt s.op t)))
                  clear h1
                  go_upto_region 21 with fail
                  refine wp_region_noPanic ?_
                  refine wp_region_held_drew (S := fun w' => Bel wr w') (by kernel_rfl) (Bel.drew g0) (fun hHeld => ?_)
                  refine tk 0 hHeld ?_; refine tk 1 hHeld ?_; refine tk 2 hHeld ?_; refine tk 3 hHeld ?_; refine tk 4 hHeld ?_; refine tk 5 hHeld ?_
                  refine tk 6 hHeld ?_; refine tk 7 hHeld ?_; refine tk 8 hHeld ?_; refine tk 9 hHeld ?_; refine tk 10 hHeld ?_; refine tk 11 hHeld ?_
                  refine sk 12 hHeld ?_; refine sk 13 hHeld ?_; refine sk 14 hHeld ?_; refine sk 15 hHeld ?_; refine sk 16 hHeld ?_
                  refine sk 17 hHeld ?_; refine sk 18 hHeld ?_; refine sk 19 hHeld ?_; refine sk 20 hHeld ?_; refine sk 21 hHeld ?_
                  refine sk 22 hHeld ?_; refine sk 23 hHeld ?_; refine sk 24 hHeld ?_; refine sk 25 hHeld ?_; refine sk 26 hHeld ?_
                  refine sk 27 hHeld ?_; refine sk 28 hHeld ?_; refine sk 29 hHeld ?_; refine sk 30 hHeld ?_; refine sk 31 hHeld ?_
                  refine sk 32 hHeld ?_; refine sk 33 hHeld ?_; refine sk 34 hHeld ?_; refine sk 35 hHeld ?_; refine tk 36 hHeld ?_
                  refine wpAnyH_done (by kernel_rfl) ?_ _
                  refine NoPanic.normal ?_
                  have HBn : Hid (Bel wo wr.drew) := bel_step HBl.out hHeld
                  clear hS k1 k2 hHeld
                  go_wp2
                  go_roundw
                  case rel => exact ⟨j, j + 1, by omega, by omega, rfl, by go_num, HL2, HBn⟩
                  case measure => simp [intOf]; omega
                · have hd : decide (A.t < B.t) = false := by simp [h1]
                  by_cases h2 : A.t = B.t
                  · have hd2 : (A.t == B.t) = true := by simp [h2]
                    by_cases h3 : A.c < B.c
                    · as_aux_lemma =>
                      have hd3 : decide (A.c < B.c) = true := by simp [h3]
                      have HL2 : Hid (∀ t, t < j + 1 → (cAt s.dl (nAt s.op j)).le (cAt s.dl (nAt s.op t))) := (fun t ht => by
                        by_cases e : t = j
                        · subst e; exact Cst.le_refl _
                        · have h := HL.out t (by omega)
                          rw [Hxb.out, HB.out] at h
                          rw [Hxa.out, HA.out]
                          exact Cst.le_trans (.inr ⟨h2, Int.le_of_lt h3⟩) h : ∀ t, t < j + 1 → (cAt s.dl (nAt s.op j)).le (cAt s.dl (nAt s.op t)))
                      clear h1 h2 h3
                      go_upto_region 21 with fail
                      refine wp_region_noPanic ?_
                      refine wp_region_held_drew (S := fun w' => Bel wr w') (by kernel_rfl) (Bel.drew g0) (fun hHeld => ?_)
                      refine tk 0 hHeld ?_; refine tk 1 hHeld ?_; refine tk 2 hHeld ?_; refine tk 3 hHeld ?_; refine tk 4 hHeld ?_; refine tk 5 hHeld ?_
                      refine tk 6 hHeld ?_; refine tk 7 hHeld ?_; refine tk 8 hHeld ?_; refine tk 9 hHeld ?_; refine tk 10 hHeld ?_; refine tk 11 hHeld ?_
                      refine tk 12 hHeld ?_; refine tk 13 hHeld ?_; refine tk 14 hHeld ?_; refine tk 15 hHeld ?_; refine tk 16 hHeld ?_
                      refine tk 17 hHeld ?_; refine tk 18 hHeld ?_; refine tk 19 hHeld ?_; refine tk 20 hHeld ?_; refine tk 21 hHeld ?_
                      refine tk 22 hHeld ?_; refine tk 23 hHeld ?_; refine tk 24 hHeld ?_; refine tk 25 hHeld ?_; refine tk 26 hHeld ?_
                      refine tk 27 hHeld ?_; refine tk 28 hHeld ?_; refine tk 29 hHeld ?_; refine tk 30 hHeld ?_; refine tk 31 hHeld ?_
                      refine tk 32 hHeld ?_; refine tk 33 hHeld ?_; refine tk 34 hHeld ?_; refine tk 35 hHeld ?_; refine tk 36 hHeld ?_
                      refine wpAnyH_done (by kernel_rfl) ?_ _
                      refine NoPanic.normal ?_
                      have HBn : Hid (Bel wo wr.drew) := bel_step HBl.out hHeld
                      clear hS k1 k2 hHeld
                      go_wp2
                      go_roundw
                      case rel => exact ⟨j, j + 1, by omega, by omega, rfl, by go_num, HL2, HBn⟩
                      case measure => simp [intOf]; omega
                    · as_aux_lemma =>
                      have hd3 : decide (A.c < B.c) = false := by simp [h3]
                      have HL2 : Hid (∀ t, t < j + 1 → (cAt s.dl (nAt s.op kk)).le (cAt s.dl (nAt s.op t))) := (fun t ht => by
                        by_cases e : t = j
                        · subst e
                          rw [Hxb.out, HB.out, Hxa.out, HA.out]
                          exact .inr ⟨h2.symm, by omega⟩
                        · exact HL.out t (by omega) : ∀ t, t < j + 1 → (cAt s.dl (nAt s.op kk)).le (cAt s.dl (nAt s.op t)))
                      clear h1 h2 h3
                      go_upto_region 21 with fail
                      refine wp_region_noPanic ?_
                      refine wp_region_held_drew (S := fun w' => Bel wr w') (by kernel_rfl) (Bel.drew g0) (fun hHeld => ?_)
                      refine tk 0 hHeld ?_; refine tk 1 hHeld ?_; refine tk 2 hHeld ?_; refine tk 3 hHeld ?_; refine tk 4 hHeld ?_; refine tk 5 hHeld ?_
                      refine tk 6 hHeld ?_; refine tk 7 hHeld ?_; refine tk 8 hHeld ?_; refine tk 9 hHeld ?_; refine tk 10 hHeld ?_; refine tk 11 hHeld ?_
                      refine tk 12 hHeld ?_; refine tk 13 hHeld ?_; refine tk 14 hHeld ?_; refine tk 15 hHeld ?_; refine tk 16 hHeld ?_
                      refine tk 17 hHeld ?_; refine tk 18 hHeld ?_; refine tk 19 hHeld ?_; refine tk 20 hHeld ?_; refine tk 21 hHeld ?_
                      refine tk 22 hHeld ?_; refine tk 23 hHeld ?_; refine tk 24 hHeld ?_; refine tk 25 hHeld ?_; refine tk 26 hHeld ?_
                      refine tk 27 hHeld ?_; refine tk 28 hHeld ?_; refine tk 29 hHeld ?_; refine tk 30 hHeld ?_; refine tk 31 hHeld ?_
                      refine tk 32 hHeld ?_; refine tk 33 hHeld ?_; refine tk 34 hHeld ?_; refine tk 35 hHeld ?_; refine tk 36 hHeld ?_
                      refine wpAnyH_done (by kernel_rfl) ?_ _
                      refine NoPanic.normal ?_
                      have HBn : Hid (Bel wo wr.drew) := bel_step HBl.out hHeld
                      clear hS k1 k2 hHeld
                      go_wp2
                      go_roundw
                      case rel => exact ⟨kk, j + 1, by omega, by omega, rfl, by go_num, HL2, HBn⟩
                      case measure => simp [intOf]; omega
                  · as_aux_lemma =>
                    have hd2 : (A.t == B.t) = false := by simp [h2]
                    have HL2 : Hid (∀ t, t < j + 1 → (cAt s.dl (nAt s.op kk)).le (cAt s.dl (nAt s.op t))) := (fun t ht => by
                      by_cases e : t = j
                      · subst e
                        rw [Hxb.out, HB.out, Hxa.out, HA.out]
                        exact .inl (by omega)
                      · exact HL.out t (by omega) : ∀ t, t < j + 1 → (cAt s.dl (nAt s.op kk)).le (cAt s.dl (nAt s.op t)))
                    clear h1 h2
                    go_upto_region 21 with fail
                    refine wp_region_noPanic ?_
                    refine wp_region_held_drew (S := fun w' => Bel wr w') (by kernel_rfl) (Bel.drew g0) (fun hHeld => ?_)
                    refine tk 0 hHeld ?_; refine tk 1 hHeld ?_; refine tk 2 hHeld ?_; refine tk 3 hHeld ?_; refine tk 4 hHeld ?_; refine tk 5 hHeld ?_
                    refine tk 6 hHeld ?_; refine tk 7 hHeld ?_; refine tk 8 hHeld ?_; refine tk 9 hHeld ?_; refine tk 10 hHeld ?_; refine tk 11 hHeld ?_
                    refine tk 12 hHeld ?_; refine tk 13 hHeld ?_; refine tk 14 hHeld ?_; refine tk 15 hHeld ?_; refine tk 16 hHeld ?_
                    refine tk 17 hHeld ?_; refine tk 18 hHeld ?_; refine tk 19 hHeld ?_; refine tk 20 hHeld ?_; refine tk 21 hHeld ?_
                    refine tk 22 hHeld ?_; refine tk 23 hHeld ?_; refine sk 24 hHeld ?_; refine sk 25 hHeld ?_; refine sk 26 hHeld ?_
                    refine sk 27 hHeld ?_; refine sk 28 hHeld ?_; refine sk 29 hHeld ?_; refine sk 30 hHeld ?_; refine sk 31 hHeld ?_
                    refine sk 32 hHeld ?_; refine sk 33 hHeld ?_; refine sk 34 hHeld ?_; refine tk 35 hHeld ?_; refine tk 36 hHeld ?_
                    refine wpAnyH_done (by kernel_rfl) ?_ _
                    refine NoPanic.normal ?_
                    have HBn : Hid (Bel wo wr.drew) := bel_step HBl.out hHeld
                    clear hS k1 k2 hHeld
                    go_wp2
                    go_roundw
                    case rel => exact ⟨kk, j + 1, by omega, by omega, rfl, by go_num, HL2, HBn⟩
                    case measure => simp [intOf]; omega
              · have Hje : Hid (j = mm + 1) := (by omega : j = mm + 1)
                have hjd : ¬ (j : Int) < (mm : Int) + 1 := by omega
                have hjd2 : decide ((j : Int) < (mm : Int) + 1) = false := by simp; omega
                have hjd3 : decide (j < mm + 1) = false := by simp; omega
                obtain ⟨x, Hx⟩ : ∃ x, Hid (nAt s.op kk = x) := ⟨_, (rfl : nAt s.op kk = _)⟩
                obtain ⟨z, Hz⟩ : ∃ z, Hid (nAt s.op mm = z) := ⟨_, (rfl : nAt s.op mm = _)⟩
                have hxn := (Hon.out kk hkm).1
                have HxD : Hid (x ∉ D) := (by rw [← Hx.out]; exact (Hon.out kk hkm).2 : x ∉ D)
                rw [Hx.out] at hxn
                have k1 := Hop.out kk hkm wr HBl.out
                have k2 := Hop.out mm (by omega) wr HBl.out
                rw [Hx.out] at k1
                rw [Hz.out] at k2
                have hMl := HM.out.bel HBl.out
                have k3 := World.ownsRow.frozenAt hMl.op kk
                have k4 := (own_cap hMl.op)
                have hcap : mm + 1 ≤ vc := k4.1
                have hgl : ga < wr.heap.size := k4.2.2.2
                have hcm : vc ≤ 9223372036854775807 := by have := k4.2.1; unfold maxLen at this; omega
                have hM1 := hMl.pop HMPA.out (k := kk) hkm z (by
                  have h : s.op.length = mm + 1 := HM.out.ol
                  rw [show mm + 1 - 1 = mm from rfl, List.getElem?_eq_getElem (by omega), ← Hz.out, nAt_eq (by omega)])
                have HPm : Hid ((x :: popL s.op kk).Perm s.op) := (by
                  have h := popL_perm (l := s.op) (k := kk) (by rw [HM.out.ol]; exact hkm)
                  rw [← nAt_eq (by rw [HM.out.ol]; exact hkm), Hx.out] at h
                  exact h : (x :: popL s.op kk).Perm s.op)
                obtain ⟨W1, HW1⟩ : ∃ X, Hid (X = wr.setCell ⟨ga, kk, none⟩ (.int .i64 (z : Int))) := ⟨_, (rfl : wr.setCell ⟨ga, kk, none⟩ (.int .i64 (z : Int)) = _)⟩
                rw [← HW1.out] at hM1
                have d0 : W1.cell? ⟨Bd, x, none⟩ = some (.bool (decide (x ∈ D))) := dn_at hM1.dn hxn
                rw [show decide (x ∈ D) = false by simpa using HxD.out] at d0
                have d1' := hM1.dn.free x
                have d2' := hM1.dn.lt
                have hM2 := hM1.mark HMPA.out x hxn
                obtain ⟨W2, HW2⟩ : ∃ X, Hid (X = W1.setCell ⟨Bd, x, none⟩ (.bool true)) := ⟨_, (rfl : W1.setCell ⟨Bd, x, none⟩ (.bool true) = _)⟩
                rw [← HW2.out] at hM2
                have HM2 : Hid (MbW (Bd + 1) s0 Bt Bc Bd wA n1 (x :: D) ⟨s.dl, popL s.op kk⟩ (some ⟨ga, 0, none⟩) mm vc W2) := hM2
                obtain ⟨q, hq, hqe⟩ := HPl.out x hxn
                have hxg : x < g.roads.length := by rw [H1.out]; exact hxn
                have HMin : Hid (∀ y ∈ s.op, (cAt s.dl x).le (cAt s.dl y)) := (fun y hy => by
                  obtain ⟨t, ht, rfl⟩ := List.getElem_of_mem hy
                  have h := HL.out t (by rw [HM.out.ol] at ht; rw [Hje.out]; exact ht)
                  rw [Hx.out, nAt_eq ht] at h
                  exact h : ∀ y ∈ s.op, (cAt s.dl x).le (cAt s.dl y))
                have HNx : Hid (MJ (mkS n1 true) g (p : Int) (x :: D) (mS (mkS n1 true) g x (cAt s.dl x) (x :: D) ⟨s.dl, popL s.op kk⟩ (bgF g.roads n1 false q) (bgF g.roads n1 false q).length)) := HJ.out.next HP.out H1.out HPm.out HMin.out hqe
                have hxt : 0 ≤ (cAt s.dl x).t ∧ (cAt s.dl x).t ≤ 9000000000 ∧ 1 ≤ (cAt s.dl x).c ∧ (cAt s.dl x).c ≤ 9000 := by
                  have h1 := ((HJ.out.opn x).1 (HPm.out.mem_iff.1 (List.mem_cons.2 (.inl rfl)))).2.2
                  have h2 := HJ.out.cb x _ (mO_some.2 ⟨hxn, rfl, h1⟩)
                  have h3 := HJ.out.dl'
                  have h4 : (mkS n1 true).n1 = n1 := rfl
                  rw [h4] at h3
                  omega
                have HMI : Hid (∀ k, k ≤ (bgF g.roads n1 false q).length → MI (mkS n1 true) g x (cAt s.dl x) (x :: D) ⟨s.dl, popL s.op kk⟩ (bgF g.roads n1 false q) k (mS (mkS n1 true) g x (cAt s.dl x) (x :: D) ⟨s.dl, popL s.op kk⟩ (bgF g.roads n1 false q) k)) := (by
                  have hsub : ∀ y, y ∈ popL s.op kk → y ∈ s.op := fun y hy => HPm.out.mem_iff.1 (List.mem_cons.2 (.inr hy))
                  exact MI.all HP.out H1.out (bgF_nodup _ _ _ _) (fun y hy => bgF_mem hy) hxt.1 (fun y hy => ((HJ.out.opn y).1 (hsub y hy)).2.2) HJ.out.len (List.nodup_cons.1 (HPm.out.nodup_iff.2 HJ.out.und)).2 : ∀ k, k ≤ (bgF g.roads n1 false q).length → MI (mkS n1 true) g x (cAt s.dl x) (x :: D) ⟨s.dl, popL s.op kk⟩ (bgF g.roads n1 false q) k _)
                have hrm : (bgF g.roads n1 false q).length ≤ n1 := bgF_len _ _ _ _
                have HRn : Hid (∀ y ∈ bgF g.roads n1 false q, y < n1) := fun y hy => bgF_mem hy
                obtain ⟨zz, Hzz⟩ : ∃ c, Hid (cAt s.dl x = c) := ⟨_, (rfl : cAt s.dl x = _)⟩
                obtain ⟨row, Hrow⟩ : ∃ l, Hid (bgF g.roads n1 false q = l) := ⟨_, (rfl : bgF g.roads n1 false q = _)⟩
                rw [Hzz.out] at hxt HMI HNx
                rw [Hrow.out] at HMI hrm HNx HRn
                have HTb : Hid (∃ ra rc, ∀ w', Frx (fun y => y ≠ Bt ∧ y ≠ Bc ∧ y ≠ Bd ∧ (y < Bd + 1 ∨ s0 ≤ y)) wA w' → w'.cell? ⟨BE, q, none⟩ = some (.slice ra row.length rc) ∧ w'.ownsRow lo2 2 1 (.slice ra row.length rc) row.length (intsN row) ∧ BE < w'.heap.size) := (by
                  have hr := HTab.out.rows q hq
                  obtain ⟨ra, rc, hv⟩ := own_shape hr
                  refine ⟨ra, rc, fun w' hf => ?_⟩
                  have hB := HBtl.out
                  have h' := HTab.out.frx hf ⟨by omega, by omega, by omega, .inr hBE⟩ (fun p' k hp' e => by
                    have h1 := ((HTab.out.rows p' hp').lt k e).1
                    exact ⟨by omega, by omega, by omega, .inr (by omega)⟩)
                  have h1 := h'.cell q hq
                  have h2 := h'.rows q hq
                  rw [hv] at h1 h2
                  rw [Hrow.out] at h1 h2
                  exact ⟨h1, h2, by have := h'.lt; have := h'.sz; omega⟩ : ∃ ra rc, ∀ w', Frx (fun y => y ≠ Bt ∧ y ≠ Bc ∧ y ≠ Bd ∧ (y < Bd + 1 ∨ s0 ≤ y)) wA w' → w'.cell? ⟨BE, q, none⟩ = some (.slice ra row.length rc) ∧ w'.ownsRow lo2 2 1 (.slice ra row.length rc) row.length (intsN row) ∧ BE < w'.heap.size)
                obtain ⟨ra, rc, hTb⟩ := HTb.out
                obtain ⟨rm, Hrm⟩ : ∃ n, Hid (row.length = n) := ⟨_, (rfl : row.length = _)⟩
                rw [Hrm.out] at hTb hrm HMI HNx
                have HTr : Hid (∀ w', Frx (fun y => y ≠ Bt ∧ y ≠ Bc ∧ y ≠ Bd ∧ (y < Bd + 1 ∨ s0 ≤ y)) wA w' → w'.cell? ⟨BE, q, none⟩ = some (.slice ra rm rc) ∧ w'.ownsRow lo2 2 1 (.slice ra rm rc) rm (intsN row) ∧ BE < w'.heap.size) := hTb
                have HGr : Hid (∀ w', Frx (fun y => y ≠ Bt ∧ y ≠ Bc ∧ y ≠ Bd ∧ (y < Bd + 1 ∨ s0 ≤ y)) wA w' → Bel w w' ∧ Blk w' nw [.slice a0 n0 c0, .slice a1 n1 c1, .slice a2 n2 c2] ∧ Blk w' Br [.slice (some ⟨Bt, 0, none⟩) n1 n1, .slice (some ⟨Bc, 0, none⟩) n1 n1]) := (fun w' hf => by
                  exact ⟨HBA.out.out.trans (hf.below (fun y hy => by rw [Hnw.out] at hy; exact ⟨by omega, by omega, by omega, .inl (by omega)⟩) HBA.out.out.size), hf.blk HXGA.out ⟨by omega, by omega, by omega, .inl (by omega)⟩, hf.blk HXRA.out ⟨Hd.out.1, Hd.out.2, by omega, .inl (by omega)⟩⟩ : ∀ w', Frx (fun y => y ≠ Bt ∧ y ≠ Bc ∧ y ≠ Bd ∧ (y < Bd + 1 ∨ s0 ≤ y)) wA w' → Bel w w' ∧ Blk w' nw [.slice a0 n0 c0, .slice a1 n1 c1, .slice a2 n2 c2] ∧ Blk w' Br [.slice (some ⟨Bt, 0, none⟩) n1 n1, .slice (some ⟨Bc, 0, none⟩) n1 n1])
                obtain ⟨hB2, hXG2, hXR2⟩ := HGr.out W2 HM2.out.fr
                obtain ⟨b, off, f, ea, hb, hx⟩ := (HT1.out.bel roadE hB2).out hxg
                obtain ⟨_, _, _, _, _, _, _, y0, _⟩ := hx x hxg
                rw [← rdAt_eq hxg, hqe] at y0
                have e1' : W2.cell? ⟨nw, 1, none⟩ = some (.slice a1 n1 c1) := hXG2.cell 1 (by simp)
                rw [ea] at e1'
                clear ea
                have e2' := hXG2.lt
                obtain ⟨e3', _, e4'⟩ := HTr.out W2 HM2.out.fr
                have hkI : (kk : Int) < (mm : Int) + 1 := by omega
                have hmI : (mm : Int) < (mm : Int) + 1 := by omega
                have hxI : (x : Int) < (n1 : Int) := by omega
                have hqI : (q : Int) < (n0 : Int) := by omega
                have hcapI : (mm : Int) ≤ (vc : Int) := by omega
                have hw8 : IntKind.i64.wrap ((mm : Int) + 1 - 1) = (mm : Int) := by rw [IntKind.wrap_i64]; omega
                have hw9 : IntKind.i64.wrap (mm : Int) = (mm : Int) := by rw [IntKind.wrap_i64]; omega
                clear hM1 hM2 hMl k4 hx hTb HTb hB2 hXG2 hXR2 HM Hop Hon hlt hjm hkj
                go_upto_region 26 with fail
                rw [← HW1.out]
                clear k1 k2 k3
                go_upto_region 27 with fail
                rw [← HW2.out]
                clear d0 d1' d2'
                go_wp2
                clear e1' e2' e3' e4' y0 HW1 HW2 HBl HL hjd hjd2 hjd3 hkI hmI hqI hcapI hw8 hw9
                go_loopw [8, 17, 18, 19, 20] (fun vo iv _ _ _ wr => ∃ (j : Nat) (va : Option Addr) (m vc : Nat), j ≤ rm ∧ vo = .slice va m vc ∧ iv = .int .i64 j ∧ Hid (MbW (Bd + 1) s0 Bt Bc Bd wA n1 (x :: D) (mS (mkS n1 true) g x zz (x :: D) ⟨s.dl, popL s.op kk⟩ row j) va m vc wr)) (fun _ iv _ _ _ _ => rm - (intOf iv).toNat)
                case atStart => exact ⟨0, _, _, _, Nat.zero_le _, rfl, rfl, HM2⟩
                case round =>
                  clear HM2
                  obtain ⟨j, va, m, vc, hj, rfl, rfl, HMj⟩ := hrel
                  by_cases hlt : j < rm
                  · have hjr : j < row.length := by rw [Hrm.out]; exact hlt
                    obtain ⟨hBj, hXGj, hXRj⟩ := HGr.out wr HMj.out.fr
                    obtain ⟨_, r2, _⟩ := HTr.out wr HMj.out.fr
                    obtain ⟨gr, gcc, ev, _, hgr⟩ := own_in r2 (by omega)
                    simp only [Value.slice.injEq, true_and] at ev
                    obtain ⟨rfl, hev⟩ := ev
                    clear hev
                    have c1' : wr.cell? ⟨gr, j, none⟩ = some (.int .i64 (row[j] : Int)) := op_at r2 hjr Hrm.out
                    have hyn : row[j] < n1 := HRn.out _ (List.getElem_mem hjr)
                    have HSc : Hid (mS (mkS n1 true) g x zz (x :: D) ⟨s.dl, popL s.op kk⟩ row (j + 1) = mRel (mkS n1 true) g x zz (x :: D) (mS (mkS n1 true) g x zz (x :: D) ⟨s.dl, popL s.op kk⟩ row j) row[j]) := mS_succ _ _ _ _ _ _ _ hjr
                    obtain ⟨y, Hy⟩ : ∃ y, Hid (row[j] = y) := ⟨_, (rfl : row[j] = _)⟩
                    rw [Hy.out] at c1' hyn HSc
                    have hmi := HMI.out j hj
                    obtain ⟨cur, Hcur⟩ : ∃ c, Hid (mS (mkS n1 true) g x zz (x :: D) ⟨s.dl, popL s.op kk⟩ row j = c) := ⟨_, (rfl : mS (mkS n1 true) g x zz (x :: D) ⟨s.dl, popL s.op kk⟩ row j = _)⟩
                    rw [Hcur.out] at hmi HMj HSc
                    have hcl : cur.dl.length = n1 := hmi.len
                    have HcX : Hid (cAt cur.dl x = zz) := (by have h := hmi.old x (List.mem_cons.2 (.inl rfl)); simp only at h; rw [h, Hzz.out] : cAt cur.dl x = zz)
                    have Hcl : Hid (cur.dl.length = n1) := hcl
                    have Hol : Hid (cur.op.length ≤ s.op.length + j) := (by have h := hmi.ol; simp only [popL_len] at h; omega : cur.op.length ≤ s.op.length + j)
                    have v0 : wr.cell? ⟨nw, 0, none⟩ = some (.slice a0 n0 c0) := hXGj.cell 0 (by simp)
                    have v1 : wr.cell? ⟨nw, 1, none⟩ = some (.slice a1 n1 c1) := hXGj.cell 1 (by simp)
                    have v2 : wr.cell? ⟨nw, 2, none⟩ = some (.slice a2 n2 c2) := hXGj.cell 2 (by simp)
                    have vl := hXGj.lt
                    obtain ⟨tn, Htn⟩ : ∃ t, Hid (tnB g y x = t) := ⟨_, (rfl : tnB g y x = _)⟩
                    have cT := specTurn_any a0 n0 c0 a1 n1 c1 a2 n2 c2 g b0 b1 b2 y x wr (HT0.out.bel spotE hBj) (HT1.out.bel roadE hBj) (HT2.out.bel banE hBj) H0.out H1.out H2.out HP.out hyn hxn
                    rw [Htn.out] at cT
                    have HcT : Hid (Calls Tryd.prog 42 #[gphV a0 n0 c0 a1 n1 c1 a2 n2 c2, .int .i64 (y : Int), .int .i64 (x : Int)] wr fun e w' => e = .returned (.int .i64 tn) ∧ Bel wr w') := cT
                    have hjI : (j : Int) < (rm : Int) := by omega
                    have hyI : (y : Int) < (n1 : Int) := by omega
                    have hxI : (x : Int) < (n1 : Int) := by omega
                    have hmm : m ≤ 16000 := by have h1 := HMj.out.ol; have h2 := Hol.out; have h3 := HJ.out.ol; have h4 : (mkS n1 true).n1 = n1 := rfl; rw [h4] at h3; omega
                    clear hBj hXGj hXRj r2 hmi hcl cT
                    go_wp2_with fail
                    with_reducible refine HcT.out.mono ?_
                    rintro e wk ⟨rfl, hbk⟩
                    have HMk : Hid (MbW (Bd + 1) s0 Bt Bc Bd wA n1 (x :: D) cur va m vc wk) := HMj.out.bel hbk
                    have dd : wk.cell? ⟨Bd, y, none⟩ = some (.bool (decide (y ∈ x :: D))) := dn_at HMk.out.dn hyn
                    have dl := HMk.out.dn.lt
                    clear hbk c1' v0 v1 v2 vl HcT hgr
                    by_cases hyD : y ∈ x :: D
                    · as_aux_lemma =>
                      have HE : Hid (MbW (Bd + 1) s0 Bt Bc Bd wA n1 (x :: D) (mS (mkS n1 true) g x zz (x :: D) ⟨s.dl, popL s.op kk⟩ row (j + 1)) va m vc wk) := (by rw [HSc.out.trans (mRel_done hyD)]; exact HMk.out : MbW (Bd + 1) s0 Bt Bc Bd wA n1 (x :: D) (mS (mkS n1 true) g x zz (x :: D) ⟨s.dl, popL s.op kk⟩ row (j + 1)) va m vc wk)
                      rw [show decide (y ∈ x :: D) = true from decide_eq_true hyD] at dd
                      clear hyD
                      go_wp2
                      go_roundw
                      case rel => exact ⟨j + 1, _, _, _, by omega, rfl, by go_num, HE⟩
                      case measure => simp [intOf]; omega
                    · have HyD : Hid (y ∉ x :: D) := hyD
                      have hyx : y ≠ x := fun e => hyD (List.mem_cons.2 (.inl e))
                      rw [show decide (y ∈ x :: D) = false from decide_eq_false hyD] at dd
                      clear hyD
                      rcases Bool.eq_false_or_eq_true (bP (inL g.bans (y : Int) (x : Int))) with hin | hin
                      · as_aux_lemma =>
                        have HE : Hid (MbW (Bd + 1) s0 Bt Bc Bd wA n1 (x :: D) (mS (mkS n1 true) g x zz (x :: D) ⟨s.dl, popL s.op kk⟩ row (j + 1)) va m vc wk) := (by rw [HSc.out.trans (mRel_ban (show bnd (mkS n1 true) g x y = true from hin))]; exact HMk.out : MbW (Bd + 1) s0 Bt Bc Bd wA n1 (x :: D) (mS (mkS n1 true) g x zz (x :: D) ⟨s.dl, popL s.op kk⟩ row (j + 1)) va m vc wk)
                        have htn : tn = -1 := by rw [← Htn.out]; exact tnB_ban hin
                        have hd0 : decide (tn < 0) = true := by rw [htn]; decide
                        clear hin htn
                        go_wp2
                        go_roundw
                        case rel => exact ⟨j + 1, _, _, _, by omega, rfl, by go_num, HE⟩
                        case measure => simp [intOf]; omega
                      · have htn : tn = tnC g y x := by rw [← Htn.out]; exact tnB_ok hin
                        have htb := tnC_bd g y x
                        rw [← htn] at htb
                        have hd0 : decide (tn < 0) = false := by simp; omega
                        have hyg : y < g.roads.length := by rw [H1.out]; exact hyn
                        have hti := rd_time HP.out H1.out hyn
                        obtain ⟨T, HT⟩ : ∃ t, Hid ((rdAt g y).time = t) := ⟨_, (rfl : (rdAt g y).time = _)⟩
                        rw [HT.out] at hti
                        obtain ⟨ct, Hct⟩ : ∃ t, Hid (T + tn + zz.t = t) := ⟨_, (rfl : T + tn + zz.t = _)⟩
                        have hw1 : IntKind.i64.wrap (T + tn) = T + tn := by rw [IntKind.wrap_i64]; omega
                        have hw2 : IntKind.i64.wrap (T + tn + zz.t) = ct := by rw [IntKind.wrap_i64, ← Hct.out]; omega
                        have hw3 : IntKind.i64.wrap (zz.c + 1) = zz.c + 1 := by rw [IntKind.wrap_i64]; omega
                        have HCC : Hid (zz.plus (stpC (mkS n1 true).back g x y) = ⟨ct, zz.c + 1⟩) := (Cst.ext' (by show zz.t + (tnC g y x + (rdAt g y).time) = ct; rw [HT.out, ← htn, ← Hct.out]; omega) rfl : zz.plus (stpC (mkS n1 true).back g x y) = ⟨ct, zz.c + 1⟩)
                        have HNB : Hid (bnd (mkS n1 true) g x y = false) := (show bnd (mkS n1 true) g x y = false from hin)
                        obtain ⟨e, He⟩ : ∃ c, Hid (cAt cur.dl y = c) := ⟨_, (rfl : cAt cur.dl y = _)⟩
                        have hyl : y < cur.dl.length := by rw [Hcl.out]; exact hyn
                        have hxl : x < cur.dl.length := by rw [Hcl.out]; exact hxn
                        have hS : ∀ w', Bel wk w' → w'.cell? ⟨nw, 1, none⟩ = some (.slice a1 n1 c1) ∧ (∀ b off, a1 = some ⟨b, off, none⟩ → w'.cell? ⟨b, off + y * 6 + 3, none⟩ = some (.int .i64 T)) ∧ w'.cell? ⟨Br, 0, none⟩ = some (.slice (some ⟨Bt, 0, none⟩) n1 n1) ∧ w'.cell? ⟨Br, 1, none⟩ = some (.slice (some ⟨Bc, 0, none⟩) n1 n1) ∧ w'.cell? ⟨Bt, x, none⟩ = some (.int .i64 zz.t) ∧ w'.cell? ⟨Bt, y, none⟩ = some (.int .i64 e.t) ∧ w'.cell? ⟨Bc, x, none⟩ = some (.int .i64 zz.c) ∧ w'.cell? ⟨Bc, y, none⟩ = some (.int .i64 e.c) := fun w' h => by
                          have hM' := HMk.out.bel h
                          obtain ⟨hB', hXG', hXR'⟩ := HGr.out w' hM'.fr
                          have i1 := tm_at hM'.tm hxl
                          have i2 := tm_at hM'.tm hyl
                          have i3 := ct_at hM'.ct hxl
                          have i4 := ct_at hM'.ct hyl
                          rw [HcX.out] at i1 i3
                          rw [He.out] at i2 i4
                          refine ⟨hXG'.cell 1 (by simp), fun b off ea => ?_, hXR'.cell 0 (by simp), hXR'.cell 1 (by simp), i1, i2, i3, i4⟩
                          obtain ⟨b', off', f', e', _, hx'⟩ := (HT1.out.bel roadE hB').out hyg
                          rw [ea] at e'
                          injection e' with e'
                          injection e' with e1' e2'
                          subst e1' e2'
                          obtain ⟨_, _, _, _, _, _, _, _, _, _, y3, _⟩ := hx' y hyg
                          rw [← rdAt_eq hyg, HT.out] at y3
                          exact y3
                        obtain ⟨rb, roff, rf, rea, _, _⟩ := HT1.out.out hyg
                        have hS3 : ∀ w', Bel wk w' → w'.cell? ⟨nw, 1, none⟩ = some (.slice (some ⟨rb, roff, none⟩) n1 c1) ∧ w'.cell? ⟨rb, roff + y * 6 + 3, none⟩ = some (.int .i64 T) ∧ w'.cell? ⟨Br, 0, none⟩ = some (.slice (some ⟨Bt, 0, none⟩) n1 n1) ∧ w'.cell? ⟨Bt, x, none⟩ = some (.int .i64 zz.t) := fun w' h => by
                          obtain ⟨s1, s2, s3, s4, s5, _⟩ := hS w' h
                          rw [rea] at s1
                          exact ⟨s1, s2 rb roff rea, s3, s5⟩
                        have hS7 : ∀ w', Bel wk w' → w'.cell? ⟨Br, 0, none⟩ = some (.slice (some ⟨Bt, 0, none⟩) n1 n1) ∧ w'.cell? ⟨Br, 1, none⟩ = some (.slice (some ⟨Bc, 0, none⟩) n1 n1) ∧ w'.cell? ⟨Bt, y, none⟩ = some (.int .i64 e.t) ∧ w'.cell? ⟨Bc, x, none⟩ = some (.int .i64 zz.c) ∧ w'.cell? ⟨Bc, y, none⟩ = some (.int .i64 e.c) := fun w' h => by
                          obtain ⟨_, _, s3, s4, _, s6, s7, s8⟩ := hS w' h
                          exact ⟨s3, s4, s6, s7, s8⟩
                        have HS7 : Hid (∀ w', Bel wk w' → w'.cell? ⟨Br, 0, none⟩ = some (.slice (some ⟨Bt, 0, none⟩) n1 n1) ∧ w'.cell? ⟨Br, 1, none⟩ = some (.slice (some ⟨Bc, 0, none⟩) n1 n1) ∧ w'.cell? ⟨Bt, y, none⟩ = some (.int .i64 e.t) ∧ w'.cell? ⟨Bc, x, none⟩ = some (.int .i64 zz.c) ∧ w'.cell? ⟨Bc, y, none⟩ = some (.int .i64 e.c)) := hS7
                        have g0 : Bel wk wk := Bel.refl _
                        clear hS hS7 hin htn hti htb rea
                        go_upto_region 34 with fail
                        clear dd dl
                        refine wp_region_noPanic ?_
                        refine wp_region_held_drew (S := fun w' => Bel wk w') (by kernel_rfl) (Bel.drew g0) (fun hHeld => ?_)
                        refine tk 0 hHeld ?_; refine tk 1 hHeld ?_; refine tk 2 hHeld ?_; refine tk 3 hHeld ?_; refine tk 4 hHeld ?_; refine tk 5 hHeld ?_
                        refine tk 6 hHeld ?_; refine tk 7 hHeld ?_; refine tk 8 hHeld ?_; refine tk 9 hHeld ?_; refine tk 10 hHeld ?_; refine tk 11 hHeld ?_
                        refine tk 12 hHeld ?_; refine tk 13 hHeld ?_; refine tk 14 hHeld ?_
                        refine wpAnyH_done (by kernel_rfl) ?_ _
                        refine NoPanic.normal ?_
                        as_aux_lemma =>
                        have HBq : Hid (Bel wk wk.drew) := hHeld
                        clear hHeld hS3 g0 hw1 hw2
                        generalize wk.drew = wq at HBq ⊢
                        have HMq : Hid (MbW (Bd + 1) s0 Bt Bc Bd wA n1 (x :: D) cur va m vc wq) := HMk.out.bel HBq.out
                        have HS7q : Hid (∀ w', Bel wq w' → w'.cell? ⟨Br, 0, none⟩ = some (.slice (some ⟨Bt, 0, none⟩) n1 n1) ∧ w'.cell? ⟨Br, 1, none⟩ = some (.slice (some ⟨Bc, 0, none⟩) n1 n1) ∧ w'.cell? ⟨Bt, y, none⟩ = some (.int .i64 e.t) ∧ w'.cell? ⟨Bc, x, none⟩ = some (.int .i64 zz.c) ∧ w'.cell? ⟨Bc, y, none⟩ = some (.int .i64 e.c)) := fun w' h => HS7.out w' (bel_step HBq.out h)
                        obtain ⟨f1, _, f3, _, _⟩ := HS7q.out wq (Bel.refl _)
                        have fl := ((HGr.out wq HMq.out.fr).2.2).lt
                        have flt := HMq.out.tm.lt
                        by_cases hneg : e.t < 0
                        · as_aux_lemma =>
                          have hdn : decide (e.t < 0) = true := by simp [hneg]
                          have HRel : Hid (mS (mkS n1 true) g x zz (x :: D) ⟨s.dl, popL s.op kk⟩ row (j + 1) = ⟨cur.dl.set y ⟨ct, zz.c + 1⟩, cur.op ++ [y]⟩) := HSc.out.trans (mRel_new HyD.out HNB.out (by rw [He.out]; exact hneg) HCC.out)
                          have hownA : (wq.alloc (.cells #[.int .i64 (y : Int)] 2)).ownsRow (Bd + 1) 2 1 (.slice va m vc) m (intsN cur.op) := World.ownsRow.alloc HMq.out.op _
                          have HN : Hid (∀ j u, [Value.int .i64 (y : Int)][j]? = some u → (wq.alloc (.cells #[.int .i64 (y : Int)] 2)).cell? (Addr.add ⟨wq.heap.size, 0, none⟩ j) = some u) := World.news_of_block (cs := #[.int .i64 (y : Int)]) (heap_alloc_new wq _)
                          have hlos : Bd + 1 ≤ wq.heap.size := by have := HMq.out.fr.size; have := HMPA.out.s; have := HMPA.out.z; omega
                          clear hneg
                          go_wp2_with (first
                            | (at_builtin; refine wpList_append_lies _ rfl _ _ 28 rfl (Bd + 1) 2 i0 (.int .i64 0) 1 8 Tryd.underlying28 hi0 hz0 hz1 hz2 rfl (by decide) _ _ _ rfl hownA ⟨wq.heap.size, 0, none⟩ 1 1 [.int .i64 (y : Int)] rfl rfl HN.out (by simp [Value.oneCell']) (by decide) (by unfold maxLen; omega) (by omega) (by simp; omega) (wq.heap.size + 1) (by simp) ?_)
                            | go_in)
                          intro g2 cap2 wm hown2 hgrow hat _
                          have HMm : Hid (MbW (Bd + 1) s0 Bt Bc Bd wA n1 (x :: D) ⟨cur.dl, cur.op ++ [y]⟩ (some ⟨g2, 0, none⟩) (m + 1) cap2 wm) := HMq.out.push HMPA.out (bel_alloc (Bel.refl wq) _) hown2 hgrow (by simpa using hat)
                          clear hown2 hgrow hat hownA f1 f3 fl flt
                          have u0 := tm_at HMm.out.tm (x := y) hyl
                          have u1 := HMm.out.tm.free y
                          have u2 := HMm.out.tm.lt
                          have hXRm := (HGr.out wm HMm.out.fr).2.2
                          have p0 : wm.cell? ⟨Br, 0, none⟩ = some (.slice (some ⟨Bt, 0, none⟩) n1 n1) := hXRm.cell 0 (by simp)
                          have p1 := hXRm.lt
                          have hM5 := HMm.out.time HMPA.out y ct hyl
                          obtain ⟨W5, HW5⟩ : ∃ X, Hid (X = wm.setCell ⟨Bt, y, none⟩ (.int .i64 ct)) := ⟨_, (rfl : wm.setCell ⟨Bt, y, none⟩ (.int .i64 ct) = _)⟩
                          rw [← HW5.out] at hM5
                          have hXR5 := (HGr.out W5 hM5.fr).2.2
                          have p2 : W5.cell? ⟨Br, 1, none⟩ = some (.slice (some ⟨Bc, 0, none⟩) n1 n1) := hXR5.cell 1 (by simp)
                          have p3 := hXR5.lt
                          have w0' := ct_at hM5.ct (x := x) (by simpa using hxl)
                          have w1' := ct_at hM5.ct (x := y) (by simpa using hyl)
                          simp only [cAt_set_ne hyx, HcX.out] at w0'
                          have w2' := hM5.ct.free y
                          have w3' := hM5.ct.lt
                          have hM6 := hM5.numb HMPA.out y (zz.c + 1) (by simpa using hyl)
                          simp only [List.set_set, cAt_set_self hyl] at hM6
                          have HM6 := Hid_mk (hM6.bel (Bel.refl _).drew)
                          simp only [← HRel.out] at HM6
                          clear hM5 hM6 hXRm hXR5
                          go_upto_region 39 with fail
                          rw [← HW5.out]
                          clear u0 u1 u2 p0 p1 HW5
                          go_big_region
                          go_wp2
                          go_roundw
                          case rel => exact ⟨j + 1, _, _, _, by omega, rfl, by go_num, HM6⟩
                          case measure => simp [intOf]; omega
                        · have hdn : decide (e.t < 0) = false := by simp [hneg]
                          have hS7 : ∀ w', Bel wq w' → w'.cell? ⟨Br, 0, none⟩ = some (.slice (some ⟨Bt, 0, none⟩) n1 n1) ∧ w'.cell? ⟨Br, 1, none⟩ = some (.slice (some ⟨Bc, 0, none⟩) n1 n1) ∧ w'.cell? ⟨Bt, y, none⟩ = some (.int .i64 e.t) ∧ w'.cell? ⟨Bc, x, none⟩ = some (.int .i64 zz.c) ∧ w'.cell? ⟨Bc, y, none⟩ = some (.int .i64 e.c) := HS7q.out
                          have g0 : Bel wq wq := Bel.refl _
                          have HNeg : Hid (¬ (cAt cur.dl y).t < 0) := (by rw [He.out]; exact hneg : ¬ (cAt cur.dl y).t < 0)
                          have HNo : Hid (cLtB ⟨ct, zz.c + 1⟩ e = false → mS (mkS n1 true) g x zz (x :: D) ⟨s.dl, popL s.op kk⟩ row (j + 1) = cur) := fun h => HSc.out.trans (mRel_same HyD.out HNB.out HNeg.out HCC.out (by rw [He.out]; exact h))
                          have HYes : Hid (cLtB ⟨ct, zz.c + 1⟩ e = true → mS (mkS n1 true) g x zz (x :: D) ⟨s.dl, popL s.op kk⟩ row (j + 1) = ⟨cur.dl.set y ⟨ct, zz.c + 1⟩, cur.op⟩) := fun h => HSc.out.trans (mRel_less HyD.out HNB.out HNeg.out HCC.out (by rw [He.out]; exact h))
                          clear hneg
                          by_cases hg1 : e.t < ct
                          · as_aux_lemma =>
                            have hdg : decide (e.t < ct) = true := by simp [hg1]
                            have HE : Hid (mS (mkS n1 true) g x zz (x :: D) ⟨s.dl, popL s.op kk⟩ row (j + 1) = cur) := HNo.out (by simp [cLtB]; omega)
                            clear hg1
                            go_upto_region 37 with fail
                            clear f1 f3 fl flt
                            refine wp_region_noPanic ?_
                            refine wp_region_held_drew (S := fun w' => Bel wq w') (by kernel_rfl) (Bel.drew g0) (fun hHeld => ?_)
                            refine tk 0 hHeld ?_; refine tk 1 hHeld ?_; refine tk 2 hHeld ?_; refine tk 3 hHeld ?_; refine tk 4 hHeld ?_; refine tk 5 hHeld ?_
                            refine tk 6 hHeld ?_; refine tk 7 hHeld ?_; refine sk 8 hHeld ?_; refine sk 9 hHeld ?_; refine sk 10 hHeld ?_; refine sk 11 hHeld ?_
                            refine sk 12 hHeld ?_; refine sk 13 hHeld ?_; refine sk 14 hHeld ?_; refine sk 15 hHeld ?_; refine sk 16 hHeld ?_
                            refine sk 17 hHeld ?_; refine sk 18 hHeld ?_; refine sk 19 hHeld ?_; refine sk 20 hHeld ?_; refine sk 21 hHeld ?_
                            refine sk 22 hHeld ?_; refine sk 23 hHeld ?_; refine sk 24 hHeld ?_; refine sk 25 hHeld ?_; refine sk 26 hHeld ?_
                            refine sk 27 hHeld ?_; refine sk 28 hHeld ?_; refine tk 29 hHeld ?_
                            refine wpAnyH_done (by kernel_rfl) ?_ _
                            refine NoPanic.normal ?_
                            have HMe : Hid (MbW (Bd + 1) s0 Bt Bc Bd wA n1 (x :: D) (mS (mkS n1 true) g x zz (x :: D) ⟨s.dl, popL s.op kk⟩ row (j + 1)) va m vc wq.drew) := (by rw [HE.out]; exact HMq.out.bel hHeld : MbW (Bd + 1) s0 Bt Bc Bd wA n1 (x :: D) (mS (mkS n1 true) g x zz (x :: D) ⟨s.dl, popL s.op kk⟩ row (j + 1)) va m vc wq.drew)
                            clear hHeld hS7 g0
                            go_wp2
                            go_roundw
                            case rel => exact ⟨j + 1, _, _, _, by omega, rfl, by go_num, HMe⟩
                            case measure => simp [intOf]; omega
                          · have hdg : decide (e.t < ct) = false := by simp [hg1]
                            by_cases hg2 : ct = e.t
                            · have hde : (ct == e.t) = true := by simp [hg2]
                              by_cases hg3 : e.c ≤ zz.c + 1
                              · as_aux_lemma =>
                                have hdc : decide (e.c ≤ zz.c + 1) = true := by simp [hg3]
                                have HE : Hid (mS (mkS n1 true) g x zz (x :: D) ⟨s.dl, popL s.op kk⟩ row (j + 1) = cur) := HNo.out (by simp [cLtB]; omega)
                                clear hg1 hg2 hg3
                                go_upto_region 37 with fail
                                clear f1 f3 fl flt
                                refine wp_region_noPanic ?_
                                refine wp_region_held_drew (S := fun w' => Bel wq w') (by kernel_rfl) (Bel.drew g0) (fun hHeld => ?_)
                                refine tk 0 hHeld ?_; refine tk 1 hHeld ?_; refine tk 2 hHeld ?_; refine tk 3 hHeld ?_; refine tk 4 hHeld ?_; refine tk 5 hHeld ?_
                                refine tk 6 hHeld ?_; refine tk 7 hHeld ?_; refine tk 8 hHeld ?_; refine tk 9 hHeld ?_; refine tk 10 hHeld ?_; refine tk 11 hHeld ?_
                                refine tk 12 hHeld ?_; refine tk 13 hHeld ?_; refine tk 14 hHeld ?_; refine tk 15 hHeld ?_; refine tk 16 hHeld ?_
                                refine tk 17 hHeld ?_; refine tk 18 hHeld ?_; refine tk 19 hHeld ?_; refine tk 20 hHeld ?_; refine tk 21 hHeld ?_
                                refine tk 22 hHeld ?_; refine tk 23 hHeld ?_; refine tk 24 hHeld ?_; refine tk 25 hHeld ?_; refine tk 26 hHeld ?_
                                refine tk 27 hHeld ?_; refine tk 28 hHeld ?_; refine tk 29 hHeld ?_
                                refine wpAnyH_done (by kernel_rfl) ?_ _
                                refine NoPanic.normal ?_
                                have HMe : Hid (MbW (Bd + 1) s0 Bt Bc Bd wA n1 (x :: D) (mS (mkS n1 true) g x zz (x :: D) ⟨s.dl, popL s.op kk⟩ row (j + 1)) va m vc wq.drew) := (by rw [HE.out]; exact HMq.out.bel hHeld : MbW (Bd + 1) s0 Bt Bc Bd wA n1 (x :: D) (mS (mkS n1 true) g x zz (x :: D) ⟨s.dl, popL s.op kk⟩ row (j + 1)) va m vc wq.drew)
                                clear hHeld hS7 g0
                                go_wp2
                                go_roundw
                                case rel => exact ⟨j + 1, _, _, _, by omega, rfl, by go_num, HMe⟩
                                case measure => simp [intOf]; omega
                              · as_aux_lemma =>
                                have hdc : decide (e.c ≤ zz.c + 1) = false := by simp [hg3]
                                have HRel : Hid (mS (mkS n1 true) g x zz (x :: D) ⟨s.dl, popL s.op kk⟩ row (j + 1) = ⟨cur.dl.set y ⟨ct, zz.c + 1⟩, cur.op⟩) := HYes.out (by simp [cLtB]; omega)
                                clear hg1 hg2 hg3
                                go_upto_region 37 with fail
                                clear f1 f3 fl flt
                                refine wp_region_noPanic ?_
                                refine wp_region_held_drew (S := fun w' => Bel wq w') (by kernel_rfl) (Bel.drew g0) (fun hHeld => ?_)
                                refine tk 0 hHeld ?_; refine tk 1 hHeld ?_; refine tk 2 hHeld ?_; refine tk 3 hHeld ?_; refine tk 4 hHeld ?_; refine tk 5 hHeld ?_
                                refine tk 6 hHeld ?_; refine tk 7 hHeld ?_; refine tk 8 hHeld ?_; refine tk 9 hHeld ?_; refine tk 10 hHeld ?_; refine tk 11 hHeld ?_
                                refine tk 12 hHeld ?_; refine tk 13 hHeld ?_; refine tk 14 hHeld ?_; refine tk 15 hHeld ?_; refine tk 16 hHeld ?_
                                refine tk 17 hHeld ?_; refine tk 18 hHeld ?_; refine tk 19 hHeld ?_; refine tk 20 hHeld ?_; refine tk 21 hHeld ?_
                                refine tk 22 hHeld ?_; refine tk 23 hHeld ?_; refine tk 24 hHeld ?_; refine tk 25 hHeld ?_; refine tk 26 hHeld ?_
                                refine tk 27 hHeld ?_; refine tk 28 hHeld ?_; refine tk 29 hHeld ?_
                                refine wpAnyH_done (by kernel_rfl) ?_ _
                                refine NoPanic.normal ?_
                                have HMm : Hid (MbW (Bd + 1) s0 Bt Bc Bd wA n1 (x :: D) ⟨cur.dl, cur.op⟩ va m vc wq.drew) := HMq.out.bel hHeld
                                clear hHeld hS7 g0 HMq
                                generalize wq.drew = wm at HMm ⊢
                                have u0 := tm_at HMm.out.tm (x := y) hyl
                                have u1 := HMm.out.tm.free y
                                have u2 := HMm.out.tm.lt
                                have hXRm := (HGr.out wm HMm.out.fr).2.2
                                have p0 : wm.cell? ⟨Br, 0, none⟩ = some (.slice (some ⟨Bt, 0, none⟩) n1 n1) := hXRm.cell 0 (by simp)
                                have p1 := hXRm.lt
                                have hM5 := HMm.out.time HMPA.out y ct hyl
                                obtain ⟨W5, HW5⟩ : ∃ X, Hid (X = wm.setCell ⟨Bt, y, none⟩ (.int .i64 ct)) := ⟨_, (rfl : wm.setCell ⟨Bt, y, none⟩ (.int .i64 ct) = _)⟩
                                rw [← HW5.out] at hM5
                                have hXR5 := (HGr.out W5 hM5.fr).2.2
                                have p2 : W5.cell? ⟨Br, 1, none⟩ = some (.slice (some ⟨Bc, 0, none⟩) n1 n1) := hXR5.cell 1 (by simp)
                                have p3 := hXR5.lt
                                have w0' := ct_at hM5.ct (x := x) (by simpa using hxl)
                                have w1' := ct_at hM5.ct (x := y) (by simpa using hyl)
                                simp only [cAt_set_ne hyx, HcX.out] at w0'
                                have w2' := hM5.ct.free y
                                have w3' := hM5.ct.lt
                                have hM6 := hM5.numb HMPA.out y (zz.c + 1) (by simpa using hyl)
                                simp only [List.set_set, cAt_set_self hyl] at hM6
                                have HM6 := Hid_mk (hM6.bel (Bel.refl _).drew)
                                simp only [← HRel.out] at HM6
                                clear hM5 hM6 hXRm hXR5
                                go_upto_region 39 with fail
                                rw [← HW5.out]
                                clear u0 u1 u2 p0 p1 HW5
                                go_big_region
                                go_wp2
                                go_roundw
                                case rel => exact ⟨j + 1, _, _, _, by omega, rfl, by go_num, HM6⟩
                                case measure => simp [intOf]; omega
                            · as_aux_lemma =>
                              have hde : (ct == e.t) = false := by simp [hg2]
                              have HRel : Hid (mS (mkS n1 true) g x zz (x :: D) ⟨s.dl, popL s.op kk⟩ row (j + 1) = ⟨cur.dl.set y ⟨ct, zz.c + 1⟩, cur.op⟩) := HYes.out (by simp [cLtB]; omega)
                              clear hg1 hg2
                              go_upto_region 37 with fail
                              clear f1 f3 fl flt
                              refine wp_region_noPanic ?_
                              refine wp_region_held_drew (S := fun w' => Bel wq w') (by kernel_rfl) (Bel.drew g0) (fun hHeld => ?_)
                              refine tk 0 hHeld ?_; refine tk 1 hHeld ?_; refine tk 2 hHeld ?_; refine tk 3 hHeld ?_; refine tk 4 hHeld ?_; refine tk 5 hHeld ?_
                              refine tk 6 hHeld ?_; refine tk 7 hHeld ?_; refine tk 8 hHeld ?_; refine tk 9 hHeld ?_; refine tk 10 hHeld ?_; refine tk 11 hHeld ?_
                              refine tk 12 hHeld ?_; refine tk 13 hHeld ?_; refine tk 14 hHeld ?_; refine tk 15 hHeld ?_; refine sk 16 hHeld ?_
                              refine sk 17 hHeld ?_; refine sk 18 hHeld ?_; refine sk 19 hHeld ?_; refine sk 20 hHeld ?_; refine sk 21 hHeld ?_
                              refine sk 22 hHeld ?_; refine sk 23 hHeld ?_; refine sk 24 hHeld ?_; refine sk 25 hHeld ?_; refine sk 26 hHeld ?_
                              refine sk 27 hHeld ?_; refine tk 28 hHeld ?_; refine tk 29 hHeld ?_
                              refine wpAnyH_done (by kernel_rfl) ?_ _
                              refine NoPanic.normal ?_
                              have HMm : Hid (MbW (Bd + 1) s0 Bt Bc Bd wA n1 (x :: D) ⟨cur.dl, cur.op⟩ va m vc wq.drew) := HMq.out.bel hHeld
                              clear hHeld hS7 g0 HMq
                              generalize wq.drew = wm at HMm ⊢
                              have u0 := tm_at HMm.out.tm (x := y) hyl
                              have u1 := HMm.out.tm.free y
                              have u2 := HMm.out.tm.lt
                              have hXRm := (HGr.out wm HMm.out.fr).2.2
                              have p0 : wm.cell? ⟨Br, 0, none⟩ = some (.slice (some ⟨Bt, 0, none⟩) n1 n1) := hXRm.cell 0 (by simp)
                              have p1 := hXRm.lt
                              have hM5 := HMm.out.time HMPA.out y ct hyl
                              obtain ⟨W5, HW5⟩ : ∃ X, Hid (X = wm.setCell ⟨Bt, y, none⟩ (.int .i64 ct)) := ⟨_, (rfl : wm.setCell ⟨Bt, y, none⟩ (.int .i64 ct) = _)⟩
                              rw [← HW5.out] at hM5
                              have hXR5 := (HGr.out W5 hM5.fr).2.2
                              have p2 : W5.cell? ⟨Br, 1, none⟩ = some (.slice (some ⟨Bc, 0, none⟩) n1 n1) := hXR5.cell 1 (by simp)
                              have p3 := hXR5.lt
                              have w0' := ct_at hM5.ct (x := x) (by simpa using hxl)
                              have w1' := ct_at hM5.ct (x := y) (by simpa using hyl)
                              simp only [cAt_set_ne hyx, HcX.out] at w0'
                              have w2' := hM5.ct.free y
                              have w3' := hM5.ct.lt
                              have hM6 := hM5.numb HMPA.out y (zz.c + 1) (by simpa using hyl)
                              simp only [List.set_set, cAt_set_self hyl] at hM6
                              have HM6 := Hid_mk (hM6.bel (Bel.refl _).drew)
                              simp only [← HRel.out] at HM6
                              clear hM5 hM6 hXRm hXR5
                              go_upto_region 39 with fail
                              rw [← HW5.out]
                              clear u0 u1 u2 p0 p1 HW5
                              go_big_region
                              go_wp2
                              go_roundw
                              case rel => exact ⟨j + 1, _, _, _, by omega, rfl, by go_num, HM6⟩
                              case measure => simp [intOf]; omega
                  · as_aux_lemma =>
                    obtain rfl : j = rm := by omega
                    have HFin : Hid (MbB (Bd + 1) s0 Bt Bc Bd wA n1 g p (n1 - (x :: D).length) (.slice va m vc) wr) := ⟨x :: D, _, va, m, vc, rfl, HNx.out, HMj.out, rfl⟩
                    have HDl : Hid ((x :: D).length ≤ n1) := HNx.out.dl'
                    clear HMj
                    go_wp2
                    go_roundw
                    case rel => exact ⟨_, HFin⟩
                    case measure =>
                      refine Nat.lt_of_le_of_lt (lstN_le HFin) ?_
                      rw [HLN.out, HNN.out]
                      have h := HDl.out
                      simp only [List.length_cons] at h ⊢
                      omega
end Go.Proofs.YtdjofkgmpbiofaaDoor
