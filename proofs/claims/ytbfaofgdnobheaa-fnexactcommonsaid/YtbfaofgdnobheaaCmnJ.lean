/-
  Common and Loops in the program: contracts.
-/
import Derived.Test.YtbfaofgdnobheaaCmnI
namespace Go.Proofs.Ytbfaofgdnobheaa
open Go.RowKit Go.Maps

set_option maxRecDepth 100000 in
set_option maxHeartbeats 4000000 in
theorem commonI_any (v : Value) (g : GraphD) (bs : List Nat) (ar : Option Addr) (m cr : Nat) (l : List Int) (br : List Nat) (au : Option Addr) (p cu : Nat) (u : List Int) (bu : List Nat) (w : World) (hV : GphV w v g bs) (hQ : GphQ g) (hI : Ints w ar l br) (hl : l.length = m) (hm : m ≤ 1048576) (hJ : Ints w au u bu) (hu : u.length = p) (hp : p ≤ 1048576) :
    Calls Try.prog 16 #[v, .slice ar m cr, .slice au p cu] w fun e w' => e = .returned (.int .i64 (cmQ g l u)) ∧ Bel w w' := by
  have HL : Hid (l.length = m) := hl
  have HU : Hid (u.length = p) := hu
  clear hl hu
  have hV' := hV
  obtain ⟨a0, c0, a1, c1, a2, c2, b0, b1, b2, _, rfl, t0, t1, t2⟩ := hV
  obtain ⟨n0, H0⟩ : ∃ n, Hid (g.places.length = n) := ⟨_, (rfl : g.places.length = _)⟩
  obtain ⟨n1, H1⟩ : ∃ n, Hid (g.roads.length = n) := ⟨_, (rfl : g.roads.length = _)⟩
  obtain ⟨n2, H2⟩ : ∃ n, Hid (g.bans.length = n) := ⟨_, (rfl : g.bans.length = _)⟩
  rw [H0.out, H1.out, H2.out] at hV' ⊢
  obtain ⟨W, HW⟩ : ∃ W, Hid (W = w.alloc (.cells #[.slice a0 n0 c0, .slice a1 n1 c1, .slice a2 n2 c2] 40)) := ⟨_, (rfl : w.alloc (.cells #[.slice a0 n0 c0, .slice a1 n1 c1, .slice a2 n2 c2] 40) = _)⟩
  have hBW : Bel w W := by rw [HW.out]; exact bel_alloc (Bel.refl _) _
  have XG : Blk W w.heap.size [.slice a0 n0 c0, .slice a1 n1 c1, .slice a2 n2 c2] := by rw [HW.out]; exact Blk.new w [.slice a0 n0 c0, .slice a1 n1 c1, .slice a2 n2 c2] _
  obtain ⟨R, HR⟩ : ∃ R, Hid (cmQ g l u = R) := ⟨_, (rfl : cmQ g l u = _)⟩
  rw [HR.out]
  go_enter Try.func16, Try.ntmps16
  go_wp2_with fail
  rw [← HW.out]
  refine (graphOk_any _ g bs _ (hV'.bel hBW) hQ).mono ?_
  rintro e w1 ⟨rfl, hb1⟩
  have hB1 := bel_step hBW hb1
  have XG1 := XG.bel hb1
  have x0 : w1.cell? ⟨w.heap.size, 0, none⟩ = some (.slice a0 n0 c0) := XG1.cell 0 (by simp)
  have x1 : w1.cell? ⟨w.heap.size, 1, none⟩ = some (.slice a1 n1 c1) := XG1.cell 1 (by simp)
  have x2 : w1.cell? ⟨w.heap.size, 2, none⟩ = some (.slice a2 n2 c2) := XG1.cell 2 (by simp)
  have xl := XG1.lt
  by_cases hP : graphP g
  rotate_left
  · have HF : Hid (R = 0) := (by rw [← HR.out]; exact cmQ_no (fun h => hP h.1) : R = 0)
    rw [bP_false hP]
    go_wp2
    go_ret
    exact ⟨by rw [HF.out]; rfl, hB1⟩
  rw [bP_true hP]
  rcases Bool.eq_false_or_eq_true (rdsB n1 l) with hs | hs
  rotate_left
  · have HF : Hid (R = 0) := (by rw [← HR.out]; exact cmQ_no (fun h => by have := h.2.1; rw [H1.out, hs] at this; cases this) : R = 0)
    go_wp2_with fail
    refine (hasRoads_r _ _ _ _ _ _ _ _ _ _ _ _ l br false _ (hI.bel intE hB1) HL.out hm hs).mono ?_
    rintro e w2 ⟨rfl, hb2⟩
    go_wp2
    go_ret
    exact ⟨by rw [HF.out]; rfl, bel_step hB1 hb2⟩
  go_wp2_with fail
  refine (hasRoads_r _ _ _ _ _ _ _ _ _ _ _ _ l br true _ (hI.bel intE hB1) HL.out hm hs).mono ?_
  rintro e w2 ⟨rfl, hb2⟩
  have hB2 := bel_step hB1 hb2
  have XG2 := XG1.bel hb2
  have y0 : w2.cell? ⟨w.heap.size, 0, none⟩ = some (.slice a0 n0 c0) := XG2.cell 0 (by simp)
  have y1 : w2.cell? ⟨w.heap.size, 1, none⟩ = some (.slice a1 n1 c1) := XG2.cell 1 (by simp)
  have y2 : w2.cell? ⟨w.heap.size, 2, none⟩ = some (.slice a2 n2 c2) := XG2.cell 2 (by simp)
  have yl := XG2.lt
  clear x0 x1 x2 xl XG1 XG
  rcases Bool.eq_false_or_eq_true (rdsB n1 u) with ht | ht
  rotate_left
  · have HF : Hid (R = 0) := (by rw [← HR.out]; exact cmQ_no (fun h => by have := h.2.2; rw [H1.out, ht] at this; cases this) : R = 0)
    go_wp2_with fail
    refine (hasRoads_r _ _ _ _ _ _ _ _ _ _ _ _ u bu false _ (hJ.bel intE hB2) HU.out hp ht).mono ?_
    rintro e w3 ⟨rfl, hb3⟩
    go_wp2
    go_ret
    exact ⟨by rw [HF.out]; rfl, bel_step hB2 hb3⟩
  have HF : Hid (R = cmS (fun i => (rdX g i).time) (hasT l m) u n1 p) := (by
    rw [← HR.out, cmQ_at hP (by rw [H1.out]; exact hs) (by rw [H1.out]; exact ht), H1.out, HL.out, HU.out] : R = cmS (fun i => (rdX g i).time) (hasT l m) u n1 p)
  go_wp2_with fail
  refine (hasRoads_r _ _ _ _ _ _ _ _ _ _ _ _ u bu true _ (hJ.bel intE hB2) HU.out hp ht).mono ?_
  rintro e w3 ⟨rfl, hb3⟩
  have hB3 := bel_step hB2 hb3
  have XG3 := XG2.bel hb3
  have z0 : w3.cell? ⟨w.heap.size, 0, none⟩ = some (.slice a0 n0 c0) := XG3.cell 0 (by simp)
  have z1 : w3.cell? ⟨w.heap.size, 1, none⟩ = some (.slice a1 n1 c1) := XG3.cell 1 (by simp)
  have z2 : w3.cell? ⟨w.heap.size, 2, none⟩ = some (.slice a2 n2 c2) := XG3.cell 2 (by simp)
  have zl := XG3.lt
  clear y0 y1 y2 yl XG2 XG3
  go_wp2_with fail
  refine (commonG_any _ _ _ _ _ _ _ _ _ g b1 _ _ _ l br _ _ _ u bu _ (t1.bel roadE hB3) H1.out hP (hI.bel intE hB3) HL.out hm (hJ.bel intE hB3) HU.out hp hs ht).mono ?_
  rintro e w4 ⟨rfl, hb4⟩
  clear z0 z1 z2 zl
  rw [← HF.out]
  go_wp2
  go_ret
  exact ⟨rfl, bel_step hB3 hb4⟩

set_option maxRecDepth 100000 in
set_option maxHeartbeats 4000000 in
theorem loopsG_any (a0 : Option Addr) (n0 c0 : Nat) (a1 : Option Addr) (n1 c1 : Nat) (a2 : Option Addr) (n2 c2 : Nat) (g : GraphD) (b1 : List Nat) (ar : Option Addr) (m cr : Nat) (l : List Int) (br : List Nat) (w : World) (t1 : RoadL w a1 g.roads b1) (e0 : g.places.length = n0) (e1 : g.roads.length = n1) (hP : graphP g) (hI : Ints w ar l br) (hl : l.length = m) (hm : m ≤ 1048576) (hA : rdsB n1 l = true) :
    Calls Try.prog 50 #[gphV a0 n0 c0 a1 n1 c1 a2 n2 c2, .slice ar m cr] w fun e w' => e = .returned (.bool (lpQ g l)) ∧ Bel w w' := by
  have H0 : Hid (g.places.length = n0) := e0
  have H1 : Hid (g.roads.length = n1) := e1
  have HL : Hid (l.length = m) := hl
  have HP : Hid (graphP g) := hP
  have HA : Hid (rdsB n1 l = true) := hA
  have m0 : n0 ≤ 5000 := by rw [← e0]; exact hP.1.1
  have m1 : n1 ≤ 8000 := by rw [← e1]; exact hP.1.2.1
  obtain ⟨R, HR⟩ : ∃ R, Hid (lpQ g l = R) := ⟨_, (rfl : lpQ g l = _)⟩
  rw [HR.out]
  clear e0 e1 hl hP hA
  obtain ⟨W, HW⟩ : ∃ W, Hid (W = w.alloc (.cells #[.slice a0 n0 c0, .slice a1 n1 c1, .slice a2 n2 c2] 40)) := ⟨_, (rfl : w.alloc (.cells #[.slice a0 n0 c0, .slice a1 n1 c1, .slice a2 n2 c2] 40) = _)⟩
  have hBW : Bel w W := by rw [HW.out]; exact bel_alloc (Bel.refl _) _
  have XG : Blk W w.heap.size [.slice a0 n0 c0, .slice a1 n1 c1, .slice a2 n2 c2] := by rw [HW.out]; exact Blk.new w [.slice a0 n0 c0, .slice a1 n1 c1, .slice a2 n2 c2] _
  have x0 : W.cell? ⟨w.heap.size, 0, none⟩ = some (.slice a0 n0 c0) := XG.cell 0 (by simp)
  have xl := XG.lt
  have hmk := fun w' => run_make_row' (P := Try.prog) 109 4 (.bool false) 1 Try.underlying109 infoBc rfl .i64 .i64 n0 (by omega) (by omega) w'
  obtain ⟨V, HV⟩ : ∃ V, Hid (V = W.alloc (.cells (madeCells #[.bool false] n0) 4)) := ⟨_, (rfl : W.alloc (.cells (madeCells #[.bool false] n0) 4) = _)⟩
  have R0 : V.rowIs W.heap.size 4 n0 (fun j => .bool (lpW g l 0 j)) := by
    rw [HV.out]
    exact (World.rowIs_made W (.bool false) n0 4).congr fun j _ => by rw [lpW_zero]
  have hBV : Bel W V := by rw [HV.out]; exact bel_alloc (Bel.refl _) _
  go_enter Try.func50, Try.ntmps50
  go_upto_region 1 with fail
  rw [← HW.out]
  go_wp2
  rw [← HV.out]
  clear hmk x0
  go_loopw [6, 7, 8, 15] (fun _ _ _ i wr => ∃ k : Nat, k ≤ m ∧ i = .int .i64 k ∧ Hid (∀ j, j < k → ¬ lpAt g l j) ∧ wr.rowIs W.heap.size 4 n0 (fun j => .bool (lpW g l k j)) ∧ Bel W wr) (fun _ _ _ i _ => m - (intOf i).toNat)
  case atStart => exact ⟨0, Nat.zero_le _, rfl, (fun j hj => absurd hj (Nat.not_lt_zero _) : ∀ j, j < 0 → ¬ lpAt g l j), R0, hBV⟩
  case round =>
    clear R0 hBV HV
    obtain ⟨k, hk, rfl, HN, hr, hBr⟩ := hrel
    by_cases hlt : k < m
    · have hkl : k < l.length := by rw [HL.out]; exact hlt
      obtain ⟨i, hi, ei⟩ := rdsB_at HA.out hkl
      obtain ⟨b, off, f, rfl, hb, _⟩ := (hI.bel intE (bel_step hBW hBr)).out hkl
      have hc := (int_c (hI.bel intE (bel_step hBW hBr)) hkl).2
      rw [ei] at hc
      have hil : i < g.roads.length := by rw [H1.out]; exact hi
      obtain ⟨b', off', f', rfl, hb', _⟩ := (t1.bel roadE (bel_step hBW hBr)).out hil
      obtain ⟨y0, y1, y2, y3, y4, y5⟩ := road_c (t1.bel roadE (bel_step hBW hBr)) hil
      have HI : Hid (lpI l k = i) := lpI_at hkl ei
      have hro := roadB_out (HP.out.2.2.1 i hil)
      rw [← rdX_eq hil, H0.out] at hro
      obtain ⟨d, Hd⟩ : ∃ d, Hid (rdX g i = d) := ⟨_, (rfl : rdX g i = _)⟩
      rw [Hd.out] at hro y0 y1 y2 y3 y4 y5
      obtain ⟨F, eF⟩ : ∃ F : Nat, d.fr = (F : Int) := ⟨d.fr.toNat, by omega⟩
      obtain ⟨T, eT⟩ : ∃ T : Nat, d.to = (T : Int) := ⟨d.to.toNat, by omega⟩
      have hF : F < n0 := by omega
      have hT : T < n0 := by omega
      have HT : Hid ((rdX g (lpI l k)).to = (T : Int)) := by rw [HI.out, Hd.out]; exact eT
      rw [eF] at y0
      rw [eT] at y1
      have hFI : (F : Int) < (n0 : Int) := by omega
      have hTI : (T : Int) < (n0 : Int) := by omega
      have hiI : (i : Int) < (n1 : Int) := by omega
      have x1 : wr.cell? ⟨w.heap.size, 1, none⟩ = some (.slice (some ⟨b', off', none⟩) n1 c1) := (XG.bel hBr).cell 1 (by simp)
      have xl' := (XG.bel hBr).lt
      obtain ⟨U, HU⟩ : ∃ U, Hid (U = wr.alloc (.cells #[.int .i64 (F : Int), .int .i64 (T : Int), .int .i64 d.way, .int .i64 d.time, .int .i64 d.len, .string d.name] 74)) := ⟨_, (rfl : wr.alloc (.cells #[.int .i64 (F : Int), .int .i64 (T : Int), .int .i64 d.way, .int .i64 d.time, .int .i64 d.len, .string d.name] 74) = _)⟩
      have hBU : Bel wr U := by rw [HU.out]; exact bel_alloc (Bel.refl _) _
      have XU : Blk U wr.heap.size [.int .i64 (F : Int), .int .i64 (T : Int), .int .i64 d.way, .int .i64 d.time, .int .i64 d.len, .string d.name] := by rw [HU.out]; exact Blk.new wr [.int .i64 (F : Int), .int .i64 (T : Int), .int .i64 d.way, .int .i64 d.time, .int .i64 d.len, .string d.name] _
      have hrU := row_b hr hBU
      have ul := hrU.lt
      have hne : W.heap.size ≠ wr.heap.size := by have := hr.lt; omega
      have hne' : wr.heap.size ≠ W.heap.size := by have := hr.lt; omega
      have hB1 := bel_step hBr hBU
      have v0 : U.cell? ⟨wr.heap.size, 0, none⟩ = some (.int .i64 (F : Int)) := XU.cell 0 (by simp)
      have v1 : U.cell? ⟨wr.heap.size, 1, none⟩ = some (.int .i64 (T : Int)) := XU.cell 1 (by simp)
      have vl := XU.lt
      have HFr : Hid (d.fr = (F : Int)) := eF
      clear hro eF eT hr
      rcases k with _ | k'
      · have HF : Hid ((rdX g (lpI l 0)).fr = (F : Int)) := by rw [HI.out, Hd.out]; exact HFr.out
        obtain ⟨X, HX⟩ : ∃ X, Hid (X = U.setCell ⟨W.heap.size, F, none⟩ (.bool true)) := ⟨_, (rfl : U.setCell ⟨W.heap.size, F, none⟩ (.bool true) = _)⟩
        have hrX : X.rowIs W.heap.size 4 n0 (fun j => .bool (lpV g l 0 j)) := by
          rw [HX.out]
          exact (hrU.set F (.bool true)).congr fun j _ => by rw [← lpV_first HF.out j]; by_cases e : j = F <;> simp [e]
        have hBX : Bel W X := by rw [HX.out]; exact bel_set hB1 (Nat.le_refl _) _
        have w1 : X.cell? ⟨wr.heap.size, 1, none⟩ = some (.int .i64 (T : Int)) := by rw [HX.out]; exact (XU.far hne).cell 1 (by simp)
        have wl : wr.heap.size < X.heap.size := by rw [HX.out]; exact (XU.far hne).lt
        have u0 := hrU.cell hF
        have zu := hrU.frozen F
        rw [Nat.add_zero] at hc
        clear XU hrU
        go_upto_region 6 with fail
        rw [← HU.out]
        go_upto_region 8 with fail
        rw [← HX.out]
        clear u0 zu v0 v1 vl ul
        have q0 := hrX.cell hT
        have zq := hrX.frozen T
        have xq := hrX.lt
        rw [lpV_yes HT.out] at q0
        by_cases hy : lpAt g l 0
        · have HF2 : Hid (R = true) := (by rw [← HR.out]; exact lpQ_yes HP.out (by rw [H1.out]; exact HA.out) hkl hy : R = true)
          rw [bP_true hy] at q0
          clear hrX
          go_wp2
          go_ret
          exact ⟨by rw [HF2.out]; rfl, bel_step hBW hBX⟩
        · rw [bP_false hy] at q0
          have HN2 : Hid (∀ j, j < 0 + 1 → ¬ lpAt g l j) := (fun j hj => by
            (by_cases e : j = 0)
            · subst e; exact hy
            · exact HN.out j (by omega) : ∀ j, j < 0 + 1 → ¬ lpAt g l j)
          have HR1 : Hid ((X.setCell ⟨W.heap.size, T, none⟩ (.bool true)).rowIs W.heap.size 4 n0 (fun j => .bool (lpW g l (0 + 1) j))) := (hrX.set T (.bool true)).congr fun j _ => by rw [← lpV_set HT.out j]; by_cases e : j = T <;> simp [e]
          have hB2 : Bel W (X.setCell ⟨W.heap.size, T, none⟩ (.bool true)) := bel_set hBX (Nat.le_refl _) _
          clear hrX hy
          go_wp2
          go_roundw
          case rel => exact ⟨0 + 1, by omega, by go_num, HN2.out, HR1.out, hB2⟩
          case measure => simp [intOf]; omega
      · obtain ⟨X, HX⟩ : ∃ X, X = U := ⟨_, rfl⟩
        subst HX
        have hrX : X.rowIs W.heap.size 4 n0 (fun j => .bool (lpV g l (k' + 1) j)) := hrU.congr fun j _ => by rw [lpV_on]
        have hBX := hB1
        clear XU hrU v0
        go_upto_region 6 with fail
        rw [← HU.out]
        go_upto_region 8 with fail
        have q0 := hrX.cell hT
        have zq := hrX.frozen T
        have xq := hrX.lt
        rw [lpV_yes HT.out] at q0
        by_cases hy : lpAt g l (k' + 1)
        · have HF2 : Hid (R = true) := (by rw [← HR.out]; exact lpQ_yes HP.out (by rw [H1.out]; exact HA.out) hkl hy : R = true)
          rw [bP_true hy] at q0
          clear hrX
          go_wp2
          go_ret
          exact ⟨by rw [HF2.out]; rfl, bel_step hBW hBX⟩
        · rw [bP_false hy] at q0
          have HN2 : Hid (∀ j, j < (k' + 1) + 1 → ¬ lpAt g l j) := (fun j hj => by
            (by_cases e : j = (k' + 1))
            · subst e; exact hy
            · exact HN.out j (by omega) : ∀ j, j < (k' + 1) + 1 → ¬ lpAt g l j)
          have HR1 : Hid ((X.setCell ⟨W.heap.size, T, none⟩ (.bool true)).rowIs W.heap.size 4 n0 (fun j => .bool (lpW g l ((k' + 1) + 1) j))) := (hrX.set T (.bool true)).congr fun j _ => by rw [← lpV_set HT.out j]; by_cases e : j = T <;> simp [e]
          have hB2 : Bel W (X.setCell ⟨W.heap.size, T, none⟩ (.bool true)) := bel_set hBX (Nat.le_refl _) _
          clear hrX hy
          go_wp2
          go_roundw
          case rel => exact ⟨(k' + 1) + 1, by omega, by go_num, HN2.out, HR1.out, hB2⟩
          case measure => simp [intOf]; omega
    · obtain rfl : k = m := by omega
      have HF : Hid (R = false) := (by rw [← HR.out]; exact lpQ_end (fun j hj => HN.out j (by rw [HL.out] at hj; exact hj)) : R = false)
      go_wp2
      go_ret
      exact ⟨by rw [HF.out]; rfl, bel_step hBW hBr⟩

set_option maxRecDepth 100000 in
set_option maxHeartbeats 4000000 in
theorem loopsI_any (v : Value) (g : GraphD) (bs : List Nat) (ar : Option Addr) (m cr : Nat) (l : List Int) (br : List Nat) (w : World) (hV : GphV w v g bs) (hQ : GphQ g) (hI : Ints w ar l br) (hl : l.length = m) (hm : m ≤ 1048576) :
    Calls Try.prog 20 #[v, .slice ar m cr] w fun e w' => e = .returned (.bool (lpQ g l)) ∧ Bel w w' := by
  have HL : Hid (l.length = m) := hl
  clear hl
  have hV' := hV
  obtain ⟨a0, c0, a1, c1, a2, c2, b0, b1, b2, _, rfl, t0, t1, t2⟩ := hV
  obtain ⟨n0, H0⟩ : ∃ n, Hid (g.places.length = n) := ⟨_, (rfl : g.places.length = _)⟩
  obtain ⟨n1, H1⟩ : ∃ n, Hid (g.roads.length = n) := ⟨_, (rfl : g.roads.length = _)⟩
  obtain ⟨n2, H2⟩ : ∃ n, Hid (g.bans.length = n) := ⟨_, (rfl : g.bans.length = _)⟩
  rw [H0.out, H1.out, H2.out] at hV' ⊢
  obtain ⟨W, HW⟩ : ∃ W, Hid (W = w.alloc (.cells #[.slice a0 n0 c0, .slice a1 n1 c1, .slice a2 n2 c2] 40)) := ⟨_, (rfl : w.alloc (.cells #[.slice a0 n0 c0, .slice a1 n1 c1, .slice a2 n2 c2] 40) = _)⟩
  have hBW : Bel w W := by rw [HW.out]; exact bel_alloc (Bel.refl _) _
  have XG : Blk W w.heap.size [.slice a0 n0 c0, .slice a1 n1 c1, .slice a2 n2 c2] := by rw [HW.out]; exact Blk.new w [.slice a0 n0 c0, .slice a1 n1 c1, .slice a2 n2 c2] _
  obtain ⟨R, HR⟩ : ∃ R, Hid (lpQ g l = R) := ⟨_, (rfl : lpQ g l = _)⟩
  rw [HR.out]
  go_enter Try.func20, Try.ntmps20
  go_wp2_with fail
  rw [← HW.out]
  refine (graphOk_any _ g bs _ (hV'.bel hBW) hQ).mono ?_
  rintro e w1 ⟨rfl, hb1⟩
  have hB1 := bel_step hBW hb1
  have XG1 := XG.bel hb1
  have x0 : w1.cell? ⟨w.heap.size, 0, none⟩ = some (.slice a0 n0 c0) := XG1.cell 0 (by simp)
  have x1 : w1.cell? ⟨w.heap.size, 1, none⟩ = some (.slice a1 n1 c1) := XG1.cell 1 (by simp)
  have x2 : w1.cell? ⟨w.heap.size, 2, none⟩ = some (.slice a2 n2 c2) := XG1.cell 2 (by simp)
  have xl := XG1.lt
  by_cases hP : graphP g
  rotate_left
  · have HF : Hid (R = false) := (by rw [← HR.out]; exact lpQ_no (fun h => hP h.1) : R = false)
    rw [bP_false hP]
    go_wp2
    go_ret
    exact ⟨by rw [HF.out]; rfl, hB1⟩
  rw [bP_true hP]
  rcases Bool.eq_false_or_eq_true (rdsB n1 l) with hs | hs
  rotate_left
  · have HF : Hid (R = false) := (by rw [← HR.out]; exact lpQ_no (fun h => by have := h.2; rw [H1.out, hs] at this; cases this) : R = false)
    go_wp2_with fail
    refine (hasRoads_r _ _ _ _ _ _ _ _ _ _ _ _ l br false _ (hI.bel intE hB1) HL.out hm hs).mono ?_
    rintro e w2 ⟨rfl, hb2⟩
    go_wp2
    go_ret
    exact ⟨by rw [HF.out]; rfl, bel_step hB1 hb2⟩
  go_wp2_with fail
  refine (hasRoads_r _ _ _ _ _ _ _ _ _ _ _ _ l br true _ (hI.bel intE hB1) HL.out hm hs).mono ?_
  rintro e w2 ⟨rfl, hb2⟩
  have hB2 := bel_step hB1 hb2
  have XG2 := XG1.bel hb2
  have y0 : w2.cell? ⟨w.heap.size, 0, none⟩ = some (.slice a0 n0 c0) := XG2.cell 0 (by simp)
  have y1 : w2.cell? ⟨w.heap.size, 1, none⟩ = some (.slice a1 n1 c1) := XG2.cell 1 (by simp)
  have y2 : w2.cell? ⟨w.heap.size, 2, none⟩ = some (.slice a2 n2 c2) := XG2.cell 2 (by simp)
  have yl := XG2.lt
  clear x0 x1 x2 xl XG1 XG XG2
  go_wp2_with fail
  refine (loopsG_any _ _ _ _ _ _ _ _ _ g b1 _ _ _ l br _ (t1.bel roadE hB2) H0.out H1.out hP (hI.bel intE hB2) HL.out hm hs).mono ?_
  rintro e w3 ⟨rfl, hb3⟩
  clear y0 y1 y2 yl
  rw [HR.out]
  go_wp2
  go_ret
  exact ⟨rfl, bel_step hB2 hb3⟩
end Go.Proofs.Ytbfaofgdnobheaa
