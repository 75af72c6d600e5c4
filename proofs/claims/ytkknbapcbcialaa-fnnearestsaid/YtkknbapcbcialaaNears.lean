/-
  PROVED: for every row of bytes the law FnNearest says true. No condition.
-/
import Derived.Test.YtkknbapcbcialaaNrsN
import Derived.Test.YtkknbapcbcialaaDrawN
import Derived.Test.YtkknbapcbcialaaSmpL
import Derived.Test.YtkknbapcbcialaaOpenB
import Derived.Test.YtkknbapcbcialaaEqPt
namespace Go.Proofs.Ytkknbapcbcialaa
open Go.ChangeShapes Go.WideShapes Go.ChangeAt Go.RowKit

theorem far_fld (l a x y f : Int) (w : World) : (Instr.field 32 (ft l a x y f) 3).run Try.prog w = .ok (.int .i64 f) w := by kernel_rfl
theorem row_no {m : Nat} {X Y : Nat → Int} (h : rowB m X Y = false) (hm : m ≤ 2000) : okA m X Y = false := by
  unfold rowB at h
  rw [decide_eq_true hm, Bool.true_and] at h
  exact h
theorem three : ∃ k A fx fy, nqv 1 (fun _ => 3) (fun _ => 0) 0 0 = ft k A fx fy 3 := by
  have hr : rowB 1 (fun _ => 3) (fun _ => 0) = true := rowB_true (by decide) (fun i _ => by decide)
  have hval := nq_yes (px := 0) (py := 0) hr (by decide)
  refine ⟨nrL 1 (fun _ => 3) (fun _ => 0) 0 0 1, nrA 1 (fun _ => 3) (fun _ => 0) 0 0 1, nrX 1 (fun _ => 3) (fun _ => 0) 0 0 1, nrY 1 (fun _ => 3) (fun _ => 0) 0 0 1, hval.trans ?_⟩
  have h4 : nrF 1 (fun _ => 3) (fun _ => 0) 0 0 1 = 3 := by
    show dOf 0 0 (footX 3 0 3 0 0 0) (footY 3 0 3 0 0 0) = 3
    have e1 : footX 3 0 3 0 0 0 = 3 := by decide
    have e2 : footY 3 0 3 0 0 0 = 0 := by decide
    rw [e1, e2]
    unfold dOf
    have : rootOf (4 * dsq 0 0 3 0) = 6 := (rootOf_eq (.inr ⟨by decide, by decide, by decide, by decide⟩)).symm
    rw [this]
    decide
  have hl : legs 1 = 1 := by decide
  rw [hl]
  show ft _ _ _ _ (nrF 1 (fun _ => 3) (fun _ => 0) 0 0 1) = _
  rw [h4]
theorem nqv_cases (m : Nat) (X Y : Nat → Int) (px py : Int) : (nqv m X Y px py = ft (-1) 0 0 0 0 ∧ (m = 0 ∨ pok px py = false ∨ rowB m X Y = false)) ∨ (m ≠ 0 ∧ rowB m X Y = true ∧ pok px py = true ∧ ∃ k A fx fy F, Nrs m X Y px py k A fx fy F) := by
  by_cases m0 : m = 0
  · subst m0; exact .inl ⟨nq_none, .inl rfl⟩
  · cases hr : rowB m X Y
    · exact .inl ⟨nq_no (.inl hr), .inr (.inr rfl)⟩
    · cases hp : pok px py
      · exact .inl ⟨nq_no (.inr hp), .inr (.inl rfl)⟩
      · exact .inr ⟨m0, rfl, rfl, nrs_of m0 hr hp⟩

/-- Two numbers. -/
def two (x y : Int) (i : Nat) : Int := if i = 1 then y else x
theorem two_box {xk yk xt yt fx fy : Int} (hk : pok xk yk = true) (ht : pok xt yt = true) (hx : min xk xt ≤ fx ∧ fx ≤ max xk xt) (hy : min yk yt ≤ fy ∧ fy ≤ max yk yt) :
    ∃ b0 b1 b2 b3 : Int, bqv 2 (two xk xt) (two yk yt) = bx b0 b1 b2 b3 ∧ b0 ≤ fx ∧ b1 ≤ fy ∧ fx ≤ b2 ∧ fy ≤ b3 := by
  have hr : rowB 2 (two xk xt) (two yk yt) = true := rowB_true (by decide) (fun i hi => by
    rcases (show i = 0 ∨ i = 1 by omega) with rfl | rfl
    · exact hk
    · exact ht)
  exact ⟨_, _, _, _, bq_yes hr (by decide), hx.1, hy.1, hx.2, hy.2⟩

set_option maxRecDepth 100000 in
set_option maxHeartbeats 4000000 in
theorem lawFnNearest_any (a : Option Addr) (n c : Nat) (w : World) (hS : Bts w a n) (_hm : n ≤ 9223372036854775807) :
    Calls Try.prog 5 #[.slice a n c] w fun e w' => e = .returned (.bool true) ∧ Bel w w' := by
  by_cases hn : n ≤ 1048576
  · have hbig : decide (1048576 < (n : Int)) = false := by simp; omega
    go_enter Try.func5, Try.ntmps5
    go_wp2_with fail
    refine (big_any _ _ _ _).mono ?_
    rintro e w1 ⟨rfl, rfl⟩
    rw [hbig]
    clear hbig
    go_wp2_with fail
    refine (drawNear_any _ _ _ _ hS hn).mono ?_
    rintro e w2 ⟨v, m, xs, px, py, rfl, hm, hO, hX, B2⟩
    obtain ⟨a2, c2, X, Y, rfl, hc2, P2⟩ := own_pts hO hX
    clear hO hX
    obtain ⟨V1, HV1⟩ : ∃ V, Hid (V = w2.alloc (.cells #[.int .i64 px, .int .i64 py] 29)) := ⟨_, (rfl : w2.alloc (.cells #[.int .i64 px, .int .i64 py] 29) = _)⟩
    have hbV1 : Bel w2 V1 := by rw [HV1.out]; exact bel_alloc (Bel.refl _) _
    have XP : Blk V1 w2.heap.size [.int .i64 px, .int .i64 py] := by rw [HV1.out]; exact Blk.new w2 [.int .i64 px, .int .i64 py] _
    have BV1 := bel_step B2 hbV1
    have PV1 := P2.bel hbV1
    have cN := near_any a2 m c2 X Y px py V1 PV1 (by omega)
    obtain ⟨t1, t2, t3, t4, h3⟩ := three
    rcases nqv_cases m X Y px py with ⟨hval, hbad⟩ | ⟨m0, hr, hp, k, A, fx, fy, F, hN⟩
    · rw [hval] at cN
      go_wp2_with fail
      rw [← HV1.out]
      refine cN.mono ?_
      rintro e w3 ⟨rfl, g3⟩
      obtain ⟨V2, HV2⟩ : ∃ V, Hid (V = w3.alloc (.cells #[.int .i64 (-1), .int .i64 0, .int .i64 0, .int .i64 0, .int .i64 0] 32)) := ⟨_, (rfl : w3.alloc (.cells #[.int .i64 (-1), .int .i64 0, .int .i64 0, .int .i64 0, .int .i64 0] 32) = _)⟩
      have hbV2 : Bel w3 V2 := by rw [HV2.out]; exact bel_alloc (Bel.refl _) _
      have XF : Blk V2 w3.heap.size [.int .i64 (-1), .int .i64 0, .int .i64 0, .int .i64 0, .int .i64 0] := by rw [HV2.out]; exact Blk.new w3 [.int .i64 (-1), .int .i64 0, .int .i64 0, .int .i64 0, .int .i64 0] _
      have XP2 := (XP.bel g3).bel hbV2
      have P3 := (PV1.bel g3).bel hbV2
      have BV2 := bel_step (bel_step BV1 g3) hbV2
      have hs2 : V2.heap.size = w3.heap.size + 1 := by rw [HV2.out]; simp
      have LP : Pts (V2.alloc (.cells #[.int .i64 3, .int .i64 0] 29)) (some ⟨w3.heap.size + 1, 0, none⟩) 1 (fun _ => 3) (fun _ => 0) := by
        rw [← hs2]
        exact .inr ⟨V2.heap.size, 0, rfl, by simp, fun i hi => by
          obtain rfl : i = 0 := by omega
          exact ⟨by simp [go_sem], by simp [go_sem]⟩⟩
      clear hs2
      have cL := near_any (some ⟨w3.heap.size + 1, 0, none⟩) 1 1 (fun _ => 3) (fun _ => 0) 0 0 _ LP (by decide)
      rw [h3] at cL
      have hfar := far_fld t1 t2 t3 t4 3
      have hb4 : Bel V2 (V2.alloc (.cells #[.int .i64 3, .int .i64 0] 29)) := bel_alloc (Bel.refl _) _
      clear XP PV1 P2 cN HV1 LP
      go_wp2_with fail
      rw [← HV2.out]
      refine cL.mono ?_
      rintro e w4 ⟨rfl, g4⟩
      have h24 := bel_step hb4 g4
      have XF4 := XF.bel h24
      have XP4 := XP2.bel h24
      have P4 := P3.bel h24
      have B4 := bel_step BV2 h24
      have f0 := XF4.cell 0 (by simp)
      have p0 := XP4.cell 0 (by simp)
      have p1 := XP4.cell 1 (by simp)
      simp only [List.getElem_cons_zero, List.getElem_cons_succ] at f0 p0 p1
      clear XF XP2 P3 cL XF4 XP4 HV2
      by_cases m0 : m = 0
      · subst m0
        go_wp2
        go_ret
        exact ⟨rfl, B4⟩
      · have m0' : ¬ (m : Int) = 0 := by omega
        by_cases hmm : 2000 < m
        · have hmm' : (2000 : Int) < (m : Int) := by omega
          clear hbad
          go_wp2
          go_ret
          exact ⟨rfl, B4⟩
        · have hmm' : ¬ (2000 : Int) < (m : Int) := by omega
          go_wp2_with fail
          refine (pointOk_any _ _ _).mono ?_
          rintro e w5 ⟨rfl, g5⟩
          have B5 := bel_step B4 g5
          cases hp : pok px py
          · clear hbad
            go_wp2
            go_ret
            exact ⟨rfl, B5⟩
          · have hr : okA m X Y = false := row_no (by rcases hbad with h | h | h; (· exact absurd h m0); (· rw [hp] at h; cases h); (· exact h)) (by omega)
            clear hbad
            go_wp2_with fail
            refine (allOk_any a2 m c2 X Y w5 (P4.bel g5) (by omega)).mono ?_
            rintro e w6 ⟨rfl, g6⟩
            rw [hr]
            have B6 := bel_step B5 g6
            go_wp2
            go_ret
            exact ⟨rfl, B6⟩
    · rw [hN.val] at cN
      have HN : Hid (Nrs m X Y px py k A fx fy F) := hN
      have hkm := hN.lt
      clear hN
      go_wp2_with fail
      rw [← HV1.out]
      refine cN.mono ?_
      rintro e w3 ⟨rfl, g3⟩
      obtain ⟨V2, HV2⟩ : ∃ V, Hid (V = w3.alloc (.cells #[.int .i64 (k : Int), .int .i64 A, .int .i64 fx, .int .i64 fy, .int .i64 F] 32)) := ⟨_, (rfl : w3.alloc (.cells #[.int .i64 (k : Int), .int .i64 A, .int .i64 fx, .int .i64 fy, .int .i64 F] 32) = _)⟩
      have hbV2 : Bel w3 V2 := by rw [HV2.out]; exact bel_alloc (Bel.refl _) _
      have XF : Blk V2 w3.heap.size [.int .i64 (k : Int), .int .i64 A, .int .i64 fx, .int .i64 fy, .int .i64 F] := by rw [HV2.out]; exact Blk.new w3 [.int .i64 (k : Int), .int .i64 A, .int .i64 fx, .int .i64 fy, .int .i64 F] _
      have XP2 := (XP.bel g3).bel hbV2
      have P3 := (PV1.bel g3).bel hbV2
      have BV2 := bel_step (bel_step BV1 g3) hbV2
      have hs2 : V2.heap.size = w3.heap.size + 1 := by rw [HV2.out]; simp
      have LP : Pts (V2.alloc (.cells #[.int .i64 3, .int .i64 0] 29)) (some ⟨w3.heap.size + 1, 0, none⟩) 1 (fun _ => 3) (fun _ => 0) := by
        rw [← hs2]
        exact .inr ⟨V2.heap.size, 0, rfl, by simp, fun i hi => by
          obtain rfl : i = 0 := by omega
          exact ⟨by simp [go_sem], by simp [go_sem]⟩⟩
      clear hs2
      have cL := near_any (some ⟨w3.heap.size + 1, 0, none⟩) 1 1 (fun _ => 3) (fun _ => 0) 0 0 _ LP (by decide)
      rw [h3] at cL
      have hfar := far_fld t1 t2 t3 t4 3
      have hb4 : Bel V2 (V2.alloc (.cells #[.int .i64 3, .int .i64 0] 29)) := bel_alloc (Bel.refl _) _
      clear XP PV1 P2 cN HV1 LP
      go_wp2_with fail
      rw [← HV2.out]
      refine cL.mono ?_
      rintro e w4 ⟨rfl, g4⟩
      have h24 := bel_step hb4 g4
      have XF4 := XF.bel h24
      have XP4 := XP2.bel h24
      have P4 := P3.bel h24
      have B4 := bel_step BV2 h24
      have f0 := XF4.cell 0 (by simp)
      simp only [List.getElem_cons_zero] at f0
      clear XF XP2 P3 cL HV2
      have hk0 : ¬ (k : Int) < 0 := by omega
      have hk1 : decide ((k : Int) < 0) = false := by simp
      go_wp2
      go_loopw [6] (fun i wr => ∃ j : Nat, j ≤ m ∧ i = .int .i64 j ∧ Bel w4 wr) (fun i _ => m - (intOf i).toNat)
      case atStart => exact ⟨0, Nat.zero_le _, rfl, Bel.refl _⟩
      case round =>
        clear f0
        obtain ⟨j, hj, rfl, hBr⟩ := hrel
        have XFr := XF4.bel hBr
        have XPr := XP4.bel hBr
        by_cases hlt : j < m
        · rcases P4.bel hBr with h | ⟨b, off, rfl, h2, hc⟩
          · omega
          obtain ⟨cx, cy⟩ := hc j hlt
          clear hc
          obtain ⟨n1, n2, n3, n4, hz⟩ := nrs_zero hlt hr
          have hoki := (rowB_out hr).2 j hlt
          have hnear := HN.out.near j hlt
          have cD := fun w' => distance_any (X j) (Y j) px py w'
          have ed : distOf (X j) (Y j) px py = dOf (X j) (Y j) px py := by unfold distOf; rw [pOk_iff.2 hoki, hp]; rfl
          rw [ed] at cD
          have cN0 := fun w' (g : Bel w4 w') => near_any (some ⟨b, off, none⟩) m c2 X Y (X j) (Y j) w' (P4.bel g) (by omega)
          rw [hz] at cN0
          have hd0 := (dOf_bd hoki (pOk_iff.1 hp))
          obtain ⟨xj, Hxj⟩ : ∃ x, Hid (X j = x) := ⟨_, (rfl : X j = _)⟩
          obtain ⟨yj, Hyj⟩ : ∃ x, Hid (Y j = x) := ⟨_, (rfl : Y j = _)⟩
          rw [Hxj.out] at cx cD cN0 hnear hd0; rw [Hyj.out] at cy cD cN0 hnear hd0
          obtain ⟨dd, Hdd⟩ : ∃ x, Hid (dOf xj yj px py = x) := ⟨_, (rfl : dOf xj yj px py = _)⟩
          rw [Hdd.out] at cD hnear hd0
          have hd1 := hd0.1
          have hd2 := hd0.2
          have hdec : decide (dd + 2 < F) = false := by simp; omega
          have hndec : ¬ dd + 2 < F := by omega
          have hwr : IntKind.i64.wrap (dd + 2) = dd + 2 := by rw [IntKind.wrap_i64]; omega
          have hfar := far_fld n1 n2 n3 n4 0
          have hlt' : (j : Int) < (m : Int) := by omega
          have hR : ∀ w', Bel wr w' → w'.cell? ⟨b, off + j * 2, none⟩ = some (.int .i64 xj) ∧ w'.cell? ⟨b, off + j * 2 + 1, none⟩ = some (.int .i64 yj) ∧ w'.cell? ⟨w2.heap.size, 0, none⟩ = some (.int .i64 px) ∧ w'.cell? ⟨w2.heap.size, 1, none⟩ = some (.int .i64 py) ∧ w'.cell? ⟨w3.heap.size, 4, none⟩ = some (.int .i64 F) :=
            fun w' h => ⟨bel_cellM h h2 cx, bel_cellM h h2 cy, (XPr.bel h).cell 0 (by simp), (XPr.bel h).cell 1 (by simp), (XFr.bel h).cell 4 (by simp)⟩
          have g0 : Bel wr wr := Bel.refl _
          clear hd0 ed hoki hz hnear cx cy
          go_wp2
          go_region_held3 (fun w' => Bel wr w') (with_reducible (repeat (first | exact g0 | refine Bel.drew ?_ | assumption | refine bel_then (by assumption) ?_)))
            (first
              | (go_at_call 21; refine (cD _).mono ?_; rintro e w' ⟨rfl, hbk⟩)
              | (go_at_call 12; refine (cN0 _ (bel_step hBr (by first | assumption | exact Bel.drew (by assumption)))).mono ?_; rintro e w' ⟨rfl, hbk⟩))
          have hH : Bel wr w' := by assumption
          have hB' := bel_step hBr hH
          clear hR g0 hfar cN0 cD
          go_wp2
          go_roundw
          case rel => exact ⟨j + 1, by omega, by go_num, hB'⟩
          case measure => simp [intOf]; omega
        · have hge : ¬ (j : Int) < (m : Int) := by omega
          rcases P4.bel hBr with h | ⟨b, off, rfl, h2, hc⟩
          · omega
          obtain ⟨cx, cy⟩ := hc k hkm
          have ht := toI_lt hkm
          obtain ⟨dx, dy⟩ := hc (toI m k) ht
          clear hc
          have hok := (rowB_out hr).2
          have hfar := HN.out.far
          have hat := HN.out.at'
          have hinx := HN.out.inx
          have hiny := HN.out.iny
          have hokf := HN.out.ok
          have cD1 := fun w' => distance_any fx fy px py w'
          have e1 : distOf fx fy px py = F := by unfold distOf; rw [pOk_iff.2 hokf, hp, hfar]; rfl
          rw [e1] at cD1
          have cD2 := fun w' => distance_any (X k) (Y k) fx fy w'
          have e2 : distOf (X k) (Y k) fx fy = A := by unfold distOf; rw [pOk_iff.2 hokf, pOk_iff.2 (hok k hkm), hat]; rfl
          rw [e2] at cD2
          have hpk := pOk_iff.2 (hok k hkm)
          have hpt := pOk_iff.2 (hok _ ht)
          clear e1 e2 hfar hat
          obtain ⟨xk, Hxk⟩ : ∃ x, Hid (X k = x) := ⟨_, (rfl : X k = _)⟩
          obtain ⟨yk, Hyk⟩ : ∃ x, Hid (Y k = x) := ⟨_, (rfl : Y k = _)⟩
          rw [Hxk.out] at cx cD2 hinx hpk; rw [Hyk.out] at cy cD2 hiny hpk
          obtain ⟨xt, Hxt⟩ : ∃ x, Hid (X (toI m k) = x) := ⟨_, (rfl : X (toI m k) = _)⟩
          obtain ⟨yt, Hyt⟩ : ∃ x, Hid (Y (toI m k) = x) := ⟨_, (rfl : Y (toI m k) = _)⟩
          rw [Hxt.out] at dx hinx hpt; rw [Hyt.out] at dy hiny hpt
          have f0 := XFr.cell 0 (by simp)
          simp only [List.getElem_cons_zero] at f0
          have hkm' : (k : Int) < (m : Int) := by omega
          have fl := XFr.lt
          have pl := XPr.lt
          by_cases hk2 : k + 1 < m
          · have hk2' : (k : Int) + 1 < (m : Int) := by omega
            have eT : toI m k = k + 1 := if_pos hk2
            rw [eT] at dx dy
            clear ht
            obtain ⟨T, HT⟩ : ∃ V, Hid (V = ((wr.alloc (.cells #[.int .i64 xk, .int .i64 yk] 29)).alloc (.cells #[.int .i64 xt, .int .i64 yt] 29)).alloc (.cells #[.int .i64 xk, .int .i64 yk, .int .i64 xt, .int .i64 yt] 29)) := ⟨_, (rfl : ((wr.alloc (.cells #[.int .i64 xk, .int .i64 yk] 29)).alloc (.cells #[.int .i64 xt, .int .i64 yt] 29)).alloc (.cells #[.int .i64 xk, .int .i64 yk, .int .i64 xt, .int .i64 yt] 29) = _)⟩
            have hbT : Bel wr T := by rw [HT.out]; exact bel_alloc (bel_alloc (bel_alloc (Bel.refl _) _) _) _
            have XA : Blk T wr.heap.size [.int .i64 xk, .int .i64 yk] := by rw [HT.out]; exact (Blk.new wr [.int .i64 xk, .int .i64 yk] _).bel (bel_alloc (bel_alloc (Bel.refl _) _) _)
            have LS : Blk T (wr.heap.size + 1 + 1) [.int .i64 xk, .int .i64 yk, .int .i64 xt, .int .i64 yt] := by rw [HT.out]; exact Blk.new2 wr _ _ [.int .i64 xk, .int .i64 yk, .int .i64 xt, .int .i64 yt] _
            have LPt : Pts T (some ⟨wr.heap.size + 1 + 1, 0, none⟩) 2 (two xk xt) (two yk yt) := .inr ⟨_, 0, rfl, LS.lt, fun i hi => by
              rcases (show i = 0 ∨ i = 1 by omega) with rfl | rfl
              · exact ⟨LS.cell 0 (by simp), LS.cell 1 (by simp)⟩
              · exact ⟨LS.cell 2 (by simp), LS.cell 3 (by simp)⟩⟩
            obtain ⟨b0, b1, b2, b3, hbv, i0, i1, i2, i3⟩ := two_box hpk hpt hinx hiny
            have cB := bounds_any (some ⟨wr.heap.size + 1 + 1, 0, none⟩) 2 2 (two xk xt) (two yk yt) T LPt (by decide)
            rw [hbv] at cB
            clear LPt LS hbv hinx hiny
            go_wp2_with fail
            rw [← HT.out]
            refine cB.mono ?_
            rintro e w5 ⟨rfl, g5⟩
            have hr5 := bel_step hbT g5
            have B5 := bel_step (bel_step B4 hBr) hr5
            have XF5 := XFr.bel hr5
            have XP5 := XPr.bel hr5
            have XA5 := XA.bel g5
            have y1 := XF5.cell 1 (by simp)
            have y2 := XF5.cell 2 (by simp)
            have y3 := XF5.cell 3 (by simp)
            have y4 := XF5.cell 4 (by simp)
            simp only [List.getElem_cons_zero, List.getElem_cons_succ] at y1 y2 y3 y4
            have yl := XF5.lt
            obtain ⟨V5, HV5⟩ : ∃ V, Hid (V = w5.alloc (.cells #[.int .i64 b0, .int .i64 b1, .int .i64 b2, .int .i64 b3] 35)) := ⟨_, (rfl : w5.alloc (.cells #[.int .i64 b0, .int .i64 b1, .int .i64 b2, .int .i64 b3] 35) = _)⟩
            have hbV5 : Bel w5 V5 := by rw [HV5.out]; exact bel_alloc (Bel.refl _) _
            have XF6 := XF5.bel hbV5
            have XP6 := XP5.bel hbV5
            have XA6 := XA5.bel hbV5
            have BV5 := bel_step B5 hbV5
            have hR5 : ∀ w', Bel V5 w' → w'.cell? ⟨w3.heap.size, 1, none⟩ = some (.int .i64 A) ∧ w'.cell? ⟨w3.heap.size, 2, none⟩ = some (.int .i64 fx) ∧ w'.cell? ⟨w3.heap.size, 3, none⟩ = some (.int .i64 fy) ∧ w'.cell? ⟨w3.heap.size, 4, none⟩ = some (.int .i64 F) ∧ w'.cell? ⟨w2.heap.size, 0, none⟩ = some (.int .i64 px) ∧ w'.cell? ⟨w2.heap.size, 1, none⟩ = some (.int .i64 py) ∧ w'.cell? ⟨wr.heap.size, 0, none⟩ = some (.int .i64 xk) ∧ w'.cell? ⟨wr.heap.size, 1, none⟩ = some (.int .i64 yk) :=
              fun w' h => ⟨(XF6.bel h).cell 1 (by simp), (XF6.bel h).cell 2 (by simp), (XF6.bel h).cell 3 (by simp), (XF6.bel h).cell 4 (by simp), (XP6.bel h).cell 0 (by simp), (XP6.bel h).cell 1 (by simp), (XA6.bel h).cell 0 (by simp), (XA6.bel h).cell 1 (by simp)⟩
            have g0 : Bel V5 V5 := Bel.refl _
            clear cx cy dx dy f0 cB XF5 XP5 XA5 XA HT
            go_wp2
            rw [← HV5.out]
            go_region_held3 (fun w' => Bel V5 w') (with_reducible (repeat (first | exact g0 | refine Bel.drew ?_ | assumption | refine bel_then (by assumption) ?_)))
              (first
                | (go_at_call 21; with_reducible refine (cD1 _).mono ?_; rintro e w' ⟨rfl, hbk⟩)
                | (go_at_call 21; with_reducible refine (cD2 _).mono ?_; rintro e w' ⟨rfl, hbk⟩))
            have hH : Bel V5 w' := by assumption
            have hBe := bel_step BV5 hH
            clear hR5 g0
            go_wp2
            go_ret
            exact ⟨rfl, hBe⟩
          · have hk2' : ¬ (k : Int) + 1 < (m : Int) := by omega
            have eT : toI m k = k := if_neg hk2
            obtain rfl : xk = xt := by rw [← Hxk.out, ← Hxt.out, eT]
            obtain rfl : yk = yt := by rw [← Hyk.out, ← Hyt.out, eT]
            clear ht dx dy
            obtain ⟨T, HT⟩ : ∃ V, Hid (V = ((wr.alloc (.cells #[.int .i64 xk, .int .i64 yk] 29)).alloc (.cells #[.int .i64 xk, .int .i64 yk] 29)).alloc (.cells #[.int .i64 xk, .int .i64 yk, .int .i64 xk, .int .i64 yk] 29)) := ⟨_, (rfl : ((wr.alloc (.cells #[.int .i64 xk, .int .i64 yk] 29)).alloc (.cells #[.int .i64 xk, .int .i64 yk] 29)).alloc (.cells #[.int .i64 xk, .int .i64 yk, .int .i64 xk, .int .i64 yk] 29) = _)⟩
            have hbT : Bel wr T := by rw [HT.out]; exact bel_alloc (bel_alloc (bel_alloc (Bel.refl _) _) _) _
            have XA : Blk T wr.heap.size [.int .i64 xk, .int .i64 yk] := by rw [HT.out]; exact (Blk.new wr [.int .i64 xk, .int .i64 yk] _).bel (bel_alloc (bel_alloc (Bel.refl _) _) _)
            have LS : Blk T (wr.heap.size + 1 + 1) [.int .i64 xk, .int .i64 yk, .int .i64 xk, .int .i64 yk] := by rw [HT.out]; exact Blk.new2 wr _ _ [.int .i64 xk, .int .i64 yk, .int .i64 xk, .int .i64 yk] _
            have LPt : Pts T (some ⟨wr.heap.size + 1 + 1, 0, none⟩) 2 (two xk xk) (two yk yk) := .inr ⟨_, 0, rfl, LS.lt, fun i hi => by
              rcases (show i = 0 ∨ i = 1 by omega) with rfl | rfl
              · exact ⟨LS.cell 0 (by simp), LS.cell 1 (by simp)⟩
              · exact ⟨LS.cell 2 (by simp), LS.cell 3 (by simp)⟩⟩
            obtain ⟨b0, b1, b2, b3, hbv, i0, i1, i2, i3⟩ := two_box hpk hpt hinx hiny
            have cB := bounds_any (some ⟨wr.heap.size + 1 + 1, 0, none⟩) 2 2 (two xk xk) (two yk yk) T LPt (by decide)
            rw [hbv] at cB
            clear LPt LS hbv hinx hiny
            go_wp2_with fail
            rw [← HT.out]
            refine cB.mono ?_
            rintro e w5 ⟨rfl, g5⟩
            have hr5 := bel_step hbT g5
            have B5 := bel_step (bel_step B4 hBr) hr5
            have XF5 := XFr.bel hr5
            have XP5 := XPr.bel hr5
            have XA5 := XA.bel g5
            have y1 := XF5.cell 1 (by simp)
            have y2 := XF5.cell 2 (by simp)
            have y3 := XF5.cell 3 (by simp)
            have y4 := XF5.cell 4 (by simp)
            simp only [List.getElem_cons_zero, List.getElem_cons_succ] at y1 y2 y3 y4
            have yl := XF5.lt
            obtain ⟨V5, HV5⟩ : ∃ V, Hid (V = w5.alloc (.cells #[.int .i64 b0, .int .i64 b1, .int .i64 b2, .int .i64 b3] 35)) := ⟨_, (rfl : w5.alloc (.cells #[.int .i64 b0, .int .i64 b1, .int .i64 b2, .int .i64 b3] 35) = _)⟩
            have hbV5 : Bel w5 V5 := by rw [HV5.out]; exact bel_alloc (Bel.refl _) _
            have XF6 := XF5.bel hbV5
            have XP6 := XP5.bel hbV5
            have XA6 := XA5.bel hbV5
            have BV5 := bel_step B5 hbV5
            have hR5 : ∀ w', Bel V5 w' → w'.cell? ⟨w3.heap.size, 1, none⟩ = some (.int .i64 A) ∧ w'.cell? ⟨w3.heap.size, 2, none⟩ = some (.int .i64 fx) ∧ w'.cell? ⟨w3.heap.size, 3, none⟩ = some (.int .i64 fy) ∧ w'.cell? ⟨w3.heap.size, 4, none⟩ = some (.int .i64 F) ∧ w'.cell? ⟨w2.heap.size, 0, none⟩ = some (.int .i64 px) ∧ w'.cell? ⟨w2.heap.size, 1, none⟩ = some (.int .i64 py) ∧ w'.cell? ⟨wr.heap.size, 0, none⟩ = some (.int .i64 xk) ∧ w'.cell? ⟨wr.heap.size, 1, none⟩ = some (.int .i64 yk) :=
              fun w' h => ⟨(XF6.bel h).cell 1 (by simp), (XF6.bel h).cell 2 (by simp), (XF6.bel h).cell 3 (by simp), (XF6.bel h).cell 4 (by simp), (XP6.bel h).cell 0 (by simp), (XP6.bel h).cell 1 (by simp), (XA6.bel h).cell 0 (by simp), (XA6.bel h).cell 1 (by simp)⟩
            have g0 : Bel V5 V5 := Bel.refl _
            clear cx cy f0 cB XF5 XP5 XA5 XA HT
            go_wp2
            rw [← HV5.out]
            go_region_held3 (fun w' => Bel V5 w') (with_reducible (repeat (first | exact g0 | refine Bel.drew ?_ | assumption | refine bel_then (by assumption) ?_)))
              (first
                | (go_at_call 21; with_reducible refine (cD1 _).mono ?_; rintro e w' ⟨rfl, hbk⟩)
                | (go_at_call 21; with_reducible refine (cD2 _).mono ?_; rintro e w' ⟨rfl, hbk⟩))
            have hH : Bel V5 w' := by assumption
            have hBe := bel_step BV5 hH
            clear hR5 g0
            go_wp2
            go_ret
            exact ⟨rfl, hBe⟩
  · have hbig : decide (1048576 < (n : Int)) = true := by simp; omega
    go_enter Try.func5, Try.ntmps5
    go_wp2_with fail
    refine (big_any _ _ _ _).mono ?_
    rintro e w1 ⟨rfl, rfl⟩
    rw [hbig]
    go_wp2
    go_ret
    exact ⟨rfl, Bel.refl _⟩

theorem fnNearest_own : ownKnob Try.prog.godebug = none := by kernel_rfl
theorem fnNearest_laidOut : laidOutB Try.prog = true := by kernel_rfl

set_option maxRecDepth 100000 in
theorem fnNearest_lifted (os : Os) (started : os.Started) (H : Type) (enc : TypeId × Value → H) :
    ReturnsInHanded {} Try.checked os 5 .any (Rows.fnNearestSpec.pre6 enc Try.prog Try.f5 Rows.fnNearestRow.domain false) (Rows.fnNearestSpec.post enc Try.prog Try.f5 false true false false) := by
  refine returnsInHanded_of_change (C := Try.checked) fnNearest_own started (by kernel_rfl) Try.func5
    (ChangeSpec.witness6 (enc := enc) (C := Try.checked) false ⟨#[], #[.slice none 0 0], []⟩ 8 (by kernel_rfl) (by kernel_rfl) (by kernel_rfl) (by kernel_rfl)) ?_
  intro W base args ds gs before hval0 hW hcnd _
  have hval : ∀ (j : Nat) t v, Try.f5.params[j]? = some t → args[j]? = some v → Value.okWide Try.prog W .any base t v := hval0
  have hW' := hW
  obtain ⟨p, q, hA0, hV, rfl, hfz, hnd⟩ := hW
  have hA : DataW.TrodAll enc Try.prog W 0 (fun _ => true) true Try.f5.params.toList args.toList ds p := hA0
  rw [Try.params5] at hA hval
  obtain ⟨v0, vs0, d0, ds0, p0, q0, hargs, rfl, rfl, h0, r0⟩ := trodAll_cons hA
  obtain ⟨rfl, rfl, rfl⟩ := trodAll_nil r0
  obtain rfl : args = #[v0] := by cases args; simp_all
  obtain ⟨rfl, rfl⟩ := trodVars_none hV
  have k0 := h0
  have lt0 : ∀ x ∈ p0, x.block < W.heap.size := by obtain ⟨m, hm⟩ := k0; exact DataW.trod_lt m _ _ _ hm
  obtain ⟨a0, n0, c0, rfl, ip0, im0⟩ := open_bytes (hval 0 22 v0 rfl rfl) h0
  clear hA0 hval0
  refine (lawFnNearest_any a0 n0 c0 W ip0 im0).mono fun e W' ⟨he, bel0⟩ => ?_
  have bel := bel0.out
  subst he
  exact ⟨_, rfl, _, _, _, [], _, [], hW', trodAll_mk1 (shut_bool Try.underlying4 _), (trodAll_cons_mk (Below.trod fnNearest_laidOut (by kernel_rfl) (of_decide_eq_true (by kernel_rfl)) k0 bel lt0) trodAll_mk0), rfl, bel.frame _, fun h => by cases h⟩

theorem fnNearest_over : Rows.fnNearestRow.holds Try.pinned (OpenSpec.ofChange Rows.fnNearestSpec) :=
  OpenClaim.holds_of_wide 5 Try.f5 rfl rfl rfl rfl rfl rfl rfl ⟨rfl, rfl, rfl, rfl, rfl⟩ rfl rfl rfl rfl rfl (by kernel_rfl) Try.func5 (by kernel_rfl)
    (of_decide_eq_true (by kernel_rfl)) (by unfold Func.isWrapper; first | (rw [if_pos (by decide +kernel)]; kernel_rfl) | (rw [if_neg (by decide +kernel)]; exact ⟨rfl, rfl⟩))
    (fun os started H enc _ => fnNearest_lifted os started H enc)

theorem fnNearest_holds : Rows.FnNearestSaid := fnNearest_over
#print axioms fnNearest_holds
end Go.Proofs.Ytkknbapcbcialaa
