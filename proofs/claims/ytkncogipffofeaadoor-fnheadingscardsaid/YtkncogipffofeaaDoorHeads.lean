/-
  PROVED: for every row of bytes the law FnHeadings says true: a wind and the wind back lie four apart, turned by a quarter two, three times as far it is the same; the table of winds that it reads is tied to the program's own text. No other condition.
-/
import Derived.Test.YtkncogipffofeaaDoorDrawH
import Derived.Test.YtkncogipffofeaaDoorWndM
import Derived.Test.YtkncogipffofeaaDoorHeadA
import Derived.Test.YtkncogipffofeaaDoorOpenB
import Derived.Test.YtkncogipffofeaaDoorTie
import Derived.Test.YtkncogipffofeaaDoorCards
import Derived.ProofKit
import Derived.Carry
import Derived.LaidMore
import Derived.OpenShut
import Derived.Stop.Joined
import Derived.Lib.SmallJoins
import Derived.Lib.LaidTab
import Derived.SevenTiedAt
namespace Go.Proofs.YtkncogipffofeaaDoor
open Go.ChangeShapes Go.WideShapes Go.ChangeAt Go.RowKit Go.Joins

theorem head_one : headOf 0 0 1 1 = 1 := by decide
theorem not_head {x0 y0 x1 y1 : Int} (h : pok x0 y0 = false ∨ pok x1 y1 = false ∨ (x0 = x1 ∧ y0 = y1)) (hne : ¬ (x0 = x1 ∧ y0 = y1)) (h0 : pok x0 y0 = true) : pok x1 y1 = false := by
  rcases h with h | h | h
  · rw [h0] at h; cases h
  · exact h
  · exact absurd h hne
theorem tmod_8 {h : Int} (h0 : 0 ≤ h) (k : Int) (k0 : 0 ≤ k) : Int.tmod (h + k) 8 = (h + k) % 8 := Int.tmod_eq_emod_of_nonneg (by omega)

set_option maxRecDepth 100000 in
set_option maxHeartbeats 4000000 in
theorem lawFnHeadings_any (a : Option Addr) (n c : Nat) (w : World) (hT : Winds w) (hS : Bts w a n) (_hm : n ≤ 9223372036854775807) :
    Calls Tryd.prog 4 #[.slice a n c] w fun e w' => e = .returned (.bool true) ∧ Bel w w' := by
  by_cases hn : n ≤ 1048576
  · have hbig : decide (1048576 < (n : Int)) = false := by simp; omega
    have HT : Hid (Winds w) := hT
    clear hT
    go_enter Tryd.func4, Tryd.ntmps4
    go_wp2_with fail
    refine (big_any _ _ _ _).mono ?_
    rintro e w1 ⟨rfl, rfl⟩
    rw [hbig]
    go_wp2_with fail
    refine (drawHeading_any _ _ _ _ hS hn).mono ?_
    rintro e w2 ⟨x0, y0, x1, y1, rfl, hb2⟩
    obtain ⟨W1, HW1⟩ : ∃ W, Hid (W = ((w2.alloc (.cells #[.int .i64 x0, .int .i64 y0] 25)).alloc (.cells #[.int .i64 x1, .int .i64 y1] 25))) := ⟨_, (rfl : ((w2.alloc (.cells #[.int .i64 x0, .int .i64 y0] 25)).alloc (.cells #[.int .i64 x1, .int .i64 y1] 25)) = _)⟩
    have hW1 : Bel w2 W1 := by rw [HW1.out]; exact bel_alloc (bel_alloc (Bel.refl _) _) _
    have Q0 : Pa W1 (w2.heap.size) x0 y0 := by
      rw [HW1.out]
      have := (Pa.new w2 x0 y0 25).bel (bel_alloc (Bel.refl _) (.cells #[.int .i64 x1, .int .i64 y1] 25))
      simpa using this
    have Q1 : Pa W1 (w2.heap.size + 1) x1 y1 := by
      rw [HW1.out]
      have := (Pa.new (w2.alloc (.cells #[.int .i64 x0, .int .i64 y0] 25)) x1 y1 25).bel (Bel.refl _)
      simpa using this
    have hRW1 : ∀ v, Bel W1 v → v.cell? ⟨w2.heap.size, 0, none⟩ = some (.int .i64 x0) ∧ v.cell? ⟨w2.heap.size, 1, none⟩ = some (.int .i64 y0) ∧ v.cell? ⟨w2.heap.size + 1, 0, none⟩ = some (.int .i64 x1) ∧ v.cell? ⟨w2.heap.size + 1, 1, none⟩ = some (.int .i64 y1) := fun v h => ⟨(Q0.bel h).c0, (Q0.bel h).c1, (Q1.bel h).c0, (Q1.bel h).c1⟩
    clear Q0 Q1
    have hBW := bel_step hb2 hW1
    go_wp2_with fail
    rw [← HW1.out]
    refine (heading_any x0 y0 x1 y1 W1 (HT.out.bel hBW)).mono ?_
    rintro e w3 ⟨rfl, g3⟩
    have B3 := bel_step hBW g3
    clear hb2 hW1 HW1
    go_wp2_with fail
    refine (heading_any 0 0 1 1 w3 (HT.out.bel B3)).mono ?_
    rintro e w4 ⟨rfl, hb4⟩
    rw [head_one]
    have g4 := bel_step g3 hb4
    have B4 := bel_step hBW g4
    clear B3
    rcases head_cases x0 y0 x1 y1 with ⟨e1, hno⟩ | ⟨h0, h1, hd, e1⟩
    · rw [e1]
      have HNO : Hid (pok x0 y0 = false ∨ pok x1 y1 = false ∨ (x0 = x1 ∧ y0 = y1)) := hno
      clear e1 hno
      by_cases heq : x0 = x1 ∧ y0 = y1
      · obtain ⟨rfl, rfl⟩ := heq
        go_wp2
        go_ret
        exact ⟨rfl, B4⟩
      · have HNE : Hid (¬ (x0 = x1 ∧ y0 = y1)) := heq
        have hne : ¬ x0 = x1 ∨ ¬ y0 = y1 := by
          by_cases h : x0 = x1
          · exact .inr fun k => heq ⟨h, k⟩
          · exact .inl h
        clear heq
        rcases hne with hne | hne
        all_goals
          go_wp2_with fail
          refine (pointOk_any x0 y0 w4).mono ?_
          rintro e w5 ⟨rfl, hb5⟩
          have g5 := bel_step g4 hb5
          by_cases pa : pok x0 y0 = true
          · have pb := not_head HNO.out HNE.out pa
            go_wp2_with fail
            refine (pointOk_any x1 y1 w5).mono ?_
            rintro e w6 ⟨rfl, hb6⟩
            have g6 := bel_step g5 hb6
            go_wp2
            go_ret
            exact ⟨rfl, bel_step hBW g6⟩
          · have pa : pok x0 y0 = false := by simpa using pa
            go_wp2
            go_ret
            exact ⟨rfl, bel_step hBW g5⟩
    · rw [e1]
      obtain ⟨a1, a2, a3⟩ := head_all h0 h1 hd
      obtain ⟨b0, b1⟩ := wind_bd (x1 - x0) (y1 - y0)
      have k0 := pOk_iff.1 h0
      have k1 := pOk_iff.1 h1
      obtain ⟨c0, c1, c2, c3⟩ := k0
      obtain ⟨d0, d1, d2, d3⟩ := k1
      have HA1 : Hid (headOf x1 y1 x0 y0 = (wind (x1 - x0) (y1 - y0) + 4) % 8) := a1
      have HA2 : Hid (headOf 0 0 (-(y1 - y0)) (x1 - x0) = (wind (x1 - x0) (y1 - y0) + 2) % 8 ∨ headOf 0 0 (-(y1 - y0)) (x1 - x0) = -1) := a2
      have HA3 : Hid (headOf 1 2 (1 + 3 * (x1 - x0)) (2 + 3 * (y1 - y0)) = wind (x1 - x0) (y1 - y0) ∨ headOf 1 2 (1 + 3 * (x1 - x0)) (2 + 3 * (y1 - y0)) = -1) := a3
      clear a1 a2 a3 e1 h0 h1 hd
      generalize wind (x1 - x0) (y1 - y0) = h at HA1 HA2 HA3 b0 b1 ⊢
      have T4 := tmod_8 b0 4 (by decide)
      have T2 := tmod_8 b0 2 (by decide)
      go_wp2_with fail
      refine (heading_any x1 y1 x0 y0 w4 (HT.out.bel B4)).mono ?_
      rintro e w5 ⟨rfl, hb5⟩
      rw [HA1.out]
      have g5 := bel_step g4 hb5
      have B5 := bel_step hBW g5
      go_wp2_with fail
      refine (heading_any 0 0 (-(y1 - y0)) (x1 - x0) w5 (HT.out.bel B5)).mono ?_
      rintro e w6 ⟨rfl, hb6⟩
      have g6 := bel_step g5 hb6
      have B6 := bel_step hBW g6
      go_wp2_with fail
      refine (heading_any 1 2 (1 + 3 * (x1 - x0)) (2 + 3 * (y1 - y0)) w6 (HT.out.bel B6)).mono ?_
      rintro e w7 ⟨rfl, hb7⟩
      have g7 := bel_step g6 hb7
      have B7 := bel_step hBW g7
      have hq := HA2.out
      have hs := HA3.out
      generalize headOf 0 0 (-(y1 - y0)) (x1 - x0) = q at hq ⊢
      generalize headOf 1 2 (1 + 3 * (x1 - x0)) (2 + 3 * (y1 - y0)) = s at hs ⊢
      clear HA1 HA2 HA3
      have m0 : 0 ≤ (h + 2) % 8 := by omega
      have m1 : ¬ (-1 : Int) = (h + 2) % 8 := by omega
      have m2 : ¬ (-1 : Int) = h := by omega
      rcases hq with rfl | rfl
      all_goals
        rcases hs with rfl | rfl
        all_goals
          go_wp2
          go_ret
          exact ⟨rfl, B7⟩
  · have hbig : decide (1048576 < (n : Int)) = true := by simp; omega
    go_enter Tryd.func4, Tryd.ntmps4
    go_wp2_with fail
    refine (big_any _ _ _ _).mono ?_
    rintro e w1 ⟨rfl, rfl⟩
    rw [hbig]
    go_wp2
    go_ret
    exact ⟨rfl, Bel.refl _⟩

theorem own : ownKnob Tryd.prog.godebug = none := by kernel_rfl
theorem laidOut : laidOutB Tryd.prog = true := by kernel_rfl
theorem gWind : Tryd.prog.globalNamed "loop.example/g00024/impl.windOf" = some 0 := by kernel_rfl
theorem tWind : (Tryd.prog.globals[0]?).map (·.type) = some 57 := by kernel_rfl
theorem cells1 : Tryd.prog.cellsOf 2 = 1 := by kernel_rfl
theorem cells3 : Tryd.prog.cellsOf 56 = 3 := by kernel_rfl
theorem cells9 : Tryd.prog.cellsOf 57 = 9 := by kernel_rfl

theorem var_below {P : Program} {B g : Nat} {W W' : World} {n : String} {cs : Array Value} (h : Below B W W') (hg : P.globalNamed n = some g) (hgB : g < B) (hv : W.var? P n = some cs) : W'.var? P n = some cs := by
  unfold World.var? at hv ⊢
  simp only [hg, Option.bind_some] at hv ⊢
  rw [h.block g hgB]
  exact hv

/-- The door's own heap meets the condition. -/
theorem door_met (os : Os) (args : Array Value) : laidMetH Tryd.prog Rows.fnHeadingsRow.laid ((World.doorLaid Tryd.prog 17 os).forCall (fun _ _ => 0) ⟨#[], args, []⟩).memory :=
  laidMetH_of_parts3 (fuel := 8) (laidMet_of_run' 8 (by kernel_rfl) (by kernel_rfl)) (by kernel_rfl) (by kernel_rfl)

/-- A row of the table. -/
theorem row_of {W : World} {fuel : Nat} {sp : Nat → Bool} {cs : List Value} {x : DataW Unit × List MemPlace} {enc : TypeId × Value → Unit} {a b c : Int}
    (h : DataW.trod enc Tryd.prog W 0 sp false fuel 56 cs = some x) (e : x.1 = .agg [.lit (.int .i64 a), .lit (.int .i64 b), .lit (.int .i64 c)]) : cs = [.int .i64 a, .int .i64 b, .int .i64 c] := by
  obtain ⟨d, p⟩ := x
  have e : d = Lib.tabData .i64 [a, b, c] := e
  subst e
  exact Lib.cells_of_tab Tryd.underlying56 Tryd.underlying2 cells1 cells3 h

/-- What the condition gives the walks: the table. -/
theorem winds_of_laid {W : World} (h : laidMetH Tryd.prog Rows.fnHeadingsRow.laid W) : Winds W := by
  rw [MakeChecks.laidMetH_plain _ _ _ (by kernel_rfl)] at h
  obtain ⟨ps, ⟨g0, t0, cs0, f0, p0, q0, hg0, ht0, hv0, hd0, _, _⟩, _, _⟩ := h
  obtain rfl := Option.some.inj (gWind.symm.trans hg0)
  obtain rfl := Option.some.inj (tWind.symm.trans ht0)
  obtain ⟨xs, m1, rfl, hx1, hlen, hn3, hel⟩ := DataW.trod_array Tryd.underlying57 hd0
  have h0 := hel 0 (by decide)
  have h1 := hel 1 (by decide)
  have h2 := hel 2 (by decide)
  rw [cells3] at h0 h1 h2
  rw [cells9] at hlen
  simp only [Prod.mk.injEq] at hx1
  match xs, hn3 with
  | [x0, x1, x2], _ =>
    have hx := hx1.1
    simp only [Rows.laid_loop_example_g00024_impl_windOf, DataW.agg.injEq, List.map_cons, List.map_nil, List.cons.injEq] at hx
    obtain ⟨e0, e1, e2, _⟩ := hx
    have r0 := row_of h0 e0.symm
    have r1 := row_of h1 e1.symm
    have r2 := row_of h2 e2.symm
    have hall : cs0.toList = [.int .i64 5, .int .i64 6, .int .i64 7, .int .i64 4, .int .i64 (-1), .int .i64 0, .int .i64 3, .int .i64 2, .int .i64 1] := by
      have e : cs0.toList = (cs0.toList.drop 0).take 3 ++ ((cs0.toList.drop 3).take 3 ++ (cs0.toList.drop 6).take 3) := by
        rw [show (cs0.toList.drop 6).take 3 = cs0.toList.drop 6 from List.take_of_length_le (by simp; simp at hlen; omega)]
        rw [show cs0.toList.drop 6 = (cs0.toList.drop 3).drop 3 by simp, List.take_append_drop]
        simp
      rw [e]
      simp only [Nat.zero_mul, Nat.one_mul, Nat.reduceMul] at r0 r1 r2
      rw [r0, r1, r2]
      rfl
    have hc := fun j => World.var?_cell hg0 hv0 j
    obtain ⟨l⟩ := cs0
    simp only at hall
    subst hall
    have c0 := hc 0
    have c1 := hc 1
    have c2 := hc 2
    have c3 := hc 3
    have c4 := hc 4
    have c5 := hc 5
    have c6 := hc 6
    have c7 := hc 7
    have c8 := hc 8
    simp at c0 c1 c2 c3 c4 c5 c6 c7 c8
    exact ⟨World.block_lt_of_cell? W _ c0, c0, c1, c2, c3, c4, c5, c6, c7, c8⟩

set_option maxRecDepth 100000 in
theorem lifted (os : Os) (started : os.Started) (H : Type) (enc : TypeId × Value → H) :
    ReturnsInHanded {} Tryd.checked os 4 .any (fun w args => (Rows.fnHeadingsSpec.pre enc Tryd.prog Tryd.f4 [] false w args ∧ laidMetH Tryd.prog Rows.fnHeadingsRow.laid w) ∧ sizedMet enc Tryd.prog Tryd.f4 (OpenSpec.ofChange Rows.fnHeadingsSpec) false w args)
      (Rows.fnHeadingsSpec.post enc Tryd.prog Tryd.f4 false true false false) := by
  refine returnsInHanded_of_change_and (C := Tryd.checked) (X := fun w _ => laidMetH Tryd.prog Rows.fnHeadingsRow.laid w) (fun _ _ _ hh h => h.of_heap hh) own started (by kernel_rfl) Tryd.func4
    (ChangeSpec.witness_shaped (enc := enc) (C := Tryd.checked) (os := os) (X := fun w _ => laidMetH Tryd.prog Rows.fnHeadingsRow.laid w) false (World.doorLaid Tryd.prog 17 os) #[.slice none 0 0] 8 rfl (World.shaped_of_RefB (by kernel_rfl) (by kernel_rfl)) (by kernel_rfl) (by kernel_rfl) (by kernel_rfl) (door_met os _)) ?_
  intro W base args ds gs before hval0 hW _ _ hL _
  have hval : ∀ (j : Nat) t v, Tryd.f4.params[j]? = some t → args[j]? = some v → Value.okWide Tryd.prog W .any base t v := hval0
  have hW' := hW
  obtain ⟨p, q, hA0, hV, rfl, hfz, hnd⟩ := hW
  have hA : DataW.TrodAll enc Tryd.prog W 0 (fun _ => true) true Tryd.f4.params.toList args.toList ds p := hA0
  rw [Tryd.params4] at hA hval
  obtain ⟨v0, vs0, d0, ds0, p0, q0, hargs, rfl, rfl, h0, r0⟩ := trodAll_cons hA
  obtain ⟨rfl, rfl, rfl⟩ := trodAll_nil r0
  obtain rfl : args = #[v0] := by cases args; simp_all
  obtain ⟨g, t, cs, fuel, dg, pg, rfl, hg, ht, hv, hd, rfl⟩ := trodVars_one hV
  obtain rfl := Option.some.inj (gWind.symm.trans hg)
  obtain rfl := Option.some.inj (tWind.symm.trans ht)
  have hT := winds_of_laid hL
  have k0 := h0
  have lt0 : ∀ x ∈ p0, x.block < W.heap.size := by obtain ⟨m, hm⟩ := k0; exact DataW.trod_lt m _ _ _ hm
  obtain ⟨a0, n0, c0, rfl, ip0, im0⟩ := open_bytes (hval 0 22 v0 rfl rfl) h0
  have kg : DataW.Trod enc Tryd.prog W 0 (fun _ => true) true 57 (.agg cs) dg pg := ⟨fuel, hd⟩
  have ltg : ∀ x ∈ pg, x.block < W.heap.size := DataW.trod_lt fuel _ _ _ hd
  clear hA0 hval0
  refine (lawFnHeadings_any a0 n0 c0 W hT ip0 im0).mono fun e W' ⟨he, bel0⟩ => ?_
  have bel := bel0.out
  subst he
  obtain ⟨fuel', hd'⟩ := Below.trod laidOut (by kernel_rfl) (of_decide_eq_true (by kernel_rfl)) kg bel ltg
  exact ⟨_, rfl, _, _, _, [], _, _, hW', trodAll_mk1 (shut_bool Tryd.underlying4 _), (trodAll_cons_mk (Below.trod laidOut (by kernel_rfl) (of_decide_eq_true (by kernel_rfl)) k0 bel lt0) trodAll_mk0),
    trodVars_mk1 gWind tWind (var_below bel gWind hT.1 hv) (show DataW.trod enc Tryd.prog W' 0 (fun b => decide (b < W.heap.size)) true fuel' 57 cs.toList = some (dg, pg) from hd'), bel.frame _, fun h => by cases h⟩

theorem row_holds : Rows.FnHeadingsSaid :=
  OpenClaim.holds_of_wide 4 Tryd.f4 rfl rfl rfl rfl rfl rfl rfl ⟨rfl, rfl, rfl, rfl, rfl⟩ rfl rfl rfl rfl rfl (by kernel_rfl) Tryd.func4 (by kernel_rfl)
    (of_decide_eq_true (by kernel_rfl)) (by unfold Func.isWrapper; first | (rw [if_pos (by decide +kernel)]; kernel_rfl) | (rw [if_neg (by decide +kernel)]; exact ⟨rfl, rfl⟩))
    (fun os started H enc _ => lifted os started H enc)

theorem fnHeadings_card : Rows.FnHeadingsCardSaid :=
  Claim7.holds_tied_plain_at .later [] [.data] true Rows.fnHeadingsCard.stood.harness false
    row_holds (fun _ h => by cases h) (by kernel_rfl) (fun _ h => by cases h) fnHeadings_row_tie rfl ⟨rfl, rfl⟩ (by kernel_rfl) rfl
    (fun f fn hf hfn => by
      obtain rfl : f = 4 := Option.some.inj ((show Tryd.prog.funcNamed "loop.example/g00024/laws.FnHeadings" = some 4 by kernel_rfl).symm.trans hf) |>.symm
      obtain rfl : fn = Tryd.f4 := (Option.some.inj (Tryd.func4.symm.trans hfn)).symm
      exact ⟨by kernel_rfl, fun j t ht => by
        rw [Tryd.params4] at ht
        have hm : t ∈ [22] := by simpa using Array.mem_of_getElem? ht
        have hall : ([22].all fun u => !Tryd.prog.wantsStandIn u) = true := by kernel_rfl
        exact (show Tryd.prog.wantsStandIn t = false by simpa using List.all_eq_true.1 hall t hm)⟩)
    (by kernel_rfl)
#print axioms fnHeadings_card
end Go.Proofs.YtkncogipffofeaaDoor
