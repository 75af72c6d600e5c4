/-
  PROVED: for every two points Heading answers as its model does, and the points that were handed in stay as they were; the table of winds that it reads is tied to the program's own text. No other condition.
-/
import Derived.Test.YtoeaplcijdlhnaaDoorHeadA
import Derived.Test.YtoeaplcijdlhnaaDoorTie
import Derived.Test.YtoeaplcijdlhnaaDoorCards
import Derived.ProofKit
import Derived.Carry
import Derived.LaidMore
import Derived.OpenShut
import Derived.Stop.Joined
import Derived.Lib.SmallJoins
import Derived.Lib.LaidTab
import Derived.SevenTiedAt
namespace Go.Proofs.YtoeaplcijdlhnaaDoor
open Go.ChangeShapes Go.WideShapes Go.ChangeAt Go.RowKit Go.Joins

theorem own : ownKnob Tryd.prog.godebug = none := by kernel_rfl
theorem laidOut : laidOutB Tryd.prog = true := by kernel_rfl
theorem gWind : Tryd.prog.globalNamed "loop.example/g00024/impl.windOf" = some 0 := by kernel_rfl
theorem tWind : (Tryd.prog.globals[0]?).map (·.type) = some 32 := by kernel_rfl
theorem cells1 : Tryd.prog.cellsOf 2 = 1 := by kernel_rfl
theorem cells3 : Tryd.prog.cellsOf 31 = 3 := by kernel_rfl
theorem cells9 : Tryd.prog.cellsOf 32 = 9 := by kernel_rfl
theorem cellsLP : Tryd.prog.cellsOf 23 = 2 := by kernel_rfl

theorem var_below {P : Program} {B g : Nat} {W W' : World} {n : String} {cs : Array Value} (h : Below B W W') (hg : P.globalNamed n = some g) (hgB : g < B) (hv : W.var? P n = some cs) : W'.var? P n = some cs := by
  unfold World.var? at hv ⊢
  simp only [hg, Option.bind_some] at hv ⊢
  rw [h.block g hgB]
  exact hv

/-- The door's own heap meets the condition. -/
theorem door_met (os : Os) (args : Array Value) : laidMetH Tryd.prog Rows.fnExactHeadingRow.laid ((World.doorLaid Tryd.prog 17 os).forCall (fun _ _ => 0) ⟨#[], args, []⟩).memory :=
  laidMetH_of_parts3 (fuel := 8) (laidMet_of_run' 8 (by kernel_rfl) (by kernel_rfl)) (by kernel_rfl) (by kernel_rfl)

/-- A row of the table. -/
theorem row_of {W : World} {fuel : Nat} {sp : Nat → Bool} {cs : List Value} {x : DataW Unit × List MemPlace} {enc : TypeId × Value → Unit} {a b c : Int}
    (h : DataW.trod enc Tryd.prog W 0 sp false fuel 31 cs = some x) (e : x.1 = .agg [.lit (.int .i64 a), .lit (.int .i64 b), .lit (.int .i64 c)]) : cs = [.int .i64 a, .int .i64 b, .int .i64 c] := by
  obtain ⟨d, p⟩ := x
  have e : d = Lib.tabData .i64 [a, b, c] := e
  subst e
  exact Lib.cells_of_tab Tryd.underlying31 Tryd.underlying2 cells1 cells3 h

/-- What the condition gives the walks: the table. -/
theorem winds_of_laid {W : World} (h : laidMetH Tryd.prog Rows.fnExactHeadingRow.laid W) : Winds W := by
  rw [MakeChecks.laidMetH_plain _ _ _ (by kernel_rfl)] at h
  obtain ⟨ps, ⟨g0, t0, cs0, f0, p0, q0, hg0, ht0, hv0, hd0, _, _⟩, _, _⟩ := h
  obtain rfl := Option.some.inj (gWind.symm.trans hg0)
  obtain rfl := Option.some.inj (tWind.symm.trans ht0)
  obtain ⟨xs, m1, rfl, hx1, hlen, hn3, hel⟩ := DataW.trod_array Tryd.underlying32 hd0
  have h0 := hel 0 (by decide)
  have h1 := hel 1 (by decide)
  have h2 := hel 2 (by decide)
  rw [cells3] at h0 h1 h2
  rw [cells9] at hlen
  simp only [Prod.mk.injEq] at hx1
  match xs, hn3 with
  | [x0, x1, x2], _ =>
    have hx := hx1.1
    simp only [Rows.laid_loop_example_g00024_impl_windOf, DataW.agg.injEq, List.map_cons, List.map_nil, List.cons.injEq] at hx
    obtain ⟨e0, e1, e2, _⟩ := hx
    have r0 := row_of h0 e0.symm
    have r1 := row_of h1 e1.symm
    have r2 := row_of h2 e2.symm
    have hall : cs0.toList = [.int .i64 5, .int .i64 6, .int .i64 7, .int .i64 4, .int .i64 (-1), .int .i64 0, .int .i64 3, .int .i64 2, .int .i64 1] := by
      have e : cs0.toList = (cs0.toList.drop 0).take 3 ++ ((cs0.toList.drop 3).take 3 ++ (cs0.toList.drop 6).take 3) := by
        rw [show (cs0.toList.drop 6).take 3 = cs0.toList.drop 6 from List.take_of_length_le (by simp; simp at hlen; omega)]
        rw [show cs0.toList.drop 6 = (cs0.toList.drop 3).drop 3 by simp, List.take_append_drop]
        simp
      rw [e]
      simp only [Nat.zero_mul, Nat.one_mul, Nat.reduceMul] at r0 r1 r2
      rw [r0, r1, r2]
      rfl
    have hc := fun j => World.var?_cell hg0 hv0 j
    obtain ⟨l⟩ := cs0
    simp only at hall
    subst hall
    have c0 := hc 0
    have c1 := hc 1
    have c2 := hc 2
    have c3 := hc 3
    have c4 := hc 4
    have c5 := hc 5
    have c6 := hc 6
    have c7 := hc 7
    have c8 := hc 8
    simp at c0 c1 c2 c3 c4 c5 c6 c7 c8
    exact ⟨World.block_lt_of_cell? W _ c0, c0, c1, c2, c3, c4, c5, c6, c7, c8⟩

theorem open_pt {H : Type} {enc : TypeId × Value → H} {W : World} {base : Nat} {v : Value} {d : DataW H} {p : List MemPlace}
    (hv : Value.okWide Tryd.prog W .any base 23 v) (h : DataW.Trod enc Tryd.prog W 0 (fun _ => true) true 23 v d p) :
    ∃ x y : Int, v = pt x y := by
  obtain ⟨c0, c1, y0, y1, m, rfl, rfl, rfl, hy0, hy1⟩ := open_agg2 Tryd.underlying23 (by kernel_rfl) cellsLP hv h
  obtain ⟨a, e0, rfl, wa⟩ := DataW.trod_int Tryd.underlying2 hy0
  obtain ⟨b, e1, rfl, wb⟩ := DataW.trod_int Tryd.underlying2 hy1
  simp at e0 e1
  subst e0 e1
  exact ⟨a, b, rfl⟩

set_option maxRecDepth 100000 in
theorem lifted (os : Os) (started : os.Started) (H : Type) (enc : TypeId × Value → H) :
    ReturnsInHanded {} Tryd.checked os 3 .any (fun w args => (Rows.fnExactHeadingSpec.pre enc Tryd.prog Tryd.f3 [] false w args ∧ laidMetH Tryd.prog Rows.fnExactHeadingRow.laid w) ∧ sizedMet enc Tryd.prog Tryd.f3 (OpenSpec.ofChange Rows.fnExactHeadingSpec) false w args)
      (Rows.fnExactHeadingSpec.post enc Tryd.prog Tryd.f3 false true false false) := by
  refine returnsInHanded_of_change_and (C := Tryd.checked) (X := fun w _ => laidMetH Tryd.prog Rows.fnExactHeadingRow.laid w) (fun _ _ _ hh h => h.of_heap hh) own started (by kernel_rfl) Tryd.func3
    (ChangeSpec.witness_shaped (enc := enc) (C := Tryd.checked) (os := os) (X := fun w _ => laidMetH Tryd.prog Rows.fnExactHeadingRow.laid w) false (World.doorLaid Tryd.prog 17 os) #[.agg #[.int .i64 0, .int .i64 0], .agg #[.int .i64 0, .int .i64 0]] 8 rfl (World.shaped_of_RefB (by kernel_rfl) (by kernel_rfl)) (by kernel_rfl) (by kernel_rfl) (by kernel_rfl) (door_met os _)) ?_
  intro W base args ds gs before hval0 hW _ _ hL _
  have hval : ∀ (j : Nat) t v, Tryd.f3.params[j]? = some t → args[j]? = some v → Value.okWide Tryd.prog W .any base t v := hval0
  have hW' := hW
  obtain ⟨p, q, hA0, hV, rfl, hfz, hnd⟩ := hW
  have hA : DataW.TrodAll enc Tryd.prog W 0 (fun _ => true) true Tryd.f3.params.toList args.toList ds p := hA0
  rw [Tryd.params3] at hA hval
  obtain ⟨v0, vs0, d0, ds0, p0, q0, hargs, rfl, rfl, h0, r0⟩ := trodAll_cons hA
  obtain ⟨v1, vs1, d1, ds1, p1, q1, rfl, rfl, rfl, h1, r1⟩ := trodAll_cons r0
  obtain ⟨rfl, rfl, rfl⟩ := trodAll_nil r1
  obtain rfl : args = #[v0, v1] := by cases args; simp_all
  obtain ⟨g, t, cs, fuel, dg, pg, rfl, hg, ht, hv, hd, rfl⟩ := trodVars_one hV
  obtain rfl := Option.some.inj (gWind.symm.trans hg)
  obtain rfl := Option.some.inj (tWind.symm.trans ht)
  have hT := winds_of_laid hL
  have k0 := h0
  have lt0 : ∀ x ∈ p0, x.block < W.heap.size := by obtain ⟨m, hm⟩ := k0; exact DataW.trod_lt m _ _ _ hm
  obtain ⟨x0, y0, rfl⟩ := open_pt (hval 0 23 v0 rfl rfl) h0
  have k1 := h1
  have lt1 : ∀ x ∈ p1, x.block < W.heap.size := by obtain ⟨m, hm⟩ := k1; exact DataW.trod_lt m _ _ _ hm
  obtain ⟨x1, y1, rfl⟩ := open_pt (hval 1 23 v1 rfl rfl) h1
  have kg : DataW.Trod enc Tryd.prog W 0 (fun _ => true) true 32 (.agg cs) dg pg := ⟨fuel, hd⟩
  have ltg : ∀ x ∈ pg, x.block < W.heap.size := DataW.trod_lt fuel _ _ _ hd
  clear hA0 hval0
  refine (lawFnExactHeading_any x0 y0 x1 y1 W hT).mono fun e W' ⟨he, bel0⟩ => ?_
  have bel := bel0.out
  subst he
  obtain ⟨fuel', hd'⟩ := Below.trod laidOut (by kernel_rfl) (of_decide_eq_true (by kernel_rfl)) kg bel ltg
  exact ⟨_, rfl, _, _, _, [], _, _, hW', trodAll_mk1 (shut_bool Tryd.underlying4 _), (trodAll_cons_mk (Below.trod laidOut (by kernel_rfl) (of_decide_eq_true (by kernel_rfl)) k0 bel lt0) (trodAll_cons_mk (Below.trod laidOut (by kernel_rfl) (of_decide_eq_true (by kernel_rfl)) k1 bel lt1) trodAll_mk0)),
    trodVars_mk1 gWind tWind (var_below bel gWind hT.1 hv) (show DataW.trod enc Tryd.prog W' 0 (fun b => decide (b < W.heap.size)) true fuel' 32 cs.toList = some (dg, pg) from hd'), bel.frame _, fun h => by cases h⟩

theorem row_holds : Rows.FnExactHeadingSaid :=
  OpenClaim.holds_of_wide 3 Tryd.f3 rfl rfl rfl rfl rfl rfl rfl ⟨rfl, rfl, rfl, rfl, rfl⟩ rfl rfl rfl rfl rfl (by kernel_rfl) Tryd.func3 (by kernel_rfl)
    (of_decide_eq_true (by kernel_rfl)) (by unfold Func.isWrapper; first | (rw [if_pos (by decide +kernel)]; kernel_rfl) | (rw [if_neg (by decide +kernel)]; exact ⟨rfl, rfl⟩))
    (fun os started H enc _ => lifted os started H enc)

theorem fnExactHeading_card : Rows.FnExactHeadingCardSaid :=
  Claim7.holds_tied_plain_at .later [] [.data] true Rows.fnExactHeadingCard.stood.harness false
    row_holds (fun _ h => by cases h) (by kernel_rfl) (fun _ h => by cases h) fnExactHeading_row_tie rfl ⟨rfl, rfl⟩ (by kernel_rfl) rfl
    (fun f fn hf hfn => by
      obtain rfl : f = 3 := Option.some.inj ((show Tryd.prog.funcNamed "loop.example/g00024/laws.FnExactHeading" = some 3 by kernel_rfl).symm.trans hf) |>.symm
      obtain rfl : fn = Tryd.f3 := (Option.some.inj (Tryd.func3.symm.trans hfn)).symm
      exact ⟨by kernel_rfl, fun j t ht => by
        rw [Tryd.params3] at ht
        have hm : t ∈ [23] := by simpa using Array.mem_of_getElem? ht
        have hall : ([23].all fun u => !Tryd.prog.wantsStandIn u) = true := by kernel_rfl
        exact (show Tryd.prog.wantsStandIn t = false by simpa using List.all_eq_true.1 hall t hm)⟩)
    (by kernel_rfl)
#print axioms fnExactHeading_card
end Go.Proofs.YtoeaplcijdlhnaaDoor
