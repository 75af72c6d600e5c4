/-
  PROVED: for every wish WishOk answers as its model does. No condition.
-/
import Derived.Test.YtbfaofgdnobheaaMem
import Derived.Lib.SmallJoins
namespace Go.Proofs.Ytbfaofgdnobheaa
open Go.ChangeShapes Go.WideShapes Go.ChangeAt Go.RowKit Go.Joins

/-- A wish as a value. -/
abbrev wsh (a b c : Int) : Value := .agg #[.int .i64 a, .int .i64 b, .int .i64 c]
/-- A wish can be. -/
def wshB (a b c : Int) : Bool := decide (1 ≤ a) && decide (a ≤ 10) && decide (0 ≤ b) && decide (b ≤ 1000) && decide (0 ≤ c) && decide (c ≤ 100)

theorem wishOk_any (a b c : Int) (w : World) :
    Calls Try.prog 11 #[wsh a b c] w fun e w' => e = .returned (.bool (wshB a b c)) ∧ Bel w w' := by
  by_cases h0 : 1 ≤ a
  rotate_left
  · have hp : wshB a b c = false := by simp [wshB, h0]
    rw [hp]; clear hp
    go_enter Try.func11, Try.ntmps11
    go_wp2
    go_ret
    exact ⟨rfl, bel_alloc (Bel.refl _) _⟩
  by_cases h1 : a ≤ 10
  rotate_left
  · have hp : wshB a b c = false := by simp [wshB, h1]
    rw [hp]; clear hp
    go_enter Try.func11, Try.ntmps11
    go_wp2
    go_ret
    exact ⟨rfl, bel_alloc (Bel.refl _) _⟩
  by_cases h2 : 0 ≤ b
  rotate_left
  · have hp : wshB a b c = false := by simp [wshB, h2]
    rw [hp]; clear hp
    go_enter Try.func11, Try.ntmps11
    go_wp2
    go_ret
    exact ⟨rfl, bel_alloc (Bel.refl _) _⟩
  by_cases h3 : b ≤ 1000
  rotate_left
  · have hp : wshB a b c = false := by simp [wshB, h3]
    rw [hp]; clear hp
    go_enter Try.func11, Try.ntmps11
    go_wp2
    go_ret
    exact ⟨rfl, bel_alloc (Bel.refl _) _⟩
  by_cases h4 : 0 ≤ c
  rotate_left
  · have hp : wshB a b c = false := by simp [wshB, h4]
    rw [hp]; clear hp
    go_enter Try.func11, Try.ntmps11
    go_wp2
    go_ret
    exact ⟨rfl, bel_alloc (Bel.refl _) _⟩
  by_cases h5 : c ≤ 100
  rotate_left
  · have hp : wshB a b c = false := by simp [wshB, h5]
    rw [hp]; clear hp
    go_enter Try.func11, Try.ntmps11
    go_wp2
    go_ret
    exact ⟨rfl, bel_alloc (Bel.refl _) _⟩
  have hp : wshB a b c = true := by simp [wshB, h0, h1, h2, h3, h4, h5]
  rw [hp]; clear hp
  go_enter Try.func11, Try.ntmps11
  go_wp2
  go_ret
  exact ⟨rfl, bel_alloc (Bel.refl _) _⟩

theorem specWishOk_any (a b c : Int) (w : World) :
    Calls Try.prog 9 #[wsh a b c] w fun e w' => e = .returned (.bool (wshB a b c)) ∧ Bel w w' := by
  by_cases h0 : 1 ≤ a
  rotate_left
  · have hp : wshB a b c = false := by simp [wshB, h0]
    rw [hp]; clear hp
    go_enter Try.func9, Try.ntmps9
    go_wp2
    go_ret
    exact ⟨rfl, bel_alloc (Bel.refl _) _⟩
  by_cases h1 : a ≤ 10
  rotate_left
  · have hp : wshB a b c = false := by simp [wshB, h1]
    rw [hp]; clear hp
    go_enter Try.func9, Try.ntmps9
    go_wp2
    go_ret
    exact ⟨rfl, bel_alloc (Bel.refl _) _⟩
  by_cases h2 : 0 ≤ b
  rotate_left
  · have hp : wshB a b c = false := by simp [wshB, h2]
    rw [hp]; clear hp
    go_enter Try.func9, Try.ntmps9
    go_wp2
    go_ret
    exact ⟨rfl, bel_alloc (Bel.refl _) _⟩
  by_cases h3 : b ≤ 1000
  rotate_left
  · have hp : wshB a b c = false := by simp [wshB, h3]
    rw [hp]; clear hp
    go_enter Try.func9, Try.ntmps9
    go_wp2
    go_ret
    exact ⟨rfl, bel_alloc (Bel.refl _) _⟩
  by_cases h4 : 0 ≤ c
  rotate_left
  · have hp : wshB a b c = false := by simp [wshB, h4]
    rw [hp]; clear hp
    go_enter Try.func9, Try.ntmps9
    go_wp2
    go_ret
    exact ⟨rfl, bel_alloc (Bel.refl _) _⟩
  by_cases h5 : c ≤ 100
  rotate_left
  · have hp : wshB a b c = false := by simp [wshB, h5]
    rw [hp]; clear hp
    go_enter Try.func9, Try.ntmps9
    go_wp2
    go_ret
    exact ⟨rfl, bel_alloc (Bel.refl _) _⟩
  have hp : wshB a b c = true := by simp [wshB, h0, h1, h2, h3, h4, h5]
  rw [hp]; clear hp
  go_enter Try.func9, Try.ntmps9
  go_wp2
  go_ret
  exact ⟨rfl, bel_alloc (Bel.refl _) _⟩

theorem cellsLWs : Try.prog.cellsOf 23 = 3 := by kernel_rfl
set_option maxRecDepth 100000 in
theorem open_wsh {H : Type} {enc : TypeId × Value → H} {W : World} {base : Nat} {v : Value} {d : DataW H} {p : List MemPlace}
    (hv : Value.okWide Try.prog W .any base 23 v) (h : DataW.Trod enc Try.prog W 0 (fun _ => true) true 23 v d p) :
    ∃ z x y : Int, v = wsh z x y := by
  obtain ⟨c0, c1, c2, y0, y1, y2, m, rfl, rfl, rfl, hy0, hy1, hy2⟩ := open_agg3 Try.underlying23 (by kernel_rfl) cellsLWs hv h
  obtain ⟨a, e0, rfl, _⟩ := DataW.trod_int Try.underlying2 hy0
  obtain ⟨b, e1, rfl, _⟩ := DataW.trod_int Try.underlying2 hy1
  obtain ⟨c, e2, rfl, _⟩ := DataW.trod_int Try.underlying2 hy2
  simp at e0 e1 e2
  subst e0 e1 e2
  exact ⟨a, b, c, rfl⟩
theorem lawToWish_any (x0 x1 x2 : Int) (w : World) :
    Calls Try.prog 10 #[wsh x0 x1 x2] w fun e w' => e = .returned (wsh x0 x1 x2) ∧ Bel w w' := by
  go_enter Try.func10, Try.ntmps10
  go_wp2
  exact bodyPost_ret (v := wsh x0 x1 x2) (by simp [results, Try.results10, go_sem]) rfl ⟨rfl, bel_alloc (bel_alloc (bel_alloc (Bel.refl _) _) _) _⟩

set_option maxHeartbeats 1000000 in
theorem lawFnExactWishOk_any (z x y : Int) (w : World) :
    Calls Try.prog 3 #[wsh z x y] w fun e w' => e = .returned (.bool true) ∧ Bel w w' := by
  have hb0 : Bel w (w.alloc (.cells #[.int .i64 z, .int .i64 x, .int .i64 y] 23)) := bel_alloc (Bel.refl _) _
  have X0 : Blk (w.alloc (.cells #[.int .i64 z, .int .i64 x, .int .i64 y] 23)) w.heap.size [.int .i64 z, .int .i64 x, .int .i64 y] := Blk.new w [.int .i64 z, .int .i64 x, .int .i64 y] _
  obtain ⟨r, Hr⟩ : ∃ r, Hid (wshB z x y = r) := ⟨_, (rfl : wshB z x y = _)⟩
  go_enter Try.func3, Try.ntmps3
  go_wp2_with fail
  refine (lawToWish_any _ _ _ _).mono ?_
  rintro e w1 ⟨rfl, hb1⟩
  go_wp2_with fail
  refine (specWishOk_any _ _ _ _).mono ?_
  rintro e w2 ⟨rfl, hb2⟩
  rw [Hr.out]
  have X2 := (X0.bel hb1).bel hb2
  have c0 := X2.cell 0 (by simp)
  have c1 := X2.cell 1 (by simp)
  have c2 := X2.cell 2 (by simp)
  simp only [List.getElem_cons_zero, List.getElem_cons_succ] at c0 c1 c2
  have l2 := X2.lt
  have hB2 := bel_step (bel_step hb0 hb1) hb2
  clear X0 X2 hb1 hb2
  go_wp2_with fail
  refine (lawToWish_any _ _ _ _).mono ?_
  rintro e w3 ⟨rfl, hb3⟩
  go_wp2_with fail
  refine (wishOk_any _ _ _ _).mono ?_
  rintro e w4 ⟨rfl, hb4⟩
  rw [Hr.out]
  have hB4 := bel_step (bel_step hB2 hb3) hb4
  clear c0 c1 c2 l2 hb3 hb4
  cases r
  all_goals (
    go_wp2
    go_ret
    exact ⟨rfl, hB4⟩)

theorem fnExactWishOk_own : ownKnob Try.prog.godebug = none := by kernel_rfl
theorem fnExactWishOk_laidOut : laidOutB Try.prog = true := by kernel_rfl

set_option maxRecDepth 100000 in
theorem fnExactWishOk_lifted (os : Os) (started : os.Started) (H : Type) (enc : TypeId × Value → H) :
    ReturnsInHanded {} Try.checked os 3 .any (Rows.fnExactWishOkSpec.pre6 enc Try.prog Try.f3 Rows.fnExactWishOkRow.domain false) (Rows.fnExactWishOkSpec.post enc Try.prog Try.f3 false true false false) := by
  refine returnsInHanded_of_change (C := Try.checked) fnExactWishOk_own started (by kernel_rfl) Try.func3
    (ChangeSpec.witness6 (enc := enc) (C := Try.checked) false ⟨#[], #[.agg #[.int .i64 0, .int .i64 0, .int .i64 0]], []⟩ 8 (by kernel_rfl) (by kernel_rfl) (by kernel_rfl) (by kernel_rfl)) ?_
  intro W base args ds gs before hval0 hW hcnd _
  have hval : ∀ (j : Nat) t v, Try.f3.params[j]? = some t → args[j]? = some v → Value.okWide Try.prog W .any base t v := hval0
  have hW' := hW
  obtain ⟨p, q, hA0, hV, rfl, hfz, hnd⟩ := hW
  have hA : DataW.TrodAll enc Try.prog W 0 (fun _ => true) true Try.f3.params.toList args.toList ds p := hA0
  rw [Try.params3] at hA hval
  obtain ⟨v0, vs0, d0, ds0, p0, q0, hargs, rfl, rfl, h0, r0⟩ := trodAll_cons hA
  obtain ⟨rfl, rfl, rfl⟩ := trodAll_nil r0
  obtain rfl : args = #[v0] := by cases args; simp_all
  obtain ⟨rfl, rfl⟩ := trodVars_none hV
  have k0 := h0
  have lt0 : ∀ x ∈ p0, x.block < W.heap.size := by obtain ⟨m, hm⟩ := k0; exact DataW.trod_lt m _ _ _ hm
  obtain ⟨z0, x0, y0, rfl⟩ := open_wsh (hval 0 23 v0 rfl rfl) h0
  clear hA0 hval0
  refine (lawFnExactWishOk_any z0 x0 y0 W ).mono fun e W' ⟨he, bel0⟩ => ?_
  have bel := bel0.out
  subst he
  exact ⟨_, rfl, _, _, _, [], _, [], hW', trodAll_mk1 (shut_bool Try.underlying4 _), (trodAll_cons_mk (Below.trod fnExactWishOk_laidOut (by kernel_rfl) (of_decide_eq_true (by kernel_rfl)) k0 bel lt0) trodAll_mk0), rfl, bel.frame _, fun h => by cases h⟩

theorem fnExactWishOk_j1 : (Rows.fnExactWishOkRow.inPlace == Try.prog.inPlace 3) = true := by kernel_rfl
theorem fnExactWishOk_j2 : (Rows.fnExactWishOkRow.unfollowed == Try.prog.unfollowed 3) = true := by kernel_rfl
theorem fnExactWishOk_j3 : (Rows.fnExactWishOkRow.recurses == Try.prog.recurses 3) = true := by kernel_rfl
theorem fnExactWishOk_j4 : (Rows.fnExactWishOkRow.named == Try.prog.varsNamed 3) = true := by kernel_rfl
theorem fnExactWishOk_closed : joinedFacts Try.prog 3 Try.f3 Rows.fnExactWishOkSpec Rows.fnExactWishOkRow = true := by
  unfold joinedFacts
  rw [fnExactWishOk_j1, fnExactWishOk_j2, fnExactWishOk_j3, fnExactWishOk_j4]
  kernel_rfl

theorem fnExactWishOk_over : Rows.fnExactWishOkRow.holds Try.pinned (OpenSpec.ofChange Rows.fnExactWishOkSpec) :=
  OpenClaim.holds_of_wide 3 Try.f3 rfl rfl rfl rfl rfl rfl rfl ⟨rfl, rfl, rfl, rfl, rfl⟩ rfl rfl rfl rfl rfl (by kernel_rfl) Try.func3 fnExactWishOk_closed
    (of_decide_eq_true (by kernel_rfl)) (by unfold Func.isWrapper; first | (rw [if_pos (by decide +kernel)]; kernel_rfl) | (rw [if_neg (by decide +kernel)]; exact ⟨rfl, rfl⟩))
    (fun os started H enc _ => fnExactWishOk_lifted os started H enc)

theorem fnExactWishOk_holds : Rows.FnExactWishOkSaid := fnExactWishOk_over
#print axioms fnExactWishOk_holds
end Go.Proofs.Ytbfaofgdnobheaa
