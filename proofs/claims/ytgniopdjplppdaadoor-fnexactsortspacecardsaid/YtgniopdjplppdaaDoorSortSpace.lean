/-
  PROVED: for every row SortSpace answers as its model does; the row that was handed in stays as it was; the answer shares no memory with it nor with the answer of another call; the table of mixed bits that it reads is tied to the program's own text. No other condition.
-/
import Derived.Test.YtgniopdjplppdaaDoorSrtL
import Derived.Test.YtgniopdjplppdaaDoorPtLx
import Derived.Test.YtgniopdjplppdaaDoorDPoint
import Derived.Test.YtgniopdjplppdaaDoorPtsE
import Derived.Test.YtgniopdjplppdaaDoorDInt64
import Derived.Test.YtgniopdjplppdaaDoorHeldI
import Derived.Test.YtgniopdjplppdaaDoorMarkN
import Derived.Test.YtgniopdjplppdaaDoorDoorT
namespace Go.Proofs.YtgniopdjplppdaaDoor
open Go.ChangeShapes Go.WideShapes Go.ChangeAt Go.RowKit Go.Joins

set_option maxRecDepth 100000 in
theorem open_ptl {H : Type} {enc : TypeId × Value → H} {W : World} {base : Nat} {v : Value} {d : DataW H} {p : List MemPlace}
    (hv : Value.okWide Tryd.prog W .any base 50 v) (h : DataW.Trod enc Tryd.prog W 0 (fun _ => true) true 50 v d p) :
    ∃ a c l bs, v = .slice a l.length c ∧ PtL W a l bs ∧ l.length ≤ maxLen := by
  obtain ⟨a, n, c, rfl⟩ := okWide_slice Tryd.underlying50 hv
  obtain ⟨fuel, hf⟩ := h
  obtain ⟨a', c', l, bs, hcs, hT, hl⟩ := openPtL hf
  simp [Value.cells] at hcs
  obtain ⟨rfl, rfl, rfl⟩ := hcs
  exact ⟨_, _, _, _, rfl, hT, hl⟩

set_option maxRecDepth 100000 in
set_option maxHeartbeats 4000000 in
theorem lawFnExactSortSpace_any (a : Option Addr) (c : Nat) (l : List PtD) (bs : List Nat) (w : World) (hTab : SpTab w) (hT : PtL w a l bs) (hM : l.length ≤ maxLen) :
    Calls Tryd.prog 7 #[.slice a l.length c] w fun e w' => e = .returned (.bool true) ∧ Bel w w' := by
  obtain ⟨n, hn⟩ : ∃ n, l.length = n := ⟨_, rfl⟩
  rw [hn] at hM ⊢
  have Hn : Hid (l.length = n) := hn
  clear hn
  have hM9 : n ≤ 9223372036854775807 := by unfold maxLen at hM; omega
  have HQ : Hid (∀ {V : World} {d : Option Addr} {cs : List Nat}, PtL V d l cs → Pts V d n (lx l) (ly l)) := fun h => by have := h.pts; rwa [Hn.out] at this
  obtain ⟨r, Hr⟩ : ∃ r, Hid (szR 1048576 l.length = r) := ⟨_, (rfl : szR 1048576 l.length = _)⟩
  by_cases hr : 0 ≤ r
  · have hm : n ≤ 1048576 := by
      rcases Nat.lt_or_ge 1048576 n with h | h
      · have := Hr.out; rw [Hn.out, szR_neg (by omega)] at this; omega
      · exact h
    go_enter Tryd.func7, Tryd.ntmps7
    go_wp2_with fail
    refine (szPtS_any _ _ _ l bs 1048576 _ hT Hn.out hM9 (by decide) (by decide)).mono ?_
    rintro e w1 ⟨rfl, S1⟩
    rw [Hr.out]
    go_wp2_with fail
    refine (toPtS_any _ _ _ l bs _ (hT.bel ptE S1) Hn.out hm).mono ?_
    rintro e w2 ⟨B2, d2, rfl, V2, _, hb2⟩
    have S2 := bel_step S1 hb2
    go_wp2_with fail
    refine (specSortSpace_any _ _ _ (lx l) (ly l) _ (HQ.out V2) hm).mono ?_
    rintro e w3 ⟨v3, L, rfl, O3, R3, hb3⟩
    have HI : Hid (∀ y ∈ L, In64 y) := R3.in64 hm
    have hlen : L.length ≤ 1048576 := Nat.le_trans R3.len hm
    have HR3 : Hid (SrtL n (lx l) (ly l) L) := R3
    obtain ⟨a3, c3, e3, rfl, I3, B3, _⟩ := own_ints O3 HI.out
    have S3 := bel_step S2 hb3
    clear O3 V2 R3
    go_wp2_with fail
    refine (toPtS_any _ _ _ l bs _ (hT.bel ptE S3) Hn.out hm).mono ?_
    rintro e w4 ⟨B4, d4, rfl, V4, F4, hb4⟩
    have S4 := bel_step S3 hb4
    have I43 := I3.bel intE hb4
    go_wp2_with fail
    refine (sortSpace_any _ _ _ (lx l) (ly l) _ (HQ.out V4) (hTab.bel S4) hm).mono ?_
    rintro e w5 ⟨v5, L5, rfl, O5, R5, hb5⟩
    obtain rfl : L5 = L := R5.one HR3.out
    obtain ⟨a5, c5, e5, rfl, I5, B5, R5f⟩ := O5
    have S5 := bel_step S4 hb5
    have I53 := I43.bel intE hb5
    have V5 := V4.bel ptE hb5
    have F5 := F4.bel hb5
    have F4n : Hid (∀ x ∈ d4, w3.heap.size ≤ x ∧ x < w4.heap.size) := F4.new
    clear I3 I43 V4 R5
    go_wp2_with fail
    refine (eqInt64S_same _ _ _ _ _ L5 _ _ _ I5 I53 rfl hlen).mono ?_
    rintro e w6 ⟨rfl, hb6⟩
    have S6 := bel_step S5 hb6
    go_wp2_with fail
    refine (toPtS_any _ _ _ l bs _ (hT.bel ptE S6) Hn.out hm).mono ?_
    rintro e w7 ⟨B7, d7, rfl, V7, _, hb7⟩
    have h67 := bel_step hb6 hb7
    go_wp2_with fail
    refine (eqPtS_same _ _ _ _ _ l d4 d7 _ (V5.bel ptE h67) V7 Hn.out hm).mono ?_
    rintro e w8 ⟨rfl, hb8⟩
    have h58 := bel_step h67 hb8
    have S8 := bel_step S5 h58
    have V8 := V5.bel ptE h58
    have F8 := F5.bel h58
    have I83 := I53.bel intE h58
    have I85 := I5.bel intE h58
    have R8 : ∀ x ∈ e5, ∀ j, w8.frozen? ⟨x, j, none⟩ = false := fun x hx j => by rw [h58.out.frozen (p := ⟨x, j, none⟩) (I5.lt intE x hx)]; exact R5f x hx j
    have D3 : ∀ x ∈ e3, x ∉ d4 := fun x hx hy => by have := (B3 x hx).2; have := (F4n.out x hy).1; omega
    have D5 : ∀ x ∈ e5, x ∉ d4 := fun x hx hy => by have := (B5 x hx).1; have := (F4n.out x hy).2; omega
    have D35 : ∀ x ∈ e3, x ∉ e5 := fun x hx hy => by have := (B3 x hx).2; have := (B5 x hy).1; have := hb4.out.size; omega
    have hd4 : ∀ x ∈ d4, w.heap.size ≤ x := fun x hx => by have := (F4n.out x hx).1; have := S3.out.size; omega
    have he5 : ∀ x ∈ e5, w.heap.size ≤ x := fun x hx => by have := (B5 x hx).1; have := S4.out.size; omega
    have hk0 : ¬ ((1 + 2 * n : Nat) : Int) < 0 := by omega
    clear I5 I53 V5 V7 F5 R5f h67 hb6 hb7 hb8 h58
    go_wp2_with fail
    refine (markPointS_any _ _ _ l d4 1 _ V8 F8.free Hn.out hm (by omega) (by omega)).mono ?_
    rintro e w9 ⟨rfl, _, _, O9⟩
    have I93 := I83.alike intE (O9.alike (I83.lt intE) D3)
    have I95 := I85.alike intE (O9.alike (I85.lt intE) D5)
    have R9 : ∀ x ∈ e5, ∀ j, w9.frozen? ⟨x, j, none⟩ = false := fun x hx j => by rw [O9.frozen (I85.lt intE x hx) (D5 x hx)]; exact R8 x hx j
    have S9 : Bel w w9 := Onl.to_bel S8 O9 hd4
    clear I83 I85 R8 V8 F8 O9
    go_wp2_with fail
    refine (eqInt64S_same _ _ _ _ _ L5 _ _ _ I95 I93 rfl hlen).mono ?_
    rintro e w10 ⟨rfl, hb10⟩
    have I103 := I93.bel intE hb10
    have I105 := I95.bel intE hb10
    have R10 : ∀ x ∈ e5, ∀ j, w10.frozen? ⟨x, j, none⟩ = false := fun x hx j => by rw [hb10.out.frozen (p := ⟨x, j, none⟩) (I95.lt intE x hx)]; exact R9 x hx j
    have S10 := bel_step S9 hb10
    go_wp2_with fail
    refine (markInt64S_any a5 _ c5 L5 e5 1 _ I105 R10 rfl hlen (by omega)).mono ?_
    rintro e w11 ⟨rfl, M11, _, O11⟩
    have I113 := I103.alike intE (O11.alike (I103.lt intE) D35)
    have S11 : Bel w w11 := Onl.to_bel S10 O11 he5
    have hk1 : ¬ ((1 + L5.length : Nat) : Int) < 0 := by omega
    clear I103 I105 R10 O11 I93 I95 R9
    go_wp2_with fail
    refine (heldInt64S_any a5 _ c5 L5 e5 1 _ M11 rfl hlen (by omega)).mono ?_
    rintro e w12 ⟨rfl, rfl⟩
    go_wp2_with fail
    refine (toPtS_any _ _ _ l bs _ (hT.bel ptE S11) Hn.out hm).mono ?_
    rintro e w13 ⟨B13, d13, rfl, V13, _, hb13⟩
    go_wp2_with fail
    refine (sortSpace_any _ _ _ (lx l) (ly l) _ (HQ.out V13) (hTab.bel (bel_step S11 hb13)) hm).mono ?_
    rintro e w14 ⟨v14, L14, rfl, O14, R14, hb14⟩
    obtain rfl : L14 = L5 := R14.one HR3.out
    obtain ⟨a14, c14, e14, rfl, I14, _, _⟩ := O14
    have h14 := bel_step hb13 hb14
    have I143 := I113.bel intE h14
    clear V13 hb13 hb14
    go_wp2_with fail
    refine (eqInt64S_same _ _ _ _ _ L14 _ _ _ I14 I143 rfl hlen).mono ?_
    rintro e w15 ⟨rfl, hb15⟩
    have h15 := bel_step h14 hb15
    have M15 := M11.bel intE h15
    have S15 := bel_step S11 h15
    clear I14 I143 M11
    go_wp2_with fail
    refine (heldInt64S_any a5 _ c5 L14 e5 1 _ M15 rfl hlen (by omega)).mono ?_
    rintro e w16 ⟨rfl, rfl⟩
    clear M15
    go_wp2
    go_ret
    exact ⟨rfl, S15⟩
  · go_enter Tryd.func7, Tryd.ntmps7
    go_wp2_with fail
    refine (szPtS_any _ _ _ l bs 1048576 _ hT Hn.out hM9 (by decide) (by decide)).mono ?_
    rintro e w1 ⟨rfl, hb1⟩
    rw [Hr.out]
    go_wp2
    go_ret
    exact ⟨rfl, hb1⟩

/-- The door's own heap meets the condition. -/
theorem door_met (os : Os) (args : Array Value) : laidMetH Tryd.prog Rows.fnExactSortSpaceRow.laid ((World.doorLaid Tryd.prog 19 os).forCall (fun _ _ => 0) ⟨#[], args, []⟩).memory :=
  laidMetH_of_parts3 (fuel := 8) (laidMet_of_run' 8 (by kernel_rfl) (by kernel_rfl)) (by kernel_rfl) (by kernel_rfl)

set_option maxRecDepth 100000 in
theorem lifted (os : Os) (started : os.Started) (H : Type) (enc : TypeId × Value → H) :
    ReturnsInHanded {} Tryd.checked os 7 .any (fun w args => (Rows.fnExactSortSpaceSpec.pre enc Tryd.prog Tryd.f7 [] false w args ∧ laidMetH Tryd.prog Rows.fnExactSortSpaceRow.laid w) ∧ sizedMet enc Tryd.prog Tryd.f7 (OpenSpec.ofChange Rows.fnExactSortSpaceSpec) false w args)
      (Rows.fnExactSortSpaceSpec.post enc Tryd.prog Tryd.f7 false true false false) := by
  refine returnsInHanded_of_change_and (C := Tryd.checked) (X := fun w _ => laidMetH Tryd.prog Rows.fnExactSortSpaceRow.laid w) (fun _ _ _ hh h => h.of_heap hh) own started (by kernel_rfl) Tryd.func7
    (ChangeSpec.witness_shaped (enc := enc) (C := Tryd.checked) (os := os) (X := fun w _ => laidMetH Tryd.prog Rows.fnExactSortSpaceRow.laid w) false (World.doorLaid Tryd.prog 19 os) #[.slice none 0 0] 8 rfl (World.shaped_of_RefB (by kernel_rfl) (by kernel_rfl)) (by kernel_rfl) (by kernel_rfl) (by kernel_rfl) (door_met os _)) ?_
  intro W base args ds gs before hval0 hW _ _ hL _
  have hval : ∀ (j : Nat) t v, Tryd.f7.params[j]? = some t → args[j]? = some v → Value.okWide Tryd.prog W .any base t v := hval0
  have hW' := hW
  obtain ⟨p, q, hA0, hV, rfl, hfz, hnd⟩ := hW
  have hA : DataW.TrodAll enc Tryd.prog W 0 (fun _ => true) true Tryd.f7.params.toList args.toList ds p := hA0
  rw [Tryd.params7] at hA hval
  obtain ⟨v0, vs0, d0, ds0, p0, q0, hargs, rfl, rfl, h0, r0⟩ := trodAll_cons hA
  obtain ⟨rfl, rfl, rfl⟩ := trodAll_nil r0
  obtain rfl : args = #[v0] := by cases args; simp_all
  obtain ⟨g, t, cs, fuel, dg, pg, rfl, hg, ht, hv, hd, rfl⟩ := trodVars_one hV
  obtain rfl := Option.some.inj (gSp.symm.trans hg)
  obtain rfl := Option.some.inj (tSp.symm.trans ht)
  have hT := sp_of_laid hL
  have k0 := h0
  have lt0 : ∀ x ∈ p0, x.block < W.heap.size := by obtain ⟨m, hm⟩ := k0; exact DataW.trod_lt m _ _ _ hm
  obtain ⟨a0, c0, l0, bs0, rfl, ip0, im0⟩ := open_ptl (hval 0 50 v0 rfl rfl) h0
  have kg : DataW.Trod enc Tryd.prog W 0 (fun _ => true) true 87 (.agg cs) dg pg := ⟨fuel, hd⟩
  have ltg : ∀ x ∈ pg, x.block < W.heap.size := DataW.trod_lt fuel _ _ _ hd
  clear hA0 hval0
  refine (lawFnExactSortSpace_any a0 c0 l0 bs0 W hT ip0 im0).mono fun e W' ⟨he, bel0⟩ => ?_
  have bel := bel0.out
  subst he
  obtain ⟨fuel', hd'⟩ := Below.trod laidOut (by kernel_rfl) (of_decide_eq_true (by kernel_rfl)) kg bel ltg
  exact ⟨_, rfl, _, _, _, [], _, _, hW', trodAll_mk1 (shut_bool Tryd.underlying4 _), (trodAll_cons_mk (Below.trod laidOut (by kernel_rfl) (of_decide_eq_true (by kernel_rfl)) k0 bel lt0) trodAll_mk0),
    trodVars_mk1 gSp tSp (var_below bel gSp hT.1 hv) (show DataW.trod enc Tryd.prog W' 0 (fun b => decide (b < W.heap.size)) true fuel' 87 cs.toList = some (dg, pg) from hd'), bel.frame _, fun h => by cases h⟩

theorem row_holds : Rows.FnExactSortSpaceSaid :=
  OpenClaim.holds_of_wide 7 Tryd.f7 rfl rfl rfl rfl rfl rfl rfl ⟨rfl, rfl, rfl, rfl, rfl⟩ rfl rfl rfl rfl rfl (by kernel_rfl) Tryd.func7 (by kernel_rfl)
    (of_decide_eq_true (by kernel_rfl)) (by unfold Func.isWrapper; first | (rw [if_pos (by decide +kernel)]; kernel_rfl) | (rw [if_neg (by decide +kernel)]; exact ⟨rfl, rfl⟩))
    (fun os started H enc _ => lifted os started H enc)

theorem fnExactSortSpace_card : Rows.FnExactSortSpaceCardSaid :=
  Claim7.holds_tied_plain_at .later [] [.data] true Rows.fnExactSortSpaceCard.stood.harness false
    row_holds (fun _ h => by cases h) (by kernel_rfl) (fun _ h => by cases h) fnExactSortSpace_row_tie rfl ⟨rfl, rfl⟩ (by kernel_rfl) rfl
    (fun f fn hf hfn => by
      obtain rfl : f = 7 := Option.some.inj ((show Tryd.prog.funcNamed "loop.example/g00024/laws.FnExactSortSpace" = some 7 by kernel_rfl).symm.trans hf) |>.symm
      obtain rfl : fn = Tryd.f7 := (Option.some.inj (Tryd.func7.symm.trans hfn)).symm
      exact ⟨by kernel_rfl, fun j t ht => by
        rw [Tryd.params7] at ht
        have hm : t ∈ [50] := by simpa using Array.mem_of_getElem? ht
        have hall : ([50].all fun u => !Tryd.prog.wantsStandIn u) = true := by kernel_rfl
        exact (show Tryd.prog.wantsStandIn t = false by simpa using List.all_eq_true.1 hall t hm)⟩)
    (by kernel_rfl)
#print axioms fnExactSortSpace_card
end Go.Proofs.YtgniopdjplppdaaDoor
