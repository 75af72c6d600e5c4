/-
  PROVED: for all rings Orient answers as its model does; the rings that were handed in stay as they were; the answer shares no memory with them nor with the answer of another call, nor two of its rows with each other. No condition.
-/
import Derived.Test.YtapipkcdnmehlaaOrnS
import Derived.Test.YtapipkcdnmehlaaDRing
import Derived.Test.YtapipkcdnmehlaaMarkR
import Derived.Test.YtapipkcdnmehlaaOpenR
namespace Go.Proofs.Ytapipkcdnmehlaa
open Go.ChangeShapes Go.WideShapes Go.ChangeAt Go.RowKit

theorem ornQ_fit {l : List RingD} (h1 : l.length ≤ 1048576) (h2 : ∀ i (h : i < l.length), l[i].row.length ≤ 1048576) : (ornQ l).length ≤ 1048576 ∧ ∀ i (h : i < (ornQ l).length), (ornQ l)[i].row.length ≤ 1048576 := by
  unfold ornQ
  split
  · refine ⟨by rw [List.length_map]; exact h1, fun i hi => ?_⟩
    rw [List.getElem_map, ornR_len]
    exact h2 i (by simpa using hi)
  · exact ⟨Nat.zero_le _, fun i hi => absurd hi (Nat.not_lt_zero _)⟩

set_option maxRecDepth 100000 in
set_option maxHeartbeats 4000000 in
theorem lawFnExactOrient_any (a : Option Addr) (c : Nat) (l : List RingD) (bs : List Nat) (w : World) (hT : RingL w a l bs) (hM : l.length ≤ maxLen) :
    Calls Try.prog 5 #[.slice a l.length c] w fun e w' => e = .returned (.bool true) ∧ Bel w w' := by
  obtain ⟨n, hn⟩ : ∃ n, l.length = n := ⟨_, rfl⟩
  rw [hn] at hM ⊢
  have Hn : Hid (l.length = n) := hn
  clear hn
  obtain ⟨r, Hr⟩ : ∃ r, Hid (szR 1048576 (ringsSz l) = r) := ⟨_, (rfl : szR 1048576 (ringsSz l) = _)⟩
  by_cases hr : 0 ≤ r
  · have hfit := rings_fit (l := l) (by rw [Hr.out]; exact hr)
    have hm : n ≤ 1048576 := by rw [← Hn.out]; exact hfit.1
    have HS : Hid (∀ i (h : i < l.length), l[i].row.length ≤ 1048576) := hfit.2
    have hq := ornQ_fit hfit.1 hfit.2
    obtain ⟨L, HQ⟩ : ∃ L, Hid (ornQ l = L) := ⟨_, (rfl : ornQ l = _)⟩
    rw [HQ.out] at hq
    obtain ⟨nq, Hnq⟩ : ∃ k, Hid (L.length = k) := ⟨_, (rfl : L.length = _)⟩
    have HSL : Hid (∀ i (h : i < L.length), L[i].row.length ≤ 1048576) := hq.2
    have hlen : nq ≤ 1048576 := by rw [← Hnq.out]; exact hq.1
    have hbd := stRing_bd (k := 1) hfit.2 n (by rw [Hn.out]; exact Nat.le_refl _)
    obtain ⟨kE, HK⟩ : ∃ k, Hid (stRing 1 l n = k) := ⟨_, (rfl : stRing 1 l n = _)⟩
    rw [HK.out] at hbd
    have hk0 : ¬ ((kE : Nat) : Int) < 0 := by omega
    have hbq := stRing_bd (k := 1) hq.2 nq (by rw [Hnq.out]; exact Nat.le_refl _)
    obtain ⟨kQ, HKQ⟩ : ∃ k, Hid (stRing 1 L nq = k) := ⟨_, (rfl : stRing 1 L nq = _)⟩
    rw [HKQ.out] at hbq
    have hk1 : ¬ ((kQ : Nat) : Int) < 0 := by omega
    clear hfit hq
    go_enter Try.func5, Try.ntmps5
    go_wp2_with fail
    refine (szRingS_any _ _ _ l bs 1048576 _ hT Hn.out hM (by decide) (by decide)).mono ?_
    rintro e w1 ⟨rfl, S1⟩
    rw [Hr.out]
    go_wp2_with fail
    refine (toRingS_any _ _ _ l bs _ (hT.bel ringE S1) Hn.out hm HS.out).mono ?_
    rintro e w2 ⟨B2, d2, rfl, V2, _, hb2⟩
    have S2 := bel_step S1 hb2
    go_wp2_with fail
    refine (specOrient_any _ _ _ l d2 _ V2 Hn.out hm HS.out).mono ?_
    rintro e w3 ⟨v3, e3, rfl, O3, B3, hb3⟩
    rw [HQ.out, Hnq.out] at O3
    obtain ⟨a3, c3, rfl, I3⟩ := O3
    have B3n : Hid (∀ x ∈ e3, w2.heap.size ≤ x ∧ x < w3.heap.size) := B3.new
    have S3 := bel_step S2 hb3
    clear V2 B3
    go_wp2_with fail
    refine (toRingS_any _ _ _ l bs _ (hT.bel ringE S3) Hn.out hm HS.out).mono ?_
    rintro e w4 ⟨B4, d4, rfl, V4, F4, hb4⟩
    have S4 := bel_step S3 hb4
    have I43 := I3.bel ringE hb4
    go_wp2_with fail
    refine (orient_any _ _ _ l d4 _ V4 Hn.out hm HS.out).mono ?_
    rintro e w5 ⟨v5, e5, rfl, O5, B5, hb5⟩
    rw [HQ.out, Hnq.out] at O5
    obtain ⟨a5, c5, rfl, I5⟩ := O5
    have B5n : Hid (∀ x ∈ e5, w4.heap.size ≤ x ∧ x < w5.heap.size) := B5.new
    have B5d : Hid e5.Nodup := B5.nd
    have R5 := B5.free
    have S5 := bel_step S4 hb5
    have I53 := I43.bel ringE hb5
    have V5 := V4.bel ringE hb5
    have F5 := F4.bel hb5
    have F4n : Hid (∀ x ∈ d4, w3.heap.size ≤ x ∧ x < w4.heap.size) := F4.new
    clear I3 I43 V4 B5
    go_wp2_with fail
    refine (eqRingS_same _ _ _ _ _ L _ _ _ I5 I53 Hnq.out hlen HSL.out).mono ?_
    rintro e w6 ⟨rfl, hb6⟩
    have S6 := bel_step S5 hb6
    go_wp2_with fail
    refine (toRingS_any _ _ _ l bs _ (hT.bel ringE S6) Hn.out hm HS.out).mono ?_
    rintro e w7 ⟨B7, d7, rfl, V7, _, hb7⟩
    have h67 := bel_step hb6 hb7
    go_wp2_with fail
    refine (eqRingS_same _ _ _ _ _ l d4 d7 _ (V5.bel ringE h67) V7 Hn.out hm HS.out).mono ?_
    rintro e w8 ⟨rfl, hb8⟩
    have h58 := bel_step h67 hb8
    have S8 := bel_step S5 h58
    have V8 := V5.bel ringE h58
    have F8 := F5.bel h58
    have I83 := I53.bel ringE h58
    have I85 := I5.bel ringE h58
    have R8 : ∀ x ∈ e5, ∀ j, w8.frozen? ⟨x, j, none⟩ = false := fun x hx j => by rw [h58.out.frozen (p := ⟨x, j, none⟩) (I5.lt ringE x hx)]; exact R5 x hx j
    have D3 : ∀ x ∈ e3, x ∉ d4 := fun x hx hy => by have := (B3n.out x hx).2; have := (F4n.out x hy).1; omega
    have D5 : ∀ x ∈ e5, x ∉ d4 := fun x hx hy => by have := (B5n.out x hx).1; have := (F4n.out x hy).2; omega
    have D35 : ∀ x ∈ e3, x ∉ e5 := fun x hx hy => by have := (B3n.out x hx).2; have := (B5n.out x hy).1; have := hb4.out.size; omega
    have hd4 : ∀ x ∈ d4, w.heap.size ≤ x := fun x hx => by have := (F4n.out x hx).1; have := S3.out.size; omega
    have he5 : ∀ x ∈ e5, w.heap.size ≤ x := fun x hx => by have := (B5n.out x hx).1; have := S4.out.size; omega
    clear I5 I53 V5 V7 F5 R5 h67 hb6 hb7 hb8 h58
    go_wp2_with fail
    refine (markRingS_any _ _ _ l d4 1 _ V8 F8.free F8.nd Hn.out hm HS.out (by omega) (by omega)).mono ?_
    rintro e w9 ⟨rfl, _, _, O9⟩
    rw [HK.out]
    have I93 := I83.alike ringE (O9.alike (I83.lt ringE) D3)
    have I95 := I85.alike ringE (O9.alike (I85.lt ringE) D5)
    have R9 : ∀ x ∈ e5, ∀ j, w9.frozen? ⟨x, j, none⟩ = false := fun x hx j => by rw [O9.frozen (I85.lt ringE x hx) (D5 x hx)]; exact R8 x hx j
    have S9 : Bel w w9 := Onl.to_bel S8 O9 hd4
    clear I83 I85 R8 V8 F8 O9
    go_wp2_with fail
    refine (eqRingS_same _ _ _ _ _ L _ _ _ I95 I93 Hnq.out hlen HSL.out).mono ?_
    rintro e w10 ⟨rfl, hb10⟩
    have I103 := I93.bel ringE hb10
    have I105 := I95.bel ringE hb10
    have R10 : ∀ x ∈ e5, ∀ j, w10.frozen? ⟨x, j, none⟩ = false := fun x hx j => by rw [hb10.out.frozen (p := ⟨x, j, none⟩) (I95.lt ringE x hx)]; exact R9 x hx j
    have S10 := bel_step S9 hb10
    go_wp2_with fail
    refine (markRingS_any a5 _ c5 L e5 1 _ I105 R10 B5d.out Hnq.out hlen HSL.out (by omega) (by omega)).mono ?_
    rintro e w11 ⟨rfl, M11, _, O11⟩
    rw [HKQ.out]
    have I113 := I103.alike ringE (O11.alike (I103.lt ringE) D35)
    have S11 : Bel w w11 := Onl.to_bel S10 O11 he5
    clear I103 I105 R10 O11 I93 I95 R9
    go_wp2_with fail
    refine (heldRingS_any a5 _ c5 L e5 1 _ M11 Hnq.out hlen HSL.out (by omega) (by omega)).mono ?_
    rintro e w12 ⟨rfl, hb12⟩
    rw [HKQ.out]
    have M12 := M11.bel ringE hb12
    have I123 := I113.bel ringE hb12
    have S12 := bel_step S11 hb12
    clear M11 I113
    go_wp2_with fail
    refine (toRingS_any _ _ _ l bs _ (hT.bel ringE S12) Hn.out hm HS.out).mono ?_
    rintro e w13 ⟨B13, d13, rfl, V13, _, hb13⟩
    go_wp2_with fail
    refine (orient_any _ _ _ l d13 _ V13 Hn.out hm HS.out).mono ?_
    rintro e w14 ⟨v14, e14, rfl, O14, _, hb14⟩
    rw [HQ.out, Hnq.out] at O14
    obtain ⟨a14, c14, rfl, I14⟩ := O14
    have h14 := bel_step hb13 hb14
    have I143 := I123.bel ringE h14
    clear V13 hb13 hb14
    go_wp2_with fail
    refine (eqRingS_same _ _ _ _ _ L _ _ _ I14 I143 Hnq.out hlen HSL.out).mono ?_
    rintro e w15 ⟨rfl, hb15⟩
    have h15 := bel_step h14 hb15
    have M15 := M12.bel ringE h15
    have S15 := bel_step S12 h15
    clear I14 I143 M12
    go_wp2_with fail
    refine (heldRingS_any a5 _ c5 L e5 1 _ M15 Hnq.out hlen HSL.out (by omega) (by omega)).mono ?_
    rintro e w16 ⟨rfl, hb16⟩
    rw [HKQ.out]
    clear M15
    go_wp2
    go_ret
    exact ⟨rfl, bel_step S15 hb16⟩
  · go_enter Try.func5, Try.ntmps5
    go_wp2_with fail
    refine (szRingS_any _ _ _ l bs 1048576 _ hT Hn.out hM (by decide) (by decide)).mono ?_
    rintro e w1 ⟨rfl, hb1⟩
    rw [Hr.out]
    go_wp2
    go_ret
    exact ⟨rfl, hb1⟩

theorem fnExactOrient_own : ownKnob Try.prog.godebug = none := by kernel_rfl
theorem fnExactOrient_laidOut : laidOutB Try.prog = true := by kernel_rfl

set_option maxRecDepth 100000 in
theorem fnExactOrient_lifted (os : Os) (started : os.Started) (H : Type) (enc : TypeId × Value → H) :
    ReturnsInHanded {} Try.checked os 5 .any (Rows.fnExactOrientSpec.pre6 enc Try.prog Try.f5 Rows.fnExactOrientRow.domain false) (Rows.fnExactOrientSpec.post enc Try.prog Try.f5 false true false false) := by
  refine returnsInHanded_of_change (C := Try.checked) fnExactOrient_own started (by kernel_rfl) Try.func5
    (ChangeSpec.witness6 (enc := enc) (C := Try.checked) false ⟨#[], #[.slice none 0 0], []⟩ 8 (by kernel_rfl) (by kernel_rfl) (by kernel_rfl) (by kernel_rfl)) ?_
  intro W base args ds gs before hval0 hW hcnd _
  have hval : ∀ (j : Nat) t v, Try.f5.params[j]? = some t → args[j]? = some v → Value.okWide Try.prog W .any base t v := hval0
  have hW' := hW
  obtain ⟨p, q, hA0, hV, rfl, hfz, hnd⟩ := hW
  have hA : DataW.TrodAll enc Try.prog W 0 (fun _ => true) true Try.f5.params.toList args.toList ds p := hA0
  rw [Try.params5] at hA hval
  obtain ⟨v0, vs0, d0, ds0, p0, q0, hargs, rfl, rfl, h0, r0⟩ := trodAll_cons hA
  obtain ⟨rfl, rfl, rfl⟩ := trodAll_nil r0
  obtain rfl : args = #[v0] := by cases args; simp_all
  obtain ⟨rfl, rfl⟩ := trodVars_none hV
  have k0 := h0
  have lt0 : ∀ x ∈ p0, x.block < W.heap.size := by obtain ⟨m, hm⟩ := k0; exact DataW.trod_lt m _ _ _ hm
  obtain ⟨a0, c0, l0, bs0, rfl, ip0, im0⟩ := open_rings (hval 0 29 v0 rfl rfl) h0
  clear hA0 hval0
  refine (lawFnExactOrient_any a0 c0 l0 bs0 W ip0 im0).mono fun e W' ⟨he, bel0⟩ => ?_
  have bel := bel0.out
  subst he
  exact ⟨_, rfl, _, _, _, [], _, [], hW', trodAll_mk1 (shut_bool Try.underlying4 _), (trodAll_cons_mk (Below.trod fnExactOrient_laidOut (by kernel_rfl) (of_decide_eq_true (by kernel_rfl)) k0 bel lt0) trodAll_mk0), rfl, bel.frame _, fun h => by cases h⟩

theorem fnExactOrient_over : Rows.fnExactOrientRow.holds Try.pinned (OpenSpec.ofChange Rows.fnExactOrientSpec) :=
  OpenClaim.holds_of_wide 5 Try.f5 rfl rfl rfl rfl rfl rfl rfl ⟨rfl, rfl, rfl, rfl, rfl⟩ rfl rfl rfl rfl rfl (by kernel_rfl) Try.func5 (by kernel_rfl)
    (of_decide_eq_true (by kernel_rfl)) (by unfold Func.isWrapper; first | (rw [if_pos (by decide +kernel)]; kernel_rfl) | (rw [if_neg (by decide +kernel)]; exact ⟨rfl, rfl⟩))
    (fun os started H enc _ => fnExactOrient_lifted os started H enc)

theorem fnExactOrient_holds : Rows.FnExactOrientSaid := fnExactOrient_over
#print axioms fnExactOrient_holds
end Go.Proofs.Ytapipkcdnmehlaa
