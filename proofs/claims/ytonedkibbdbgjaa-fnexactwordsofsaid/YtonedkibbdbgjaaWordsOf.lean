/-
  PROVED: for every text WordsOf answers as its model does; the answer shares no memory with that of another call. No condition.
-/
import Derived.Test.YtonedkibbdbgjaaWrdS
import Derived.Test.YtonedkibbdbgjaaHeldL
import Derived.Test.YtonedkibbdbgjaaOpenD
namespace Go.Proofs.Ytonedkibbdbgjaa
open Go.ChangeShapes Go.WideShapes Go.ChangeAt Go.RowKit

theorem own_txts {base : Nat} {w : World} {v : Value} {l : List ByteArray} (h : OwnT base w v l) (hi : ∀ y ∈ l, y.size ≤ maxLen) :
    ∃ a c bs, v = .slice a l.length c ∧ StrL w a l bs ∧ (∀ x ∈ bs, base ≤ x ∧ x < w.heap.size) ∧ ∀ x ∈ bs, ∀ j, w.frozen? ⟨x, j, none⟩ = false := by
  obtain ⟨a, c, rfl⟩ := own_shape h
  rcases Nat.eq_zero_or_pos l.length with z | z
  · obtain rfl : l = [] := List.length_eq_zero_iff.1 z
    refine ⟨a, c, [], rfl, Sl.nil, ?_, ?_⟩ <;> intro x hx <;> simp at hx
  · rcases h.2 with ⟨_, hz⟩ | ⟨g, cap, cur, e, hg, e3, _⟩
    · omega
    · cases e
      have hlt : g < w.heap.size := (Array.getElem?_eq_some_iff.1 e3).1
      have hm : ∀ x ∈ g :: (List.range l.length).flatMap (fun _ => ([] : List Nat)), x = g := fun x hx => by
        rcases List.mem_cons.1 hx with h | h
        · exact h
        · obtain ⟨_, _, h⟩ := List.mem_flatMap.1 h
          exact nomatch h
      refine ⟨_, _, g :: (List.range l.length).flatMap (fun _ => ([] : List Nat)), rfl, .inr ⟨g, 0, fun _ => [], rfl, hlt, rfl, fun i hil => ⟨rfl, hi _ (List.getElem_mem hil), ?_⟩⟩, fun x hx => by rw [hm x hx]; exact ⟨hg, hlt⟩, fun x hx j => by rw [hm x hx]; simp [World.frozen?, e3]⟩
      rw [Nat.zero_add, Nat.mul_one, h.cellAt i (by omega)]
      simp [strsV, hil]
theorem wdQ_in (s : ByteArray) : (∀ y ∈ wdQ s, y.size ≤ maxLen) ∧ (wdQ s).length ≤ 101 := by
  unfold wdQ
  by_cases h : 100 < s.size
  · rw [if_pos h]
    exact ⟨fun y hy => (nomatch hy), Nat.zero_le _⟩
  · rw [if_neg h]
    have h1 := wsL_len (bts s ++ [32])
    have h2 := wsL_short (bts s ++ [32])
    rw [List.length_append, bts_len, List.length_singleton] at h1 h2
    exact ⟨fun y hy => by have := h2 y hy; unfold maxLen; omega, by omega⟩

set_option maxRecDepth 100000 in
set_option maxHeartbeats 4000000 in
theorem lawFnExactWordsOf_any (s : ByteArray) (w : World) (hs : s.size ≤ maxLen) :
    Calls Try.prog 4 #[.string s] w fun e w' => e = .returned (.bool true) ∧ Bel w w' := by
  by_cases h1 : s.size ≤ 1048576
  · have h1' : (s.size : Int) ≤ 1048576 := by omega
    obtain ⟨hin, hlen⟩ := wdQ_in s
    obtain ⟨L, hL⟩ : ∃ L, wdQ s = L := ⟨_, rfl⟩
    rw [hL] at hin hlen
    have HL : Hid (wdQ s = L) := hL
    have HS : Hid (s.size ≤ maxLen) := hs
    have HI : Hid (∀ y ∈ L, y.size ≤ maxLen) := hin
    clear hL hs hin
    obtain ⟨n, hn⟩ : ∃ n, L.length = n := ⟨_, rfl⟩
    have HN : Hid (L.length = n) := hn
    rw [hn] at hlen
    clear hn
    go_enter Try.func4, Try.ntmps4
    go_wp2_with fail
    refine (specWordsOf_any s _ HS.out).mono ?_
    rintro e w1 ⟨v1, rfl, O1, hb1⟩
    rw [HL.out] at O1
    obtain ⟨a1, c1, e1, rfl, I1, B1, _⟩ := own_txts O1 HI.out
    rw [HN.out] at O1 ⊢
    go_wp2_with fail
    refine (wordsOf_any s _ HS.out).mono ?_
    rintro e w2 ⟨v2, rfl, O2, hb2⟩
    rw [HL.out] at O2
    obtain ⟨a2, c2, e2, rfl, I2, B2, R2⟩ := own_txts O2 HI.out
    rw [HN.out] at O2 ⊢
    have I12 := I1.bel strE hb2
    have S2 := bel_step hb1 hb2
    go_wp2_with fail
    refine (eqStringS_same a2 a1 n c2 c1 L e2 e1 _ I2 I12 HN.out (by omega)).mono ?_
    rintro e w3 ⟨rfl, hb3⟩
    have S3 := bel_step S2 hb3
    have I13 := I12.bel strE hb3
    have I23 := I2.bel strE hb3
    have R3 : ∀ x ∈ e2, ∀ j, w3.frozen? ⟨x, j, none⟩ = false := fun x hx j => by rw [hb3.out.frozen (p := ⟨x, j, none⟩) (B2 x hx).2]; exact R2 x hx j
    clear O1 O2 I1 I2 I12 R2
    go_wp2_with fail
    refine (markStringS_any a2 n c2 L e2 1 _ I23 R3 HN.out (by omega) (by decide) (by decide)).mono ?_
    rintro e w4 ⟨rfl, M4, _, hm4⟩
    have S4 : Bel w w4 := Onl.to_bel S3 hm4 (fun x hx => by have := (B2 x hx).1; have := hb1.out.size; omega)
    have I14 := I13.alike strE (hm4.alike (fun x hx => by have := (B1 x hx).2; have := hb2.out.size; have := hb3.out.size; omega) (fun x hx hx2 => by have := (B1 x hx).2; have := (B2 x hx2).1; omega))
    clear I13 I23 R3
    have hlm : (mkStrs 1 L).length = n := by rw [mkStrs_len]; exact HN.out
    go_wp2_with fail
    refine (heldStringS_any a2 n c2 L e2 1 _ M4 HN.out (by omega) (by decide) (by decide)).mono ?_
    rintro e w5 ⟨rfl, hb5⟩
    have S5 := bel_step S4 hb5
    have I15 := I14.bel strE hb5
    have M5 := M4.bel strE hb5
    clear I14 M4 hlm
    go_wp2_with fail
    refine (wordsOf_any s _ HS.out).mono ?_
    rintro e w6 ⟨v6, rfl, O6, hb6⟩
    rw [HL.out] at O6
    obtain ⟨a6, c6, e6, rfl, I6, _, _⟩ := own_txts O6 HI.out
    rw [HN.out] at O6 ⊢
    have S6 := bel_step S5 hb6
    have I16 := I15.bel strE hb6
    have M6 := M5.bel strE hb6
    clear O6 I15 M5
    go_wp2_with fail
    refine (eqStringS_same a6 a1 n c6 c1 L e6 e1 _ I6 I16 HN.out (by omega)).mono ?_
    rintro e w7 ⟨rfl, hb7⟩
    have S7 := bel_step S6 hb7
    have M7 := M6.bel strE hb7
    clear I6 I16 M6
    go_wp2_with fail
    refine (heldStringS_any a2 n c2 L e2 1 _ M7 HN.out (by omega) (by decide) (by decide)).mono ?_
    rintro e w8 ⟨rfl, hb8⟩
    have S8 := bel_step S7 hb8
    clear M7
    go_wp2_with fail
    go_ret
    exact ⟨rfl, S8⟩
  · have h1' : ¬ (s.size : Int) ≤ 1048576 := by omega
    go_enter Try.func4, Try.ntmps4
    go_wp2
    go_ret
    exact ⟨rfl, Bel.refl _⟩

theorem fnExactWordsOf_own : ownKnob Try.prog.godebug = none := by kernel_rfl
theorem fnExactWordsOf_laidOut : laidOutB Try.prog = true := by kernel_rfl

set_option maxRecDepth 100000 in
theorem fnExactWordsOf_lifted (os : Os) (started : os.Started) (H : Type) (enc : TypeId × Value → H) :
    ReturnsInHanded {} Try.checked os 4 .any (Rows.fnExactWordsOfSpec.pre6 enc Try.prog Try.f4 Rows.fnExactWordsOfRow.domain false) (Rows.fnExactWordsOfSpec.post enc Try.prog Try.f4 false true false false) := by
  refine returnsInHanded_of_change (C := Try.checked) fnExactWordsOf_own started (by kernel_rfl) Try.func4
    (ChangeSpec.witness6 (enc := enc) (C := Try.checked) false ⟨#[], #[.string ⟨#[]⟩], []⟩ 8 (by kernel_rfl) (by kernel_rfl) (by kernel_rfl) (by kernel_rfl)) ?_
  intro W base args ds gs before hval0 hW hcnd _
  have hval : ∀ (j : Nat) t v, Try.f4.params[j]? = some t → args[j]? = some v → Value.okWide Try.prog W .any base t v := hval0
  have hW' := hW
  obtain ⟨p, q, hA0, hV, rfl, hfz, hnd⟩ := hW
  have hA : DataW.TrodAll enc Try.prog W 0 (fun _ => true) true Try.f4.params.toList args.toList ds p := hA0
  rw [Try.params4] at hA hval
  obtain ⟨v0, vs0, d0, ds0, p0, q0, hargs, rfl, rfl, h0, r0⟩ := trodAll_cons hA
  obtain ⟨rfl, rfl, rfl⟩ := trodAll_nil r0
  obtain rfl : args = #[v0] := by cases args; simp_all
  obtain ⟨rfl, rfl⟩ := trodVars_none hV
  have k0 := h0
  have lt0 : ∀ x ∈ p0, x.block < W.heap.size := by obtain ⟨m, hm⟩ := k0; exact DataW.trod_lt m _ _ _ hm
  obtain ⟨s0, rfl, is0⟩ := open_str (hval 0 9 v0 rfl rfl) h0
  clear hA0 hval0
  refine (lawFnExactWordsOf_any s0 W is0).mono fun e W' ⟨he, bel0⟩ => ?_
  have bel := bel0.out
  subst he
  exact ⟨_, rfl, _, _, _, [], _, [], hW', trodAll_mk1 (shut_bool Try.underlying4 _), (trodAll_cons_mk (Below.trod fnExactWordsOf_laidOut (by kernel_rfl) (of_decide_eq_true (by kernel_rfl)) k0 bel lt0) trodAll_mk0), rfl, bel.frame _, fun h => by cases h⟩

theorem fnExactWordsOf_j1 : (Rows.fnExactWordsOfRow.inPlace == Try.prog.inPlace 4) = true := by kernel_rfl
theorem fnExactWordsOf_j2 : (Rows.fnExactWordsOfRow.unfollowed == Try.prog.unfollowed 4) = true := by kernel_rfl
theorem fnExactWordsOf_j3 : (Rows.fnExactWordsOfRow.recurses == Try.prog.recurses 4) = true := by kernel_rfl
theorem fnExactWordsOf_j4 : (Rows.fnExactWordsOfRow.named == Try.prog.varsNamed 4) = true := by kernel_rfl
theorem fnExactWordsOf_closed : joinedFacts Try.prog 4 Try.f4 Rows.fnExactWordsOfSpec Rows.fnExactWordsOfRow = true := by
  unfold joinedFacts
  rw [fnExactWordsOf_j1, fnExactWordsOf_j2, fnExactWordsOf_j3, fnExactWordsOf_j4]
  kernel_rfl

theorem fnExactWordsOf_over : Rows.fnExactWordsOfRow.holds Try.pinned (OpenSpec.ofChange Rows.fnExactWordsOfSpec) :=
  OpenClaim.holds_of_wide 4 Try.f4 rfl rfl rfl rfl rfl rfl rfl ⟨rfl, rfl, rfl, rfl, rfl⟩ rfl rfl rfl rfl rfl (by kernel_rfl) Try.func4 fnExactWordsOf_closed
    (of_decide_eq_true (by kernel_rfl)) (by unfold Func.isWrapper; first | (rw [if_pos (by decide +kernel)]; kernel_rfl) | (rw [if_neg (by decide +kernel)]; exact ⟨rfl, rfl⟩))
    (fun os started H enc _ => fnExactWordsOf_lifted os started H enc)

theorem fnExactWordsOf_holds : Rows.FnExactWordsOfSaid := fnExactWordsOf_over
#print axioms fnExactWordsOf_holds
end Go.Proofs.Ytonedkibbdbgjaa
