/-
  PROVED: for every row of bytes the law FnEdits says true: the edits of two drawn words are those the other way round, 0 of a word and itself alone; one more byte changes them by at most one. No condition.
-/
import Derived.Test.YtonedkibbdbgjaaDrawE
import Derived.Test.YtonedkibbdbgjaaDrawR
import Derived.Test.YtonedkibbdbgjaaOpenB
namespace Go.Proofs.Ytonedkibbdbgjaa
open Go.ChangeShapes Go.WideShapes Go.ChangeAt Go.RowKit

def qS : ByteArray := ⟨#[113]⟩
theorem bts_q (A : ByteArray) : bts (A ++ qS) = bts A ++ [113] := by simp [bts, qS]
theorem q_size (A : ByteArray) : (A ++ qS).size = A.size + 1 := by rw [ByteArray.size_append]; rfl
theorem bts_inj {A B : ByteArray} : bts A = bts B ↔ A = B := by
  constructor
  · intro h
    have : A.data = B.data := Array.toList_inj.1 h
    cases A; cases B; simp_all
  · rintro rfl; rfl
theorem edQ_mill : edQ ⟨#[109, 105, 108, 108]⟩ ⟨#[109, 105, 108]⟩ = 1 := by
  unfold edQ
  rw [if_neg (by decide)]
  show min ((lev [109, 105, 108, 108] [109, 105, 108] : Nat) : Int) 3 = 1
  rw [lev_same, lev_same, lev_same, lev_nil']
  rfl
theorem edQ_swap (A B : ByteArray) : edQ B A = edQ A B := by
  unfold edQ
  rw [lev_swap (bts B)]
  by_cases h : 40 < A.size ∨ 40 < B.size
  · rw [if_pos h, if_pos h.symm]
  · rw [if_neg h, if_neg (fun k => h k.symm)]
theorem edQ_pos (A B : ByteArray) : 0 ≤ edQ A B ∧ edQ A B ≤ 3 := by unfold edQ; split <;> omega
theorem edQ_zero {A B : ByteArray} (hA : A.size < 40) (hB : B.size < 40) : edQ A B = 0 ↔ A = B := by
  unfold edQ
  rw [if_neg (by omega), ← bts_inj, ← lev_zero]
  omega
theorem edQ_q {A B : ByteArray} (hA : A.size < 40) (hB : B.size < 40) : edQ (A ++ qS) B ≤ edQ A B + 1 ∧ edQ A B ≤ edQ (A ++ qS) B + 1 ∧ edQ (A ++ qS) (B ++ qS) ≤ edQ A B := by
  unfold edQ
  rw [if_neg (by rw [q_size]; omega), if_neg (by omega), if_neg (by rw [q_size, q_size]; omega), bts_q, bts_q]
  have h1 := lev_more (bts A) (bts B) 113
  have h2 := lev_less (bts A) (bts B) 113
  have h3 := lev_both (bts A) (bts B) 113
  omega

set_option maxRecDepth 100000 in
set_option maxHeartbeats 4000000 in
theorem lawFnEdits_any (a : Option Addr) (n c : Nat) (w : World) (hS : Bts w a n) (_hm : n ≤ 9223372036854775807) :
    Calls Try.prog 5 #[.slice a n c] w fun e w' => e = .returned (.bool true) ∧ Bel w w' := by
  by_cases hn : n ≤ 1048576
  · have hbig : decide (1048576 < (n : Int)) = false := by simp; omega
    go_enter Try.func5, Try.ntmps5
    go_wp2_with fail
    refine (big_any _ _ _ _).mono ?_
    rintro e w1 ⟨rfl, rfl⟩
    rw [hbig]
    go_wp2_with fail
    refine (drawEdits_any _ _ _ _ hS hn).mono ?_
    rintro e w2 ⟨A, B, rfl, hA, hB, hb2⟩
    have mA : A.size ≤ maxLen := by unfold maxLen; omega
    have mB : B.size ≤ maxLen := by unfold maxLen; omega
    have HA : Hid (A.size ≤ maxLen) := mA
    have HB : Hid (B.size ≤ maxLen) := mB
    clear mA mB
    go_wp2_with fail
    refine (edits_any A B _ HA.out HB.out).mono ?_
    rintro e w3 ⟨rfl, n3, rfl⟩
    obtain ⟨d, hd⟩ : ∃ d, edQ A B = d := ⟨_, rfl⟩
    have hdb := edQ_pos A B
    rw [hd] at hdb ⊢
    go_wp2_with fail
    refine (edits_any _ _ _ (by decide) (by decide)).mono ?_
    rintro e w4 ⟨rfl, n4, rfl⟩
    rw [edQ_mill]
    have HD : Hid (edQ A B = d) := hd
    have hb4 := bel_drewN (bel_drewN hb2 n3) n4
    clear hd
    generalize (w2.drewN n3).drewN n4 = w4 at hb4 ⊢
    obtain ⟨hd0, hd3⟩ := hdb
    by_cases h1 : 40 ≤ A.size
    · have h1' : (40 : Int) ≤ (A.size : Int) := by omega
      go_wp2_with fail
      go_ret
      exact ⟨rfl, hb4⟩
    by_cases h2 : 40 ≤ B.size
    · have h1' : ¬ (40 : Int) ≤ (A.size : Int) := by omega
      have h2' : (40 : Int) ≤ (B.size : Int) := by omega
      go_wp2_with fail
      go_ret
      exact ⟨rfl, hb4⟩
    have h1' : ¬ (40 : Int) ≤ (A.size : Int) := by omega
    have h2' : ¬ (40 : Int) ≤ (B.size : Int) := by omega
    have HZ := edQ_zero (A := A) (B := B) (by omega) (by omega)
    have HQ := edQ_q (A := A) (B := B) (by omega) (by omega)
    have HW := edQ_swap A B
    have hlq : (A ++ qS).size ≤ maxLen := by rw [q_size]; unfold maxLen; omega
    have hlr : (B ++ qS).size ≤ maxLen := by rw [q_size]; unfold maxLen; omega
    obtain ⟨e1, he1⟩ : ∃ d, edQ (A ++ qS) B = d := ⟨_, rfl⟩
    obtain ⟨e2, he2⟩ : ∃ d, edQ (A ++ qS) (B ++ qS) = d := ⟨_, rfl⟩
    have hp1 := edQ_pos (A ++ qS) B
    rw [he1] at hp1
    rw [HD.out] at HZ HW
    rw [HD.out, he1, he2] at HQ
    unfold qS at he1 he2 hlq hlr
    have heq : (A.toList == B.toList) = (d == 0) := by
      have h : (A.toList == B.toList) = true ↔ (d == 0) = true := by rw [beq_iff_eq, beq_iff_eq, HZ, ← bts_inj, ByteArray.toList_eq, ByteArray.toList_eq]; rfl
      exact Bool.eq_iff_iff.2 h
    obtain ⟨g1, g2, g3⟩ := HQ
    have Hq : Hid (A.size ≤ 60 ∧ B.size ≤ 60) := ⟨hA, hB⟩
    have H1 : Hid (edQ (A ++ ⟨#[113]⟩) B = e1 ∧ edQ (A ++ ⟨#[113]⟩) (B ++ ⟨#[113]⟩) = e2 ∧ edQ B A = d ∧ (A ++ ⟨#[113]⟩).size ≤ maxLen ∧ (B ++ ⟨#[113]⟩).size ≤ maxLen) := ⟨he1, he2, HW, hlq, hlr⟩
    clear he1 he2 HW hlq hlr h1 h2 HZ hA hB
    go_wp2_with fail
    refine (edits_any _ _ _ H1.out.2.2.2.1 HB.out).mono ?_
    rintro e w5 ⟨rfl, n5, rfl⟩
    rw [H1.out.1]
    have hb5 := bel_drewN hb4 n5
    generalize w4.drewN n5 = w5 at hb5 ⊢
    go_wp2_with fail
    refine (edits_any _ _ _ HB.out HA.out).mono ?_
    rintro e w6 ⟨rfl, n6, rfl⟩
    rw [H1.out.2.2.1]
    have hb6 := bel_drewN hb5 n6
    generalize w5.drewN n6 = w6 at hb6 ⊢
    go_wp2_with fail
    refine (edits_any _ _ _ H1.out.2.2.2.1 H1.out.2.2.2.2).mono ?_
    rintro e w7 ⟨rfl, n7, rfl⟩
    rw [H1.out.2.1]
    have hb7 := bel_drewN hb6 n7
    generalize w6.drewN n7 = w7 at hb7 ⊢
    go_wp2_with fail
    go_ret
    exact ⟨rfl, hb7⟩
  · have hbig : decide (1048576 < (n : Int)) = true := by simp; omega
    go_enter Try.func5, Try.ntmps5
    go_wp2_with fail
    refine (big_any _ _ _ _).mono ?_
    rintro e w1 ⟨rfl, rfl⟩
    rw [hbig]
    go_wp2
    go_ret
    exact ⟨rfl, Bel.refl _⟩

theorem fnEdits_own : ownKnob Try.prog.godebug = none := by kernel_rfl
theorem fnEdits_laidOut : laidOutB Try.prog = true := by kernel_rfl

set_option maxRecDepth 100000 in
theorem fnEdits_lifted (os : Os) (started : os.Started) (H : Type) (enc : TypeId × Value → H) :
    ReturnsInHanded {} Try.checked os 5 .any (Rows.fnEditsSpec.pre6 enc Try.prog Try.f5 Rows.fnEditsRow.domain false) (Rows.fnEditsSpec.post enc Try.prog Try.f5 false true false false) := by
  refine returnsInHanded_of_change (C := Try.checked) fnEdits_own started (by kernel_rfl) Try.func5
    (ChangeSpec.witness6 (enc := enc) (C := Try.checked) false ⟨#[], #[.slice none 0 0], []⟩ 8 (by kernel_rfl) (by kernel_rfl) (by kernel_rfl) (by kernel_rfl)) ?_
  intro W base args ds gs before hval0 hW hcnd _
  have hval : ∀ (j : Nat) t v, Try.f5.params[j]? = some t → args[j]? = some v → Value.okWide Try.prog W .any base t v := hval0
  have hW' := hW
  obtain ⟨p, q, hA0, hV, rfl, hfz, hnd⟩ := hW
  have hA : DataW.TrodAll enc Try.prog W 0 (fun _ => true) true Try.f5.params.toList args.toList ds p := hA0
  rw [Try.params5] at hA hval
  obtain ⟨v0, vs0, d0, ds0, p0, q0, hargs, rfl, rfl, h0, r0⟩ := trodAll_cons hA
  obtain ⟨rfl, rfl, rfl⟩ := trodAll_nil r0
  obtain rfl : args = #[v0] := by cases args; simp_all
  obtain ⟨rfl, rfl⟩ := trodVars_none hV
  have k0 := h0
  have lt0 : ∀ x ∈ p0, x.block < W.heap.size := by obtain ⟨m, hm⟩ := k0; exact DataW.trod_lt m _ _ _ hm
  obtain ⟨a0, n0, c0, rfl, ip0, im0⟩ := open_bytes (hval 0 29 v0 rfl rfl) h0
  clear hA0 hval0
  refine (lawFnEdits_any a0 n0 c0 W ip0 im0).mono fun e W' ⟨he, bel0⟩ => ?_
  have bel := bel0.out
  subst he
  exact ⟨_, rfl, _, _, _, [], _, [], hW', trodAll_mk1 (shut_bool Try.underlying4 _), (trodAll_cons_mk (Below.trod fnEdits_laidOut (by kernel_rfl) (of_decide_eq_true (by kernel_rfl)) k0 bel lt0) trodAll_mk0), rfl, bel.frame _, fun h => by cases h⟩

theorem fnEdits_j1 : (Rows.fnEditsRow.inPlace == Try.prog.inPlace 5) = true := by kernel_rfl
theorem fnEdits_j2 : (Rows.fnEditsRow.unfollowed == Try.prog.unfollowed 5) = true := by kernel_rfl
theorem fnEdits_j3 : (Rows.fnEditsRow.recurses == Try.prog.recurses 5) = true := by kernel_rfl
theorem fnEdits_j4 : (Rows.fnEditsRow.named == Try.prog.varsNamed 5) = true := by kernel_rfl
theorem fnEdits_closed : joinedFacts Try.prog 5 Try.f5 Rows.fnEditsSpec Rows.fnEditsRow = true := by
  unfold joinedFacts
  rw [fnEdits_j1, fnEdits_j2, fnEdits_j3, fnEdits_j4]
  kernel_rfl

theorem fnEdits_over : Rows.fnEditsRow.holds Try.pinned (OpenSpec.ofChange Rows.fnEditsSpec) :=
  OpenClaim.holds_of_wide 5 Try.f5 rfl rfl rfl rfl rfl rfl rfl ⟨rfl, rfl, rfl, rfl, rfl⟩ rfl rfl rfl rfl rfl (by kernel_rfl) Try.func5 fnEdits_closed
    (of_decide_eq_true (by kernel_rfl)) (by unfold Func.isWrapper; first | (rw [if_pos (by decide +kernel)]; kernel_rfl) | (rw [if_neg (by decide +kernel)]; exact ⟨rfl, rfl⟩))
    (fun os started H enc _ => fnEdits_lifted os started H enc)

theorem fnEdits_holds : Rows.FnEditsSaid := fnEdits_over
#print axioms fnEdits_holds
end Go.Proofs.Ytonedkibbdbgjaa
