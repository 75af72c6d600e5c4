/-
  The walk of the law of Paint.
-/
import Derived.Test.YtbebgfhblalghaaPntS
import Derived.Test.YtbebgfhblalghaaStyO
import Derived.Test.YtbebgfhblalghaaDRule
import Derived.Test.YtbebgfhblalghaaDTag
import Derived.Test.YtbebgfhblalghaaMarkV
namespace Go.Proofs.Ytbebgfhblalghaa
open Go.ChangeShapes Go.WideShapes Go.ChangeAt Go.RowKit Go.Joins

theorem len_tgSz (l : List TagD) : l.length ≤ tagsSz l := by unfold tagsSz; omega
theorem len_rlSz (l : List RuleD) : l.length ≤ rulesSz l := by unfold rulesSz; omega
theorem at_rlSz {l : List RuleD} {i : Nat} (h : i < l.length) : l[i].tests.length ≤ rulesSz l := by
  have h1 := sumTo_succ ruleSz h
  have h2 := sumTo_le ruleSz (l := l) (k := i + 1) (n := l.length) (by omega) rfl
  have h3 : l[i].tests.length ≤ ruleSz l[i] := by unfold ruleSz testsSz; omega
  unfold rulesSz
  omega
theorem Blk.onl {w w' : World} {B : Nat} {vs : List Value} {bs : List Nat} (h : Blk w B vs) (O : Onl bs w w') (hn : B ∉ bs) : Blk w' B vs := by
  have := O.alike (cs := [B]) (fun x hx => by simp at hx; subst hx; exact h.lt) (fun x hx => by simp at hx; subst hx; exact hn) B (by simp)
  exact ⟨this.1, fun j hj => (this.2.1 j).trans (h.cell j hj), fun j => (this.2.2 j).trans (h.free j)⟩

theorem markRule_any (D : RuleD) (a : Option Addr) (m c : Nat) (bs : List Nat) (w : World) (hT : Tests w a D.tests bs) (hf : ∀ x ∈ bs, ∀ j, w.frozen? ⟨x, j, none⟩ = false) (hn : D.tests.length = m) (hm : m ≤ 1048576) :
    Calls Try.prog 57 #[rulV D a m c, .int .i64 1] w fun e w' => e = .returned (.int .i64 ((1 + 3 * m : Nat) : Int)) ∧ Tests w' a (mkTests 1 D.tests) bs ∧ Onl bs w w' := by
  have hb : Bel w (w.alloc (.cells #[.int .i64 D.low, .int .i64 D.high, .slice a m c, .bool D.hide, .string D.col, .int .i64 D.wd, .int .i64 D.lay] 68)) := bel_alloc (Bel.refl _) _
  go_enter Try.func57, Try.ntmps57
  go_wp2_with fail
  refine (markTestS_any _ _ _ D.tests bs 1 _ (hT.bel testE hb) (fun x hx j => by rw [hb.out.frozen (p := ⟨x, j, none⟩) (hT.lt testE x hx)]; exact hf x hx j) hn hm (by decide) (by decide)).mono ?_
  rintro e w1 ⟨rfl, T1, _, O1⟩
  have hO : Onl bs w w1 := ((Onl.refl bs w).bel hb).trans O1
  go_wp2
  go_ret
  exact ⟨rfl, T1, hO⟩
theorem heldRule_any (D : RuleD) (a : Option Addr) (m c : Nat) (bs : List Nat) (w : World) (hT : Tests w a (mkTests 1 D.tests) bs) (hn : D.tests.length = m) (hm : m ≤ 1048576) :
    Calls Try.prog 58 #[rulV D a m c, .int .i64 1] w fun e w' => e = .returned (.int .i64 ((1 + 3 * m : Nat) : Int)) ∧ Bel w w' := by
  have hb : Bel w (w.alloc (.cells #[.int .i64 D.low, .int .i64 D.high, .slice a m c, .bool D.hide, .string D.col, .int .i64 D.wd, .int .i64 D.lay] 68)) := bel_alloc (Bel.refl _) _
  have hk : ¬ ((1 + 3 * m : Nat) : Int) < 0 := by omega
  go_enter Try.func58, Try.ntmps58
  go_wp2_with fail
  refine (heldTestS_any _ _ _ D.tests bs 1 _ (hT.bel testE hb) hn hm (by decide) (by decide)).mono ?_
  rintro e w1 ⟨rfl, hb1⟩
  go_wp2
  go_ret
  exact ⟨rfl, bel_step hb hb1⟩

set_option maxRecDepth 100000 in
set_option maxHeartbeats 8000000 in
theorem lawFnExactPaint_any (a : Option Addr) (c : Nat) (rs : List RuleD) (bs : List Nat) (at_ : Option Addr) (ct : Nat) (l : List TagD) (bt : List Nat) (z : Int) (w : World) (hR : Rules w a rs bs) (hRm : rs.length ≤ maxLen) (hT : Tags w at_ l bt) (hTm : l.length ≤ maxLen) (_wz : (Lit.int .i64 z).wf = true) :
    Calls Try.prog 10 #[.slice a rs.length c, .slice at_ l.length ct, .int .i64 z] w fun e w' => e = .returned (.bool true) ∧ Bel w w' := by
  obtain ⟨n, hn⟩ : ∃ n, rs.length = n := ⟨_, rfl⟩
  obtain ⟨nt, hnt⟩ : ∃ n, l.length = n := ⟨_, rfl⟩
  rw [hn] at hRm ⊢
  rw [hnt] at hTm ⊢
  have hM : n ≤ 9223372036854775807 := by unfold maxLen at hRm; omega
  have hMt : nt ≤ 9223372036854775807 := by unfold maxLen at hTm; omega
  have Hn : Hid (rs.length = n) := hn
  have Hnt : Hid (l.length = nt) := hnt
  have hz1 := len_rlSz rs
  have hz2 := len_tgSz l
  rw [hn] at hz1
  rw [hnt] at hz2
  clear hn hnt
  obtain ⟨r0, H0⟩ : ∃ r, Hid (szR 1048576 (rulesSz rs) = r) := ⟨_, (rfl : szR 1048576 (rulesSz rs) = _)⟩
  have b0 : r0 ≤ 1048576 := by rw [← H0.out]; exact (szR_bd (by decide)).1
  obtain ⟨r1, H1⟩ : ∃ r, Hid (szR r0 (tagsSz l) = r) := ⟨_, (rfl : szR r0 (tagsSz l) = _)⟩
  by_cases p0 : 0 ≤ r0
  · have hrz : rulesSz rs ≤ 1048576 := by
      rcases Nat.lt_or_ge 1048576 (rulesSz rs) with h | h
      · have := H0.out; rw [szR_neg (by omega)] at this; omega
      · exact h
    have hn' : n ≤ 1048576 := by omega
    by_cases p1 : 0 ≤ r1
    · have hnt' : nt ≤ 1048576 := by
        rcases Nat.lt_or_ge 1048576 nt with h | h
        · have := H1.out; rw [szR_neg (by omega)] at this; omega
        · exact h
      have HS : Hid (∀ i (h : i < rs.length), rs[i].tests.length ≤ 1048576) := fun i h => Nat.le_trans (at_rlSz h) hrz
      obtain ⟨D, HD⟩ : ∃ D, Hid (pntR rs l z = D) := ⟨_, (rfl : pntR rs l z = _)⟩
      obtain ⟨q, Hq⟩ : ∃ q, Hid (pntB rs l z = q) := ⟨_, (rfl : pntB rs l z = _)⟩
      have hDm : D.tests.length ≤ 1048576 := by
        rw [← HD.out]
        rcases hp : pntQ rs l z with _ | i
        · rw [(pntR_none hp).1]; decide
        · by_cases hi : i < rs.length
          · rw [(pntR_some hi hp).1]; exact HS.out i hi
          · unfold pntR; rw [hp]; simp [hi, rulZ]
      obtain ⟨m, Hm⟩ : ∃ m, Hid (D.tests.length = m) := ⟨_, (rfl : D.tests.length = _)⟩
      rw [Hm.out] at hDm
      have cS := fun (d : Option Addr) (cc : Nat) (cs : List Nat) (d' : Option Addr) (cc' : Nat) (cs' : List Nat) (V : World) (h : Rules V d rs cs) (h' : Tags V d' l cs') => specPaint_any d n cc rs cs d' nt cc' l cs' z V h Hn.out hn' HS.out h' Hnt.out hnt'
      have cI := fun (d : Option Addr) (cc : Nat) (cs : List Nat) (d' : Option Addr) (cc' : Nat) (cs' : List Nat) (V : World) (h : Rules V d rs cs) (h' : Tags V d' l cs') => paint_any d n cc rs cs d' nt cc' l cs' z V h Hn.out hn' HS.out h' Hnt.out hnt'
      rw [HD.out, Hq.out] at cS cI
      unfold PaintTail at cS cI
      rw [Hm.out] at cS cI
      clear hz1 hz2 hrz
      go_enter Try.func10, Try.ntmps10
      go_wp2_with fail
      refine (szRuleS_any _ _ _ rs bs _ _ hR Hn.out hM (by decide) (by decide)).mono ?_
      rintro e w1 ⟨rfl, hb1⟩
      rw [H0.out]
      go_wp2_with fail
      refine (szTagS_any _ _ _ l bt _ _ (hT.bel tagE hb1) Hnt.out hMt p0 b0).mono ?_
      rintro e w2 ⟨rfl, hb2⟩
      rw [H1.out]
      have S2 := bel_step hb1 hb2
      go_wp2_with fail
      refine (toRuleS_any _ _ _ rs bs _ (hR.bel ruleE S2) Hn.out hn' HS.out).mono ?_
      rintro e w3a ⟨Ba, da, rfl, Ua, _, hba⟩
      have S3a := bel_step S2 hba
      go_wp2_with fail
      refine (toTagS_any _ _ _ l bt _ (hT.bel tagE S3a) Hnt.out hnt').mono ?_
      rintro e w3b ⟨Bb, db, rfl, Ub, _, hbb⟩
      have S3b := bel_step S3a hbb
      go_wp2_with fail
      refine (cS _ _ _ _ _ _ _ (Ua.bel ruleE hbb) Ub).mono ?_
      rintro e w3 ⟨a3, k3, e3, rfl, T3, F3, hb3⟩
      have S3 := bel_step S3b hb3
      clear Ua Ub hb1 hb2 hba hbb
      obtain ⟨V3, HV3⟩ : ∃ V, Hid (V = w3.alloc (.cells #[.int .i64 D.low, .int .i64 D.high, .slice a3 m k3, .bool D.hide, .string D.col, .int .i64 D.wd, .int .i64 D.lay] 68)) := ⟨_, (rfl : w3.alloc (.cells #[.int .i64 D.low, .int .i64 D.high, .slice a3 m k3, .bool D.hide, .string D.col, .int .i64 D.wd, .int .i64 D.lay] 68) = _)⟩
      have v3 : Bel w3 V3 := by rw [HV3.out]; exact bel_alloc (Bel.refl _) _
      have s3 : w3.heap.size < V3.heap.size := by rw [HV3.out]; simp
      have X3 : Blk V3 w3.heap.size [.int .i64 D.low, .int .i64 D.high, .slice a3 m k3, .bool D.hide, .string D.col, .int .i64 D.wd, .int .i64 D.lay] := by rw [HV3.out]; exact Blk.new w3 [.int .i64 D.low, .int .i64 D.high, .slice a3 m k3, .bool D.hide, .string D.col, .int .i64 D.wd, .int .i64 D.lay] _
      have SV3 := bel_step S3 v3
      have T3v := T3.bel testE v3
      have l3 := T3.lt testE
      go_wp2_with fail
      rw [← HV3.out]
      refine (toRuleS_any _ _ _ rs bs _ (hR.bel ruleE SV3) Hn.out hn' HS.out).mono ?_
      rintro e w4 ⟨B4, d4, rfl, U4, F4, hb4⟩
      have S4 := bel_step SV3 hb4
      go_wp2_with fail
      refine (toTagS_any _ _ _ l bt _ (hT.bel tagE S4) Hnt.out hnt').mono ?_
      rintro e w5 ⟨B5, d5, rfl, U5, F5, hb5⟩
      have S5 := bel_step S4 hb5
      have U45 := U4.bel ruleE hb5
      go_wp2_with fail
      refine (cI _ _ _ _ _ _ _ U45 U5).mono ?_
      rintro e w6 ⟨a6, k6, e6, rfl, T6, F6, hb6⟩
      have S6 := bel_step S5 hb6
      obtain ⟨V6, HV6⟩ : ∃ V, Hid (V = w6.alloc (.cells #[.int .i64 D.low, .int .i64 D.high, .slice a6 m k6, .bool D.hide, .string D.col, .int .i64 D.wd, .int .i64 D.lay] 68)) := ⟨_, (rfl : w6.alloc (.cells #[.int .i64 D.low, .int .i64 D.high, .slice a6 m k6, .bool D.hide, .string D.col, .int .i64 D.wd, .int .i64 D.lay] 68) = _)⟩
      have v6 : Bel w6 V6 := by rw [HV6.out]; exact bel_alloc (Bel.refl _) _
      have s6 : w6.heap.size < V6.heap.size := by rw [HV6.out]; simp
      have X6 : Blk V6 w6.heap.size [.int .i64 D.low, .int .i64 D.high, .slice a6 m k6, .bool D.hide, .string D.col, .int .i64 D.wd, .int .i64 D.lay] := by rw [HV6.out]; exact Blk.new w6 [.int .i64 D.low, .int .i64 D.high, .slice a6 m k6, .bool D.hide, .string D.col, .int .i64 D.wd, .int .i64 D.lay] _
      have SV6 := bel_step S6 v6
      have B46 : Bel V3 V6 := bel_step hb4 (bel_step hb5 (bel_step hb6 v6))
      have X36 := X3.bel B46
      have X3w := X3.bel (bel_step hb4 (bel_step hb5 hb6))
      have T36 := T3v.bel testE B46
      have T66 := T6.bel testE v6
      have U46 := U45.bel ruleE (bel_step hb6 v6)
      have U56 := U5.bel tagE (bel_step hb6 v6)
      have z4 : V3.heap.size ≤ w4.heap.size := hb4.out.size
      have z5 : w4.heap.size ≤ w5.heap.size := hb5.out.size
      have z6 : w5.heap.size ≤ w6.heap.size := hb6.out.size
      have HF4 : Hid (∀ x ∈ d4, V3.heap.size ≤ x ∧ x < w4.heap.size) := F4.new
      have HF5 : Hid (∀ x ∈ d5, w4.heap.size ≤ x ∧ x < w5.heap.size) := F5.new
      have HF6 : Hid (∀ x ∈ e6, w5.heap.size ≤ x ∧ x < w6.heap.size) := F6.new
      have L3 : Hid (∀ x ∈ e3, x < w3.heap.size) := l3
      have R4 : Hid (∀ x ∈ d4, ∀ j, V6.frozen? ⟨x, j, none⟩ = false) := (((F4.bel hb5).bel hb6).bel v6).free
      have R5 : Hid (∀ x ∈ d5, ∀ j, V6.frozen? ⟨x, j, none⟩ = false) := ((F5.bel hb6).bel v6).free
      have R6 : Hid (∀ x ∈ e6, ∀ j, V6.frozen? ⟨x, j, none⟩ = false) := (F6.bel v6).free
      have ND4 : Hid d4.Nodup := F4.nd
      have HS0 : Hid (w.heap.size ≤ w3.heap.size) := S3.out.size
      have x360 : w6.cell? ⟨w3.heap.size, 0, none⟩ = some (.int .i64 D.low) := X3w.cell 0 (by simp)
      have x361 : w6.cell? ⟨w3.heap.size, 1, none⟩ = some (.int .i64 D.high) := X3w.cell 1 (by simp)
      have x362 : w6.cell? ⟨w3.heap.size, 2, none⟩ = some (.slice a3 m k3) := X3w.cell 2 (by simp)
      have x363 : w6.cell? ⟨w3.heap.size, 3, none⟩ = some (.bool D.hide) := X3w.cell 3 (by simp)
      have x364 : w6.cell? ⟨w3.heap.size, 4, none⟩ = some (.string D.col) := X3w.cell 4 (by simp)
      have x365 : w6.cell? ⟨w3.heap.size, 5, none⟩ = some (.int .i64 D.wd) := X3w.cell 5 (by simp)
      have x366 : w6.cell? ⟨w3.heap.size, 6, none⟩ = some (.int .i64 D.lay) := X3w.cell 6 (by simp)
      have xl3 := X3w.lt
      clear F3 F4 F5 F6 U4 U5 U45 T3 T3v T6 X3 hb4 hb5 hb6 v3 l3 X3w
      go_wp2_with fail
      rw [← HV6.out]
      refine (eqRule_same _ _ _ _ _ D.tests e6 _ _ _ _ _ _ e3 _ T66 Hm.out T36 hDm).mono ?_
      rintro e w7 ⟨rfl, hb7⟩
      have S7 := bel_step SV6 hb7
      clear x360 x361 x362 x363 x364 x365 x366 xl3
      have hqq : (q != q) = false := by cases q <;> rfl
      go_wp2_with fail
      refine (toRuleS_any _ _ _ rs bs _ (hR.bel ruleE S7) Hn.out hn' HS.out).mono ?_
      rintro e w8 ⟨B8, d8, rfl, U8, _, hb8⟩
      have S8 := bel_step S7 hb8
      have h68 := bel_step hb7 hb8
      go_wp2_with fail
      refine (eqRuleS_same _ _ _ _ _ rs d4 d8 _ (U46.bel ruleE h68) U8 Hn.out hn' HS.out).mono ?_
      rintro e w9 ⟨rfl, hb9⟩
      have S9 := bel_step S8 hb9
      have h69 := bel_step h68 hb9
      clear U8
      go_wp2_with fail
      refine (toTagS_any _ _ _ l bt _ (hT.bel tagE S9) Hnt.out hnt').mono ?_
      rintro e w10 ⟨B10, d10, rfl, U10, _, hb10⟩
      have S10 := bel_step S9 hb10
      have h610 := bel_step h69 hb10
      go_wp2_with fail
      refine (eqTagS_same _ _ _ _ _ l d5 d10 _ (U56.bel tagE h610) U10 Hnt.out hnt').mono ?_
      rintro e w11 ⟨rfl, hb11⟩
      have S11 := bel_step S10 hb11
      have h611 : Bel V6 w11 := bel_step h610 hb11
      have X11 := X36.bel h611
      have Y11 := X6.bel h611
      have T311 := T36.bel testE h611
      have T611 := T66.bel testE h611
      have U411 := U46.bel ruleE h611
      have U511 := U56.bel tagE h611
      have R411 : ∀ x ∈ d4, ∀ j, w11.frozen? ⟨x, j, none⟩ = false := fun x hx j => by rw [h611.out.frozen (p := ⟨x, j, none⟩) (by show x < V6.heap.size; have := (HF4.out x hx).2; omega)]; exact R4.out x hx j
      have R511 : ∀ x ∈ d5, ∀ j, w11.frozen? ⟨x, j, none⟩ = false := fun x hx j => by rw [h611.out.frozen (p := ⟨x, j, none⟩) (by show x < V6.heap.size; have := (HF5.out x hx).2; omega)]; exact R5.out x hx j
      have R611 : ∀ x ∈ e6, ∀ j, w11.frozen? ⟨x, j, none⟩ = false := fun x hx j => by rw [h611.out.frozen (p := ⟨x, j, none⟩) (by show x < V6.heap.size; have := (HF6.out x hx).2; omega)]; exact R6.out x hx j
      clear U10 X36 X6 T36 T66 U46 U56 hb7 hb8 hb9 hb10 hb11 h68 h69 h610
      go_wp2_with fail
      refine (markRuleS_any _ _ _ rs d4 1 _ U411 R411 ND4.out Hn.out hn' HS.out (by decide) (by decide)).mono ?_
      rintro e w12 ⟨km, rfl, hk0, hk1, O12⟩
      have N3 : w3.heap.size ∉ d4 := fun h => by have := (HF4.out _ h).1; omega
      have N6 : w6.heap.size ∉ d4 := fun h => by have := (HF4.out _ h).2; omega
      have X12 := X11.onl O12 N3
      have Y12 := Y11.onl O12 N6
      have T312 := T311.alike testE (O12.alike (T311.lt testE) (fun x hx hy => by have := L3.out x hx; have := (HF4.out x hy).1; omega))
      have T612 := T611.alike testE (O12.alike (T611.lt testE) (fun x hx hy => by have := (HF6.out x hx).1; have := (HF4.out x hy).2; omega))
      have A5 := O12.alike (cs := d5) (U511.lt tagE) (fun x hx hy => by have := (HF5.out x hx).1; have := (HF4.out x hy).2; omega)
      have U512 := U511.alike tagE A5
      have R512 : ∀ x ∈ d5, ∀ j, w12.frozen? ⟨x, j, none⟩ = false := fun x hx j => by rw [(A5 x hx).2.2 j]; exact R511 x hx j
      have A6 := O12.alike (cs := e6) (T611.lt testE) (fun x hx hy => by have := (HF6.out x hx).1; have := (HF4.out x hy).2; omega)
      have R612 : ∀ x ∈ e6, ∀ j, w12.frozen? ⟨x, j, none⟩ = false := fun x hx j => by rw [(A6 x hx).2.2 j]; exact R611 x hx j
      have S12 : Bel w w12 := Onl.to_bel S11 O12 (fun x hx => by have := (HF4.out x hx).1; have := HS0.out; omega)
      have hk2 : km ≤ 1125899906842624 := by omega
      clear X11 Y11 T311 T611 U411 U511 R411 R511 R611 O12 A5 A6
      go_wp2_with fail
      refine (markTagS_any _ _ _ l d5 km _ U512 R512 Hnt.out hnt' hk0 hk2).mono ?_
      rintro e w13 ⟨rfl, _, _, O13⟩
      have N3' : w3.heap.size ∉ d5 := fun h => by have := (HF5.out _ h).1; omega
      have N6' : w6.heap.size ∉ d5 := fun h => by have := (HF5.out _ h).2; omega
      have X13 := X12.onl O13 N3'
      have Y13 := Y12.onl O13 N6'
      have T313 := T312.alike testE (O13.alike (T312.lt testE) (fun x hx hy => by have := L3.out x hx; have := (HF5.out x hy).1; omega))
      have A6 := O13.alike (cs := e6) (T612.lt testE) (fun x hx hy => by have := (HF6.out x hx).1; have := (HF5.out x hy).2; omega)
      have T613 := T612.alike testE A6
      have R613 : ∀ x ∈ e6, ∀ j, w13.frozen? ⟨x, j, none⟩ = false := fun x hx j => by rw [(A6 x hx).2.2 j]; exact R612 x hx j
      have S13 : Bel w w13 := Onl.to_bel S12 O13 (fun x hx => by have := (HF5.out x hx).1; have := HS0.out; omega)
      have hkk : ¬ ((km + 2 * nt : Nat) : Int) < 0 := by omega
      have x130 : w13.cell? ⟨w3.heap.size, 0, none⟩ = some (.int .i64 D.low) := X13.cell 0 (by simp)
      have x131 : w13.cell? ⟨w3.heap.size, 1, none⟩ = some (.int .i64 D.high) := X13.cell 1 (by simp)
      have x132 : w13.cell? ⟨w3.heap.size, 2, none⟩ = some (.slice a3 m k3) := X13.cell 2 (by simp)
      have x133 : w13.cell? ⟨w3.heap.size, 3, none⟩ = some (.bool D.hide) := X13.cell 3 (by simp)
      have x134 : w13.cell? ⟨w3.heap.size, 4, none⟩ = some (.string D.col) := X13.cell 4 (by simp)
      have x135 : w13.cell? ⟨w3.heap.size, 5, none⟩ = some (.int .i64 D.wd) := X13.cell 5 (by simp)
      have x136 : w13.cell? ⟨w3.heap.size, 6, none⟩ = some (.int .i64 D.lay) := X13.cell 6 (by simp)
      have y130 : w13.cell? ⟨w6.heap.size, 0, none⟩ = some (.int .i64 D.low) := Y13.cell 0 (by simp)
      have y131 : w13.cell? ⟨w6.heap.size, 1, none⟩ = some (.int .i64 D.high) := Y13.cell 1 (by simp)
      have y132 : w13.cell? ⟨w6.heap.size, 2, none⟩ = some (.slice a6 m k6) := Y13.cell 2 (by simp)
      have y133 : w13.cell? ⟨w6.heap.size, 3, none⟩ = some (.bool D.hide) := Y13.cell 3 (by simp)
      have y134 : w13.cell? ⟨w6.heap.size, 4, none⟩ = some (.string D.col) := Y13.cell 4 (by simp)
      have y135 : w13.cell? ⟨w6.heap.size, 5, none⟩ = some (.int .i64 D.wd) := Y13.cell 5 (by simp)
      have y136 : w13.cell? ⟨w6.heap.size, 6, none⟩ = some (.int .i64 D.lay) := Y13.cell 6 (by simp)
      have xl3 := X13.lt
      have xl6 := Y13.lt
      clear X12 Y12 T312 T612 U512 R512 R612 O13 A6 hk0 hk1 hk2
      obtain ⟨kv, Hkv⟩ : ∃ kv : Int, Hid (((km + 2 * nt : Nat) : Int) = kv) := ⟨_, (rfl : ((km + 2 * nt : Nat) : Int) = _)⟩
      rw [Hkv.out] at hkk ⊢
      go_wp2_with fail
      refine (eqRule_same _ _ _ _ _ D.tests e6 _ _ _ _ _ _ e3 _ T613 Hm.out T313 hDm).mono ?_
      rintro e w14 ⟨rfl, hb14⟩
      have S14 := bel_step S13 hb14
      have X14 := X13.bel hb14
      have Y14 := Y13.bel hb14
      have T314 := T313.bel testE hb14
      have T614 := T613.bel testE hb14
      have R614 : ∀ x ∈ e6, ∀ j, w14.frozen? ⟨x, j, none⟩ = false := fun x hx j => by rw [hb14.out.frozen (p := ⟨x, j, none⟩) (T613.lt testE x hx)]; exact R613 x hx j
      clear x130 x131 x132 x133 x134 x135 x136 y130 y131 y132 y133 y134 y135 y136 xl3 xl6
      have y140 : w14.cell? ⟨w6.heap.size, 0, none⟩ = some (.int .i64 D.low) := Y14.cell 0 (by simp)
      have y141 : w14.cell? ⟨w6.heap.size, 1, none⟩ = some (.int .i64 D.high) := Y14.cell 1 (by simp)
      have y142 : w14.cell? ⟨w6.heap.size, 2, none⟩ = some (.slice a6 m k6) := Y14.cell 2 (by simp)
      have y143 : w14.cell? ⟨w6.heap.size, 3, none⟩ = some (.bool D.hide) := Y14.cell 3 (by simp)
      have y144 : w14.cell? ⟨w6.heap.size, 4, none⟩ = some (.string D.col) := Y14.cell 4 (by simp)
      have y145 : w14.cell? ⟨w6.heap.size, 5, none⟩ = some (.int .i64 D.wd) := Y14.cell 5 (by simp)
      have y146 : w14.cell? ⟨w6.heap.size, 6, none⟩ = some (.int .i64 D.lay) := Y14.cell 6 (by simp)
      have yl14 := Y14.lt
      clear X13 Y13 T313 T613 R613 hb14
      go_wp2_with fail
      refine (markRule_any D _ _ _ e6 _ T614 R614 Hm.out hDm).mono ?_
      rintro e w15 ⟨rfl, M15, O15⟩
      have N3'' : w3.heap.size ∉ e6 := fun h => by have := (HF6.out _ h).1; omega
      have N6'' : w6.heap.size ∉ e6 := fun h => by have := (HF6.out _ h).2; omega
      have X15 := X14.onl O15 N3''
      have Y15 := Y14.onl O15 N6''
      have T315 := T314.alike testE (O15.alike (T314.lt testE) (fun x hx hy => by have := L3.out x hx; have := (HF6.out x hy).1; omega))
      have S15 : Bel w w15 := Onl.to_bel S14 O15 (fun x hx => by have := (HF6.out x hx).1; have := HS0.out; omega)
      clear y140 y141 y142 y143 y144 y145 y146 yl14
      have y150 : w15.cell? ⟨w6.heap.size, 0, none⟩ = some (.int .i64 D.low) := Y15.cell 0 (by simp)
      have y151 : w15.cell? ⟨w6.heap.size, 1, none⟩ = some (.int .i64 D.high) := Y15.cell 1 (by simp)
      have y152 : w15.cell? ⟨w6.heap.size, 2, none⟩ = some (.slice a6 m k6) := Y15.cell 2 (by simp)
      have y153 : w15.cell? ⟨w6.heap.size, 3, none⟩ = some (.bool D.hide) := Y15.cell 3 (by simp)
      have y154 : w15.cell? ⟨w6.heap.size, 4, none⟩ = some (.string D.col) := Y15.cell 4 (by simp)
      have y155 : w15.cell? ⟨w6.heap.size, 5, none⟩ = some (.int .i64 D.wd) := Y15.cell 5 (by simp)
      have y156 : w15.cell? ⟨w6.heap.size, 6, none⟩ = some (.int .i64 D.lay) := Y15.cell 6 (by simp)
      have yl15 := Y15.lt
      have hk1 : ¬ ((1 + 3 * m : Nat) : Int) < 0 := by omega
      obtain ⟨mv, Hmv⟩ : ∃ mv : Int, Hid (((1 + 3 * m : Nat) : Int) = mv) := ⟨_, (rfl : ((1 + 3 * m : Nat) : Int) = _)⟩
      have cH := fun (cc : Nat) (V : World) (h : Tests V a6 (mkTests 1 D.tests) e6) => heldRule_any D a6 m cc e6 V h Hm.out hDm
      rw [Hmv.out] at hk1 cH ⊢
      clear X14 Y14 T314 T614 R614 O15
      go_wp2_with fail
      refine (cH _ _ M15).mono ?_
      rintro e w16 ⟨rfl, hb16⟩
      have S16 := bel_step S15 hb16
      have X16 := X15.bel hb16
      have Y16 := Y15.bel hb16
      have T316 := T315.bel testE hb16
      have M16 := M15.bel testE hb16
      clear y150 y151 y152 y153 y154 y155 y156 yl15 X15 Y15 T315 M15 hb16
      go_wp2_with fail
      refine (toRuleS_any _ _ _ rs bs _ (hR.bel ruleE S16) Hn.out hn' HS.out).mono ?_
      rintro e w17a ⟨Bc, dc, rfl, Uc, _, hbc⟩
      have S17a := bel_step S16 hbc
      go_wp2_with fail
      refine (toTagS_any _ _ _ l bt _ (hT.bel tagE S17a) Hnt.out hnt').mono ?_
      rintro e w17b ⟨Bd, dd, rfl, Ud, _, hbd⟩
      have S17b := bel_step S17a hbd
      go_wp2_with fail
      refine (cI _ _ _ _ _ _ _ (Uc.bel ruleE hbd) Ud).mono ?_
      rintro e w17 ⟨a17, k17, e17, rfl, T17, _, hb17⟩
      have S17 := bel_step S17b hb17
      obtain ⟨V17, HV17⟩ : ∃ V, Hid (V = w17.alloc (.cells #[.int .i64 D.low, .int .i64 D.high, .slice a17 m k17, .bool D.hide, .string D.col, .int .i64 D.wd, .int .i64 D.lay] 68)) := ⟨_, (rfl : w17.alloc (.cells #[.int .i64 D.low, .int .i64 D.high, .slice a17 m k17, .bool D.hide, .string D.col, .int .i64 D.wd, .int .i64 D.lay] 68) = _)⟩
      have v17 : Bel w17 V17 := by rw [HV17.out]; exact bel_alloc (Bel.refl _) _
      have h17 : Bel w16 V17 := bel_step hbc (bel_step hbd (bel_step hb17 v17))
      have SV17 := bel_step S17 v17
      have X17w := X16.bel (bel_step hbc (bel_step hbd hb17))
      have Y167 := Y16.bel h17
      have T3167 := T316.bel testE h17
      have M167 := M16.bel testE h17
      have T17v := T17.bel testE v17
      have x1670 : w17.cell? ⟨w3.heap.size, 0, none⟩ = some (.int .i64 D.low) := X17w.cell 0 (by simp)
      have x1671 : w17.cell? ⟨w3.heap.size, 1, none⟩ = some (.int .i64 D.high) := X17w.cell 1 (by simp)
      have x1672 : w17.cell? ⟨w3.heap.size, 2, none⟩ = some (.slice a3 m k3) := X17w.cell 2 (by simp)
      have x1673 : w17.cell? ⟨w3.heap.size, 3, none⟩ = some (.bool D.hide) := X17w.cell 3 (by simp)
      have x1674 : w17.cell? ⟨w3.heap.size, 4, none⟩ = some (.string D.col) := X17w.cell 4 (by simp)
      have x1675 : w17.cell? ⟨w3.heap.size, 5, none⟩ = some (.int .i64 D.wd) := X17w.cell 5 (by simp)
      have x1676 : w17.cell? ⟨w3.heap.size, 6, none⟩ = some (.int .i64 D.lay) := X17w.cell 6 (by simp)
      have xl167 := X17w.lt
      clear Uc Ud T17 T316 M16 X16 Y16 hbc hbd hb17 v17 X17w
      go_wp2_with fail
      rw [← HV17.out]
      refine (eqRule_same _ _ _ _ _ D.tests e17 _ _ _ _ _ _ e3 _ T17v Hm.out T3167 hDm).mono ?_
      rintro e w18 ⟨rfl, hb18⟩
      have S18 := bel_step SV17 hb18
      have Y18 := Y167.bel hb18
      have M18 := M167.bel testE hb18
      have y180 : w18.cell? ⟨w6.heap.size, 0, none⟩ = some (.int .i64 D.low) := Y18.cell 0 (by simp)
      have y181 : w18.cell? ⟨w6.heap.size, 1, none⟩ = some (.int .i64 D.high) := Y18.cell 1 (by simp)
      have y182 : w18.cell? ⟨w6.heap.size, 2, none⟩ = some (.slice a6 m k6) := Y18.cell 2 (by simp)
      have y183 : w18.cell? ⟨w6.heap.size, 3, none⟩ = some (.bool D.hide) := Y18.cell 3 (by simp)
      have y184 : w18.cell? ⟨w6.heap.size, 4, none⟩ = some (.string D.col) := Y18.cell 4 (by simp)
      have y185 : w18.cell? ⟨w6.heap.size, 5, none⟩ = some (.int .i64 D.wd) := Y18.cell 5 (by simp)
      have y186 : w18.cell? ⟨w6.heap.size, 6, none⟩ = some (.int .i64 D.lay) := Y18.cell 6 (by simp)
      have yl18 := Y18.lt
      clear x1670 x1671 x1672 x1673 x1674 x1675 x1676 xl167 Y167 T3167 M167 T17v hb18
      go_wp2_with fail
      refine (cH _ _ M18).mono ?_
      rintro e w19 ⟨rfl, hb19⟩
      have S19 := bel_step S18 hb19
      clear M18 Y18 hb19
      go_wp2
      go_ret
      exact ⟨rfl, S19⟩
    · clear hz1 hz2 hrz
      go_enter Try.func10, Try.ntmps10
      go_wp2_with fail
      refine (szRuleS_any _ _ _ rs bs _ _ hR Hn.out hM (by decide) (by decide)).mono ?_
      rintro e w1 ⟨rfl, hb1⟩
      rw [H0.out]
      go_wp2_with fail
      refine (szTagS_any _ _ _ l bt _ _ (hT.bel tagE hb1) Hnt.out hMt p0 b0).mono ?_
      rintro e w2 ⟨rfl, hb2⟩
      rw [H1.out]
      go_wp2
      go_ret
      exact ⟨rfl, bel_step hb1 hb2⟩
  · clear hz1 hz2
    go_enter Try.func10, Try.ntmps10
    go_wp2_with fail
    refine (szRuleS_any _ _ _ rs bs _ _ hR Hn.out hM (by decide) (by decide)).mono ?_
    rintro e w1 ⟨rfl, hb1⟩
    rw [H0.out]
    go_wp2
    go_ret
    exact ⟨rfl, hb1⟩

end Go.Proofs.Ytbebgfhblalghaa
