/-
  The first label in turn is shown, and none counts more: plain mathematics.
  The law FnWeights, walked: nothing is refuted.
-/
import Derived.Test.YtpbpnkklnbmkeaaXA
import Derived.Test.YtpbpnkklnbmkeaaDrawL
import Derived.Test.YtpbpnkklnbmkeaaXE
import Derived.Test.YtpbpnkklnbmkeaaXC
namespace Go.Proofs.Ytpbpnkklnbmkeaa
open Go.RowKit Go.Maps Go.Sort

theorem rkB_nil (d : LblD) : rkB [] d = d.rk := by unfold rkB; rw [if_neg (by simp)]
theorem plTo_keep : ∀ (t s : List LblD) {d : LblD}, d ∈ s → d ∈ plTo s t
  | [], _, _, h => h
  | e :: t, s, d, h => by
    unfold plTo
    split
    · exact plTo_keep t _ (List.mem_append_left _ h)
    · exact plTo_keep t _ h
theorem pl_first {l : List LblD} (hp : lblsP l) (h : 0 < l.length) : ∃ d, d ∈ l ∧ d.id ∈ plQ l [] ∧ ∀ e ∈ l, e.rk ≤ d.rk := by
  have hpm := ordQ_perm [] l
  have hs := ordQ_sorted [] l
  cases ho : ordQ [] l with
  | nil => rw [ho] at hpm; have := hpm.length_eq; simp at this; omega
  | cons d t =>
    rw [ho] at hpm hs
    refine ⟨d, hpm.mem_iff.1 (by simp), ?_, fun e he => ?_⟩
    · rw [plQ_yes (bP_true hp) (by simp), ho, (ascI_perm _).mem_iff]
      refine List.mem_map_of_mem ?_
      unfold plTo
      rw [if_pos (by rfl)]
      exact plTo_keep t _ (by simp)
    · rcases List.mem_cons.1 (hpm.mem_iff.2 he) with rfl | h2
      · exact Int.le_refl _
      · have h3 := (List.pairwise_cons.1 hs).1 e h2
        unfold leP at h3
        rw [Bool.not_eq_true', ltP_no, rkB_nil, rkB_nil] at h3
        omega
theorem rkS_ge : ∀ {l : List LblD}, (∀ d ∈ l, lblK d = true) → ∀ d ∈ l, d.rk ≤ rkS l
  | [], _, d, h => nomatch h
  | e :: t, hk, d, h => by
    have h1 := (lblK_out (hk e (by simp))).2.2.2.2.1
    have h2 := (rkS_bd (l := t) (fun d hd => hk d (by simp [hd]))).1
    have h3 : rkS (e :: t) = e.rk + rkS t := by
      have := rkS_app [e] t
      rw [rkS_one] at this
      exact this
    rw [h3]
    rcases List.mem_cons.1 h with rfl | h
    · omega
    · have := rkS_ge (l := t) (fun d hd => hk d (by simp [hd])) d h
      omega
/-- The greatest rank of the first k. -/
def mxR (l : List LblD) : Nat → Int
  | 0 => 0
  | k + 1 => if h : k < l.length then (if l[k].rk > mxR l k then l[k].rk else mxR l k) else mxR l k
theorem mxR_le {l : List LblD} {m : Int} (h0 : 0 ≤ m) (h : ∀ e ∈ l, e.rk ≤ m) : ∀ k, mxR l k ≤ m
  | 0 => h0
  | k + 1 => by
    unfold mxR
    split
    · rename_i hk
      split
      · exact h _ (List.getElem_mem hk)
      · exact mxR_le h0 h k
    · exact mxR_le h0 h k
theorem mxR_bd {l : List LblD} (h : ∀ d ∈ l, lblK d = true) : ∀ k, 0 ≤ mxR l k ∧ mxR l k ≤ 1000
  | 0 => by unfold mxR; omega
  | k + 1 => by
    have := mxR_bd h k
    unfold mxR
    split
    · rename_i hk
      have h2 := (lblK_out (h _ (List.getElem_mem hk))).2.2.2.2
      split <;> omega
    · exact this
/-- What is shown weighs at least as much as any label. -/
theorem wt_most {l : List LblD} (hp : lblsP l) (k : Nat) : mxR l k ≤ wtQ l (plQ l []) := by
  have hK : ∀ d ∈ l, lblK d = true := fun d hd => lblsP_mem hp hd
  unfold wtQ
  rw [if_pos (bP_true hp)]
  have hC : ∀ d ∈ chQ l (plQ l []), lblK d = true := fun d hd => hK d (chQ_mem hd)
  rcases Nat.eq_zero_or_pos l.length with h | h
  · refine mxR_le (rkS_bd hC).1 (fun e he => ?_) k
    have := List.length_eq_zero_iff.1 h
    rw [this] at he; cases he
  · obtain ⟨d, h1, h2, h3⟩ := pl_first hp h
    refine mxR_le (rkS_bd hC).1 (fun e he => ?_) k
    refine Int.le_trans (h3 e he) (rkS_ge hC d ?_)
    exact List.mem_filter.2 ⟨h1, by simpa using h2⟩
end Go.Proofs.Ytpbpnkklnbmkeaa

namespace Go.Proofs.Ytpbpnkklnbmkeaa
open Go.RowKit Go.Maps Go.Sort

theorem own_intL {w : World} {base m : Nat} {v : Value} {xs : List Value} (h : w.ownsRow base 2 1 v m xs) (hx : IntL xs) :
    ∃ (a : Option Addr) (c : Nat) (l : List Int) (bs : List Nat), v = .slice a m c ∧ m ≤ c ∧ l.length = m ∧ Ints w a l bs := by
  rcases h.2 with ⟨rfl, rfl⟩ | ⟨g, cap, cur, rfl, hb, hg, hc, _⟩
  · exact ⟨none, 0, [], [], rfl, Nat.le_refl _, rfl, .inl ⟨rfl, rfl⟩⟩
  · have key : ∀ j, j < m → w.cell? ⟨g, j, none⟩ = some (.int .i64 (intOf (xs.getD j (.int .i64 0)))) ∧ In64 (intOf (xs.getD j (.int .i64 0))) := fun j hj => by
      have hl : j < xs.length := by rw [h.1]; omega
      obtain ⟨z, e, iz⟩ := hx xs[j] (List.getElem_mem hl)
      have e2 : xs.getD j (.int .i64 0) = .int .i64 z := by simp [List.getD, hl, e]
      rw [h.cellAt j (by omega), List.getElem?_eq_getElem hl, e2, e]
      exact ⟨rfl, iz⟩
    refine ⟨some ⟨g, 0, none⟩, cap, (List.range m).map fun i => intOf (xs.getD i (.int .i64 0)), _, rfl, hc, by simp, .inr ⟨g, 0, fun _ => [], rfl, (h.lt g rfl).2, rfl, fun i hi => ?_⟩⟩
    simp only [List.length_map, List.length_range] at hi
    simp only [List.getElem_map, List.getElem_range, Nat.zero_add, Nat.mul_one]
    exact ⟨rfl, (key i hi).2, (key i hi).1⟩

/-- The two lists that are drawn. -/
def Wdr (w : World) (v : Value) (w' : World) : Prop :=
  ∃ (la : Option Addr) (m lc : Nat) (l : List LblD) (lb : List Nat) (ia : Option Addr) (q ic : Nat) (p : List Int) (ib : List Nat), v = .tuple #[.slice la m lc, .slice ia q ic] ∧ m ≤ 502 ∧ q ≤ 14 ∧ l.length = m ∧ LblL w' la l lb ∧ p.length = q ∧ Ints w' ia p ib ∧ Bel w w'

set_option maxRecDepth 100000 in
set_option maxHeartbeats 4000000 in
theorem drawWeight_any (a : Option Addr) (n c : Nat) (w : World) (hS : Bts w a n) (hn : n ≤ 1048576) :
    Calls Try.prog 7 #[.slice a n c] w fun e w' => ∃ v, e = .returned v ∧ Wdr w v w' := by
  go_enter Try.func7, Try.ntmps7
  go_wp2_with fail
  refine (l1New_any a n c w hS hn).mono ?_
  rintro e w1 ⟨rfl, hb1, k1⟩
  go_wp2_with fail
  refine (drawLbl_any _ a n c w w1 hb1 (Nat.le_refl _) k1 hS hn).mono ?_
  rintro e w2 ⟨v, m, rfl, hm, hO⟩
  have hB1 : w.heap.size < w1.heap.size := k1.lt
  go_wp2_with fail
  refine (drawIds_any _ a n c w w2 hO.d.b (Nat.le_refl _) hO.d.k hS hn).mono ?_
  rintro e w3 ⟨v2, q, ys, rfl, hq, hO2, hX2, d2⟩
  obtain ⟨xs, hr, hx⟩ := (hO.drawn d2 hB1).row
  obtain ⟨la, lc, l, lb, rfl, _, hl, hT, _⟩ := own_lbl hr hx
  obtain ⟨ia, ic, p, ib, rfl, _, hp, hI⟩ := own_intL hO2 hX2
  have HF : Hid (Wdr w (.tuple #[.slice la m lc, .slice ia q ic]) w3) := ⟨la, m, lc, l, lb, ia, q, ic, p, ib, rfl, hm, hq, hl, hT, hp, hI, d2.b⟩
  clear hO hO2 hX2 hr hx hT hI d2 k1 hb1
  go_wp2
  exact bodyPost_ret (v := .tuple #[.slice la m lc, .slice ia q ic]) (by simp [results, Try.results7, go_sem]) rfl ⟨_, rfl, HF.out⟩

theorem in64_0 : In64 0 := ⟨by decide, by decide⟩
theorem in64_1 : In64 1 := ⟨by decide, by decide⟩
theorem in64_7 : In64 7 := ⟨by decide, by decide⟩
theorem wt_seven : wtQ [⟨1, 0, 0, 1, 1, 7⟩] [1] = 7 := by
  have hP : lblsP [⟨1, 0, 0, 1, 1, 7⟩] := ⟨by simp, fun i h => by
    have : i = 0 := by simp at h; omega
    subst this
    exact ⟨(by decide : lblK ⟨1, 0, 0, 1, 1, 7⟩ = true), fun j hj => by omega⟩⟩
  unfold wtQ
  rw [if_pos (bP_true hP)]
  simp [chQ, rkS]
theorem lbls_none : bP (lblsP []) = true := bP_true ⟨by simp, fun i h => by simp at h⟩

set_option maxRecDepth 100000 in
set_option maxHeartbeats 4000000 in
theorem lawFnWeights_any (a : Option Addr) (n c : Nat) (w : World) (hS : Bts w a n) (_hm : n ≤ 9223372036854775807) :
    Calls Try.prog 3 #[.slice a n c] w fun e w' => e = .returned (.bool true) ∧ Bel w w' := by
  by_cases hn : n ≤ 1048576
  · have hbig : decide (1048576 < (n : Int)) = false := by simp; omega
    go_enter Try.func3, Try.ntmps3
    go_wp2_with fail
    refine (big_any _ _ _ _).mono ?_
    rintro e w1 ⟨rfl, rfl⟩
    rw [hbig]
    clear hbig
    go_wp2_with fail
    refine (drawWeight_any _ _ _ _ hS hn).mono ?_
    rintro e w2 ⟨v, rfl, la, m, lc, l, lb, ia, q, ic, p, ib, rfl, hm, hq, hl, hT, hp, hI, B2⟩
    have Hl : Hid (l.length = m) := hl
    have Hp : Hid (p.length = q) := hp
    clear hl hp
    go_wp2_with fail
    refine (labelsOk_any _ 0 _ [] [] _ Sl.nil rfl (by omega)).mono ?_
    rintro e w3 ⟨rfl, b3⟩
    rw [lbls_none]
    obtain ⟨V, HV⟩ : ∃ V, Hid (V = (w3.alloc (.cells #[.int .i64 1, .int .i64 0, .int .i64 0, .int .i64 1, .int .i64 1, .int .i64 7] 33)).alloc (.cells #[.int .i64 1] 2)) := ⟨_, (rfl : (w3.alloc (.cells #[.int .i64 1, .int .i64 0, .int .i64 0, .int .i64 1, .int .i64 1, .int .i64 7] 33)).alloc (.cells #[.int .i64 1] 2) = _)⟩
    have hbV : Bel w3 V := by rw [HV.out]; exact bel_alloc (bel_alloc (Bel.refl _) _) _
    obtain ⟨l1, HL1⟩ : ∃ l1 : List LblD, Hid (l1 = [⟨1, 0, 0, 1, 1, 7⟩]) := ⟨_, (rfl : [(⟨1, 0, 0, 1, 1, 7⟩ : LblD)] = _)⟩
    obtain ⟨b1, HS1⟩ : ∃ b1, Hid (LblL V (some ⟨w3.heap.size, 0, none⟩) l1 b1) := by
      rw [HL1.out]
      refine ⟨_, (.inr ⟨w3.heap.size, 0, fun _ => [], rfl, ?_, rfl, fun i hi => ?_⟩ : LblL V (some ⟨w3.heap.size, 0, none⟩) [⟨1, 0, 0, 1, 1, 7⟩] _)⟩
      · rw [HV.out]; simp; omega
      · have : i = 0 := by simp at hi; omega
        subst this
        rw [HV.out]
        exact ⟨rfl, in64_1, in64_0, in64_0, in64_1, in64_1, in64_7, by simp [go_sem], by simp [go_sem], by simp [go_sem], by simp [go_sem], by simp [go_sem], by simp [go_sem]⟩
    obtain ⟨p1, HP1⟩ : ∃ p1 : List Int, Hid (p1 = [1]) := ⟨_, (rfl : [(1 : Int)] = _)⟩
    obtain ⟨b2, HS2⟩ : ∃ b2, Hid (Ints V (some ⟨w3.heap.size + 1, 0, none⟩) p1 b2) := by
      rw [HP1.out]
      refine ⟨_, (.inr ⟨w3.heap.size + 1, 0, fun _ => [], rfl, ?_, rfl, fun i hi => ?_⟩ : Ints V (some ⟨w3.heap.size + 1, 0, none⟩) [1] _)⟩
      · rw [HV.out]; simp
      · have : i = 0 := by simp at hi; omega
        subst this
        rw [HV.out]
        exact ⟨rfl, in64_1, by simp [go_sem]⟩
    have hl1 : l1.length = 1 := by rw [HL1.out]; rfl
    have hp1 : p1.length = 1 := by rw [HP1.out]; rfl
    have h7 : wtQ l1 p1 = 7 := by rw [HL1.out, HP1.out]; exact wt_seven
    have BV := bel_step b3 hbV
    have hT := hT.bel lblE (bel_step (bel_alloc (Bel.refl w2) _) BV)
    have hI := hI.bel intE (bel_step (bel_alloc (Bel.refl w2) _) BV)
    have B4 := bel_step B2 (bel_step (bel_alloc (Bel.refl w2) _) BV)
    clear b3 hbV BV
    go_wp2_with fail
    rw [← HV.out]
    refine (weight_any _ _ _ l1 b1 _ _ _ p1 b2 V HS1.out hl1 (by omega) HS2.out hp1 (by omega)).mono ?_
    rintro e w5 ⟨rfl, b5⟩
    rw [h7]
    have hT := hT.bel lblE b5
    have hI := hI.bel intE b5
    have B5 := bel_step B4 b5
    clear b5 B4 HS1 HS2 HL1 HP1 hl1 hp1 h7 HV B2
    go_wp2_with fail
    refine (labelsOk_any _ _ _ l lb _ hT Hl.out (by omega)).mono ?_
    rintro e w6 ⟨rfl, b6⟩
    have hT := hT.bel lblE b6
    have hI := hI.bel intE b6
    have B6 := bel_step B5 b6
    clear b6 B5
    rcases Bool.eq_false_or_eq_true (bP (lblsP l)) with hp | hp
    · have HP : Hid (lblsP l) := bP_out hp
      rw [hp]
      clear hp
      have hm5 : m ≤ 500 := by rw [← Hl.out]; exact HP.out.1
      have HT : Hid (LblL w6 la l lb) := hT
      have HI : Hid (Ints w6 ia p ib) := hI
      have H6 : Hid (Bel w1 w6) := B6
      clear hT hI B6 hm
      go_wp2
      go_loopw [5, 6, 7] (fun t5 t6 ix wr => ∃ i : Nat, i ≤ m ∧ t5 = .int .i64 (rkS (chQ (l.take i) p)) ∧ t6 = .int .i64 (mxR l i) ∧ ix = .int .i64 i ∧ wr = w6) (fun _ _ ix _ => m - (intOf ix).toNat)
      case atStart => exact ⟨0, Nat.zero_le _, by simp [chQ, rkS], by simp [mxR], rfl, rfl⟩
      case round =>
        obtain ⟨i, hi, rfl, rfl, rfl, rfl⟩ := hrel
        by_cases hlt : i < m
        · have hil : i < l.length := by rw [Hl.out]; exact hlt
          have hlt' : (i : Int) < (m : Int) := by omega
          have hK : ∀ d ∈ l, lblK d = true := fun d hd => lblsP_mem HP.out hd
          have hmx := mxR_bd hK i
          have hrk := rkS_bd (l := chQ (l.take i) p) (fun d hd => hK d (List.mem_of_mem_take (chQ_mem hd)))
          have hcl := chQ_len (l.take i) p
          rw [List.length_take] at hcl
          have hr0 : 0 ≤ rkS (chQ (l.take i) p) ∧ rkS (chQ (l.take i) p) ≤ 500000 := by omega
          have hd0 := (lblK_out (hK l[i] (List.getElem_mem hil))).2.2.2.2
          have HM : Hid (mxR l (i + 1) = if l[i].rk > mxR l i then l[i].rk else mxR l i) := (by rw [mxR, dif_pos hil] : mxR l (i + 1) = if l[i].rk > mxR l i then l[i].rk else mxR l i)
          obtain ⟨b, off, f, rfl, hb, hx⟩ := HT.out.out hil
          obtain ⟨_, j0, j1, j2, j3, j4, j5, c0, c1, c2, c3, c4, c5⟩ := hx i hil
          clear hx hcl hrk hK
          by_cases hin : l[i].id ∈ p
          · have HA : Hid (rkS (chQ (l.take (i + 1)) p) = rkS (chQ (l.take i) p) + l[i].rk) := (by rw [chQ_step hil hin, rkS_app, rkS_one] : rkS (chQ (l.take (i + 1)) p) = rkS (chQ (l.take i) p) + l[i].rk)
            have hdec : decide (l[i].id ∈ p) = true := by simp [hin]
            clear hin
            go_wp2_with fail
            refine (lawHas_any _ _ _ p ib _ _ HI.out Hp.out (by omega)).mono ?_
            rintro e w7 ⟨rfl, rfl⟩
            rw [hdec]
            clear hdec
            by_cases hg : l[i].rk > mxR l i
            · have HG : Hid (mxR l (i + 1) = l[i].rk) := (by rw [HM.out, if_pos hg] : mxR l (i + 1) = l[i].rk)
              go_wp2
              go_roundw
              case rel => exact ⟨i + 1, by omega, by rw [HA.out], by rw [HG.out], by go_num, trivial⟩
              case measure => simp [intOf]; omega
            · have HG : Hid (mxR l (i + 1) = mxR l i) := (by rw [HM.out, if_neg hg] : mxR l (i + 1) = mxR l i)
              go_wp2
              go_roundw
              case rel => exact ⟨i + 1, by omega, by rw [HA.out], by rw [HG.out], by go_num, trivial⟩
              case measure => simp [intOf]; omega
          · have HA : Hid (rkS (chQ (l.take (i + 1)) p) = rkS (chQ (l.take i) p)) := (by rw [chQ_skip hil hin] : rkS (chQ (l.take (i + 1)) p) = rkS (chQ (l.take i) p))
            have hdec : decide (l[i].id ∈ p) = false := by simp [hin]
            clear hin
            go_wp2_with fail
            refine (lawHas_any _ _ _ p ib _ _ HI.out Hp.out (by omega)).mono ?_
            rintro e w7 ⟨rfl, rfl⟩
            rw [hdec]
            clear hdec
            by_cases hg : l[i].rk > mxR l i
            · have HG : Hid (mxR l (i + 1) = l[i].rk) := (by rw [HM.out, if_pos hg] : mxR l (i + 1) = l[i].rk)
              go_wp2
              go_roundw
              case rel => exact ⟨i + 1, by omega, by rw [HA.out], by rw [HG.out], by go_num, trivial⟩
              case measure => simp [intOf]; omega
            · have HG : Hid (mxR l (i + 1) = mxR l i) := (by rw [HM.out, if_neg hg] : mxR l (i + 1) = mxR l i)
              go_wp2
              go_roundw
              case rel => exact ⟨i + 1, by omega, by rw [HA.out], by rw [HG.out], by go_num, trivial⟩
              case measure => simp [intOf]; omega
        · obtain rfl : i = m := by omega
          have HA : Hid (wtQ l p = rkS (chQ (l.take i) p)) := (by rw [List.take_of_length_le (Nat.le_of_eq Hl.out)]; unfold wtQ; rw [if_pos (bP_true HP.out)] : wtQ l p = rkS (chQ (l.take i) p))
          have HG : Hid (mxR l i ≤ wtQ l (plQ l [])) := wt_most HP.out i
          have Bn := bel_alloc (Bel.refl wr) (.cells #[] 2)
          go_wp2_with fail
          refine (place_any _ _ _ l lb _ 0 0 [] [] _ (HT.out.bel lblE Bn) Hl.out (by omega) Sl.nil rfl (by omega)).mono ?_
          rintro e w7 ⟨a7, c7, b7, rfl, hI7, _, g7⟩
          have B7 := bel_step H6.out (bel_step Bn g7)
          have HT7 := HT.out.bel lblE (bel_step Bn g7)
          have HI7 := HI.out.bel intE (bel_step Bn g7)
          obtain ⟨s, Hs⟩ : ∃ s, Hid (s = plQ l []) := ⟨_, (rfl : plQ l [] = _)⟩
          obtain ⟨k, Hk⟩ : ∃ k, Hid (s.length = k) := ⟨_, (rfl : s.length = _)⟩
          rw [← Hs.out] at hI7 HG ⊢
          rw [Hk.out]
          clear g7 Bn
          go_wp2_with fail
          refine (weight_any _ _ _ l lb _ _ _ p ib _ HT7 Hl.out (by omega) HI7 Hp.out (by omega)).mono ?_
          rintro e w8 ⟨rfl, g8⟩
          have B8 := bel_step B7 g8
          have HT8 := HT7.bel lblE g8
          have HI8 := hI7.bel intE g8
          rw [HA.out]
          obtain ⟨z, Hz⟩ : ∃ z, Hid (rkS (chQ (l.take i) p) = z) := ⟨_, (rfl : rkS (chQ (l.take i) p) = _)⟩
          rw [Hz.out]
          clear g8 B7 HT7 HI7 hI7 HA
          go_wp2_with fail
          refine (weight_any _ _ _ l lb _ _ _ s b7 _ HT8 Hl.out (by omega) HI8 Hk.out (by have := plQ_len l []; rw [← Hs.out, Hk.out] at this; omega)).mono ?_
          rintro e w9 ⟨rfl, g9⟩
          have B9 := bel_step B8 g9
          have hge : wtQ l s ≥ mxR l i := HG.out
          generalize wtQ l s = t1 at hge ⊢
          generalize mxR l i = t2 at hge ⊢
          clear g9 B8 HT8 HI8 HG
          go_wp2
          go_ret
          exact ⟨rfl, B9⟩
    · have HW : Hid (wtQ l p = 0) := (by unfold wtQ; rw [if_neg (by rw [hp]; simp)] : wtQ l p = 0)
      rw [hp]
      clear hp
      have HT : Hid (LblL w6 la l lb) := hT
      have HI : Hid (Ints w6 ia p ib) := hI
      have H6 : Hid (Bel w1 w6) := B6
      clear hT hI B6
      go_wp2_with fail
      refine (weight_any _ _ _ l lb _ _ _ p ib _ HT.out Hl.out (by omega) HI.out Hp.out (by omega)).mono ?_
      rintro e w7 ⟨rfl, b7⟩
      rw [HW.out]
      have HF := bel_step H6.out b7
      clear b7 H6 HT HI
      go_wp2
      go_ret
      exact ⟨rfl, HF⟩
  · have hbig : decide (1048576 < (n : Int)) = true := by simp; omega
    go_enter Try.func3, Try.ntmps3
    go_wp2_with fail
    refine (big_any _ _ _ _).mono ?_
    rintro e w1 ⟨rfl, rfl⟩
    rw [hbig]
    clear hbig
    go_wp2
    go_ret
    exact ⟨rfl, Bel.refl _⟩
end Go.Proofs.Ytpbpnkklnbmkeaa
