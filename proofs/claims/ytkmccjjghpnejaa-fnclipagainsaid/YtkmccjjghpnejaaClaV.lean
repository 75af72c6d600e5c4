/-
  What was clipped, clipped again: the walk of the law.
-/
import Derived.Test.YtkmccjjghpnejaaDrqC
import Derived.Test.YtkmccjjghpnejaaDrqM
import Derived.Test.YtkmccjjghpnejaaTjnA
import Derived.Test.YtkmccjjghpnejaaPieN
import Derived.Test.YtkmccjjghpnejaaPtLx
import Derived.Deep.DeepCutAuto
import Derived.BigQuiet
namespace Go.Proofs.Ytkmccjjghpnejaa
open Go.RowKit Go.Maps

theorem pts_nil (w : World) (t : TypeId) : Pts (w.alloc (.cells #[.int .i64 0, .int .i64 0] t)) (some ⟨w.heap.size, 0, none⟩) 1 (fun _ => 0) (fun _ => 0) := by
 have X := Blk.new w [.int .i64 0, .int .i64 0] t
 refine .inr ⟨_, 0, rfl, X.lt, fun i hi => ?_⟩
 obtain rfl : i = 0 := by omega
 exact ⟨X.cell 0 (by simp), X.cell 1 (by simp)⟩
theorem lit_q : (qzQ 0 0 0 1 (fun _ => 0) (fun _ => 0)).length = 1 := by decide
theorem rowB_not {m : Nat} {X Y : Nat → Int} (h : okA m X Y = false) : rowB m X Y = false := by
 cases e : rowB m X Y with
 | false => rfl
 | true =>
  have := okA_yes (m := m) (X := X) (Y := Y) fun i hi => pOk_iff.2 ((rowB_out e).2 i hi)
  rw [h] at this; cases this
theorem okA_outQ {m : Nat} {X Y : Nat → Int} (h : okA m X Y = true) : ∀ i, i < m → POk (X i) (Y i) := fun i hi => by
 unfold okA at h
 rw [List.all_eq_true] at h
 exact pOk_iff.1 (h i (List.mem_range.2 hi))

theorem rows_oneQ {w : World} {a : Option Addr} {r : List PtD} {bs : List Nat} (h : RowsL w a [r] bs) : ∃ b o a' c' bs', a = some ⟨b, o, none⟩ ∧ b < w.heap.size ∧ w.cell? ⟨b, o, none⟩ = some (.slice a' r.length c') ∧ PtL w a' r bs' := by
 rcases h with ⟨h1, _⟩ | ⟨b1, off1, f, e, h1, _, hc1⟩
 ·cases h1
 ·obtain ⟨a8, c8, _, x8, h8⟩ := hc1 0 (by simp)
  exact ⟨b1, off1, a8, c8, _, e, h1, by simpa using x8, h8⟩
theorem ptl_atQ {w : World} {a : Option Addr} {l : List PtD} {bs : List Nat} (h : PtL w a l bs) (hl : 0 < l.length) : ∃ b o, a = some ⟨b, o, none⟩ ∧ b < w.heap.size ∧ ∀ i (hi : i < l.length), w.cell? ⟨b, o + i * 2, none⟩ = some (.int .i64 l[i].x) ∧ w.cell? ⟨b, o + i * 2 + 1, none⟩ = some (.int .i64 l[i].y) := by
 rcases h with ⟨h1, _⟩ | ⟨b1, off1, f, e, h1, _, hc1⟩
 ·subst h1; exact absurd hl (Nat.lt_irrefl 0)
 ·exact ⟨b1, off1, e, h1, fun i hi => by obtain ⟨_, _, _, c0, c1⟩ := hc1 i hi; exact ⟨c0, c1⟩⟩
theorem clipQ_le {q : BoxD} {n : Nat} {X Y : Nat → Int} (h6 : Box64 q) : ∀ c ∈ clipQ q n X Y, c.length ≤ 2 * n := by
 intro c hc
 unfold clipQ at hc
 split at hc
 ·rename_i h
  simp only [Bool.and_eq_true] at h
  have ho : q.a ≤ q.c ∧ q.b ≤ q.d := by simpa [ordB] using h.2
  have hj := clpJ (X := X) (Y := Y) ho.1 ho.2 h6 (n - 1)
  obtain ⟨i, hi, rfl⟩ := List.getElem_of_mem hc
  have := flat_le hi
  have := hj.flat
  omega
 ·cases hc

theorem clipQ_cnt {q : BoxD} {n : Nat} {X Y : Nat → Int} (h6 : Box64 q) : (clipQ q n X Y).length ≤ n := by
 unfold clipQ
 split
 ·rename_i h
  simp only [Bool.and_eq_true] at h
  have ho : q.a ≤ q.c ∧ q.b ≤ q.d := by simpa [ordB] using h.2
  have := (clpJ (X := X) (Y := Y) ho.1 ho.2 h6 (n - 1)).len
  omega
 ·exact Nat.zero_le _

set_option maxRecDepth 100000 in
set_option maxHeartbeats 40000000 in
theorem lawFnClipAgain_any (a : Option Addr) (n c : Nat) (w : World) (hS : Bts w a n) (_hm : n ≤ 9223372036854775807) :
  Calls Try.prog 3 #[.slice a n c] w fun e w' => e = .returned (.bool true) ∧ Bel w w' := by
 by_cases hn : n ≤ 1048576
 rotate_left
 ·have hbig : decide (1048576 < (n : Int)) = true := by simp; omega
  go_enter Try.func3, Try.ntmps3
  go_wp2_with fail
  refine (big_any _ _ _ _).mono ?_
  rintro e w1 ⟨rfl, rfl⟩
  rw [hbig]
  go_wp2
  go_ret
  exact ⟨rfl, Bel.refl _⟩
 have hbig : decide (1048576 < (n : Int)) = false := by simp; omega
 go_enter Try.func3, Try.ntmps3
 go_wp2_with fail
 refine (big_any _ _ _ _).mono ?_
 rintro e w1 ⟨rfl, rfl⟩
 rw [hbig]
 clear hbig
 go_wp2_with fail
 refine (drawQuantise_any _ _ _ _ hS hn).mono ?_
 rintro e w2 ⟨v, m, xs, z, x, y, rfl, hm, hO, hX, B2⟩
 obtain ⟨va, vc, X, Y, rfl, hvc, hP, _⟩ := own_ptsQ hO hX
 clear hO hX
 obtain ⟨U, HU⟩ : ∃ V, Hid (V = w2.alloc (.cells #[.int .i64 z, .int .i64 x, .int .i64 y] 26)) := ⟨_, (rfl : w2.alloc (.cells #[.int .i64 z, .int .i64 x, .int .i64 y] 26) = _)⟩
 have hbU : Bel w2 U := by rw [HU.out]; exact bel_alloc (Bel.refl _) _
 have XU : Blk U w2.heap.size [.int .i64 z, .int .i64 x, .int .i64 y] := by rw [HU.out]; exact Blk.new w2 [.int .i64 z, .int .i64 x, .int .i64 y] _
 have BU := bel_step B2 hbU
 have PU := hP.bel hbU
 clear hP hbU B2 _hm
 go_upto_region 4 with fail
 rw [← HU.out]
 obtain ⟨T0, HT0⟩ : ∃ E, Hid (E = w2.heap.size) := ⟨_, (rfl : w2.heap.size = _)⟩
 rw [← HT0.out]
 rw [← HT0.out] at XU
 clear HU HT0
 go_wp2_with fail
 refine (quantise_any _ 1 1 (fun _ => 0) (fun _ => 0) 0 0 0 _ (pts_nil _ _) (by decide)).mono ?_
 rintro e w3 ⟨a3, c3, b3, rfl, _, _, g3⟩
 rw [lit_q]
 have gU3 := bel_step (bel_alloc (Bel.refl U) _) g3
 have B3 := bel_step BU gU3
 have X3 := XU.bel gU3
 have P3 := PU.bel gU3
 have u0 : w3.cell? ⟨T0, 0, none⟩ = some (.int .i64 z) := X3.cell 0 (by simp)
 have u1 : w3.cell? ⟨T0, 1, none⟩ = some (.int .i64 x) := X3.cell 1 (by simp)
 have u2 : w3.cell? ⟨T0, 2, none⟩ = some (.int .i64 y) := X3.cell 2 (by simp)
 have ul := X3.lt
 clear g3 gU3 XU PU BU
 go_wp2_with fail
 refine (tileBox_any z x y _).mono ?_
 rintro e w4 ⟨rfl, g4⟩
 obtain ⟨q, Hq⟩ : ∃ q, Hid (tbx z x y = q) := ⟨_, (rfl : tbx z x y = _)⟩
 rw [Hq.out]
 obtain ⟨V, HV⟩ : ∃ V, Hid (V = w4.alloc (.cells #[.int .i64 q.a, .int .i64 q.b, .int .i64 q.c, .int .i64 q.d] 33)) := ⟨_, (rfl : w4.alloc (.cells #[.int .i64 q.a, .int .i64 q.b, .int .i64 q.c, .int .i64 q.d] 33) = _)⟩
 have hbV : Bel w4 V := by rw [HV.out]; exact bel_alloc (Bel.refl _) _
 have KV : Blk V w4.heap.size [.int .i64 q.a, .int .i64 q.b, .int .i64 q.c, .int .i64 q.d] := by rw [HV.out]; exact Blk.new w4 [.int .i64 q.a, .int .i64 q.b, .int .i64 q.c, .int .i64 q.d] _
 have gV := bel_step g4 hbV
 have BV := bel_step B3 gV
 have XV := X3.bel gV
 have PV := P3.bel gV
 go_upto_region 7 with fail
 rw [← HV.out]
 obtain ⟨K0, HK0⟩ : ∃ E, Hid (E = w4.heap.size) := ⟨_, (rfl : w4.heap.size = _)⟩
 rw [← HK0.out]
 rw [← HK0.out] at KV
 clear HV HK0 hbV gV g4 X3 P3 B3 u0 u1 u2 ul
 have u0 : V.cell? ⟨T0, 0, none⟩ = some (.int .i64 z) := XV.cell 0 (by simp)
 have u1 : V.cell? ⟨T0, 1, none⟩ = some (.int .i64 x) := XV.cell 1 (by simp)
 have u2 : V.cell? ⟨T0, 2, none⟩ = some (.int .i64 y) := XV.cell 2 (by simp)
 have ul := XV.lt
 go_wp2_with fail
 refine (tileOk_any z x y _).mono ?_
 rintro e w5 ⟨rfl, g5⟩
 have X5 := XV.bel g5
 have K5 := KV.bel g5
 have P5 := PV.bel g5
 have B5 := bel_step BV g5
 clear u0 u1 u2 ul
 have u0 : w5.cell? ⟨T0, 0, none⟩ = some (.int .i64 z) := X5.cell 0 (by simp)
 have u1 : w5.cell? ⟨T0, 1, none⟩ = some (.int .i64 x) := X5.cell 1 (by simp)
 have u2 : w5.cell? ⟨T0, 2, none⟩ = some (.int .i64 y) := X5.cell 2 (by simp)
 have ul := X5.lt
 clear XV KV PV BV g5
 cases htb : tilB z x y
 ·have e0 : (qzQ z x y m X Y).length = 0 := by rw [qzQ_til htb]; rfl
  clear htb
  as_aux_lemma =>
  go_wp2_with fail
  refine (quantise_any _ _ _ X Y z x y _ P5 (by omega)).mono ?_
  rintro e w6 ⟨a6, c6, b6, rfl, _, _, g6⟩
  rw [e0]
  go_wp2
  go_ret
  exact ⟨rfl, bel_step B5 g6⟩
 by_cases h200 : m ≤ 200
 rotate_left
 ·have h200' : (200 : Int) < (m : Int) := by omega
  obtain ⟨l6, Hl6⟩ : ∃ l, Hid ((qzQ z x y m X Y).length = l) := ⟨_, (rfl : (qzQ z x y m X Y).length = _)⟩
  clear htb
  as_aux_lemma =>
  go_wp2_with fail
  refine (quantise_any _ _ _ X Y z x y _ P5 (by omega)).mono ?_
  rintro e w6 ⟨a6, c6, b6, rfl, _, _, g6⟩
  rw [Hl6.out]
  by_cases hl : l6 = 0
  ·subst hl
   go_wp2
   go_ret
   exact ⟨rfl, bel_step B5 g6⟩
  ·have hl' : ¬ ((l6 : Nat) : Int) = 0 := by omega
   go_wp2
   go_ret
   exact ⟨rfl, bel_step B5 g6⟩
 have h200' : ¬ (200 : Int) < (m : Int) := by omega
 go_wp2_with fail
 refine (allOk_any _ _ _ X Y _ P5 (by omega)).mono ?_
 rintro e w6 ⟨rfl, g6⟩
 have X6 := X5.bel g6
 have K6 := K5.bel g6
 have P6 := P5.bel g6
 have B6 := bel_step B5 g6
 clear u0 u1 u2 ul X5 K5 P5 B5 g6
 have u0 : w6.cell? ⟨T0, 0, none⟩ = some (.int .i64 z) := X6.cell 0 (by simp)
 have u1 : w6.cell? ⟨T0, 1, none⟩ = some (.int .i64 x) := X6.cell 1 (by simp)
 have u2 : w6.cell? ⟨T0, 2, none⟩ = some (.int .i64 y) := X6.cell 2 (by simp)
 have ul := X6.lt
 rcases Bool.eq_false_or_eq_true (okA m X Y) with hok | hok
 rotate_left
 ·have e0 : (qzQ z x y m X Y).length = 0 := by rw [qzQ_row (rowB_not hok)]; rfl
  rw [hok]
  clear htb hok
  as_aux_lemma =>
  go_wp2_with fail
  refine (quantise_any _ _ _ X Y z x y _ P6 (by omega)).mono ?_
  rintro e w7 ⟨a7, c7, b7, rfl, _, _, g7⟩
  rw [e0]
  go_wp2
  go_ret
  exact ⟨rfl, bel_step B6 g7⟩
 rw [hok]
 have o := tbx_ord htb
 rw [Hq.out] at o
 obtain ⟨o1, o2, h6⟩ := o
 have HTb : Hid (tilB z x y = true) := htb
 have ho : ordB q = true := by simp [ordB, o1, o2]
 obtain ⟨L, HL⟩ : ∃ L, Hid (clipQ q m X Y = L) := ⟨_, (rfl : clipQ q m X Y = _)⟩
 have HPc : Hid (∀ c ∈ L, PcIn q c) := (by rw [← HL.out]; exact clipQ_pc : ∀ c ∈ L, PcIn q c)
 have HFl : Hid (∀ c ∈ L, c.length ≤ 400) := (by rw [← HL.out]; intro c hc; have := clipQ_le h6 c hc; omega : ∀ c ∈ L, c.length ≤ 400)
 obtain ⟨l, Hl⟩ : ∃ l, Hid (L.length = l) := ⟨_, (rfl : L.length = _)⟩
 have hl4 : l ≤ 200 := by rw [← Hl.out, ← HL.out]; have := clipQ_cnt (X := X) (Y := Y) (n := m) h6; omega
 have cI := fun w' (h : Pts w' va m X Y) => clipI_any va m vc X Y q w' h (by omega) h6
 have cS := fun w' (h : Pts w' va m X Y) => clipS_any va m vc X Y q w' h (by omega) h6
 rw [HL.out, Hl.out] at cI cS
 have k0 : w6.cell? ⟨K0, 0, none⟩ = some (.int .i64 q.a) := K6.cell 0 (by simp)
 have k1 : w6.cell? ⟨K0, 1, none⟩ = some (.int .i64 q.b) := K6.cell 1 (by simp)
 have k2 : w6.cell? ⟨K0, 2, none⟩ = some (.int .i64 q.c) := K6.cell 2 (by simp)
 have k3 : w6.cell? ⟨K0, 3, none⟩ = some (.int .i64 q.d) := K6.cell 3 (by simp)
 have kl := K6.lt
 clear htb hok HL u0 u1 u2 ul
 go_wp2_with fail
 refine (cI _ P6).mono ?_
 rintro e w7 ⟨a7, c7, b7, rfl, T7, _, g7⟩
 have K7 := K6.bel g7
 clear k0 k1 k2 k3 kl
 have k0 : w7.cell? ⟨K0, 0, none⟩ = some (.int .i64 q.a) := K7.cell 0 (by simp)
 have k1 : w7.cell? ⟨K0, 1, none⟩ = some (.int .i64 q.b) := K7.cell 1 (by simp)
 have k2 : w7.cell? ⟨K0, 2, none⟩ = some (.int .i64 q.c) := K7.cell 2 (by simp)
 have k3 : w7.cell? ⟨K0, 3, none⟩ = some (.int .i64 q.d) := K7.cell 3 (by simp)
 have kl := K7.lt
 go_wp2_with fail
 refine (cS _ (P6.bel g7)).mono ?_
 rintro e w8 ⟨a8, c8, b8, rfl, _, _, g8⟩
 have g68 := bel_step g7 g8
 have K8 := K7.bel g8
 have X8 := X6.bel g68
 have B8 := bel_step B6 g68
 obtain ⟨d7, T8⟩ := (T7.bel rowE g8).rows
 clear k0 k1 k2 k3 kl K7 K6 X6 B6 P6 T7 g7 g8 g68 cI cS hS
 go_wp2_with fail
 go_loopw [7, 8, 9, 10, 11] (fun i _ _ _ _ wr => ∃ k : Nat, k ≤ l ∧ i = .int .i64 k ∧ Bel w8 wr) (fun i _ _ _ _ _ => l - (intOf i).toNat)
 case atStart => exact ⟨0, Nat.zero_le _, rfl, Bel.refl _⟩
 case round =>
  obtain ⟨k, hk, rfl, gR⟩ := hrel
  obtain ⟨wo, hwo⟩ : ∃ V, V = wr := ⟨_, rfl⟩
  subst hwo
  by_cases hlt : k < l
  rotate_left
  ·have hlt' : ¬ (k : Int) < (l : Int) := by omega
   go_wp2
   go_ret
   exact ⟨rfl, bel_step B8 gR⟩
  have hkl : k < L.length := by rw [Hl.out]; exact hlt
  rcases Sl.bel rowE T8 gR with ⟨h1, _⟩ | ⟨b1, off1, f, rfl, h1, _, hc1⟩
  ·exfalso; rw [h1] at hkl; simp at hkl
  obtain ⟨a9, c9, _, x9, P9⟩ := hc1 k hkl
  have J1 := HPc.out _ (List.getElem_mem hkl)
  have J2 := HFl.out _ (List.getElem_mem hkl)
  clear hc1
  generalize L[k] = row at *
  rw [Nat.mul_one] at x9
  obtain ⟨r, Hr⟩ : ∃ r, Hid (row.length = r) := ⟨_, (rfl : row.length = _)⟩
  have PP := Sl.pts P9
  have r2 : 2 ≤ r := by rw [← Hr.out]; exact J1.1
  rw [Hr.out] at x9 PP J2
  have hlt' : (k : Int) < (l : Int) := by omega
  have Xo := X8.bel gR
  have Ko := K8.bel gR
  have Bo := bel_step B8 gR
  go_wp2_with fail
  refine (allOk_any _ _ _ (lx row) (ly row) _ PP (by omega)).mono ?_
  rintro e w9 ⟨rfl, g9⟩
  rcases Bool.eq_false_or_eq_true (okA r (lx row) (ly row)) with hok | hok
  rotate_left
  ·rw [hok]
   go_wp2
   go_roundw
   case rel => exact ⟨k + 1, by omega, by go_num, bel_step gR g9⟩
   case measure => simp [intOf]; omega
  rw [hok]
  have hPO := okA_outQ hok
  have HAg : Hid (clipQ q r (lx row) (ly row) = [row]) := by
   have h := clip_again (X := lx row) (Y := ly row) J1 (fun i hi => by simp [lx, ly, List.getD, hi]) (by rw [Hr.out]; exact hPO) (by rw [Hr.out]; omega) ho
   rw [Hr.out] at h
   exact h
  have HQz : Hid (OffL (qzQ z x y r (lx row) (ly row)) ∧ 0 < (qzQ z x y r (lx row) (ly row)).length) := by
   refine qz_of (rowB_true (by omega) fun i hi => pOk_iff.2 (hPO i hi)) HTb.out (inB_true fun i hi => ?_) (by omega)
   rw [Hq.out]
   have hi' : i < row.length := by rw [Hr.out]; exact hi
   have := J1.2 row[i] (List.getElem_mem hi')
   simp [ptB, lx, ly, List.getD, hi', this.1.1, this.1.2, this.2.1, this.2.2]
  have X9 := Xo.bel g9
  have K9 := Ko.bel g9
  have B9 := bel_step Bo g9
  have x10 := bel_cellM g9 h1 x9
  have h19 := bel_lt g9 h1
  have PP9 := PP.bel g9
  have P99 := P9.bel ptE g9
  have g89 := bel_step gR g9
  have j0 : (0 : Int) ≤ (k : Int) := by omega
  have cA := fun w' (h : Pts w' a9 r (lx row) (ly row)) => clipI_any a9 r c9 (lx row) (ly row) q w' h (by omega) h6
  rw [HAg.out] at cA
  have hPw : ∀ w', Bel w9 w' → Pts w' a9 r (lx row) (ly row) := fun w' h => PP9.bel h
  have hR : ∀ w', Bel w9 w' → w'.cell? ⟨b1, off1 + k, none⟩ = some (.slice a9 r c9) ∧ w'.cell? ⟨K0, 0, none⟩ = some (.int .i64 q.a) ∧ w'.cell? ⟨K0, 1, none⟩ = some (.int .i64 q.b) ∧ w'.cell? ⟨K0, 2, none⟩ = some (.int .i64 q.c) ∧ w'.cell? ⟨K0, 3, none⟩ = some (.int .i64 q.d) := fun w' h =>
   ⟨bel_cellM h h19 x10, (K9.bel h).cell 0 (by simp), (K9.bel h).cell 1 (by simp), (K9.bel h).cell 2 (by simp), (K9.bel h).cell 3 (by simp)⟩
  have g0 : Bel w9 w9 := Bel.refl _
  clear Xo Ko Bo x9 PP P9 g9 gR hok hPO h1
  go_wp2
  go_region_held3 (fun w' => Bel w9 w') (with_reducible (repeat (first | exact g0 | refine Bel.drew ?_ | assumption)))
   (first | (go_at_call 12; refine (cA _ (hPw _ (by assumption))).mono ?_; rintro e w10 ⟨a10, c10, b10, rfl, T10, _, g10⟩; refine (fun hq : Bel w9 w10 => ?_) (bel_step (by assumption) g10)))
  obtain ⟨d10, T10⟩ := T10.rows
  obtain ⟨b2, f2, a11, c11, s11, rfl, h2, x11, P11⟩ := rows_oneQ T10
  rw [Hr.out] at x11
  have x12 := bel_cellM hq h19 x10
  have h29 := bel_lt hq h19
  have X10 := X9.bel hq
  have PP10 := PP9.bel hq
  have P100 := P99.bel ptE hq
  have B10 := bel_step B9 hq
  have g810 := bel_step g89 hq
  clear hR hPw cA g0 g10 X9 K9 B9 x10 h19 PP9 P99 g89 hq T10
  have hR : ∀ w', Bel w10 w' → w'.cell? ⟨b1, off1 + k, none⟩ = some (.slice a9 r c9) ∧ w'.cell? ⟨b2, f2, none⟩ = some (.slice a11 r c11) := fun w' h => ⟨bel_cellM h h29 x12, bel_cellM h h2 x11⟩
  have g0 : Bel w10 w10 := Bel.refl _
  clear x11 x12
  go_wp2
  go_quiet (fail)
  have hH : Bel w10 (w10.drewN nq) := bel_drewN (Bel.refl _) _
  obtain ⟨y1, y2⟩ := hR _ hH
  generalize w10.drewN nq = w11 at *
  have l1 := bel_lt hH h29
  have l2 := bel_lt hH h2
  have X11 := X10.bel hH
  have PP11 := PP10.bel hH
  have Q11 := P11.bel ptE hH
  have Q9 := P100.bel ptE hH
  have B11 := bel_step B10 hH
  have g811 := bel_step g810 hH
  have hr0 : 0 < row.length := by rw [Hr.out]; omega
  obtain ⟨b3, o3, rfl, l3, e3⟩ := ptl_atQ Q9 hr0
  obtain ⟨b4, o4, rfl, l4, e4⟩ := ptl_atQ Q11 hr0
  clear hR g0 X10 PP10 P11 P100 B10 g810 hH h29 h2 Q9 Q11
  go_wp2
  go_loopw [9] (fun i wr => ∃ j : Nat, j ≤ r ∧ i = .int .i64 j ∧ Bel w11 wr) (fun i _ => r - (intOf i).toNat)
  case atStart => exact ⟨0, Nat.zero_le _, rfl, Bel.refl _⟩
  case round =>
   obtain ⟨j, hj, rfl, gJ⟩ := hrel
   obtain ⟨wp, hwp⟩ : ∃ V, V = wr := ⟨_, rfl⟩
   subst hwp
   have t1 := bel_cellM gJ l1 y1
   have m1 := bel_lt gJ l1
   by_cases hjl : j < r
   ·have hjl' : (j : Int) < (r : Int) := by omega
    have hjr : j < row.length := by rw [Hr.out]; exact hjl
    obtain ⟨p0, p1⟩ := e3 j hjr
    obtain ⟨q0, q1⟩ := e4 j hjr
    have hR : ∀ w', Bel wp w' → w'.cell? ⟨b1, off1 + k, none⟩ = some (.slice (some ⟨b3, o3, none⟩) r c9) ∧ w'.cell? ⟨b2, f2, none⟩ = some (.slice (some ⟨b4, o4, none⟩) r c11) ∧ w'.cell? ⟨b3, o3 + j * 2, none⟩ = some (.int .i64 row[j].x) ∧ w'.cell? ⟨b3, o3 + j * 2 + 1, none⟩ = some (.int .i64 row[j].y) ∧ w'.cell? ⟨b4, o4 + j * 2, none⟩ = some (.int .i64 row[j].x) ∧ w'.cell? ⟨b4, o4 + j * 2 + 1, none⟩ = some (.int .i64 row[j].y) := fun w' h => by
     have g := bel_step gJ h
     exact ⟨bel_cellM g l1 y1, bel_cellM g l2 y2, bel_cellM g l3 p0, bel_cellM g l3 p1, bel_cellM g l4 q0, bel_cellM g l4 q1⟩
    clear p0 p1 q0 q1 e3 e4 y1 y2
    generalize row[j] = d at *
    have hne : ∀ w, Sem.run Try.prog (binOp .neq 31 (.agg #[.int .i64 d.x, .int .i64 d.y]) (.agg #[.int .i64 d.x, .int .i64 d.y])) w = .ok (.bool false) w := fun w => by rw [ptNe, pt_same ⟨rfl, rfl⟩]; rfl
    have g0 : Bel wp wp := Bel.refl _
    as_aux_lemma =>
    go_wp2
    go_quiet (fail)
    have hH : Bel wp (wp.drewN nq) := bel_drewN (Bel.refl _) _
    go_wp2
    go_roundw
    case rel => exact ⟨j + 1, by omega, by go_num, bel_step gJ hH⟩
    case measure => simp [intOf]; omega
   obtain rfl : j = r := by omega
   have XW := X11.bel gJ
   have PPW := PP11.bel gJ
   have BW := bel_step B11 gJ
   have g8W := bel_step g811 gJ
   have cQ := fun w' (h : Pts w' (some ⟨b3, o3, none⟩) j (lx row) (ly row)) => quantise_any _ j c9 (lx row) (ly row) z x y w' h (by omega)
   have HQ2 := HQz.out
   have HLn := qzQ_len z x y j (lx row) (ly row)
   have HBn := qzQ_bd z x y j (lx row) (ly row)
   generalize qzQ z x y j (lx row) (ly row) = QL at *
   obtain ⟨hoff, hpos⟩ := HQ2
   have HO2 : Hid (OffL QL) := hoff
   have HB : Hid (∀ d ∈ QL, 0 ≤ d.x ∧ d.x ≤ 4096 ∧ 0 ≤ d.y ∧ d.y ≤ 4096) := HBn
   obtain ⟨lq, Hlq⟩ : ∃ l, Hid (QL.length = l) := ⟨_, (rfl : QL.length = _)⟩
   rw [Hlq.out] at hpos HLn cQ
   have hPw : ∀ w', Bel wp w' → Pts w' (some ⟨b3, o3, none⟩) j (lx row) (ly row) := fun w' h => PPW.bel h
   have hR : ∀ w', Bel wp w' → w'.cell? ⟨b1, off1 + k, none⟩ = some (.slice (some ⟨b3, o3, none⟩) j c9) ∧ w'.cell? ⟨T0, 0, none⟩ = some (.int .i64 z) ∧ w'.cell? ⟨T0, 1, none⟩ = some (.int .i64 x) ∧ w'.cell? ⟨T0, 2, none⟩ = some (.int .i64 y) := fun w' h =>
    ⟨bel_cellM h m1 t1, (XW.bel h).cell 0 (by simp), (XW.bel h).cell 1 (by simp), (XW.bel h).cell 2 (by simp)⟩
   have g0 : Bel wp wp := Bel.refl _
   have T1 : Hid (wp.cell? ⟨b1, off1 + k, none⟩ = some (.slice (some ⟨b3, o3, none⟩) j c9)) := t1
   clear hoff HBn HQz t1 e3 e4 y1 y2 XW PPW X11 PP11 B11 g811
   go_wp2
   go_region_held3 (fun w' => Bel wp w') (with_reducible (repeat (first | exact g0 | refine Bel.drew ?_ | assumption)))
    (first | (go_at_call 8; refine (cQ _ (hPw _ (by assumption))).mono ?_; rintro e w12 ⟨a12, c12, b12, rfl, T12, _, g12⟩; refine (fun hq : Bel wp w12 => ?_) (bel_step (by assumption) g12)))
   obtain ⟨b5, o5, rfl, l5, e5⟩ := ptl_atQ T12 (by rw [Hlq.out]; exact hpos)
   have t2 := bel_cellM hq m1 T1.out
   have m2 := bel_lt hq m1
   have B12 := bel_step BW hq
   have g812 := bel_step g8W hq
   clear hR hPw cQ g0 g12 T12 hq T1 BW g8W
   go_wp2
   go_loopw [11] (fun i wr => ∃ s : Nat, s ≤ lq ∧ i = .int .i64 s ∧ Bel w12 wr) (fun i _ => lq - (intOf i).toNat)
   case atStart => exact ⟨0, Nat.zero_le _, rfl, Bel.refl _⟩
   case round =>
    obtain ⟨s, hs, rfl, gS⟩ := hrel
    obtain ⟨wt, hwt⟩ : ∃ V, V = wr := ⟨_, rfl⟩
    subst hwt
    by_cases hsl : s < lq
    rotate_left
    ·obtain rfl : s = lq := by omega
     have t3 := bel_cellM gS m2 t2
     have m3 := bel_lt gS m2
     have f1 : ¬ ((s : Int) = 0) := by omega
     have f2 : ¬ (j : Int) < (s : Int) := by omega
     have f3 : ¬ (s : Int) < (s : Int) := by omega
     clear e5 t2
     as_aux_lemma =>
     go_wp2
     go_roundw
     case rel => exact ⟨k + 1, by omega, by go_num, bel_step g812 gS⟩
     case measure => simp [intOf]; omega
    have hsl' : (s : Int) < (lq : Int) := by omega
    have hsq : s < QL.length := by rw [Hlq.out]; exact hsl
    obtain ⟨p0, p1⟩ := e5 s hsq
    obtain ⟨v0, v1, v2, v3⟩ := HB.out _ (List.getElem_mem hsq)
    cases s with
    | zero =>
     simp only [Nat.zero_mul, Nat.add_zero] at p0 p1
     generalize QL[0] = d at *
     have f0 : decide (d.x < 0) = false := decide_eq_false (by omega)
     have f1 : decide (4096 < d.x) = false := decide_eq_false (by omega)
     have f2 : decide (d.y < 0) = false := decide_eq_false (by omega)
     have f3 : decide (4096 < d.y) = false := decide_eq_false (by omega)
     have f4 : decide ((0 : Int) < ((0 : Nat) : Int)) = false := rfl
     have f5 : decide ((0 : Int) < 0) = false := rfl
     have c0 := bel_cellM gS l5 p0
     have c1 := bel_cellM gS l5 p1
     have hR : ∀ w', Bel wt w' → w'.cell? ⟨b5, o5, none⟩ = some (.int .i64 d.x) ∧ w'.cell? ⟨b5, o5 + 1, none⟩ = some (.int .i64 d.y) := fun w' h =>
      ⟨bel_cellM (bel_step gS h) l5 p0, bel_cellM (bel_step gS h) l5 p1⟩
     have g0 : Bel wt wt := Bel.refl _
     clear p0 p1 e5 t2
     as_aux_lemma =>
     go_wp2
     go_big_quiet (fail)
     have hH : Bel wt (wt.drewN nq) := bel_drewN (Bel.refl _) _
     go_wp2
     go_roundw
     case rel => exact ⟨0 + 1, by omega, by go_num, bel_step gS hH⟩
     case measure => simp [intOf]; omega
    | succ s =>
     obtain ⟨r0, r1⟩ := e5 s (by omega)
     have hno := HO2.out s hsq
     generalize QL[s + 1] = d at *
     generalize QL[s] = d' at *
     have heq : ∀ w, Sem.run Try.prog (binOp .eql 31 (.agg #[.int .i64 d.x, .int .i64 d.y]) (.agg #[.int .i64 d'.x, .int .i64 d'.y])) w = .ok (.bool false) w := fun w => by rw [ptEq, pt_diff hno]
     have f0 : decide (d.x < 0) = false := decide_eq_false (by omega)
     have f1 : decide (4096 < d.x) = false := decide_eq_false (by omega)
     have f2 : decide (d.y < 0) = false := decide_eq_false (by omega)
     have f3 : decide (4096 < d.y) = false := decide_eq_false (by omega)
     have q1 : (((s + 1 : Nat) : Int) - 1) = (s : Int) := by omega
     have q2 : (0 : Int) < ((s + 1 : Nat) : Int) := by omega
     have q3 : (s : Int) < (lq : Int) := by omega
     have f4 : decide ((0 : Int) < ((s + 1 : Nat) : Int)) = true := decide_eq_true (by omega)
     have f5 : decide ((0 : Int) < (s : Int) + 1) = true := decide_eq_true (by omega)
     have c0 := bel_cellM gS l5 p0
     have c1 := bel_cellM gS l5 p1
     have c2 := bel_cellM gS l5 r0
     have c3 := bel_cellM gS l5 r1
     have hR : ∀ w', Bel wt w' → w'.cell? ⟨b5, o5 + (s + 1) * 2, none⟩ = some (.int .i64 d.x) ∧ w'.cell? ⟨b5, o5 + (s + 1) * 2 + 1, none⟩ = some (.int .i64 d.y) ∧ w'.cell? ⟨b5, o5 + s * 2, none⟩ = some (.int .i64 d'.x) ∧ w'.cell? ⟨b5, o5 + s * 2 + 1, none⟩ = some (.int .i64 d'.y) := fun w' h =>
      ⟨bel_cellM (bel_step gS h) l5 p0, bel_cellM (bel_step gS h) l5 p1, bel_cellM (bel_step gS h) l5 r0, bel_cellM (bel_step gS h) l5 r1⟩
     have g0 : Bel wt wt := Bel.refl _
     clear p0 p1 r0 r1 e5 t2 hno
     as_aux_lemma =>
     go_wp2
     go_big_quiet (fail)
     have hH : Bel wt (wt.drewN nq) := bel_drewN (Bel.refl _) _
     go_wp2
     go_roundw
     case rel => exact ⟨s + 1 + 1, by omega, by go_num, bel_step gS hH⟩
     case measure => simp [intOf]; omega
end Go.Proofs.Ytkmccjjghpnejaa
