/-
  Tiles join: the walk of the law.
-/
import Derived.Test.YtbfcmlajlppmdaaTjnK
import Derived.Test.YtbfcmlajlppmdaaTjnA
import Derived.Test.YtbfcmlajlppmdaaTjnD
import Derived.Test.YtbfcmlajlppmdaaTk3
import Derived.Deep.DeepCutAuto
namespace Go.Proofs.Ytbfcmlajlppmdaa
open Go.RowKit Go.Maps

theorem pts_two {w : World} {b off m k : Nat} {X Y : Nat → Int} (h : Pts w (some ⟨b, off, none⟩) m X Y) (hk : k + 1 < m) : Pts w (some ⟨b, off + k * 2, none⟩) 2 (fun j => X (k + j)) (fun j => Y (k + j)) := by
 rcases h with h | ⟨b', off', e, hb, hc⟩
 ·omega
 ·injection e with e
  injection e with e1 e2
  subst e1
  refine .inr ⟨_, off + k * 2, rfl, hb, fun i hi => ?_⟩
  obtain ⟨h0, h1⟩ := hc (k + i) (by omega)
  refine ⟨?_, ?_⟩
  ·rw [show off + k * 2 + i * 2 = off' + (k + i) * 2 by omega]; exact h0
  ·rw [show off + k * 2 + i * 2 + 1 = off' + (k + i) * 2 + 1 by omega]; exact h1
theorem pts_lit (w : World) (t : TypeId) : Pts (w.alloc (.cells #[.int .i64 0, .int .i64 0, .int .i64 1, .int .i64 0] t)) (some ⟨w.heap.size, 0, none⟩) 2 (fun i => (i : Int)) (fun _ => 0) := by
 have X := Blk.new w [.int .i64 0, .int .i64 0, .int .i64 1, .int .i64 0] t
 refine .inr ⟨_, 0, rfl, X.lt, fun i hi => ?_⟩
 rcases (show i = 0 ∨ i = 1 by omega) with rfl | rfl
 ·exact ⟨X.cell 0 (by simp), X.cell 1 (by simp)⟩
 ·exact ⟨X.cell 2 (by simp), X.cell 3 (by simp)⟩
theorem box_lit : Box64 ⟨0, 0, 5, 5⟩ := ⟨by show In64 0; unfold In64; omega, by show In64 0; unfold In64; omega, by show In64 5; unfold In64; omega, by show In64 5; unfold In64; omega⟩
theorem lit_one : (clipQ ⟨0, 0, 5, 5⟩ 2 (fun i => (i : Int)) (fun _ => 0)).length = 1 := by decide

theorem pts_xs {w : World} {b o : Nat} {X Y : Nat → Int} (h : Pts w (some ⟨b, o, none⟩) 2 X Y) : w.cell? ⟨b, o, none⟩ = some (.int .i64 (X 0)) ∧ w.cell? ⟨b, o + 2, none⟩ = some (.int .i64 (X 1)) := by
 rcases h with h | ⟨b', o', e, hb, hc⟩
 ·omega
 ·injection e with e
  injection e with e1 e2
  subst e1 e2
  exact ⟨(hc 0 (by decide)).1, (hc 1 (by decide)).1⟩
theorem rows_one {w : World} {a : Option Addr} {r : List PtD} {bs : List Nat} (h : RowsL w a [r] bs) : ∃ b o a' c' bs', a = some ⟨b, o, none⟩ ∧ b < w.heap.size ∧ w.cell? ⟨b, o, none⟩ = some (.slice a' r.length c') ∧ PtL w a' r bs' := by
 rcases h with ⟨h1, _⟩ | ⟨b1, off1, f, e, h1, _, hc1⟩
 ·cases h1
 ·obtain ⟨a8, c8, _, x8, h8⟩ := hc1 0 (by simp)
  exact ⟨b1, off1, a8, c8, _, e, h1, by simpa using x8, h8⟩
theorem ptl_one {w : World} {a : Option Addr} {d : PtD} {bs : List Nat} (h : PtL w a [d] bs) : ∃ b o, a = some ⟨b, o, none⟩ ∧ b < w.heap.size ∧ w.cell? ⟨b, o, none⟩ = some (.int .i64 d.x) ∧ w.cell? ⟨b, o + 1, none⟩ = some (.int .i64 d.y) := by
 rcases h with ⟨h1, _⟩ | ⟨b1, off1, f, e, h1, _, hc1⟩
 ·cases h1
 ·obtain ⟨_, _, _, c0, c1⟩ := hc1 0 (by simp)
  exact ⟨b1, off1, e, h1, by simpa using c0, by simpa using c1⟩
theorem okA_out {m : Nat} {X Y : Nat → Int} (h : okA m X Y = true) : ∀ i, i < m → POk (X i) (Y i) := fun i hi => by
 unfold okA at h
 rw [List.all_eq_true] at h
 exact pOk_iff.1 (h i (List.mem_range.2 hi))

set_option maxRecDepth 100000 in
set_option maxHeartbeats 4000000 in
theorem lawFnTilesJoin_any (a : Option Addr) (n c : Nat) (w : World) (hS : Bts w a n) (_hm : n ≤ 9223372036854775807) :
  Calls Try.prog 5 #[.slice a n c] w fun e w' => e = .returned (.bool true) ∧ Bel w w' := by
 by_cases hn : n ≤ 1048576
 ·have hbig : decide (1048576 < (n : Int)) = false := by simp; omega
  go_enter Try.func5, Try.ntmps5
  go_wp2_with fail
  refine (big_any _ _ _ _).mono ?_
  rintro e w1 ⟨rfl, rfl⟩
  rw [hbig]
  clear hbig
  go_wp2_with fail
  refine (drawClip_any _ _ _ _ hS hn).mono ?_
  rintro e w2 ⟨v, m, xs, q, rfl, hm, hO, hX, h6, B2⟩
  obtain ⟨va, vc, X, Y, rfl, hvc, hP⟩ := own_pts hO hX
  clear hO hX
  obtain ⟨U, HU⟩ : ∃ V, Hid (V = w2.alloc (.cells #[.int .i64 q.a, .int .i64 q.b, .int .i64 q.c, .int .i64 q.d] 34)) := ⟨_, (rfl : w2.alloc (.cells #[.int .i64 q.a, .int .i64 q.b, .int .i64 q.c, .int .i64 q.d] 34) = _)⟩
  have hbU : Bel w2 U := by rw [HU.out]; exact bel_alloc (Bel.refl _) _
  have XU : Blk U w2.heap.size [.int .i64 q.a, .int .i64 q.b, .int .i64 q.c, .int .i64 q.d] := by rw [HU.out]; exact Blk.new w2 [.int .i64 q.a, .int .i64 q.b, .int .i64 q.c, .int .i64 q.d] _
  have BU := bel_step B2 hbU
  have PU := hP.bel hbU
  clear hP hbU B2 _hm
  go_upto_region 4 with fail
  rw [← HU.out]
  clear HU
  go_cut [75] (fun t wx => ∃ b : Bool, t = .bool b ∧ Bel U wx ∧ (b = false → m ≤ 200 ∧ okA m X Y = true ∧ q.a ≤ q.c ∧ q.b ≤ q.d ∧ q.c ≤ 10000000))
  case first =>
   as_aux_lemma =>
   by_cases h200 : m ≤ 200
   ·have h200' : ¬ (200 : Int) < (m : Int) := by omega
    go_wp2_with fail
    refine (allOk_any _ _ _ X Y _ PU (by omega)).mono ?_
    rintro e w3 ⟨rfl, g3⟩
    have X3 := XU.bel g3
    have u0 : w3.cell? ⟨w2.heap.size, 0, none⟩ = some (.int .i64 q.a) := X3.cell 0 (by simp)
    have u1 : w3.cell? ⟨w2.heap.size, 1, none⟩ = some (.int .i64 q.b) := X3.cell 1 (by simp)
    have u2 : w3.cell? ⟨w2.heap.size, 2, none⟩ = some (.int .i64 q.c) := X3.cell 2 (by simp)
    have u3 : w3.cell? ⟨w2.heap.size, 3, none⟩ = some (.int .i64 q.d) := X3.cell 3 (by simp)
    rcases Bool.eq_false_or_eq_true (okA m X Y) with hok | hok
    rotate_left
    ·rw [hok]
     go_wp2
     go_meet
     case rel => exact ⟨true, rfl, g3, fun h => by cases h⟩
    rw [hok]
    by_cases hx : q.a ≤ q.c
    rotate_left
    ·have hx' : q.c < q.a := by omega
     go_wp2
     go_meet
     case rel => exact ⟨true, rfl, g3, fun h => by cases h⟩
    have hx' : ¬ q.c < q.a := by omega
    by_cases hy : q.b ≤ q.d
    rotate_left
    ·have hy' : q.d < q.b := by omega
     go_wp2
     go_meet
     case rel => exact ⟨true, rfl, g3, fun h => by cases h⟩
    have hy' : ¬ q.d < q.b := by omega
    go_wp2_with fail
    refine (abs_anyT q.c _).mono ?_
    rintro e w4 ⟨z1, rfl, hz1, rfl⟩
    by_cases k1 : z1 ≤ 10000000
    rotate_left
    ·have k1' : 10000000 < z1 := by omega
     go_wp2
     go_meet
     case rel => exact ⟨true, rfl, g3, fun h => by cases h⟩
    have k1' : ¬ 10000000 < z1 := by omega
    have hc : Hid (q.c ≤ 10000000) := (by by_cases h0 : 0 ≤ q.c; (· have := hz1 h0; omega); (· omega) : q.c ≤ 10000000)
    clear hz1
    go_wp2_with fail
    refine (abs_anyT q.a _).mono ?_
    rintro e w4 ⟨z2, rfl, _, rfl⟩
    by_cases k2 : z2 ≤ 10000000
    rotate_left
    ·have k2' : 10000000 < z2 := by omega
     go_wp2
     go_meet
     case rel => exact ⟨true, rfl, g3, fun h => by cases h⟩
    have k2' : ¬ 10000000 < z2 := by omega
    go_wp2_with fail
    refine (abs_anyT q.b _).mono ?_
    rintro e w4 ⟨z3, rfl, _, rfl⟩
    by_cases k3 : z3 ≤ 10000000
    rotate_left
    ·have k3' : 10000000 < z3 := by omega
     go_wp2
     go_meet
     case rel => exact ⟨true, rfl, g3, fun h => by cases h⟩
    have k3' : ¬ 10000000 < z3 := by omega
    go_wp2_with fail
    refine (abs_anyT q.d _).mono ?_
    rintro e w4 ⟨z4, rfl, _, rfl⟩
    by_cases k4 : z4 ≤ 10000000
    rotate_left
    ·have k4' : 10000000 < z4 := by omega
     go_wp2
     go_meet
     case rel => exact ⟨true, rfl, g3, fun h => by cases h⟩
    have k4' : ¬ 10000000 < z4 := by omega
    go_wp2
    go_meet
    case rel => exact ⟨false, congrArg Value.bool (by simp [hx', hy', k1', k2', k3', k4']), g3, fun _ => ⟨h200, hok, hx, hy, hc.out⟩⟩
   ·have h200' : (200 : Int) < (m : Int) := by omega
    go_wp2
    go_meet
    case rel => exact ⟨true, rfl, Bel.refl _, fun h => by cases h⟩
  case rest =>
   obtain ⟨b, rfl, gC, hb⟩ := hcut
   have BC := bel_step BU gC
   cases b
   rotate_left
   ·clear hb
    as_aux_lemma =>
    go_wp2_with fail
    refine (clipI_any _ 2 2 (fun i => (i : Int)) (fun _ => 0) ⟨0, 0, 5, 5⟩ _ (pts_lit _ _) (by decide) box_lit).mono ?_
    rintro e w4 ⟨a4, c4, b4, rfl, _, _, g4⟩
    rw [lit_one]
    have B4 := bel_step (bel_alloc BC _) g4
    go_wp2
    go_ret
    exact ⟨rfl, B4⟩
   obtain ⟨h200, hok, hx, hy, hc⟩ := hb rfl
   clear hb
   have XW := XU.bel gC
   have u0 : wc.cell? ⟨w2.heap.size, 0, none⟩ = some (.int .i64 q.a) := XW.cell 0 (by simp)
   have u1 : wc.cell? ⟨w2.heap.size, 1, none⟩ = some (.int .i64 q.b) := XW.cell 1 (by simp)
   have u2 : wc.cell? ⟨w2.heap.size, 2, none⟩ = some (.int .i64 q.c) := XW.cell 2 (by simp)
   have u3 : wc.cell? ⟨w2.heap.size, 3, none⟩ = some (.int .i64 q.d) := XW.cell 3 (by simp)
   have ul := XW.lt
   go_upto_region 7 with fail
   obtain ⟨E, HE⟩ : ∃ E, Hid (E = wc.heap.size) := ⟨_, (rfl : wc.heap.size = _)⟩
   obtain ⟨V, HV⟩ : ∃ V, Hid (V = wc.alloc (.cells #[.int .i64 q.c, .int .i64 q.b, .int .i64 10000000, .int .i64 q.d] 34)) := ⟨_, (rfl : wc.alloc (.cells #[.int .i64 q.c, .int .i64 q.b, .int .i64 10000000, .int .i64 q.d] 34) = _)⟩
   rw [← HV.out, ← HE.out]
   have hbV : Bel wc V := by rw [HV.out]; exact bel_alloc (Bel.refl _) _
   have XE : Blk V E [.int .i64 q.c, .int .i64 q.b, .int .i64 10000000, .int .i64 q.d] := by rw [HV.out, HE.out]; exact Blk.new wc [.int .i64 q.c, .int .i64 q.b, .int .i64 10000000, .int .i64 q.d] _
   have BV := bel_step BC hbV
   have XV := XW.bel hbV
   have PV := PU.bel (bel_step gC hbV)
   have e6 := box_est h6
   have HO : Hid (∀ i, i < m → POk (X i) (Y i)) := okA_out hok
   obtain ⟨B0, HB0⟩ : ∃ E, Hid (E = w2.heap.size) := ⟨_, (rfl : w2.heap.size = _)⟩
   rw [← HB0.out]
   rw [← HB0.out] at XV
   clear XW u0 u1 u2 u3 ul HE HV HB0 hbV BC gC XU PU BU hS hok
   go_wp2_with fail
   go_loopw [6, 7, 8, 9, 10, 11, 12, 13] (fun i _ _ _ _ _ _ _ wr => ∃ k : Nat, k ≤ m ∧ i = .int .i64 ((k + 1 : Nat) : Int) ∧ Bel V wr) (fun i _ _ _ _ _ _ _ _ => m + 1 - (intOf i).toNat)
   case atStart => exact ⟨0, Nat.zero_le _, rfl, Bel.refl _⟩
   case round =>
    obtain ⟨k, hk, rfl, gR⟩ := hrel
    obtain ⟨wo, hwo⟩ : ∃ V, V = wr := ⟨_, rfl⟩
    subst hwo
    by_cases hlt : k + 1 < m
    ·rcases PV.bel gR with h | ⟨b, off, rfl, hb, hcc⟩
     ·omega
     have P2 := pts_two (PV.bel gR) hlt
     have hlt' : ((k + 1 : Nat) : Int) < (m : Int) := by omega
     have ew : IntKind.i64.wrap (((k + 1 : Nat) : Int) - 1) = (k : Int) := by rw [IntKind.wrap_i64]; omega
     have ew2 : IntKind.i64.wrap (((k + 1 : Nat) : Int) + 1) = ((k + 2 : Nat) : Int) := by rw [IntKind.wrap_i64]; omega
     have Xo := XV.bel gR
     have v0 : wo.cell? ⟨B0, 0, none⟩ = some (.int .i64 q.a) := Xo.cell 0 (by simp)
     have v1 : wo.cell? ⟨B0, 1, none⟩ = some (.int .i64 q.b) := Xo.cell 1 (by simp)
     have v2 : wo.cell? ⟨B0, 2, none⟩ = some (.int .i64 q.c) := Xo.cell 2 (by simp)
     have v3 : wo.cell? ⟨B0, 3, none⟩ = some (.int .i64 q.d) := Xo.cell 3 (by simp)
     have hL1 : clipQ q 2 (fun j => X (k + j)) (fun j => Y (k + j)) = onePc (strC q (X k) (Y k) (X (k + 1)) (Y (k + 1))) := clipQ_two (HO.out k (by omega)) (HO.out (k + 1) hlt) (by unfold ordB; simp [hx, hy])
     have hL2 : clipQ (estB q 10000000) 2 (fun j => X (k + j)) (fun j => Y (k + j)) = onePc (strC (estB q 10000000) (X k) (Y k) (X (k + 1)) (Y (k + 1))) := clipQ_two (HO.out k (by omega)) (HO.out (k + 1) hlt) (by unfold ordB estB; simp [hc, hy])
     have cI1 := fun w' (h : Pts w' (some ⟨b, off + k * 2, none⟩) 2 (fun j => X (k + j)) (fun j => Y (k + j))) => clipI_any _ 2 (vc - k) (fun j => X (k + j)) (fun j => Y (k + j)) q w' h (by decide) h6
     have cS1 := fun w' (h : Pts w' (some ⟨b, off + k * 2, none⟩) 2 (fun j => X (k + j)) (fun j => Y (k + j))) => clipS_any _ 2 (vc - k) (fun j => X (k + j)) (fun j => Y (k + j)) q w' h (by decide) h6
     have cI2 := fun w' (h : Pts w' (some ⟨b, off + k * 2, none⟩) 2 (fun j => X (k + j)) (fun j => Y (k + j))) => clipI_any _ 2 (vc - k) (fun j => X (k + j)) (fun j => Y (k + j)) (estB q 10000000) w' h (by decide) e6
     have cS2 := fun w' (h : Pts w' (some ⟨b, off + k * 2, none⟩) 2 (fun j => X (k + j)) (fun j => Y (k + j))) => clipS_any _ 2 (vc - k) (fun j => X (k + j)) (fun j => Y (k + j)) (estB q 10000000) w' h (by decide) e6
     rw [hL1] at cI1 cS1
     rw [hL2] at cI2 cS2
     have hI := onePc_in (q := q) (ax := X k) (ay := Y k) (bx := X (k + 1)) (b_y := Y (k + 1)) hx hy
     have hK := onePc_in (q := estB q 10000000) (ax := X k) (ay := Y k) (bx := X (k + 1)) (b_y := Y (k + 1)) hc hy
     have hJ := fun c d => join_pc (q := q) (M := 10000000) (ax := X k) (ay := Y k) (bx := X (k + 1)) (b_y := Y (k + 1)) (c := c) (d := d) hx hy hc (HO.out k (by omega)).x1 (HO.out (k + 1) hlt).x1
     have z1 := onePc_len (strC q (X k) (Y k) (X (k + 1)) (Y (k + 1)))
     have z2 := onePc_len (strC (estB q 10000000) (X k) (Y k) (X (k + 1)) (Y (k + 1)))
     generalize onePc (strC q (X k) (Y k) (X (k + 1)) (Y (k + 1))) = L1 at *
     generalize onePc (strC (estB q 10000000) (X k) (Y k) (X (k + 1)) (Y (k + 1))) = L2 at *
     have HI : Hid (∀ c ∈ L1, c.length = 2 ∧ ∀ d ∈ c, ptB q d.x d.y = true) := hI
     have HK : Hid (∀ c ∈ L2, c.length = 2) := fun c hc => (hK c hc).1
     clear hK
     have HJ : Hid (∀ c d, X k ≠ X (k + 1) → L1 = [c] → L2 = [d] → (atQ q.c c).length = 1 → (atQ q.c d).length = 1 → atQ q.c c = atQ q.c d) := hJ
     clear hI hJ hL1 hL2 hcc
     obtain ⟨n1, Hn1⟩ : ∃ m, Hid (L1.length = m) := ⟨_, (rfl : L1.length = _)⟩
     obtain ⟨n2, Hn2⟩ : ∃ m, Hid (L2.length = m) := ⟨_, (rfl : L2.length = _)⟩
     rw [Hn1.out] at cI1 cS1 z1
     rw [Hn2.out] at cI2 cS2 z2
     go_wp2_with fail
     rw [show k + 1 + 1 - k = 2 by omega]
     refine (cI1 _ P2).mono ?_
     rintro e w4 ⟨a4, c4, b4, rfl, T4, _, g4⟩
     have o4 := bel_step gR g4
     have X4 := (XE.bel o4)
     have y0 : w4.cell? ⟨E, 0, none⟩ = some (.int .i64 q.c) := X4.cell 0 (by simp)
     have y1 : w4.cell? ⟨E, 1, none⟩ = some (.int .i64 q.b) := X4.cell 1 (by simp)
     have y2 : w4.cell? ⟨E, 2, none⟩ = some (.int .i64 10000000) := X4.cell 2 (by simp)
     have y3 : w4.cell? ⟨E, 3, none⟩ = some (.int .i64 q.d) := X4.cell 3 (by simp)
     clear v0 v1 v2 v3 Xo X4
     go_wp2_with fail
     refine (cI2 _ (P2.bel g4)).mono ?_
     rintro e w5 ⟨a5, c5, b5, rfl, T5, _, g5⟩
     have g45 := bel_step g4 g5
     have Xo := XV.bel (bel_step gR g45)
     have v0 : w5.cell? ⟨B0, 0, none⟩ = some (.int .i64 q.a) := Xo.cell 0 (by simp)
     have v1 : w5.cell? ⟨B0, 1, none⟩ = some (.int .i64 q.b) := Xo.cell 1 (by simp)
     have v2 : w5.cell? ⟨B0, 2, none⟩ = some (.int .i64 q.c) := Xo.cell 2 (by simp)
     have v3 : w5.cell? ⟨B0, 3, none⟩ = some (.int .i64 q.d) := Xo.cell 3 (by simp)
     clear y0 y1 y2 y3
     go_wp2_with fail
     refine (cS1 _ (P2.bel g45)).mono ?_
     rintro e w6 ⟨a6, c6, b6, rfl, _, _, g6⟩
     have g46 := bel_step g45 g6
     have X6 := XE.bel (bel_step gR g46)
     have y0 : w6.cell? ⟨E, 0, none⟩ = some (.int .i64 q.c) := X6.cell 0 (by simp)
     have y1 : w6.cell? ⟨E, 1, none⟩ = some (.int .i64 q.b) := X6.cell 1 (by simp)
     have y2 : w6.cell? ⟨E, 2, none⟩ = some (.int .i64 10000000) := X6.cell 2 (by simp)
     have y3 : w6.cell? ⟨E, 3, none⟩ = some (.int .i64 q.d) := X6.cell 3 (by simp)
     clear v0 v1 v2 v3 Xo X6
     go_wp2_with fail
     refine (cS2 _ (P2.bel g46)).mono ?_
     rintro e w7 ⟨a7, c7, b7, rfl, _, _, g7⟩
     have g47 := bel_step g46 g7
     have o7 := bel_step gR g47
     have X7 := XV.bel o7
     have T47 := T4.bel rowE (bel_step g5 (bel_step g6 g7))
     have T57 := T5.bel rowE (bel_step g6 g7)
     have P7 := P2.bel g47
     clear y0 y1 y2 y3 T4 T5 P2 cI1 cI2 cS1 cS2 g4 g5 g6 g7 g45 g46 o4 ew ew2
     obtain ⟨d4, T47⟩ := T47.rows
     obtain ⟨d5, T57⟩ := T57.rows
     go_wp2_with fail
     go_loopw [10, 11] (fun i _ wr => ∃ j : Nat, j ≤ n1 ∧ i = .int .i64 j ∧ Bel w7 wr) (fun i _ _ => n1 - (intOf i).toNat)
     case atStart => exact ⟨0, Nat.zero_le _, rfl, Bel.refl _⟩
     case round =>
      obtain ⟨j, hj, rfl, gE⟩ := hrel
      obtain ⟨wp, hwp⟩ : ∃ V, V = wr := ⟨_, rfl⟩
      subst hwp
      by_cases hjl : j < n1
      ·have hjL : j < L1.length := by rw [Hn1.out]; exact hjl
       rcases Sl.bel rowE T47 gE with ⟨h1, _⟩ | ⟨b1, off1, f, rfl, h1, _, hc1⟩
       ·exfalso; rw [h1] at hjL; simp at hjL
       obtain ⟨a8, c8, _, x8, P8⟩ := hc1 j hjL
       obtain ⟨i8, J8⟩ := HI.out _ (List.getElem_mem hjL)
       have J8 : Hid (∀ d ∈ L1[j], ptB q d.x d.y = true) := J8
       clear hc1
       generalize L1[j] = row at *
       rw [i8] at x8
       have hjl' : (j : Int) < (n1 : Int) := by omega
       rcases P8 with ⟨h2, _⟩ | ⟨b2, off2, f2, rfl, h2, _, hc2⟩
       ·exfalso; rw [h2] at i8; simp at i8
       rw [Nat.mul_one] at x8
       go_wp2_with fail
       go_loopw [11] (fun i wr => ∃ t : Nat, t ≤ 2 ∧ i = .int .i64 t ∧ Bel wp wr) (fun i _ => 2 - (intOf i).toNat)
       case atStart => exact ⟨0, by decide, rfl, Bel.refl _⟩
       case round =>
        obtain ⟨t, ht, rfl, gF⟩ := hrel
        obtain ⟨ws, hws⟩ : ∃ V, V = wr := ⟨_, rfl⟩
        subst hws
        have x9 := bel_cellM gF h1 x8
        have l9 : b1 < ws.heap.size := bel_lt gF h1
        by_cases htl : t < 2
        ·obtain ⟨_, i1, i2, c0, c1⟩ := hc2 t (by rw [i8]; exact htl)
         have d0 := bel_cellM gF h2 c0
         have d1 := bel_cellM gF h2 c1
         have J9 := J8.out _ (List.getElem_mem (by rw [i8]; exact htl : t < row.length))
         have htl' : (t : Int) < 2 := by omega
         clear c0 c1 hc2
         generalize row[t] = d at *
         have Xs := X7.bel (bel_step gE gF)
         have hR : ∀ w', Bel ws w' → w'.cell? ⟨B0, 0, none⟩ = some (.int .i64 q.a) ∧ w'.cell? ⟨B0, 1, none⟩ = some (.int .i64 q.b) ∧ w'.cell? ⟨B0, 2, none⟩ = some (.int .i64 q.c) ∧ w'.cell? ⟨B0, 3, none⟩ = some (.int .i64 q.d) ∧ w'.cell? ⟨b1, off1 + j, none⟩ = some (.slice (some ⟨b2, off2, none⟩) 2 c8) ∧ w'.cell? ⟨b2, off2 + t * 2, none⟩ = some (.int .i64 d.x) ∧ w'.cell? ⟨b2, off2 + t * 2 + 1, none⟩ = some (.int .i64 d.y) := fun w' h =>
          ⟨(Xs.bel h).cell 0 (by simp), (Xs.bel h).cell 1 (by simp), (Xs.bel h).cell 2 (by simp), (Xs.bel h).cell 3 (by simp), bel_cellM h l9 x9, bel_cellM h (bel_lt gF h2) d0, bel_cellM h (bel_lt gF h2) d1⟩
         have g0 : Bel ws ws := Bel.refl _
         clear d0 d1
         as_aux_lemma =>
         go_wp2
         go_region_held3 (fun w' => Bel ws w') (with_reducible (repeat (first | exact g0 | refine Bel.drew ?_ | assumption)))
          (first | (go_at_call 24; refine (lawIn_any q d.x d.y _).mono ?_; rintro e wq ⟨rfl, hbq⟩; refine (fun hq : Bel ws wq => ?_) (bel_step (by assumption) hbq)))
         clear hR
         go_wp2
         go_roundw
         case rel => exact ⟨t + 1, by omega, by go_num, bel_step gF hq⟩
         case measure => simp [intOf]; omega
        ·obtain rfl : t = 2 := by omega
         go_wp2
         go_roundw
         case rel => exact ⟨j + 1, by omega, by go_num, bel_step gE gF⟩
         case measure => simp [intOf]; omega
      ·obtain rfl : j = n1 := by omega
       have hRx : ∀ w', Bel wp w' → w'.cell? ⟨b, off + k * 2, none⟩ = some (.int .i64 (X k)) ∧ w'.cell? ⟨b, off + k * 2 + 2, none⟩ = some (.int .i64 (X (k + 1))) := fun w' h => pts_xs (P7.bel (bel_step gE h))
       have gU : Bel wp wp.drew := Bel.drew (Bel.refl _)
       go_upto_region 23 with fail
       go_cut [173] (fun v wx => v = .bool (decide (j = 1) && decide (n2 = 1) && decide (X k ≠ X (k + 1))) ∧ Bel wp wx)
       case first =>
        clear PV P7 T47 T57 XE XV X7
        rcases (show j = 0 ∨ j = 1 by omega) with rfl | rfl
        ·clear hRx
         as_aux_lemma =>
         refine wp_region_noPanic ?_
         refine wp_region_held_drew (S := fun w' => Bel wp w') (by kernel_rfl) gU (fun hHeld => ?_)
         refine tk 0 hHeld ?_; refine tk 1 hHeld ?_; refine tk 2 hHeld ?_; refine tk 3 hHeld ?_; refine sk 4 hHeld ?_; refine sk 5 hHeld ?_; refine sk 6 hHeld ?_; refine tk 7 hHeld ?_; refine tk 8 hHeld ?_; refine sk 9 hHeld ?_; refine sk 10 hHeld ?_; refine sk 11 hHeld ?_; refine sk 12 hHeld ?_; refine sk 13 hHeld ?_; refine sk 14 hHeld ?_; refine sk 15 hHeld ?_; refine sk 16 hHeld ?_; refine sk 17 hHeld ?_; refine tk 18 hHeld ?_
         refine wpAnyH_done (by kernel_rfl) ?_ _
         refine NoPanic.normal ?_
         go_wp2_with fail
         go_meet
         case rel => exact ⟨rfl, hHeld⟩
        ·rcases (show n2 = 0 ∨ n2 = 1 by omega) with rfl | rfl
         ·clear hRx
          as_aux_lemma =>
          refine wp_region_noPanic ?_
          refine wp_region_held_drew (S := fun w' => Bel wp w') (by kernel_rfl) gU (fun hHeld => ?_)
          refine tk 0 hHeld ?_; refine tk 1 hHeld ?_; refine tk 2 hHeld ?_; refine tk 3 hHeld ?_; refine tk 4 hHeld ?_; refine tk 5 hHeld ?_; refine tk 6 hHeld ?_; refine tk 7 hHeld ?_; refine tk 8 hHeld ?_; refine sk 9 hHeld ?_; refine sk 10 hHeld ?_; refine sk 11 hHeld ?_; refine sk 12 hHeld ?_; refine sk 13 hHeld ?_; refine sk 14 hHeld ?_; refine sk 15 hHeld ?_; refine sk 16 hHeld ?_; refine sk 17 hHeld ?_; refine tk 18 hHeld ?_
          refine wpAnyH_done (by kernel_rfl) ?_ _
          refine NoPanic.normal ?_
          go_wp2_with fail
          go_meet
          case rel => exact ⟨rfl, hHeld⟩
         ·by_cases hX : X k = X (k + 1)
          ·have HF : Hid ((decide (1 = 1) && decide (1 = 1) && decide (X k ≠ X (k + 1))) = false) := (by simp [hX] : (decide (1 = 1) && decide (1 = 1) && decide (X k ≠ X (k + 1))) = false)
           as_aux_lemma =>
           refine wp_region_noPanic ?_
           refine wp_region_held_drew (S := fun w' => Bel wp w') (by kernel_rfl) gU (fun hHeld => ?_)
           refine tk 0 hHeld ?_; refine tk 1 hHeld ?_; refine tk 2 hHeld ?_; refine tk 3 hHeld ?_; refine tk 4 hHeld ?_; refine tk 5 hHeld ?_; refine tk 6 hHeld ?_; refine tk 7 hHeld ?_; refine tk 8 hHeld ?_; refine tk 9 hHeld ?_; refine tk 10 hHeld ?_; refine tk 11 hHeld ?_; refine tk 12 hHeld ?_; refine tk 13 hHeld ?_; refine tk 14 hHeld ?_; refine tk 15 hHeld ?_; refine tk 16 hHeld ?_; refine tk 17 hHeld ?_; refine tk 18 hHeld ?_
           refine wpAnyH_done (by kernel_rfl) ?_ _
           refine NoPanic.normal ?_
           go_wp2_with fail
           go_meet
           case rel => exact ⟨by rw [HF.out], hHeld⟩
          ·have HF : Hid ((decide (1 = 1) && decide (1 = 1) && decide (X k ≠ X (k + 1))) = true) := (by simp [hX] : (decide (1 = 1) && decide (1 = 1) && decide (X k ≠ X (k + 1))) = true)
           as_aux_lemma =>
           refine wp_region_noPanic ?_
           refine wp_region_held_drew (S := fun w' => Bel wp w') (by kernel_rfl) gU (fun hHeld => ?_)
           refine tk 0 hHeld ?_; refine tk 1 hHeld ?_; refine tk 2 hHeld ?_; refine tk 3 hHeld ?_; refine tk 4 hHeld ?_; refine tk 5 hHeld ?_; refine tk 6 hHeld ?_; refine tk 7 hHeld ?_; refine tk 8 hHeld ?_; refine tk 9 hHeld ?_; refine tk 10 hHeld ?_; refine tk 11 hHeld ?_; refine tk 12 hHeld ?_; refine tk 13 hHeld ?_; refine tk 14 hHeld ?_; refine tk 15 hHeld ?_; refine tk 16 hHeld ?_; refine tk 17 hHeld ?_; refine tk 18 hHeld ?_
           refine wpAnyH_done (by kernel_rfl) ?_ _
           refine NoPanic.normal ?_
           go_wp2_with fail
           go_meet
           case rel => exact ⟨by rw [HF.out]; exact congrArg Value.bool (bne_iff_ne.2 hX), hHeld⟩
       case rest =>
        obtain ⟨rfl, gT⟩ := hcut
        obtain ⟨wt, hwt⟩ : ∃ V, V = wc := ⟨_, rfl⟩
        subst hwt
        clear hRx gU
        have o7t := bel_step o7 (bel_step gE gT)
        rcases Bool.eq_false_or_eq_true (decide (j = 1) && decide (n2 = 1) && decide (X k ≠ X (k + 1))) with hB | hB
        rotate_left
        ·rw [hB]
         go_wp2
         go_roundw
         case rel => exact ⟨k + 1, by omega, by go_num, o7t⟩
         case measure => simp [intOf]; omega
        ·rw [hB]
         simp only [Bool.and_eq_true, decide_eq_true_eq] at hB
         obtain ⟨⟨rfl, rfl⟩, hX⟩ := hB
         obtain ⟨r1, rfl⟩ := List.length_eq_one_iff.1 Hn1.out
         obtain ⟨r2, rfl⟩ := List.length_eq_one_iff.1 Hn2.out
         have l1 := (HI.out r1 (by simp)).1
         have l2 := HK.out r2 (by simp)
         have HQ : Hid ((atQ q.c r1).length = 1 → (atQ q.c r2).length = 1 → atQ q.c r1 = atQ q.c r2) := HJ.out r1 r2 hX rfl rfl
         clear HI HJ HK Hn1 Hn2 hX
         have T4t := Sl.bel rowE T47 (bel_step gE gT)
         have T5t := Sl.bel rowE T57 (bel_step gE gT)
         obtain ⟨b1, f1, a8, c8, s8, rfl, h1, x8, P8⟩ := rows_one T4t
         obtain ⟨b2, f2, a9, c9, s9, rfl, h2, x9, P9⟩ := rows_one T5t
         rw [l1] at x8
         rw [l2] at x9
         have Xt := X7.bel (bel_step gE gT)
         have hR : ∀ w', Bel wt w' → w'.cell? ⟨B0, 2, none⟩ = some (.int .i64 q.c) ∧ w'.cell? ⟨b1, f1, none⟩ = some (.slice a8 2 c8) ∧ w'.cell? ⟨b2, f2, none⟩ = some (.slice a9 2 c9) := fun w' h =>
          ⟨(Xt.bel h).cell 2 (by simp), bel_cellM h h1 x8, bel_cellM h h2 x9⟩
         have g0 : Bel wt wt := Bel.refl _
         clear T4t T5t T47 T57 x8 x9
         as_aux_lemma =>
         go_wp2
         go_region_held3 (fun w' => Bel wt w') (with_reducible (repeat (first | exact g0 | refine Bel.drew ?_ | assumption)))
          (first | (go_at_call 25; refine (at_any a8 2 c8 r1 s8 q.c _ (P8.bel ptE (by assumption)) l1 (by decide)).mono ?_; rintro e wq ⟨aa, ca, sa, rfl, Ta, hbq⟩; refine (fun hq : Bel wt wq => ?_) (bel_step (by assumption) hbq)))
         have P9q := P9.bel ptE hq
         have hR2 : ∀ w', Bel wq w' → w'.cell? ⟨B0, 2, none⟩ = some (.int .i64 q.c) ∧ w'.cell? ⟨b2, f2, none⟩ = some (.slice a9 2 c9) := fun w' h =>
          ⟨(hR _ (bel_step hq h)).1, (hR _ (bel_step hq h)).2.2⟩
         have g1 : Bel wq wq := Bel.refl _
         clear hR P8 P9
         as_aux_lemma =>
         go_wp2
         go_region_held3 (fun w' => Bel wq w') (with_reducible (repeat (first | exact g1 | refine Bel.drew ?_ | assumption)))
          (first | (go_at_call 25; refine (at_any a9 2 c9 r2 s9 q.c _ (P9q.bel ptE (by assumption)) l2 (by decide)).mono ?_; rintro e wv ⟨ab, cb, sb, rfl, Tb, hbv⟩; refine (fun hv : Bel wq wv => ?_) (bel_step (by assumption) hbv)))
         have Tav := Ta.bel ptE hv
         have ov := bel_step o7t (bel_step hq hv)
         have m1l := atQ_len q.c r1
         have m2l := atQ_len q.c r2
         rw [l1] at m1l
         rw [l2] at m2l
         obtain ⟨m1, Hm1⟩ : ∃ x, Hid ((atQ q.c r1).length = x) := ⟨_, (rfl : (atQ q.c r1).length = _)⟩
         obtain ⟨m2, Hm2⟩ : ∃ x, Hid ((atQ q.c r2).length = x) := ⟨_, (rfl : (atQ q.c r2).length = _)⟩
         rw [Hm1.out] at m1l ⊢
         rw [Hm2.out] at m2l ⊢
         have gU : Bel wv wv.drew := Bel.drew (Bel.refl _)
         clear hR2 g0 g1 Ta P9q PV P7 XE XV X7 Xt
         go_upto_region 26 with fail
         go_cut [204] (fun v wx => v = .bool false ∧ Bel wv wx)
         case first =>
          rcases (show m1 = 0 ∨ m1 = 2 ∨ m1 = 1 by omega) with rfl | rfl | rfl
          ·clear Tav Tb
           as_aux_lemma =>
           refine wp_region_noPanic ?_
           refine wp_region_held_drew (S := fun w' => Bel wv w') (by kernel_rfl) gU (fun hHeld => ?_)
           refine tk 0 hHeld ?_; refine tk 1 hHeld ?_; refine tk 2 hHeld ?_; refine tk 3 hHeld ?_; refine sk 4 hHeld ?_; refine sk 5 hHeld ?_; refine sk 6 hHeld ?_; refine tk 7 hHeld ?_; refine tk 8 hHeld ?_; refine sk 9 hHeld ?_; refine sk 10 hHeld ?_; refine sk 11 hHeld ?_; refine sk 12 hHeld ?_; refine sk 13 hHeld ?_; refine sk 14 hHeld ?_; refine sk 15 hHeld ?_; refine tk 16 hHeld ?_
           refine wpAnyH_done (by kernel_rfl) ?_ _
           refine NoPanic.normal ?_
           go_wp2_with fail
           go_meet
           case rel => exact ⟨rfl, hHeld⟩
          ·clear Tav Tb
           as_aux_lemma =>
           refine wp_region_noPanic ?_
           refine wp_region_held_drew (S := fun w' => Bel wv w') (by kernel_rfl) gU (fun hHeld => ?_)
           refine tk 0 hHeld ?_; refine tk 1 hHeld ?_; refine tk 2 hHeld ?_; refine tk 3 hHeld ?_; refine sk 4 hHeld ?_; refine sk 5 hHeld ?_; refine sk 6 hHeld ?_; refine tk 7 hHeld ?_; refine tk 8 hHeld ?_; refine sk 9 hHeld ?_; refine sk 10 hHeld ?_; refine sk 11 hHeld ?_; refine sk 12 hHeld ?_; refine sk 13 hHeld ?_; refine sk 14 hHeld ?_; refine sk 15 hHeld ?_; refine tk 16 hHeld ?_
           refine wpAnyH_done (by kernel_rfl) ?_ _
           refine NoPanic.normal ?_
           go_wp2_with fail
           go_meet
           case rel => exact ⟨rfl, hHeld⟩
          ·rcases (show m2 = 0 ∨ m2 = 2 ∨ m2 = 1 by omega) with rfl | rfl | rfl
           ·clear Tav Tb
            as_aux_lemma =>
            refine wp_region_noPanic ?_
            refine wp_region_held_drew (S := fun w' => Bel wv w') (by kernel_rfl) gU (fun hHeld => ?_)
            refine tk 0 hHeld ?_; refine tk 1 hHeld ?_; refine tk 2 hHeld ?_; refine tk 3 hHeld ?_; refine tk 4 hHeld ?_; refine tk 5 hHeld ?_; refine tk 6 hHeld ?_; refine tk 7 hHeld ?_; refine tk 8 hHeld ?_; refine sk 9 hHeld ?_; refine sk 10 hHeld ?_; refine sk 11 hHeld ?_; refine sk 12 hHeld ?_; refine sk 13 hHeld ?_; refine sk 14 hHeld ?_; refine sk 15 hHeld ?_; refine tk 16 hHeld ?_
            refine wpAnyH_done (by kernel_rfl) ?_ _
            refine NoPanic.normal ?_
            go_wp2_with fail
            go_meet
            case rel => exact ⟨rfl, hHeld⟩
           ·clear Tav Tb
            as_aux_lemma =>
            refine wp_region_noPanic ?_
            refine wp_region_held_drew (S := fun w' => Bel wv w') (by kernel_rfl) gU (fun hHeld => ?_)
            refine tk 0 hHeld ?_; refine tk 1 hHeld ?_; refine tk 2 hHeld ?_; refine tk 3 hHeld ?_; refine tk 4 hHeld ?_; refine tk 5 hHeld ?_; refine tk 6 hHeld ?_; refine tk 7 hHeld ?_; refine tk 8 hHeld ?_; refine sk 9 hHeld ?_; refine sk 10 hHeld ?_; refine sk 11 hHeld ?_; refine sk 12 hHeld ?_; refine sk 13 hHeld ?_; refine sk 14 hHeld ?_; refine sk 15 hHeld ?_; refine tk 16 hHeld ?_
            refine wpAnyH_done (by kernel_rfl) ?_ _
            refine NoPanic.normal ?_
            go_wp2_with fail
            go_meet
            case rel => exact ⟨rfl, hHeld⟩
           ·have e := HQ.out Hm1.out Hm2.out
            obtain ⟨dd, hdd⟩ := List.length_eq_one_iff.1 Hm1.out
            rw [← e, hdd] at Tb
            rw [hdd] at Tav
            clear e hdd
            obtain ⟨p1, o1, rfl, k1, x0, x1⟩ := ptl_one Tav
            obtain ⟨p2, o2, rfl, k2, y0, y1⟩ := ptl_one Tb
            have hRp : ∀ w', Bel wv w' → w'.cell? ⟨p1, o1, none⟩ = some (.int .i64 dd.x) ∧ w'.cell? ⟨p1, o1 + 1, none⟩ = some (.int .i64 dd.y) ∧ w'.cell? ⟨p2, o2, none⟩ = some (.int .i64 dd.x) ∧ w'.cell? ⟨p2, o2 + 1, none⟩ = some (.int .i64 dd.y) := fun w' h =>
             ⟨bel_cellM h k1 x0, bel_cellM h k1 x1, bel_cellM h k2 y0, bel_cellM h k2 y1⟩
            have hne : ∀ w, Sem.run Try.prog (binOp .neq 32 (.agg #[.int .i64 dd.x, .int .i64 dd.y]) (.agg #[.int .i64 dd.x, .int .i64 dd.y])) w = .ok (.bool false) w := fun w => by rw [ptNe, pt_same ⟨rfl, rfl⟩]; rfl
            clear x0 x1 y0 y1 k1 k2 Tav Tb
            as_aux_lemma =>
            refine wp_region_noPanic ?_
            refine wp_region_held_drew (S := fun w' => Bel wv w') (by kernel_rfl) gU (fun hHeld => ?_)
            refine tk 0 hHeld ?_; refine tk 1 hHeld ?_; refine tk 2 hHeld ?_; refine tk 3 hHeld ?_; refine tk 4 hHeld ?_; refine tk 5 hHeld ?_; refine tk 6 hHeld ?_; refine tk 7 hHeld ?_; refine tk 8 hHeld ?_; refine tk 9 hHeld ?_; refine tk 10 hHeld ?_; refine tk 11 hHeld ?_; refine tk 12 hHeld ?_; refine tk 13 hHeld ?_; refine tk 14 hHeld ?_; refine tk 15 hHeld ?_; refine tk 16 hHeld ?_
            refine wpAnyH_done (by kernel_rfl) ?_ _
            refine NoPanic.normal ?_
            go_wp2_with fail
            go_meet
            case rel => exact ⟨rfl, hHeld⟩
         case rest =>
          obtain ⟨rfl, gY⟩ := hcut
          have oY := bel_step ov gY
          go_wp2
          go_roundw
          case rel => exact ⟨k + 1, by omega, by go_num, oY⟩
          case measure => simp [intOf]; omega
    ·have hkm : m = k ∨ m = k + 1 := by omega
     have hlt' : ¬ ((k + 1 : Nat) : Int) < (m : Int) := by omega
     obtain ⟨p1, p2⟩ := all_pc (X := X) (Y := Y) (m := m) HO.out (by omega)
     as_aux_lemma =>
     go_wp2_with fail
     refine (clipI_any _ m vc X Y allB _ (PV.bel gR) (by omega) box_all).mono ?_
     rintro e w9 ⟨a9, c9, b9, rfl, T9, _, g9⟩
     by_cases h2 : m < 2
     ·have h2' : (m : Int) < 2 := by omega
      rw [p1 h2]
      go_wp2
      go_ret
      exact ⟨rfl, bel_step BV (bel_step gR g9)⟩
     ·have h2' : ¬ (m : Int) < 2 := by omega
      obtain ⟨cc, e1, e2⟩ := p2 (by omega)
      rw [e1] at T9
      rw [e1]
      obtain ⟨d9, T9⟩ := T9.rows
      rcases T9 with ⟨h1, _⟩ | ⟨b1, off1, f, rfl, h1, _, hc1⟩
      ·cases h1
      obtain ⟨a8, c8, _, x8, _⟩ := hc1 0 (by simp)
      simp only [List.getElem_cons_zero, Nat.zero_mul, Nat.add_zero] at x8
      rw [e2] at x8
      go_wp2
      go_ret
      exact ⟨rfl, bel_step BV (bel_step gR g9)⟩
 ·have hbig : decide (1048576 < (n : Int)) = true := by simp; omega
  go_enter Try.func5, Try.ntmps5
  go_wp2_with fail
  refine (big_any _ _ _ _).mono ?_
  rintro e w1 ⟨rfl, rfl⟩
  rw [hbig]
  go_wp2
  go_ret
  exact ⟨rfl, Bel.refl _⟩
end Go.Proofs.Ytbfcmlajlppmdaa
