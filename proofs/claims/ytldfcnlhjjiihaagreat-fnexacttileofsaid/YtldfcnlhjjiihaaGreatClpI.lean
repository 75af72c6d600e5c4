/-
  The pieces of a clipped row: the program's contract.
-/
import Derived.Test.YtldfcnlhjjiihaaGreatClpN
import Derived.Test.YtldfcnlhjjiihaaGreatKB
import Derived.Test.YtldfcnlhjjiihaaGreatClpC
import Derived.Test.YtldfcnlhjjiihaaGreatClpR
import Derived.Test.YtldfcnlhjjiihaaGreatClpP
import Derived.Test.YtldfcnlhjjiihaaGreatTloC
import Derived.Deep.DeepCutAuto
namespace Go.Proofs.YtldfcnlhjjiihaaGreat
open Go.RowKit Go.Maps

theorem blk_below {P S : Nat} {w w' : World} {vs : List Value} (h : Blk w S vs) (hb : Below P w w') (hs : S < P) : Blk w' S vs :=
 ⟨Nat.lt_of_lt_of_le h.lt hb.size, fun j hj => (hb.cell (p := ⟨S, j, none⟩) hs).trans (h.cell j hj), fun j => (hb.frozen (p := ⟨S, j, none⟩) hs).trans (h.free j)⟩
theorem jnP_eq {q' : PcD} {L : List (List PtD)} {op : Bool} {f : PtD} (hp : q'.pts = L.flatten) (ho : q'.op = op) (h : GoodP L) : bP (jnP q' f) = (op && lastB L f) := by
 obtain ⟨vp, vs, pts, R, ss, o⟩ := q'
 simp only at hp ho
 subst hp ho
 have hi : jnP ⟨vp, vs, L.flatten, R, ss, o⟩ f ↔ (o && lastB L f) = true := by
  rw [Bool.and_eq_true, lastB_iff h]
  exact Iff.rfl
 cases e : (o && lastB L f) with
 | true => exact bP_true (hi.2 e)
 | false => exact bP_false fun h => by rw [hi.1 h] at e; cases e

/-- What is told: the pieces' rows in block R, their points one behind the other in block g. -/
structure ClpV (w w' : World) (L : List (List PtD)) (v : Value) : Prop where
 out : L = [] ∧ v = .slice none 0 0 ∨ ∃ R g, v = .slice (some ⟨R, 0, none⟩) L.length L.length ∧ Blk w' R (ctR g (stN L) L.length L.length) ∧ w.heap.size ≤ R ∧
  (0 < L.flatten.length → w.heap.size ≤ g ∧ g < w'.heap.size ∧ g ≠ R ∧ (∀ j, w'.frozen? ⟨g, j, none⟩ = false) ∧ ∀ j (h : j < L.flatten.length), w'.cell? ⟨g, j * 2, none⟩ = some (.int .i64 L.flatten[j].x) ∧ w'.cell? ⟨g, j * 2 + 1, none⟩ = some (.int .i64 L.flatten[j].y))
/-- The state of the loop. -/
structure CI (w : World) (q : BoxD) (S : Nat) (X Y : Nat → Int) (k : Nat) (V : World) : Prop where
 sc : Blk V S (sciL q)
 ps : ∃ q', Pcs (S + 1) V q' ∧ q'.pts = (clpQ q X Y k).1.flatten ∧ q'.ss = startsL (clpQ q X Y k).1 ∧ q'.op = (clpQ q X Y k).2
 bel : Bel w V
theorem CI.belS {w : World} {q : BoxD} {S : Nat} {X Y : Nat → Int} {k : Nat} {V V' : World} (h : CI w q S X Y k V) (hb : Bel V V') : CI w q S X Y k V' := by
 obtain ⟨h1, ⟨q', h2, h3⟩, h4⟩ := h
 exact ⟨h1.bel hb, ⟨q', h2.bel hb, h3⟩, bel_step h4 hb⟩
/-- The last stretch does not count. -/
theorem CI.no {w : World} {q : BoxD} {S : Nat} {X Y : Nat → Int} {k : Nat} {V : World} (h : CI w q S X Y k V) (hS : w.heap.size ≤ S) (hs : strC q (X k) (Y k) (X (k + 1)) (Y (k + 1)) = none) : CI w q S X Y (k + 1) (V.setCell ⟨S + 1, 2, none⟩ (.bool false)) := by
 obtain ⟨h1, ⟨q', h2, h3, h4, h5⟩, hb⟩ := h
 obtain ⟨k1, k2⟩ := h2.flag false
 have e : clpQ q X Y (k + 1) = ((clpQ q X Y k).1, false) := by show (match strC q (X k) (Y k) (X (k + 1)) (Y (k + 1)) with | none => _ | some t => _) = _; rw [hs]
 refine ⟨blk_below h1 k2 (by omega), ⟨_, k1, by rw [e]; exact h3, by rw [e]; exact h4, by rw [e]⟩, bel_set hb (by show w.heap.size ≤ S + 1; omega) _⟩
/-- It counts. -/
theorem CI.yes {w : World} {q : BoxD} {S : Nat} {X Y : Nat → Int} {k : Nat} {V V' : World} {q' : PcD} {t : StD} {e : Ending} (h : CI w q S X Y k V) (hS : w.heap.size ≤ S) (hs : strC q (X k) (Y k) (X (k + 1)) (Y (k + 1)) = some t)
  (hg : GoodP (clpQ q X Y k).1) (h3 : q'.pts = (clpQ q X Y k).1.flatten) (h4 : q'.ss = startsL (clpQ q X Y k).1) (h5 : q'.op = (clpQ q X Y k).2) (hA : AddOut (S + 1) V q' ⟨t.px, t.py⟩ ⟨t.qx, t.qy⟩ e V') : CI w q S X Y (k + 1) V' := by
 obtain ⟨h1, _, hb⟩ := h
 obtain ⟨q1, _, k1, k2, k3, k4, k5⟩ := hA.out
 have ee : clpQ q X Y (k + 1) = (addC (clpQ q X Y k).1 (clpQ q X Y k).2 ⟨t.px, t.py⟩ ⟨t.qx, t.qy⟩, true) := by show (match strC q (X k) (Y k) (X (k + 1)) (Y (k + 1)) with | none => _ | some t => _) = _; rw [hs]
 have hj := jnP_eq (f := ⟨t.px, t.py⟩) h3 h5 hg
 have hp : q1.pts = (addC (clpQ q X Y k).1 (clpQ q X Y k).2 ⟨t.px, t.py⟩ ⟨t.qx, t.qy⟩).flatten ∧ q1.ss = startsL (addC (clpQ q X Y k).1 (clpQ q X Y k).2 ⟨t.px, t.py⟩ ⟨t.qx, t.qy⟩) := by
  rw [k2, k3]
  unfold jnPts jnSs
  rw [hj]
  cases e2 : ((clpQ q X Y k).2 && lastB (clpQ q X Y k).1 ⟨t.px, t.py⟩) with
  | true =>
   obtain ⟨a1, a2⟩ := addC_join (t := ⟨t.qx, t.qy⟩) e2
   rw [if_pos rfl, if_pos rfl, a1, a2, h3, h4]
   exact ⟨rfl, rfl⟩
  | false =>
   obtain ⟨a1, a2⟩ := addC_new (t := ⟨t.qx, t.qy⟩) e2
   rw [if_neg (by decide), if_neg (by decide), a1, a2, h3, h4]
   exact ⟨rfl, rfl⟩
 exact ⟨blk_below h1 k5 (by omega), ⟨q1, k1, by rw [ee]; exact hp.1, by rw [ee]; exact hp.2, by rw [ee]; exact k4⟩, (show Bel w V' from hb.out.trans (k5.mono (by omega)))⟩
/-- The stretch's two ends lie in two blocks, the rest is as it was. -/
structure CutB (w : World) (q : BoxD) (S : Nat) (X Y : Nat → Int) (k : Nat) (pf p_t ok : Value) (wx : World) : Prop where
 out : ∃ F T px py qx qy c, pf = .pointer (some ⟨F, 0, none⟩) ∧ p_t = .pointer (some ⟨T, 0, none⟩) ∧ ok = .bool c ∧ Blk wx F [.int .i64 px, .int .i64 py] ∧ Blk wx T [.int .i64 qx, .int .i64 qy] ∧
  (strC q (X k) (Y k) (X (k + 1)) (Y (k + 1)) = if c then some ⟨px, py, qx, qy⟩ else none) ∧ CI w q S X Y k wx

set_option maxRecDepth 100000 in
set_option maxHeartbeats 8000000 in
theorem clip_any (a : Option Addr) (n c : Nat) (X Y : Nat → Int) (q : BoxD) (w : World) (hP : Pts w a n X Y) (hn : n ≤ 1048576) (h6 : Box64 q) :
  Calls Tryz.prog 58 #[.slice a n c, bxv q] w fun e w' => ∃ v, e = .returned v ∧ ClpV w w' (clipQ q n X Y) v ∧ Bel w w' := by
 have S0 : Bel w (w.alloc (.cells #[.int .i64 q.a, .int .i64 q.b, .int .i64 q.c, .int .i64 q.d] 63)) := bel_alloc (Bel.refl _) _
 have X0 : Blk (w.alloc (.cells #[.int .i64 q.a, .int .i64 q.b, .int .i64 q.c, .int .i64 q.d] 63)) w.heap.size [.int .i64 q.a, .int .i64 q.b, .int .i64 q.c, .int .i64 q.d] := Blk.new w [.int .i64 q.a, .int .i64 q.b, .int .i64 q.c, .int .i64 q.d] _
 rcases Bool.eq_false_or_eq_true (rowB n X Y) with hr | hr
 rotate_left
 ·have HL : clipQ q n X Y = [] := by unfold clipQ; rw [hr]; rfl
  go_enter Tryz.func58, Tryz.ntmps58
  go_wp2_with fail
  refine (rowOk_any _ _ _ X Y _ (hP.bel S0) hn).mono ?_
  rintro e w1 ⟨rfl, hb1⟩
  rw [hr]
  go_wp2
  go_ret
  exact ⟨_, rfl, ⟨.inl ⟨HL, rfl⟩⟩, bel_step S0 hb1⟩
 rcases Bool.eq_false_or_eq_true (ordB q) with ho | ho
 rotate_left
 ·have HL : clipQ q n X Y = [] := by unfold clipQ; rw [ho, hr]; rfl
  go_enter Tryz.func58, Tryz.ntmps58
  go_wp2_with fail
  refine (rowOk_any _ _ _ X Y _ (hP.bel S0) hn).mono ?_
  rintro e w1 ⟨rfl, hb1⟩
  rw [hr]
  have X1 := X0.bel hb1
  have x0 : w1.cell? ⟨w.heap.size, 0, none⟩ = some (.int .i64 q.a) := X1.cell 0 (by simp)
  have x1 : w1.cell? ⟨w.heap.size, 1, none⟩ = some (.int .i64 q.b) := X1.cell 1 (by simp)
  have x2 : w1.cell? ⟨w.heap.size, 2, none⟩ = some (.int .i64 q.c) := X1.cell 2 (by simp)
  have x3 : w1.cell? ⟨w.heap.size, 3, none⟩ = some (.int .i64 q.d) := X1.cell 3 (by simp)
  go_wp2_with fail
  refine (ordered_any q _).mono ?_
  rintro e w2 ⟨rfl, hb2⟩
  have HO : (decide (q.a ≤ q.c) && decide (q.b ≤ q.d)) = false := ho
  rw [HO]
  go_wp2
  go_ret
  exact ⟨_, rfl, ⟨.inl ⟨HL, rfl⟩⟩, bel_step (bel_step S0 hb1) hb2⟩
 have HL : Hid (clipQ q n X Y = (clpQ q X Y (n - 1)).1) := (by unfold clipQ; rw [ho, hr]; rfl : clipQ q n X Y = (clpQ q X Y (n - 1)).1)
 have hoo : q.a ≤ q.c ∧ q.b ≤ q.d := by unfold ordB at ho; simpa using ho
 have HJ : Hid (∀ k, ClpJ (clpQ q X Y k).1 (clpQ q X Y k).2 k) := fun k => clpJ hoo.1 hoo.2 h6 k
 have Hoo : Hid (q.a ≤ q.c ∧ q.b ≤ q.d) := hoo
 obtain ⟨hn2, hPO⟩ := rowB_out hr
 have HPO : Hid (∀ i, i < n → POk (X i) (Y i)) := hPO
 clear hPO hoo
 go_enter Tryz.func58, Tryz.ntmps58
 go_wp2_with fail
 refine (rowOk_any _ _ _ X Y _ (hP.bel S0) hn).mono ?_
 rintro e w1 ⟨rfl, hb1⟩
 rw [hr]
 have X1 := X0.bel hb1
 have x0 : w1.cell? ⟨w.heap.size, 0, none⟩ = some (.int .i64 q.a) := X1.cell 0 (by simp)
 have x1 : w1.cell? ⟨w.heap.size, 1, none⟩ = some (.int .i64 q.b) := X1.cell 1 (by simp)
 have x2 : w1.cell? ⟨w.heap.size, 2, none⟩ = some (.int .i64 q.c) := X1.cell 2 (by simp)
 have x3 : w1.cell? ⟨w.heap.size, 3, none⟩ = some (.int .i64 q.d) := X1.cell 3 (by simp)
 go_wp2_with fail
 refine (ordered_any q _).mono ?_
 rintro e w2 ⟨rfl, hb2⟩
 have HO : (decide (q.a ≤ q.c) && decide (q.b ≤ q.d)) = true := ho
 rw [HO]
 have X2 := X1.bel hb2
 have y0 : w2.cell? ⟨w.heap.size, 0, none⟩ = some (.int .i64 q.a) := X2.cell 0 (by simp)
 have y1 : w2.cell? ⟨w.heap.size, 1, none⟩ = some (.int .i64 q.b) := X2.cell 1 (by simp)
 have y2 : w2.cell? ⟨w.heap.size, 2, none⟩ = some (.int .i64 q.c) := X2.cell 2 (by simp)
 have y3 : w2.cell? ⟨w.heap.size, 3, none⟩ = some (.int .i64 q.d) := X2.cell 3 (by simp)
 clear x0 x1 x2 x3 X1
 go_wp2_with fail
 refine (scissorsOf_any q _).mono ?_
 rintro e w3 ⟨rfl, hb3⟩
 have S3 := bel_step (bel_step (bel_step S0 hb1) hb2) hb3
 clear y0 y1 y2 y3 X2
 obtain ⟨S, HS⟩ : ∃ S, Hid (w3.heap.size = S) := ⟨_, (rfl : w3.heap.size = _)⟩
 have hwS : w.heap.size ≤ S := by rw [← HS.out]; exact S3.out.size
 obtain ⟨V, HV⟩ : ∃ V, Hid (V = (w3.alloc (.cells #[.int .i64 q.a, .int .i64 q.b, .int .i64 q.c, .int .i64 q.d, .int .i64 q.a, .func (.func 123) #[] #[], .func (.func 124) #[] #[], .int .i64 q.c, .func (.func 125) #[] #[], .func (.func 124) #[] #[], .int .i64 q.b, .func (.func 126) #[] #[], .func (.func 127) #[] #[], .int .i64 q.d, .func (.func 128) #[] #[], .func (.func 127) #[] #[]] 172)).alloc (.cells #[.slice none 0 0, .slice none 0 0, .bool false] 176)) := ⟨_, (rfl : (w3.alloc (.cells #[.int .i64 q.a, .int .i64 q.b, .int .i64 q.c, .int .i64 q.d, .int .i64 q.a, .func (.func 123) #[] #[], .func (.func 124) #[] #[], .int .i64 q.c, .func (.func 125) #[] #[], .func (.func 124) #[] #[], .int .i64 q.b, .func (.func 126) #[] #[], .func (.func 127) #[] #[], .int .i64 q.d, .func (.func 128) #[] #[], .func (.func 127) #[] #[]] 172)).alloc (.cells #[.slice none 0 0, .slice none 0 0, .bool false] 176) = _)⟩
 have HI0 : Hid (CI w q S X Y 0 V) := by
  have hb : Bel w3 V := by rw [HV.out]; exact bel_alloc (bel_alloc (Bel.refl _) _) _
  refine ⟨?_, ⟨⟨.slice none 0 0, .slice none 0 0, [], fun _ => List.replicate 2 (.bool false), [], false⟩, ⟨?_, Gr.nil _ _ _ _ _, World.ownsRow_nil _ _ _ _, .inl rfl⟩, rfl, rfl, rfl⟩, bel_step S3 hb⟩
  ·rw [HV.out, ← HS.out]; exact (Blk.new w3 (sciL q) _).bel (bel_alloc (Bel.refl _) _)
  ·rw [HV.out, ← HS.out]; exact Blk.new1 w3 _ [.slice none 0 0, .slice none 0 0, .bool false] _
 go_wp2_with fail
 rw [← HV.out, HS.out]
 clear HV hb1 hb2 hb3 S3 X0
 go_loopw [7, 8, 9, 10] (fun i _ _ _ wr => ∃ k : Nat, i = .int .i64 ((k : Int) + 1) ∧ (k + 1 ≤ n ∨ k = 0) ∧ CI w q S X Y k wr) (fun i _ _ _ _ => n - (intOf i).toNat)
 case atStart => exact ⟨0, rfl, .inr rfl, HI0.out⟩
 case round =>
  obtain ⟨k, rfl, hk, hI⟩ := hrel
  have HI : Hid (CI w q S X Y k wr) := hI
  clear HI0
  by_cases hlt : k + 1 < n
  ·have hlt' : (k : Int) + 1 < (n : Int) := by omega
   have hPr := hP.bel hI.bel
   rcases hPr with h0 | ⟨b, off, rfl, hbl, hx⟩
   ·omega
   obtain ⟨c0, c1⟩ := hx k (by omega)
   obtain ⟨c2, c3⟩ := hx (k + 1) hlt
   clear hx hI
   have hsc := HI.out.sc
   go_upto_region 8 with fail
   go_cut [8, 9, 10] (fun pf p_t ok wx => CutB w q S X Y k pf p_t ok wx)
   case first =>
    have hk0 : IntKind.i64.wrap (k : Int) = k := by rw [IntKind.wrap_i64]; omega
    have hkn : (k : Int) < (n : Int) := by omega
    have hk1p : (0 : Int) ≤ (k : Int) + 1 := by omega
    have hk00 : (0 : Int) ≤ (k : Int) := by omega
    have g0 : Bel wr wr := Bel.refl _
    have cP := fun w' => part_any' q (X k) (Y k) (X (k + 1)) (Y (k + 1)) w' (HPO.out k (by omega)) (HPO.out (k + 1) hlt)
    have hR : ∀ w', Bel wr w' → w'.cell? ⟨S, 0, none⟩ = some (.int .i64 q.a) ∧ w'.cell? ⟨S, 1, none⟩ = some (.int .i64 q.b) ∧ w'.cell? ⟨S, 2, none⟩ = some (.int .i64 q.c) ∧ w'.cell? ⟨S, 3, none⟩ = some (.int .i64 q.d) ∧ w'.cell? ⟨S, 4, none⟩ = some (.int .i64 q.a) ∧ w'.cell? ⟨S, 5, none⟩ = some (.func (.func 123) #[] #[]) ∧ w'.cell? ⟨S, 6, none⟩ = some (.func (.func 124) #[] #[]) ∧ w'.cell? ⟨S, 7, none⟩ = some (.int .i64 q.c) ∧ w'.cell? ⟨S, 8, none⟩ = some (.func (.func 125) #[] #[]) ∧ w'.cell? ⟨S, 9, none⟩ = some (.func (.func 124) #[] #[]) ∧ w'.cell? ⟨S, 10, none⟩ = some (.int .i64 q.b) ∧ w'.cell? ⟨S, 11, none⟩ = some (.func (.func 126) #[] #[]) ∧ w'.cell? ⟨S, 12, none⟩ = some (.func (.func 127) #[] #[]) ∧ w'.cell? ⟨S, 13, none⟩ = some (.int .i64 q.d) ∧ w'.cell? ⟨S, 14, none⟩ = some (.func (.func 128) #[] #[]) ∧ w'.cell? ⟨S, 15, none⟩ = some (.func (.func 127) #[] #[]) ∧ w'.cell? ⟨b, off + k * 2, none⟩ = some (.int .i64 (X k)) ∧ w'.cell? ⟨b, off + k * 2 + 1, none⟩ = some (.int .i64 (Y k)) ∧ w'.cell? ⟨b, off + (k + 1) * 2, none⟩ = some (.int .i64 (X (k + 1))) ∧ w'.cell? ⟨b, off + (k + 1) * 2 + 1, none⟩ = some (.int .i64 (Y (k + 1))) := fun w' h =>
     ⟨(hsc.bel h).cell 0 (by simp [sciL]), (hsc.bel h).cell 1 (by simp [sciL]), (hsc.bel h).cell 2 (by simp [sciL]), (hsc.bel h).cell 3 (by simp [sciL]), (hsc.bel h).cell 4 (by simp [sciL]), (hsc.bel h).cell 5 (by simp [sciL]), (hsc.bel h).cell 6 (by simp [sciL]), (hsc.bel h).cell 7 (by simp [sciL]), (hsc.bel h).cell 8 (by simp [sciL]), (hsc.bel h).cell 9 (by simp [sciL]), (hsc.bel h).cell 10 (by simp [sciL]), (hsc.bel h).cell 11 (by simp [sciL]), (hsc.bel h).cell 12 (by simp [sciL]), (hsc.bel h).cell 13 (by simp [sciL]), (hsc.bel h).cell 14 (by simp [sciL]), (hsc.bel h).cell 15 (by simp [sciL]), bel_cellM h hbl c0, bel_cellM h hbl c1, bel_cellM h hbl c2, bel_cellM h hbl c3⟩
    clear hsc c0 c1 c2 c3
    refine wp_region_noPanic ?_
    refine wp_region_held_drew (S := fun w' => Bel wr w') (by kernel_rfl) (Bel.drew g0) (fun hHeld => ?_)
    refine tk 0 hHeld ?_; refine tk 1 hHeld ?_; refine tk 2 hHeld ?_; refine tk 3 hHeld ?_; refine tk 4 hHeld ?_
    refine tk 5 hHeld ?_; refine tk 6 hHeld ?_; refine tk 7 hHeld ?_; refine tk 8 hHeld ?_; refine tk 9 hHeld ?_
    refine rd3 10 15 16 (fun K hK => ?_) (fun K hK => ?_) (fun K hK => ?_)
    ·skip
     go_simp
     refine (cP _).mono ?_
     rintro e w9 ⟨px, py, qx, qy, ok, rfl, hst, hb9⟩
     have h9l : wr.heap.size ≤ w9.heap.size := (bel_step hHeld hb9).out.size
     go_wp2_with fail
     refine hK.out _ _ (bel_step hHeld hb9) ?_; clear hK K hHeld; intro hHeld
     try simp only [Act.put, List.setIfInBounds_toArray, List.set_cons_zero, List.set_cons_succ]
     refine tk 11 hHeld ?_; refine tk 12 hHeld ?_; refine tk 13 hHeld ?_; refine tk 14 hHeld ?_
     refine rd2 15 16 (fun K hK => ?_) (fun K hK => ?_)
     ·skip
      go_simp
      refine hK.out _ _ (bel_alloc hHeld _) ?_; clear hK K hHeld; intro hHeld
      try simp only [Act.put, List.setIfInBounds_toArray, List.set_cons_zero, List.set_cons_succ]
      refine rd1 16 (fun K hK => ?_)
      go_simp
      refine hK.out _ _ (bel_alloc hHeld _) ?_; clear hK K hHeld; intro hHeld
      try simp only [Act.put, List.setIfInBounds_toArray, List.set_cons_zero, List.set_cons_succ]
      obtain ⟨U, HU⟩ : ∃ U, Hid (U = (w9.alloc (.cells #[.int .i64 0, .int .i64 0] 61)).alloc (.cells #[.int .i64 0, .int .i64 0] 61)) := ⟨_, (rfl : (w9.alloc (.cells #[.int .i64 0, .int .i64 0] 61)).alloc (.cells #[.int .i64 0, .int .i64 0] 61) = _)⟩
      have XF : Blk U (w9.heap.size) [.int .i64 0, .int .i64 0] := by rw [HU.out]; exact (Blk.new w9 [.int .i64 0, .int .i64 0] _).bel (bel_alloc (Bel.refl _) _)
      have XT : Blk U (w9.heap.size + 1) [.int .i64 0, .int .i64 0] := by rw [HU.out]; exact Blk.new1 w9 _ [.int .i64 0, .int .i64 0] _
      have hHU : Bel wr U := by rw [HU.out]; exact hHeld
      have hne : w9.heap.size ≠ w9.heap.size + 1 := by omega
      rw [← HU.out]
      clear hHeld
      have hHeld := hHU
      obtain ⟨F, HF⟩ : ∃ F, Hid (w9.heap.size = F) := ⟨_, (rfl : w9.heap.size = _)⟩
      obtain ⟨T, HT⟩ : ∃ T, Hid (w9.heap.size + 1 = T) := ⟨_, (rfl : w9.heap.size + 1 = _)⟩
      have hFl : wr.heap.size ≤ F := by rw [← HF.out]; exact h9l
      have hTl : wr.heap.size ≤ T := by rw [← HT.out]; omega
      rw [HT.out] at hne XT ⊢
      rw [HF.out] at hne XF ⊢
      have u0 : U.cell? ⟨F, 0, none⟩ = some (.int .i64 0) := XF.cell 0 (by simp)
      have u1 : U.cell? ⟨F, 1, none⟩ = some (.int .i64 0) := XF.cell 1 (by simp)
      have v0 : U.cell? ⟨T, 0, none⟩ = some (.int .i64 0) := XT.cell 0 (by simp)
      have v1 : U.cell? ⟨T, 1, none⟩ = some (.int .i64 0) := XT.cell 1 (by simp)
      have fF := XF.free
      have fT := XT.free
      have lF := XF.lt
      have lT := XT.lt
      have hne' : T ≠ F := fun e => hne e.symm
      have YF : Hid (Blk ((((U.setCell ⟨F, 0, none⟩ (.int .i64 px)).setCell ⟨F, 1, none⟩ (.int .i64 py)).setCell ⟨T, 0, none⟩ (.int .i64 qx)).setCell ⟨T, 1, none⟩ (.int .i64 qy)) F [.int .i64 px, .int .i64 py]) := (((XF.set 0 _ (by simp)).set 1 _ (by simp)).far hne').far hne'
      have YT : Hid (Blk ((((U.setCell ⟨F, 0, none⟩ (.int .i64 px)).setCell ⟨F, 1, none⟩ (.int .i64 py)).setCell ⟨T, 0, none⟩ (.int .i64 qx)).setCell ⟨T, 1, none⟩ (.int .i64 qy)) T [.int .i64 qx, .int .i64 qy]) := (((XT.far hne).far hne).set 0 _ (by simp)).set 1 _ (by simp)
      clear XF XT
      refine rd1 17 (fun K hK => ?_)
      go_simp
      refine hK.out _ _ (bel_set (bel_set hHeld (by show wr.heap.size ≤ F; exact hFl) _) (by show wr.heap.size ≤ F; exact hFl) _) ?_; clear hK K hHeld; intro hHeld
      try simp only [Act.put, List.setIfInBounds_toArray, List.set_cons_zero, List.set_cons_succ]
      refine rd1 18 (fun K hK => ?_)
      go_simp
      refine hK.out _ _ (bel_set (bel_set hHeld (by show wr.heap.size ≤ T; exact hTl) _) (by show wr.heap.size ≤ T; exact hTl) _) ?_; clear hK K hHeld; intro hHeld
      try simp only [Act.put, List.setIfInBounds_toArray, List.set_cons_zero, List.set_cons_succ]
      refine tk 19 hHeld ?_
      refine wpAnyH_done (by kernel_rfl) ?_ _
      refine NoPanic.normal ?_
      clear u0 u1 v0 v1 fF fT hHU
      go_wp2_with fail
      go_meet
      case rel => exact ⟨⟨F, T, px, py, qx, qy, ok, rfl, rfl, rfl, YF.out, YT.out, hst, HI.out.belS hHeld⟩⟩
     ·skip
      go_simp
      refine hK.out _ _ (bel_alloc hHeld _) ?_; clear hK K hHeld; intro hHeld
      try simp only [Act.put, List.setIfInBounds_toArray, List.set_cons_zero, List.set_cons_succ]
      refine rd1 15 (fun K hK => ?_)
      go_simp
      refine hK.out _ _ (bel_alloc hHeld _) ?_; clear hK K hHeld; intro hHeld
      try simp only [Act.put, List.setIfInBounds_toArray, List.set_cons_zero, List.set_cons_succ]
      obtain ⟨U, HU⟩ : ∃ U, Hid (U = (w9.alloc (.cells #[.int .i64 0, .int .i64 0] 61)).alloc (.cells #[.int .i64 0, .int .i64 0] 61)) := ⟨_, (rfl : (w9.alloc (.cells #[.int .i64 0, .int .i64 0] 61)).alloc (.cells #[.int .i64 0, .int .i64 0] 61) = _)⟩
      have XF : Blk U (w9.heap.size + 1) [.int .i64 0, .int .i64 0] := by rw [HU.out]; exact Blk.new1 w9 _ [.int .i64 0, .int .i64 0] _
      have XT : Blk U (w9.heap.size) [.int .i64 0, .int .i64 0] := by rw [HU.out]; exact (Blk.new w9 [.int .i64 0, .int .i64 0] _).bel (bel_alloc (Bel.refl _) _)
      have hHU : Bel wr U := by rw [HU.out]; exact hHeld
      have hne : w9.heap.size + 1 ≠ w9.heap.size := by omega
      rw [← HU.out]
      clear hHeld
      have hHeld := hHU
      obtain ⟨F, HF⟩ : ∃ F, Hid (w9.heap.size + 1 = F) := ⟨_, (rfl : w9.heap.size + 1 = _)⟩
      obtain ⟨T, HT⟩ : ∃ T, Hid (w9.heap.size = T) := ⟨_, (rfl : w9.heap.size = _)⟩
      have hFl : wr.heap.size ≤ F := by rw [← HF.out]; omega
      have hTl : wr.heap.size ≤ T := by rw [← HT.out]; exact h9l
      rw [HF.out] at hne XF ⊢
      rw [HT.out] at hne XT ⊢
      have u0 : U.cell? ⟨F, 0, none⟩ = some (.int .i64 0) := XF.cell 0 (by simp)
      have u1 : U.cell? ⟨F, 1, none⟩ = some (.int .i64 0) := XF.cell 1 (by simp)
      have v0 : U.cell? ⟨T, 0, none⟩ = some (.int .i64 0) := XT.cell 0 (by simp)
      have v1 : U.cell? ⟨T, 1, none⟩ = some (.int .i64 0) := XT.cell 1 (by simp)
      have fF := XF.free
      have fT := XT.free
      have lF := XF.lt
      have lT := XT.lt
      have hne' : T ≠ F := fun e => hne e.symm
      have YF : Hid (Blk ((((U.setCell ⟨F, 0, none⟩ (.int .i64 px)).setCell ⟨F, 1, none⟩ (.int .i64 py)).setCell ⟨T, 0, none⟩ (.int .i64 qx)).setCell ⟨T, 1, none⟩ (.int .i64 qy)) F [.int .i64 px, .int .i64 py]) := (((XF.set 0 _ (by simp)).set 1 _ (by simp)).far hne').far hne'
      have YT : Hid (Blk ((((U.setCell ⟨F, 0, none⟩ (.int .i64 px)).setCell ⟨F, 1, none⟩ (.int .i64 py)).setCell ⟨T, 0, none⟩ (.int .i64 qx)).setCell ⟨T, 1, none⟩ (.int .i64 qy)) T [.int .i64 qx, .int .i64 qy]) := (((XT.far hne).far hne).set 0 _ (by simp)).set 1 _ (by simp)
      clear XF XT
      refine rd1 17 (fun K hK => ?_)
      go_simp
      refine hK.out _ _ (bel_set (bel_set hHeld (by show wr.heap.size ≤ F; exact hFl) _) (by show wr.heap.size ≤ F; exact hFl) _) ?_; clear hK K hHeld; intro hHeld
      try simp only [Act.put, List.setIfInBounds_toArray, List.set_cons_zero, List.set_cons_succ]
      refine rd1 18 (fun K hK => ?_)
      go_simp
      refine hK.out _ _ (bel_set (bel_set hHeld (by show wr.heap.size ≤ T; exact hTl) _) (by show wr.heap.size ≤ T; exact hTl) _) ?_; clear hK K hHeld; intro hHeld
      try simp only [Act.put, List.setIfInBounds_toArray, List.set_cons_zero, List.set_cons_succ]
      refine tk 19 hHeld ?_
      refine wpAnyH_done (by kernel_rfl) ?_ _
      refine NoPanic.normal ?_
      clear u0 u1 v0 v1 fF fT hHU
      go_wp2_with fail
      go_meet
      case rel => exact ⟨⟨F, T, px, py, qx, qy, ok, rfl, rfl, rfl, YF.out, YT.out, hst, HI.out.belS hHeld⟩⟩
    ·skip
     go_simp
     refine hK.out _ _ (bel_alloc hHeld _) ?_; clear hK K hHeld; intro hHeld
     try simp only [Act.put, List.setIfInBounds_toArray, List.set_cons_zero, List.set_cons_succ]
     refine rd2 10 16 (fun K hK => ?_) (fun K hK => ?_)
     ·skip
      go_simp
      refine (cP _).mono ?_
      rintro e w9 ⟨px, py, qx, qy, ok, rfl, hst, hb9⟩
      have h9l : wr.heap.size ≤ w9.heap.size := (bel_step hHeld hb9).out.size
      go_wp2_with fail
      refine hK.out _ _ (bel_step hHeld hb9) ?_; clear hK K hHeld; intro hHeld
      try simp only [Act.put, List.setIfInBounds_toArray, List.set_cons_zero, List.set_cons_succ]
      refine tk 11 hHeld ?_; refine tk 12 hHeld ?_; refine tk 13 hHeld ?_; refine tk 14 hHeld ?_
      refine rd1 16 (fun K hK => ?_)
      go_simp
      refine hK.out _ _ (bel_alloc hHeld _) ?_; clear hK K hHeld; intro hHeld
      try simp only [Act.put, List.setIfInBounds_toArray, List.set_cons_zero, List.set_cons_succ]
      have hb9d : Bel (wr.alloc (.cells #[.int .i64 0, .int .i64 0] 61)) w9 := bel_step (Bel.drew (Bel.refl _)) hb9
      have h9s := hb9d.out.size
      simp only [World.size_alloc] at h9s
      obtain ⟨U, HU⟩ : ∃ U, Hid (U = w9.alloc (.cells #[.int .i64 0, .int .i64 0] 61)) := ⟨_, (rfl : w9.alloc (.cells #[.int .i64 0, .int .i64 0] 61) = _)⟩
      have XF : Blk U (wr.heap.size) [.int .i64 0, .int .i64 0] := by rw [HU.out]; exact ((Blk.new wr [.int .i64 0, .int .i64 0] 61).bel hb9d).bel (bel_alloc (Bel.refl _) _)
      have XT : Blk U (w9.heap.size) [.int .i64 0, .int .i64 0] := by rw [HU.out]; exact Blk.new w9 [.int .i64 0, .int .i64 0] _
      have hHU : Bel wr U := by rw [HU.out]; exact hHeld
      have hne : wr.heap.size ≠ w9.heap.size := by omega
      rw [← HU.out]
      clear hHeld
      have hHeld := hHU
      obtain ⟨F, HF⟩ : ∃ F, Hid (wr.heap.size = F) := ⟨_, (rfl : wr.heap.size = _)⟩
      obtain ⟨T, HT⟩ : ∃ T, Hid (w9.heap.size = T) := ⟨_, (rfl : w9.heap.size = _)⟩
      have hFl : wr.heap.size ≤ F := by rw [← HF.out]; exact Nat.le_refl _
      have hTl : wr.heap.size ≤ T := by rw [← HT.out]; omega
      rw [HF.out] at hne XF ⊢
      rw [HT.out] at hne XT ⊢
      have u0 : U.cell? ⟨F, 0, none⟩ = some (.int .i64 0) := XF.cell 0 (by simp)
      have u1 : U.cell? ⟨F, 1, none⟩ = some (.int .i64 0) := XF.cell 1 (by simp)
      have v0 : U.cell? ⟨T, 0, none⟩ = some (.int .i64 0) := XT.cell 0 (by simp)
      have v1 : U.cell? ⟨T, 1, none⟩ = some (.int .i64 0) := XT.cell 1 (by simp)
      have fF := XF.free
      have fT := XT.free
      have lF := XF.lt
      have lT := XT.lt
      have hne' : T ≠ F := fun e => hne e.symm
      have YF : Hid (Blk ((((U.setCell ⟨F, 0, none⟩ (.int .i64 px)).setCell ⟨F, 1, none⟩ (.int .i64 py)).setCell ⟨T, 0, none⟩ (.int .i64 qx)).setCell ⟨T, 1, none⟩ (.int .i64 qy)) F [.int .i64 px, .int .i64 py]) := (((XF.set 0 _ (by simp)).set 1 _ (by simp)).far hne').far hne'
      have YT : Hid (Blk ((((U.setCell ⟨F, 0, none⟩ (.int .i64 px)).setCell ⟨F, 1, none⟩ (.int .i64 py)).setCell ⟨T, 0, none⟩ (.int .i64 qx)).setCell ⟨T, 1, none⟩ (.int .i64 qy)) T [.int .i64 qx, .int .i64 qy]) := (((XT.far hne).far hne).set 0 _ (by simp)).set 1 _ (by simp)
      clear XF XT
      refine rd1 17 (fun K hK => ?_)
      go_simp
      refine hK.out _ _ (bel_set (bel_set hHeld (by show wr.heap.size ≤ F; exact hFl) _) (by show wr.heap.size ≤ F; exact hFl) _) ?_; clear hK K hHeld; intro hHeld
      try simp only [Act.put, List.setIfInBounds_toArray, List.set_cons_zero, List.set_cons_succ]
      refine rd1 18 (fun K hK => ?_)
      go_simp
      refine hK.out _ _ (bel_set (bel_set hHeld (by show wr.heap.size ≤ T; exact hTl) _) (by show wr.heap.size ≤ T; exact hTl) _) ?_; clear hK K hHeld; intro hHeld
      try simp only [Act.put, List.setIfInBounds_toArray, List.set_cons_zero, List.set_cons_succ]
      refine tk 19 hHeld ?_
      refine wpAnyH_done (by kernel_rfl) ?_ _
      refine NoPanic.normal ?_
      clear u0 u1 v0 v1 fF fT hHU
      go_wp2_with fail
      go_meet
      case rel => exact ⟨⟨F, T, px, py, qx, qy, ok, rfl, rfl, rfl, YF.out, YT.out, hst, HI.out.belS hHeld⟩⟩
     ·skip
      go_simp
      refine hK.out _ _ (bel_alloc hHeld _) ?_; clear hK K hHeld; intro hHeld
      try simp only [Act.put, List.setIfInBounds_toArray, List.set_cons_zero, List.set_cons_succ]
      refine rd1 10 (fun K hK => ?_)
      go_simp
      refine (cP _).mono ?_
      rintro e w9 ⟨px, py, qx, qy, ok, rfl, hst, hb9⟩
      have h9l : wr.heap.size ≤ w9.heap.size := (bel_step hHeld hb9).out.size
      go_wp2_with fail
      refine hK.out _ _ (bel_step hHeld hb9) ?_; clear hK K hHeld; intro hHeld
      try simp only [Act.put, List.setIfInBounds_toArray, List.set_cons_zero, List.set_cons_succ]
      refine tk 11 hHeld ?_; refine tk 12 hHeld ?_; refine tk 13 hHeld ?_; refine tk 14 hHeld ?_
      have hb9d : Bel ((wr.alloc (.cells #[.int .i64 0, .int .i64 0] 61)).alloc (.cells #[.int .i64 0, .int .i64 0] 61)) w9 := bel_step (Bel.drew (Bel.refl _)) hb9
      obtain ⟨U, HU⟩ : ∃ U, Hid (U = w9) := ⟨_, (rfl : w9 = _)⟩
      have XF : Blk U (wr.heap.size) [.int .i64 0, .int .i64 0] := by rw [HU.out]; exact ((Blk.new wr [.int .i64 0, .int .i64 0] 61).bel (bel_alloc (Bel.refl _) _)).bel hb9d
      have XT : Blk U (wr.heap.size + 1) [.int .i64 0, .int .i64 0] := by rw [HU.out]; exact (Blk.new1 wr _ [.int .i64 0, .int .i64 0] 61).bel hb9d
      have hHU : Bel wr U := by rw [HU.out]; exact hHeld
      have hne : wr.heap.size ≠ wr.heap.size + 1 := by omega
      rw [← HU.out]
      clear hHeld
      have hHeld := hHU
      obtain ⟨F, HF⟩ : ∃ F, Hid (wr.heap.size = F) := ⟨_, (rfl : wr.heap.size = _)⟩
      obtain ⟨T, HT⟩ : ∃ T, Hid (wr.heap.size + 1 = T) := ⟨_, (rfl : wr.heap.size + 1 = _)⟩
      have hFl : wr.heap.size ≤ F := by rw [← HF.out]; exact Nat.le_refl _
      have hTl : wr.heap.size ≤ T := by rw [← HT.out]; omega
      rw [HT.out] at hne XT ⊢
      rw [HF.out] at hne XF ⊢
      have u0 : U.cell? ⟨F, 0, none⟩ = some (.int .i64 0) := XF.cell 0 (by simp)
      have u1 : U.cell? ⟨F, 1, none⟩ = some (.int .i64 0) := XF.cell 1 (by simp)
      have v0 : U.cell? ⟨T, 0, none⟩ = some (.int .i64 0) := XT.cell 0 (by simp)
      have v1 : U.cell? ⟨T, 1, none⟩ = some (.int .i64 0) := XT.cell 1 (by simp)
      have fF := XF.free
      have fT := XT.free
      have lF := XF.lt
      have lT := XT.lt
      have hne' : T ≠ F := fun e => hne e.symm
      have YF : Hid (Blk ((((U.setCell ⟨F, 0, none⟩ (.int .i64 px)).setCell ⟨F, 1, none⟩ (.int .i64 py)).setCell ⟨T, 0, none⟩ (.int .i64 qx)).setCell ⟨T, 1, none⟩ (.int .i64 qy)) F [.int .i64 px, .int .i64 py]) := (((XF.set 0 _ (by simp)).set 1 _ (by simp)).far hne').far hne'
      have YT : Hid (Blk ((((U.setCell ⟨F, 0, none⟩ (.int .i64 px)).setCell ⟨F, 1, none⟩ (.int .i64 py)).setCell ⟨T, 0, none⟩ (.int .i64 qx)).setCell ⟨T, 1, none⟩ (.int .i64 qy)) T [.int .i64 qx, .int .i64 qy]) := (((XT.far hne).far hne).set 0 _ (by simp)).set 1 _ (by simp)
      clear XF XT
      refine rd1 17 (fun K hK => ?_)
      go_simp
      refine hK.out _ _ (bel_set (bel_set hHeld (by show wr.heap.size ≤ F; exact hFl) _) (by show wr.heap.size ≤ F; exact hFl) _) ?_; clear hK K hHeld; intro hHeld
      try simp only [Act.put, List.setIfInBounds_toArray, List.set_cons_zero, List.set_cons_succ]
      refine rd1 18 (fun K hK => ?_)
      go_simp
      refine hK.out _ _ (bel_set (bel_set hHeld (by show wr.heap.size ≤ T; exact hTl) _) (by show wr.heap.size ≤ T; exact hTl) _) ?_; clear hK K hHeld; intro hHeld
      try simp only [Act.put, List.setIfInBounds_toArray, List.set_cons_zero, List.set_cons_succ]
      refine tk 19 hHeld ?_
      refine wpAnyH_done (by kernel_rfl) ?_ _
      refine NoPanic.normal ?_
      clear u0 u1 v0 v1 fF fT hHU
      go_wp2_with fail
      go_meet
      case rel => exact ⟨⟨F, T, px, py, qx, qy, ok, rfl, rfl, rfl, YF.out, YT.out, hst, HI.out.belS hHeld⟩⟩
    ·skip
     go_simp
     refine hK.out _ _ (bel_alloc hHeld _) ?_; clear hK K hHeld; intro hHeld
     try simp only [Act.put, List.setIfInBounds_toArray, List.set_cons_zero, List.set_cons_succ]
     refine rd2 10 15 (fun K hK => ?_) (fun K hK => ?_)
     ·skip
      go_simp
      refine (cP _).mono ?_
      rintro e w9 ⟨px, py, qx, qy, ok, rfl, hst, hb9⟩
      have h9l : wr.heap.size ≤ w9.heap.size := (bel_step hHeld hb9).out.size
      go_wp2_with fail
      refine hK.out _ _ (bel_step hHeld hb9) ?_; clear hK K hHeld; intro hHeld
      try simp only [Act.put, List.setIfInBounds_toArray, List.set_cons_zero, List.set_cons_succ]
      refine tk 11 hHeld ?_; refine tk 12 hHeld ?_; refine tk 13 hHeld ?_; refine tk 14 hHeld ?_
      refine rd1 15 (fun K hK => ?_)
      go_simp
      refine hK.out _ _ (bel_alloc hHeld _) ?_; clear hK K hHeld; intro hHeld
      try simp only [Act.put, List.setIfInBounds_toArray, List.set_cons_zero, List.set_cons_succ]
      have hb9d : Bel (wr.alloc (.cells #[.int .i64 0, .int .i64 0] 61)) w9 := bel_step (Bel.drew (Bel.refl _)) hb9
      have h9s := hb9d.out.size
      simp only [World.size_alloc] at h9s
      obtain ⟨U, HU⟩ : ∃ U, Hid (U = w9.alloc (.cells #[.int .i64 0, .int .i64 0] 61)) := ⟨_, (rfl : w9.alloc (.cells #[.int .i64 0, .int .i64 0] 61) = _)⟩
      have XF : Blk U (w9.heap.size) [.int .i64 0, .int .i64 0] := by rw [HU.out]; exact Blk.new w9 [.int .i64 0, .int .i64 0] _
      have XT : Blk U (wr.heap.size) [.int .i64 0, .int .i64 0] := by rw [HU.out]; exact ((Blk.new wr [.int .i64 0, .int .i64 0] 61).bel hb9d).bel (bel_alloc (Bel.refl _) _)
      have hHU : Bel wr U := by rw [HU.out]; exact hHeld
      have hne : w9.heap.size ≠ wr.heap.size := by omega
      rw [← HU.out]
      clear hHeld
      have hHeld := hHU
      obtain ⟨F, HF⟩ : ∃ F, Hid (w9.heap.size = F) := ⟨_, (rfl : w9.heap.size = _)⟩
      obtain ⟨T, HT⟩ : ∃ T, Hid (wr.heap.size = T) := ⟨_, (rfl : wr.heap.size = _)⟩
      have hFl : wr.heap.size ≤ F := by rw [← HF.out]; omega
      have hTl : wr.heap.size ≤ T := by rw [← HT.out]; exact Nat.le_refl _
      rw [HF.out] at hne XF ⊢
      rw [HT.out] at hne XT ⊢
      have u0 : U.cell? ⟨F, 0, none⟩ = some (.int .i64 0) := XF.cell 0 (by simp)
      have u1 : U.cell? ⟨F, 1, none⟩ = some (.int .i64 0) := XF.cell 1 (by simp)
      have v0 : U.cell? ⟨T, 0, none⟩ = some (.int .i64 0) := XT.cell 0 (by simp)
      have v1 : U.cell? ⟨T, 1, none⟩ = some (.int .i64 0) := XT.cell 1 (by simp)
      have fF := XF.free
      have fT := XT.free
      have lF := XF.lt
      have lT := XT.lt
      have hne' : T ≠ F := fun e => hne e.symm
      have YF : Hid (Blk ((((U.setCell ⟨F, 0, none⟩ (.int .i64 px)).setCell ⟨F, 1, none⟩ (.int .i64 py)).setCell ⟨T, 0, none⟩ (.int .i64 qx)).setCell ⟨T, 1, none⟩ (.int .i64 qy)) F [.int .i64 px, .int .i64 py]) := (((XF.set 0 _ (by simp)).set 1 _ (by simp)).far hne').far hne'
      have YT : Hid (Blk ((((U.setCell ⟨F, 0, none⟩ (.int .i64 px)).setCell ⟨F, 1, none⟩ (.int .i64 py)).setCell ⟨T, 0, none⟩ (.int .i64 qx)).setCell ⟨T, 1, none⟩ (.int .i64 qy)) T [.int .i64 qx, .int .i64 qy]) := (((XT.far hne).far hne).set 0 _ (by simp)).set 1 _ (by simp)
      clear XF XT
      refine rd1 17 (fun K hK => ?_)
      go_simp
      refine hK.out _ _ (bel_set (bel_set hHeld (by show wr.heap.size ≤ F; exact hFl) _) (by show wr.heap.size ≤ F; exact hFl) _) ?_; clear hK K hHeld; intro hHeld
      try simp only [Act.put, List.setIfInBounds_toArray, List.set_cons_zero, List.set_cons_succ]
      refine rd1 18 (fun K hK => ?_)
      go_simp
      refine hK.out _ _ (bel_set (bel_set hHeld (by show wr.heap.size ≤ T; exact hTl) _) (by show wr.heap.size ≤ T; exact hTl) _) ?_; clear hK K hHeld; intro hHeld
      try simp only [Act.put, List.setIfInBounds_toArray, List.set_cons_zero, List.set_cons_succ]
      refine tk 19 hHeld ?_
      refine wpAnyH_done (by kernel_rfl) ?_ _
      refine NoPanic.normal ?_
      clear u0 u1 v0 v1 fF fT hHU
      go_wp2_with fail
      go_meet
      case rel => exact ⟨⟨F, T, px, py, qx, qy, ok, rfl, rfl, rfl, YF.out, YT.out, hst, HI.out.belS hHeld⟩⟩
     ·skip
      go_simp
      refine hK.out _ _ (bel_alloc hHeld _) ?_; clear hK K hHeld; intro hHeld
      try simp only [Act.put, List.setIfInBounds_toArray, List.set_cons_zero, List.set_cons_succ]
      refine rd1 10 (fun K hK => ?_)
      go_simp
      refine (cP _).mono ?_
      rintro e w9 ⟨px, py, qx, qy, ok, rfl, hst, hb9⟩
      have h9l : wr.heap.size ≤ w9.heap.size := (bel_step hHeld hb9).out.size
      go_wp2_with fail
      refine hK.out _ _ (bel_step hHeld hb9) ?_; clear hK K hHeld; intro hHeld
      try simp only [Act.put, List.setIfInBounds_toArray, List.set_cons_zero, List.set_cons_succ]
      refine tk 11 hHeld ?_; refine tk 12 hHeld ?_; refine tk 13 hHeld ?_; refine tk 14 hHeld ?_
      have hb9d : Bel ((wr.alloc (.cells #[.int .i64 0, .int .i64 0] 61)).alloc (.cells #[.int .i64 0, .int .i64 0] 61)) w9 := bel_step (Bel.drew (Bel.refl _)) hb9
      obtain ⟨U, HU⟩ : ∃ U, Hid (U = w9) := ⟨_, (rfl : w9 = _)⟩
      have XF : Blk U (wr.heap.size + 1) [.int .i64 0, .int .i64 0] := by rw [HU.out]; exact (Blk.new1 wr _ [.int .i64 0, .int .i64 0] 61).bel hb9d
      have XT : Blk U (wr.heap.size) [.int .i64 0, .int .i64 0] := by rw [HU.out]; exact ((Blk.new wr [.int .i64 0, .int .i64 0] 61).bel (bel_alloc (Bel.refl _) _)).bel hb9d
      have hHU : Bel wr U := by rw [HU.out]; exact hHeld
      have hne : wr.heap.size + 1 ≠ wr.heap.size := by omega
      rw [← HU.out]
      clear hHeld
      have hHeld := hHU
      obtain ⟨F, HF⟩ : ∃ F, Hid (wr.heap.size + 1 = F) := ⟨_, (rfl : wr.heap.size + 1 = _)⟩
      obtain ⟨T, HT⟩ : ∃ T, Hid (wr.heap.size = T) := ⟨_, (rfl : wr.heap.size = _)⟩
      have hFl : wr.heap.size ≤ F := by rw [← HF.out]; omega
      have hTl : wr.heap.size ≤ T := by rw [← HT.out]; exact Nat.le_refl _
      rw [HF.out] at hne XF ⊢
      rw [HT.out] at hne XT ⊢
      have u0 : U.cell? ⟨F, 0, none⟩ = some (.int .i64 0) := XF.cell 0 (by simp)
      have u1 : U.cell? ⟨F, 1, none⟩ = some (.int .i64 0) := XF.cell 1 (by simp)
      have v0 : U.cell? ⟨T, 0, none⟩ = some (.int .i64 0) := XT.cell 0 (by simp)
      have v1 : U.cell? ⟨T, 1, none⟩ = some (.int .i64 0) := XT.cell 1 (by simp)
      have fF := XF.free
      have fT := XT.free
      have lF := XF.lt
      have lT := XT.lt
      have hne' : T ≠ F := fun e => hne e.symm
      have YF : Hid (Blk ((((U.setCell ⟨F, 0, none⟩ (.int .i64 px)).setCell ⟨F, 1, none⟩ (.int .i64 py)).setCell ⟨T, 0, none⟩ (.int .i64 qx)).setCell ⟨T, 1, none⟩ (.int .i64 qy)) F [.int .i64 px, .int .i64 py]) := (((XF.set 0 _ (by simp)).set 1 _ (by simp)).far hne').far hne'
      have YT : Hid (Blk ((((U.setCell ⟨F, 0, none⟩ (.int .i64 px)).setCell ⟨F, 1, none⟩ (.int .i64 py)).setCell ⟨T, 0, none⟩ (.int .i64 qx)).setCell ⟨T, 1, none⟩ (.int .i64 qy)) T [.int .i64 qx, .int .i64 qy]) := (((XT.far hne).far hne).set 0 _ (by simp)).set 1 _ (by simp)
      clear XF XT
      refine rd1 17 (fun K hK => ?_)
      go_simp
      refine hK.out _ _ (bel_set (bel_set hHeld (by show wr.heap.size ≤ F; exact hFl) _) (by show wr.heap.size ≤ F; exact hFl) _) ?_; clear hK K hHeld; intro hHeld
      try simp only [Act.put, List.setIfInBounds_toArray, List.set_cons_zero, List.set_cons_succ]
      refine rd1 18 (fun K hK => ?_)
      go_simp
      refine hK.out _ _ (bel_set (bel_set hHeld (by show wr.heap.size ≤ T; exact hTl) _) (by show wr.heap.size ≤ T; exact hTl) _) ?_; clear hK K hHeld; intro hHeld
      try simp only [Act.put, List.setIfInBounds_toArray, List.set_cons_zero, List.set_cons_succ]
      refine tk 19 hHeld ?_
      refine wpAnyH_done (by kernel_rfl) ?_ _
      refine NoPanic.normal ?_
      clear u0 u1 v0 v1 fF fT hHU
      go_wp2_with fail
      go_meet
      case rel => exact ⟨⟨F, T, px, py, qx, qy, ok, rfl, rfl, rfl, YF.out, YT.out, hst, HI.out.belS hHeld⟩⟩
   case rest =>
    obtain ⟨F, T, px, py, qx, qy, ok, rfl, rfl, rfl, XF, XT, hst, hI2⟩ := hcut.out
    obtain ⟨w4, rfl⟩ : ∃ V, V = wc := ⟨_, rfl⟩
    obtain ⟨q', hq, e3, e4, e5⟩ := hI2.ps
    have hj := HJ.out k
    clear hsc c0 c1 c2 c3 hcut
    cases ok
    ·have HN : Hid (CI w q S X Y (k + 1) (w4.setCell ⟨S + 1, 2, none⟩ (.bool false))) := hI2.no hwS (by simpa using hst)
     have b2 := hq.box.cell 2 (by simp)
     simp only [List.getElem_cons_zero, List.getElem_cons_succ] at b2
     have f2 := hq.box.free 2
     have l2 := hq.box.lt
     clear hq hI2 hst XF XT hj e3 e4 e5
     go_wp2
     go_roundw
     case rel => exact ⟨k + 1, by go_num, .inl (by omega), HN.out⟩
     case measure => simp [intOf]; omega
    ·have hst' : strC q (X k) (Y k) (X (k + 1)) (Y (k + 1)) = some ⟨px, py, qx, qy⟩ := by simpa using hst
     obtain ⟨p1, p2⟩ := strC_bd hst' Hoo.out.1 Hoo.out.2 h6
     have f0 : w4.cell? ⟨F, 0, none⟩ = some (.int .i64 px) := XF.cell 0 (by simp)
     have f1 : w4.cell? ⟨F, 1, none⟩ = some (.int .i64 py) := XF.cell 1 (by simp)
     have t0 : w4.cell? ⟨T, 0, none⟩ = some (.int .i64 qx) := XT.cell 0 (by simp)
     have t1 : w4.cell? ⟨T, 1, none⟩ = some (.int .i64 qy) := XT.cell 1 (by simp)
     have hop : q'.op = true → 0 < q'.pts.length := fun h => by rw [e3]; exact hj.good.pos (hj.ne (e5 ▸ h))
     have hpl : q'.pts.length ≤ 1000000 := by rw [e3]; have := hj.flat; omega
     have hsl : q'.ss.length ≤ 1000000 := by rw [e4, startsL_len]; have := hj.len; omega
     clear XF XT hst
     go_wp2_with fail
     refine (add_pc (S + 1) q' ⟨px, py⟩ ⟨qx, qy⟩ _ hq p1 p2 hop hpl hsl).mono ?_
     intro e w5 hA
     have HY : Hid (CI w q S X Y (k + 1) w5) := hI2.yes hwS hst' hj.good e3 e4 e5 hA
     obtain ⟨_, rfl, _⟩ := hA.out
     clear hA f0 f1 t0 t1 hq hI2 hj e3 e4 e5 hop hpl hsl p1 p2 hst'
     go_wp2
     go_roundw
     case rel => exact ⟨k + 1, by go_num, .inl (by omega), HY.out⟩
     case measure => simp [intOf]; omega
  ·have hkn : k = n - 1 := by omega
   obtain ⟨q', hq, e3, e4, e5⟩ := HI.out.ps
   have hj := HJ.out k
   have hbw := HI.out.bel
   obtain ⟨L, HLL⟩ : ∃ L, Hid ((clpQ q X Y k).1 = L) := ⟨_, (rfl : (clpQ q X Y k).1 = _)⟩
   rw [HLL.out] at e3 e4 hj
   have HLq : Hid (clipQ q n X Y = L) := (by rw [HL.out, ← hkn, HLL.out] : clipQ q n X Y = L)
   have hsl : q'.ss.length = L.length := by rw [e4, startsL_len]
   have hcS : ∀ i (h : i < q'.ss.length), q'.ss[i] = stN L i := fun i h => by simp only [e4]; exact startsL_get _
   have hcT : stN L q'.ss.length = q'.pts.length := by rw [hsl, e3]; exact stN_all L
   have hcM : ∀ i, i < q'.ss.length → stN L i < stN L (i + 1) := fun i h => by
    rw [hsl] at h
    rw [stN_succ h]
    have := List.length_pos_iff.2 (hj.good.ne L[i] (List.getElem_mem h))
    omega
   have hpl : q'.pts.length ≤ 1000000 := by rw [e3]; have := hj.flat; omega
   have hsl2 : q'.ss.length ≤ 1000000 := by rw [hsl]; have := hj.len; omega
   have hlt' : ¬ (k : Int) + 1 < (n : Int) := by omega
   clear hI
   go_wp2_with fail
   refine (cut_any (S + 1) q' (stN L) _ hq hcS hcT hcM hpl hsl2).mono ?_
   rintro e w5 ⟨g, cg, rfl, hg, hB, hb5⟩
   rw [hsl] at hB ⊢
   have HOut : Hid (ClpV w w5 L (.slice (some ⟨wr.heap.size + 1, 0, none⟩) L.length L.length)) := by
    refine ⟨.inr ⟨_, g, rfl, hB, Nat.le_succ_of_le hbw.out.size, fun h0 => ?_⟩⟩
    rw [← e3] at h0
    rcases hq.pts.place with ⟨_, h1⟩ | ⟨g', cap, h1, h2, h3, _, _, h4, h5⟩
    ·rw [h1] at h0; exact absurd h0 (by simp)
    ·have h6 := hg h0
     rw [h1] at h6
     injection h6 with h6
     injection h6 with h6
     injection h6 with h6
     subst h6
     refine ⟨by omega, bel_lt hb5 h3, by omega, fun j => (hb5.out.frozen (p := ⟨g', j, none⟩) h3).trans (h4 j), fun j hj => ?_⟩
     have hj' : j < q'.pts.length := by rw [e3]; exact hj
     obtain ⟨z0, z1⟩ := h5 j hj'
     simp only [e3] at z0 z1
     exact ⟨bel_cellM hb5 h3 z0, bel_cellM hb5 h3 z1⟩
   clear hcS hcT hcM hq
   go_wp2
   go_ret
   exact ⟨_, rfl, by rw [HLq.out]; exact HOut.out, bel_step hbw hb5⟩
end Go.Proofs.YtldfcnlhjjiihaaGreat
