/-
  Quantise in the program: its contract, for every row and every tile.
-/
import Derived.Test.YtldfcnlhjjiihaaGreatCE
namespace Go.Proofs.YtldfcnlhjjiihaaGreat
open Go.RowKit Go.Maps

/-- The places, as both tell them. -/
def qzX (z x y : Int) (X : Nat → Int) (i : Nat) : Int := qz (tbx z x y).a (zS z) (X i)
def qzY (z x y : Int) (Y : Nat → Int) (i : Nat) : Int := qz (tbx z x y).b (zS z) (Y i)
def qzQ (z x y : Int) (n : Nat) (X Y : Nat → Int) : List PtD :=
 if rowB n X Y = true ∧ tilB z x y = true ∧ inB (tbx z x y) n X Y = true then cpL (qzX z x y X) (qzY z x y Y) n else []
theorem qzQ_row {z x y : Int} {n : Nat} {X Y : Nat → Int} (h : rowB n X Y = false) : qzQ z x y n X Y = [] := if_neg fun hh => by rw [h] at hh; exact Bool.false_ne_true hh.1
theorem qzQ_til {z x y : Int} {n : Nat} {X Y : Nat → Int} (h : tilB z x y = false) : qzQ z x y n X Y = [] := if_neg fun hh => by rw [h] at hh; exact Bool.false_ne_true hh.2.1
theorem qzQ_in {z x y : Int} {n : Nat} {X Y : Nat → Int} (h : inB (tbx z x y) n X Y = false) : qzQ z x y n X Y = [] := if_neg fun hh => by rw [h] at hh; exact Bool.false_ne_true hh.2.2
theorem qzQ_yes {z x y : Int} {n : Nat} {X Y : Nat → Int} (h1 : rowB n X Y = true) (h2 : tilB z x y = true) (h3 : inB (tbx z x y) n X Y = true) : qzQ z x y n X Y = cpL (qzX z x y X) (qzY z x y Y) n := if_pos ⟨h1, h2, h3⟩
/-- What lies in a tile's box lies in its square. -/
theorem sqr_of {z x y u v : Int} (h : tilB z x y = true) (hp : ptB (tbx z x y) u v = true) : Sqr (tbx z x y) (zS z) u v := by
 obtain ⟨hz, h0, h1, h2, h3⟩ := til_out h
 have b1 := tbA_bd hz h0 h1
 have b2 := tbA_bd hz h2 h3
 rw [tbx_yes h] at hp ⊢
 simp only [ptB, Bool.and_eq_true, decide_eq_true_eq] at hp
 exact ⟨⟨by show _ ≤ tbA z x; omega, hp.1, hp.2.1, by have := hp.2.1; omega⟩, ⟨by show _ ≤ tbA z y; omega, hp.2.2.1, hp.2.2.2, by have := hp.2.2.2; omega⟩⟩
theorem qzQ_bd (z x y : Int) (n : Nat) (X Y : Nat → Int) : ∀ d ∈ qzQ z x y n X Y, 0 ≤ d.x ∧ d.x ≤ 4096 ∧ 0 ≤ d.y ∧ d.y ≤ 4096 := by
 intro d hd
 unfold qzQ at hd
 split at hd
 ·next h =>
  refine cpL_in (P := fun d => 0 ≤ d.x ∧ d.x ≤ 4096 ∧ 0 ≤ d.y ∧ d.y ≤ 4096) n (fun j hj => ?_) d hd
  have hs := (zNS (til_out h.2.1).1).2.1
  obtain ⟨g1, g2⟩ := sqr_of h.2.1 (inB_out h.2.2 j hj)
  have u1 := qz_bd hs g1.2.1 g1.2.2.1
  have u2 := qz_bd hs g2.2.1 g2.2.2.1
  exact ⟨u1.1, u1.2, u2.1, u2.2⟩
 ·exact nomatch hd
theorem qzQ_len (z x y : Int) (n : Nat) (X Y : Nat → Int) : (qzQ z x y n X Y).length ≤ n := by
 unfold qzQ
 split
 ·exact cpL_len _ _ _
 ·exact Nat.zero_le _
theorem flat_nil (n : Nat) : (List.range n).flatMap (fun _ => ([] : List Nat)) = [] := List.flatMap_eq_nil_iff.2 fun _ _ => rfl
/-- A row in one block. -/
theorem ptl_of {w : World} {g : Nat} {l : List PtD} (hg : g < w.heap.size) (hc : ∀ i (h : i < l.length), w.cell? ⟨g, 0 + i * 2, none⟩ = some (.int .i64 l[i].x) ∧ w.cell? ⟨g, 0 + i * 2 + 1, none⟩ = some (.int .i64 l[i].y)) (hp : ∀ d ∈ l, 0 ≤ d.x ∧ d.x ≤ 4096 ∧ 0 ≤ d.y ∧ d.y ≤ 4096) : PtL w (some ⟨g, 0, none⟩) l [g] :=
 .inr ⟨g, 0, fun _ => [], rfl, hg, by rw [flat_nil], fun i hi => by
  obtain ⟨b1, b2, b3, b4⟩ := hp _ (List.getElem_mem hi)
  exact ⟨rfl, ⟨by omega, by omega⟩, ⟨by omega, by omega⟩, (hc i hi).1, (hc i hi).2⟩⟩
theorem qzT_at {q : BoxD} {s : Nat} {X Y : Nat → Int} {k i : Nat} (h : i < (qzT q s X Y k).length) : (qzT q s X Y k)[i] = ⟨qz q.a s (X i), qz q.b s (Y i)⟩ := by simp [qzT]

theorem compact_nil (w : World) : Calls Tryz.prog 107 #[.slice none 0 0] w fun e w' => e = .returned (.slice none 0 0) ∧ w' = w := by
 go_enter Tryz.func107, Tryz.ntmps107
 go_wp2
 go_ret
 exact ⟨rfl, rfl⟩

set_option maxRecDepth 100000 in
set_option maxHeartbeats 4000000 in
theorem quantise_any (a : Option Addr) (n c : Nat) (X Y : Nat → Int) (z x y : Int) (w : World) (hP : Pts w a n X Y) (hn : n ≤ 1048576) :
  Calls Tryz.prog 61 #[.slice a n c, til z x y] w fun e w' => ∃ a' c' bs, e = .returned (.slice a' (qzQ z x y n X Y).length c') ∧ PtL w' a' (qzQ z x y n X Y) bs ∧ Fresh w w' bs ∧ Bel w w' := by
 obtain ⟨L, HL⟩ : ∃ L, Hid (qzQ z x y n X Y = L) := ⟨_, (rfl : qzQ z x y n X Y = _)⟩
 have HLb : Hid (∀ d ∈ L, 0 ≤ d.x ∧ d.x ≤ 4096 ∧ 0 ≤ d.y ∧ d.y ≤ 4096) := by rw [← HL.out]; exact qzQ_bd z x y n X Y
 rw [HL.out]
 obtain ⟨q, Hq⟩ : ∃ q, Hid (tbx z x y = q) := ⟨_, (rfl : tbx z x y = _)⟩
 have hB0 : Bel w (w.alloc (.cells #[.int .i64 z, .int .i64 x, .int .i64 y] 30)) := bel_alloc (Bel.refl _) _
 have X0 : Blk (w.alloc (.cells #[.int .i64 z, .int .i64 x, .int .i64 y] 30)) w.heap.size [.int .i64 z, .int .i64 x, .int .i64 y] := Blk.new w [.int .i64 z, .int .i64 x, .int .i64 y] _
 go_enter Tryz.func61, Tryz.ntmps61
 go_wp2_with fail
 refine (tileBox_any _ _ _ _).mono ?_
 rintro e w1 ⟨rfl, hb1⟩
 rw [Hq.out]
 have hB1 := bel_step hB0 hb1
 obtain ⟨V, HV⟩ : ∃ V, Hid (V = w1.alloc (.cells #[.int .i64 q.a, .int .i64 q.b, .int .i64 q.c, .int .i64 q.d] 63)) := ⟨_, (rfl : w1.alloc (.cells #[.int .i64 q.a, .int .i64 q.b, .int .i64 q.c, .int .i64 q.d] 63) = _)⟩
 have hbV : Bel w1 V := by rw [HV.out]; exact bel_alloc (Bel.refl _) _
 have Y0 : Blk V w.heap.size [.int .i64 z, .int .i64 x, .int .i64 y] := (X0.bel hb1).bel hbV
 have YB : Blk V w1.heap.size [.int .i64 q.a, .int .i64 q.b, .int .i64 q.c, .int .i64 q.d] := by rw [HV.out]; exact Blk.new w1 [.int .i64 q.a, .int .i64 q.b, .int .i64 q.c, .int .i64 q.d] _
 have hBV := bel_step hB1 hbV
 clear X0 hb1 hbV hB0 hB1
 go_wp2_with fail
 rw [← HV.out]
 refine (rowOk_any _ _ _ X Y _ (hP.bel hBV) hn).mono ?_
 rintro e w2 ⟨rfl, hb2⟩
 have hB2 := bel_step hBV hb2
 have Z0 := Y0.bel hb2
 have ZB := YB.bel hb2
 clear Y0 YB HV hb2 hBV
 cases hr : rowB n X Y
 ·obtain rfl := HL.out.symm.trans (qzQ_row hr)
  go_wp2
  go_ret
  exact ⟨_, _, [], rfl, Sl.nil, Fresh.nil _ _, hB2⟩
 have Hr : Hid (rowB n X Y = true) := hr
 clear hr
 have c0 := Z0.cell 0 (by simp)
 have c1 := Z0.cell 1 (by simp)
 have c2 := Z0.cell 2 (by simp)
 simp only [List.getElem_cons_zero, List.getElem_cons_succ] at c0 c1 c2
 go_wp2_with fail
 refine (tileOk_any _ _ _ _).mono ?_
 rintro e w3 ⟨rfl, hb3⟩
 have hB3 := bel_step hB2 hb3
 have U0 := Z0.bel hb3
 have UB := ZB.bel hb3
 clear Z0 ZB hb3 c0 c1 c2 hB2
 cases ht : tilB z x y
 ·obtain rfl := HL.out.symm.trans (qzQ_til ht)
  go_wp2
  go_ret
  exact ⟨_, _, [], rfl, Sl.nil, Fresh.nil _ _, hB3⟩
 have Ht : Hid (tilB z x y = true) := ht
 have hz := (til_out ht).1
 clear ht
 have b0 := UB.cell 0 (by simp)
 have b1 := UB.cell 1 (by simp)
 have b2 := UB.cell 2 (by simp)
 have b3 := UB.cell 3 (by simp)
 simp only [List.getElem_cons_zero, List.getElem_cons_succ] at b0 b1 b2 b3
 go_wp2_with fail
 refine (allPt_any _ _ _ X Y q _ (hP.bel hB3) hn).mono ?_
 rintro e w4 ⟨rfl, hb4⟩
 have hB4 := bel_step hB3 hb4
 have T0 := U0.bel hb4
 have TB := UB.bel hb4
 clear U0 UB hb4 b0 b1 b2 b3 hB3
 cases hi : inB q n X Y
 ·obtain rfl := HL.out.symm.trans (qzQ_in (by rw [Hq.out]; exact hi))
  go_wp2
  go_ret
  exact ⟨_, _, [], rfl, Sl.nil, Fresh.nil _ _, hB4⟩
 have HLe : Hid (L = cpL (qzX z x y X) (qzY z x y Y) n) := HL.out.symm.trans (qzQ_yes Hr.out Ht.out (by rw [Hq.out]; exact hi))
 have hsq : ∀ i, i < n → Sqr q (zS z) (X i) (Y i) := fun i h => by rw [← Hq.out]; exact sqr_of Ht.out (by rw [Hq.out]; exact inB_out hi i h)
 have cS := fun w' => sideAt_any z w' hz
 have s1 := (zNS hz).2.1
 have s2 := (zNS hz).2.2.2.2.2
 have HX : Hid (∀ i, qzX z x y X i = qz q.a (zS z) (X i)) := fun i => by unfold qzX; rw [Hq.out]
 have HY : Hid (∀ i, qzY z x y Y i = qz q.b (zS z) (Y i)) := fun i => by unfold qzY; rw [Hq.out]
 obtain ⟨s, hs⟩ : ∃ s, zS z = s := ⟨_, rfl⟩
 rw [hs] at cS s1 s2 hsq HX HY
 clear hs hi
 have c0 := T0.cell 0 (by simp)
 simp only [List.getElem_cons_zero] at c0
 go_wp2_with fail
 refine (cS _).mono ?_
 rintro e w5 ⟨rfl, rfl⟩
 obtain ⟨G, HG⟩ : ∃ V, Hid (V = w5.alloc (.cells #[.int .i64 (s : Int)] 2)) := ⟨_, (rfl : w5.alloc (.cells #[.int .i64 (s : Int)] 2) = _)⟩
 have hbG : Bel w5 G := by rw [HG.out]; exact bel_alloc (Bel.refl _) _
 have SC : Blk G w5.heap.size [.int .i64 (s : Int)] := by rw [HG.out]; exact Blk.new w5 [.int .i64 (s : Int)] _
 have SB := TB.bel hbG
 have hBG := bel_step hB4 hbG
 clear cS T0 TB c0 hbG hB4
 go_wp2_with fail
 rw [← HG.out]
 refine (eachPt_any _ _ _ X Y q s _ _ _ (hP.bel hBG) SB SC s1 s2 hsq hn).mono ?_
 rintro e w6 ⟨v6, R6, rfl, G6, hb6⟩
 have hB6 := bel_step hBG hb6
 have n6 := hBG.out.size
 rcases GrP.place G6 with ⟨rfl, e0⟩ | ⟨g, cap, rfl, g1, g2, g3, g4, g5, g6⟩
 ·have hn0 : n = 0 := by have := congrArg List.length e0; rw [qzT_len] at this; exact this
  have hLe := HLe.out
  subst hn0
  subst hLe
  clear G6 e0 SB SC HG
  go_wp2_with fail
  refine (compact_nil _).mono ?_
  rintro e w7 ⟨rfl, rfl⟩
  go_wp2
  go_ret
  exact ⟨_, _, [], rfl, Sl.nil, Fresh.nil _ _, hB6⟩
 ·have hLe := HLe.out
  rw [show qzX z x y X = fun i => qz q.a s (X i) from funext HX.out, show qzY z x y Y = fun i => qz q.b s (Y i) from funext HY.out] at hLe
  have g6' : ∀ i, i < n → w6.cell? ⟨g, 0 + i * 2, none⟩ = some (.int .i64 (qz q.a s (X i))) ∧ w6.cell? ⟨g, 0 + i * 2 + 1, none⟩ = some (.int .i64 (qz q.b s (Y i))) := fun i hi => by
   have hi' : i < (qzT q s X Y n).length := by rw [qzT_len]; exact hi
   have := g6 i hi'
   rw [qzT_at hi'] at this
   rw [Nat.zero_add]
   exact this
  rw [qzT_len] at g3 ⊢
  obtain ⟨m, hm⟩ : ∃ m, L.length = m := ⟨_, rfl⟩
  have Hm : Hid (L.length = m) := hm
  have hcap : cap ≤ 9223372036854775807 := by unfold maxLen at g4; omega
  have cC := compact_any g 0 n cap (fun i => qz q.a s (X i)) (fun i => qz q.b s (Y i)) w6 g2 g6' g5 hn g3 hcap m (by rw [← hLe]; exact hm)
  rw [← hLe] at cC
  clear G6 SB SC HG g6 g6' g5 hm hLe
  go_wp2_with fail
  refine cC.mono ?_
  rintro e w7 ⟨rfl, k1, k2, k3⟩
  have hw7 : w.heap.size ≤ g := by omega
  have hB7 : Bel w w7 := Onl.to_bel hB6 k3 (fun x hx => by rw [List.mem_singleton.1 hx]; exact hw7)
  have hg7 := Nat.lt_of_lt_of_le g2 k3.size
  have HS : Hid (PtL w7 (some ⟨g, 0, none⟩) L [g]) := ptl_of hg7 k1 HLb.out
  have HF : Hid (Fresh w w7 [g]) := (⟨by simp, fun b hb => by rw [List.mem_singleton.1 hb]; exact ⟨hw7, hg7⟩, fun b hb j => by rw [List.mem_singleton.1 hb]; exact k2 j⟩ : Fresh w w7 [g])
  obtain rfl := Hm.out
  clear cC k1 k2 k3
  go_wp2
  go_ret
  exact ⟨_, _, [g], rfl, HS.out, HF.out, hB7⟩
end Go.Proofs.YtldfcnlhjjiihaaGreat
