/-
  A tile's lines: held against each other, marked: contracts.
  A tile's lines: the marks held; what is drawn of a tile: held against another, marked, the marks held: contracts.
-/
import Derived.Test.YtldfcnlhjjiihaaGreatTlnM
import Derived.Test.YtldfcnlhjjiihaaGreatKA
import Derived.Test.YtldfcnlhjjiihaaGreatKF
namespace Go.Proofs.YtldfcnlhjjiihaaGreat
open Go.RowKit Go.Maps

set_option maxHeartbeats 1000000 in
theorem eqLine_same (x0 : Int) (a1 : Option Addr) (n1 c1 : Nat) (l1 : List PtD) (bs1 : List Nat) (a2 : Option Addr) (n2 c2 : Nat) (l2 : List TagD) (bs2 : List Nat) (a1' : Option Addr) (c1' : Nat) (bs1' : List Nat) (a2' : Option Addr) (c2' : Nat) (bs2' : List Nat) (w : World) (t1 : PtL w a1 l1 bs1) (e1 : l1.length = n1) (t2 : Tags w a2 l2 bs2) (e2 : l2.length = n2) (t1' : PtL w a1' l1 bs1') (t2' : Tags w a2' l2 bs2') (m1 : n1 ≤ 1048576) (m2 : n2 ≤ 1048576) :
  Calls Tryz.prog 63 #[.agg #[.int .i64 x0, .slice a1 n1 c1, .slice a2 n2 c2], .agg #[.int .i64 x0, .slice a1' n1 c1', .slice a2' n2 c2']] w fun e w' => e = .returned (.bool true) ∧ Bel w w' := by
 have S0 : Bel w ((w.alloc (.cells #[.int .i64 x0, .slice a1 n1 c1, .slice a2 n2 c2] 67)).alloc (.cells #[.int .i64 x0, .slice a1' n1 c1', .slice a2' n2 c2'] 67)) := bel_alloc (bel_alloc (Bel.refl _) _) _
 have X0 : Blk ((w.alloc (.cells #[.int .i64 x0, .slice a1 n1 c1, .slice a2 n2 c2] 67)).alloc (.cells #[.int .i64 x0, .slice a1' n1 c1', .slice a2' n2 c2'] 67)) w.heap.size [.int .i64 x0, .slice a1 n1 c1, .slice a2 n2 c2] := (Blk.new w [.int .i64 x0, .slice a1 n1 c1, .slice a2 n2 c2] 67).bel (bel_alloc (Bel.refl _) _)
 have Y0 : Blk ((w.alloc (.cells #[.int .i64 x0, .slice a1 n1 c1, .slice a2 n2 c2] 67)).alloc (.cells #[.int .i64 x0, .slice a1' n1 c1', .slice a2' n2 c2'] 67)) (w.heap.size + 1) [.int .i64 x0, .slice a1' n1 c1', .slice a2' n2 c2'] := Blk.new1 w _ [.int .i64 x0, .slice a1' n1 c1', .slice a2' n2 c2'] 67
 go_enter Tryz.func63, Tryz.ntmps63
 go_wp2_with fail
 refine (eqPtS_same _ _ _ _ _ l1 bs1 bs1' _ (t1.bel ptE S0) (t1'.bel ptE S0) e1 m1).mono ?_
 rintro e w1 ⟨rfl, hb1⟩
 have S1 := bel_step S0 hb1
 have X1 := X0.bel hb1
 have Y1 := Y0.bel hb1
 have x10 : w1.cell? ⟨w.heap.size, 0, none⟩ = some (.int .i64 x0) := X1.cell 0 (by simp)
 have y10 : w1.cell? ⟨w.heap.size + 1, 0, none⟩ = some (.int .i64 x0) := Y1.cell 0 (by simp)
 have x11 : w1.cell? ⟨w.heap.size, 1, none⟩ = some (.slice a1 n1 c1) := X1.cell 1 (by simp)
 have y11 : w1.cell? ⟨w.heap.size + 1, 1, none⟩ = some (.slice a1' n1 c1') := Y1.cell 1 (by simp)
 have x12 : w1.cell? ⟨w.heap.size, 2, none⟩ = some (.slice a2 n2 c2) := X1.cell 2 (by simp)
 have y12 : w1.cell? ⟨w.heap.size + 1, 2, none⟩ = some (.slice a2' n2 c2') := Y1.cell 2 (by simp)
 go_wp2_with fail
 refine (eqTagS_same _ _ _ _ _ l2 bs2 bs2' _ (t2.bel tagE S1) (t2'.bel tagE S1) e2 m2).mono ?_
 rintro e w2 ⟨rfl, hb2⟩
 have S2 := bel_step S1 hb2
 go_wp2
 go_ret
 exact ⟨rfl, S2⟩


set_option maxHeartbeats 1000000 in
theorem eqLineS_same (a a' : Option Addr) (n c c' : Nat) (l : List LneD) (bs bs' : List Nat) (w : World) (hP : LneL w a l bs) (hP' : LneL w a' l bs') (hn : l.length = n) (hm : n ≤ 1048576) (hs : ∀ i (h : i < l.length), l[i].row.length ≤ 1048576 ∧ l[i].tags.length ≤ 1048576) :
  Calls Tryz.prog 30 #[.slice a n c, .slice a' n c'] w fun e w' => e = .returned (.bool true) ∧ Bel w w' := by
 have Hn : Hid (l.length = n) := hn
 clear hn
 go_enter Tryz.func30, Tryz.ntmps30
 go_wp2
 go_loopw [5] (fun i wr => ∃ k : Nat, k ≤ n ∧ i = .int .i64 k ∧ Bel w wr) (fun i _ => n - (intOf i).toNat)
 case atStart => exact ⟨0, Nat.zero_le _, rfl, Bel.refl _⟩
 case round =>
  obtain ⟨k, hk, rfl, hbel⟩ := hrel
  by_cases hlt : k < n
  ·have hkl : k < l.length := by rw [Hn.out]; exact hlt
   obtain ⟨b, off, f, rfl, h2, h3⟩ := (hP.bel lneE hbel).out hkl
   obtain ⟨b', off', f', rfl, h2', h3'⟩ := (hP'.bel lneE hbel).out hkl
   obtain ⟨in0, c0, a1, k1, a2, k2, bs1, bs2, _, m1, m2, c1, t1, c2, t2⟩ := h3 k hkl
   obtain ⟨in0', c0', a1', k1', a2', k2', bs1', bs2', _, m1', m2', c1', t1', c2', t2'⟩ := h3' k hkl
   have hR : ∀ w', Bel wr w' → w'.cell? ⟨b, off + k * 3, none⟩ = some (.int .i64 l[k].way) ∧ w'.cell? ⟨b, off + k * 3 + 1, none⟩ = some (.slice a1 l[k].row.length k1) ∧ w'.cell? ⟨b, off + k * 3 + 2, none⟩ = some (.slice a2 l[k].tags.length k2) ∧ w'.cell? ⟨b', off' + k * 3, none⟩ = some (.int .i64 l[k].way) ∧ w'.cell? ⟨b', off' + k * 3 + 1, none⟩ = some (.slice a1' l[k].row.length k1') ∧ w'.cell? ⟨b', off' + k * 3 + 2, none⟩ = some (.slice a2' l[k].tags.length k2') :=
    fun w' h => ⟨bel_cellM h h2 c0, bel_cellM h h2 c1, bel_cellM h h2 c2, bel_cellM h h2' c0', bel_cellM h h2' c1', bel_cellM h h2' c2'⟩
   have hlt' : (k : Int) < (n : Int) := by omega
   have g0 : Bel wr wr := Bel.refl _
   have T1 : ∀ w', Bel wr w' → PtL w' a1 l[k].row bs1 := fun w' h => t1.bel ptE h
   have T2 : ∀ w', Bel wr w' → Tags w' a2 l[k].tags bs2 := fun w' h => t2.bel tagE h
   have T1' : ∀ w', Bel wr w' → PtL w' a1' l[k].row bs1' := fun w' h => t1'.bel ptE h
   have T2' : ∀ w', Bel wr w' → Tags w' a2' l[k].tags bs2' := fun w' h => t2'.bel tagE h
   clear h3 h3' c0 c0' c1 c1' c2 c2' h2 h2' hP hP'
   go_wp2
   go_region_held3 (fun w' => Bel wr w') (repeat (first | exact g0 | refine Bel.drew ?_ | assumption | refine bel_then (by assumption) ?_))
    (first
     | (go_at_call 63; refine (eqLine_same _ a1 _ k1 l[k].row bs1 a2 _ k2 l[k].tags bs2 a1' k1' bs1' a2' k2' bs2' _ (T1 _ (by assumption)) rfl (T2 _ (by assumption)) rfl (T1' _ (by assumption)) (T2' _ (by assumption)) (hs k hkl).1 (hs k hkl).2).mono ?_; rintro e w' ⟨rfl, hbk⟩))
   have hH : Bel wr w' := by assumption
   go_wp2
   go_roundw
   case rel => exact ⟨k + 1, by omega, by go_num, bel_step hbel hH⟩
   case measure => simp [intOf]; omega
  ·have e : k = n := by omega
   subst e
   go_wp2
   go_ret
   exact ⟨rfl, hbel⟩


/-- With which number the marks of element i begin. -/
def stLne (k : Nat) (l : List LneD) : Nat → Nat
 | 0 => k
 | i + 1 => stLne k l i + (1 + 2 * (l.getD i ⟨0, [], []⟩).row.length + 2 * (l.getD i ⟨0, [], []⟩).tags.length)
def mkLnes (k : Nat) (l : List LneD) : List LneD := (List.range l.length).map fun i => mkLne (stLne k l i) (l.getD i ⟨0, [], []⟩)
theorem mkLnes_len (k : Nat) (l : List LneD) : (mkLnes k l).length = l.length := by simp [mkLnes]
theorem stLne_bd {k : Nat} {l : List LneD} (hs : ∀ i (h : i < l.length), l[i].row.length ≤ 1048576 ∧ l[i].tags.length ≤ 1048576) : ∀ j, j ≤ l.length → k ≤ stLne k l j ∧ stLne k l j ≤ k + j * 4194305
 | 0, _ => by simp [stLne]
 | j + 1, hj => by
  have h1 := stLne_bd (k := k) hs j (by omega)
  have h2 := hs j (by omega)
  simp only [stLne, getD_at ⟨0, [], []⟩ (show j < l.length by omega)]
  omega

set_option maxRecDepth 100000 in
set_option maxHeartbeats 2000000 in
theorem markLineS_any (a : Option Addr) (n c : Nat) (l : List LneD) (bs : List Nat) (k : Nat) (w : World) (hT : LneL w a l bs) (hf : ∀ x ∈ bs, ∀ j, w.frozen? ⟨x, j, none⟩ = false) (hd : bs.Nodup) (hn : l.length = n) (hm : n ≤ 1048576) (hs : ∀ i (h : i < l.length), l[i].row.length ≤ 1048576 ∧ l[i].tags.length ≤ 1048576) (h0k : 0 < k) (hk : k ≤ 70368744177664) :
  Calls Tryz.prog 37 #[.slice a n c, .int .i64 k] w fun e w' => e = .returned (.int .i64 (stLne k l n : Nat)) ∧ LneL w' a (mkLnes k l) bs ∧ (∀ x ∈ bs, ∀ j, w'.frozen? ⟨x, j, none⟩ = false) ∧ Onl bs w w' := by
 by_cases h0 : n = 0
 ·subst h0
  obtain rfl : l = [] := List.length_eq_zero_iff.1 hn
  have HT : Hid (LneL w a (mkLnes k []) bs) := hT
  clear hT
  go_enter Tryz.func37, Tryz.ntmps37
  go_wp2
  go_loopw [1, 5] (fun t i wr => t = .int .i64 k ∧ i = .int .i64 0 ∧ wr = w) (fun _ _ _ => 0)
  case atStart => exact ⟨rfl, rfl, rfl⟩
  case round =>
   obtain ⟨rfl, rfl, rfl⟩ := hrel
   go_wp2
   go_ret
   exact ⟨rfl, HT.out, hf, Onl.refl _ _⟩
 ·rcases hT with ⟨rfl, _⟩ | ⟨b, off, f, rfl, hb, rfl, hx⟩
  ·exact absurd hn.symm h0
  ·have hfam : Fam 3 LneE w b off n (fun i => l.getD i ⟨0, [], []⟩) f := fun i hi => by
    show LneE w b (off + i * 3) (l.getD i ⟨0, [], []⟩) (f i)
    rw [getD_at ⟨0, [], []⟩ (show i < l.length by omega)]
    exact hx i (by omega)
   rw [hn] at hd hf ⊢
   obtain ⟨hdb, hdf⟩ := List.nodup_cons.1 hd
   have Hn : Hid (l.length = n) := hn
   have HS : Hid (∀ i (h : i < l.length), l[i].row.length ≤ 1048576 ∧ l[i].tags.length ≤ 1048576) := hs
   have HB : Hid (∀ j, j ≤ l.length → k ≤ stLne k l j ∧ stLne k l j ≤ k + j * 4194305) := stLne_bd hs
   have HDF : Hid ((List.range n).flatMap f).Nodup := hdf
   have HDB : Hid (∀ i, i < n → b ∉ f i) := fun i hi h => hdb (List.mem_flatMap.2 ⟨i, List.mem_range.2 hi, h⟩)
   clear hn hx hd hdb hdf hs
   go_enter Tryz.func37, Tryz.ntmps37
   go_wp2
   go_loopw [1, 5] (fun t i wr => ∃ j : Nat, j ≤ n ∧ i = .int .i64 j ∧ t = .int .i64 (stLne k l j : Nat) ∧ Fam 3 LneE wr b off n (upto j (fun i => mkLne (stLne k l i) (l.getD i ⟨0, [], []⟩)) (fun i => l.getD i ⟨0, [], []⟩)) f ∧ Hid (∀ x ∈ b :: (List.range n).flatMap f, ∀ o, wr.frozen? ⟨x, o, none⟩ = false) ∧ Onl (b :: (List.range n).flatMap f) w wr) (fun _ i _ => n - (intOf i).toNat)
   case atStart => exact ⟨0, Nat.zero_le _, rfl, rfl, by rw [upto_zero]; exact hfam, hf, Onl.refl _ _⟩
   case round =>
    obtain ⟨j, hj, rfl, rfl, hF, HFR, hO⟩ := hrel
    have hbr := Nat.lt_of_lt_of_le hb hO.size
    by_cases hlt : j < n
    ·have hjl : j < l.length := by rw [Hn.out]; exact hlt
     have hj0 := hF j hlt
     have eD : upto j (fun i => mkLne (stLne k l i) (l.getD i ⟨0, [], []⟩)) (fun i => l.getD i ⟨0, [], []⟩) j = l.getD j ⟨0, [], []⟩ := by simp [upto]
     rw [eD] at hj0
     obtain ⟨dd, Hdd⟩ : ∃ dd, Hid (dd = l.getD j ⟨0, [], []⟩) := ⟨_, (rfl : l.getD j ⟨0, [], []⟩ = _)⟩
     rw [← Hdd.out] at hj0
     obtain ⟨_, c0, pa, pc, ta, tc, g1, g2, hg, ml1, ml2, c1, t1, c2, t2⟩ := hj0
     have htl : dd.row.length ≤ 1048576 ∧ dd.tags.length ≤ 1048576 := by rw [Hdd.out, getD_at _ hjl]; exact HS.out j hjl
     obtain ⟨htl1, htl2⟩ := htl
     have hbj := HDB.out j hlt
     have hnj := nd_one HDF.out hlt
     rw [hg] at hbj hnj
     obtain ⟨_, _, hdis⟩ := List.nodup_append.1 hnj
     have hb1 : b ∉ g1 := fun h => hbj (List.mem_append.2 (.inl h))
     have hb2 : b ∉ g2 := fun h => hbj (List.mem_append.2 (.inr h))
     have hd12 : ∀ x ∈ g1, x ∉ g2 := fun x hx hx' => hdis x hx x hx' rfl
     have hsub : ∀ x ∈ g1 ++ g2, x ∈ b :: (List.range n).flatMap f := fun x hx => List.mem_cons_of_mem _ (List.mem_flatMap.2 ⟨j, List.mem_range.2 hlt, by rw [hg]; exact hx⟩)
     obtain ⟨kk, HK⟩ : ∃ kk, Hid (stLne k l j = kk) := ⟨_, (rfl : stLne k l j = _)⟩
     have hkk := HB.out j (by rw [Hn.out]; exact hj)
     rw [HK.out] at hkk ⊢
     have HNX : Hid (stLne k l (j + 1) = kk + 1 + 2 * dd.row.length + 2 * dd.tags.length) := by
      show stLne k l j + (1 + 2 * (l.getD j ⟨0, [], []⟩).row.length + 2 * (l.getD j ⟨0, [], []⟩).tags.length) = _
      rw [HK.out, Hdd.out]; omega
     have f0 := HFR.out b (by simp) (off + j * 3)
     have hlt' : (j : Int) < (n : Int) := by omega
     have hk1 : 0 < kk := by omega
     have hk2 : kk ≤ 1125899900000000 := by omega
     obtain ⟨S3, HS3⟩ : ∃ S3, Hid (S3 = wr.setCell ⟨b, off + j * 3, none⟩ (.int .i64 (kk : Int))) := ⟨_, (rfl : wr.setCell ⟨b, off + j * 3, none⟩ (.int .i64 (kk : Int)) = _)⟩
     have hSz : S3.heap.size = wr.heap.size := by rw [HS3.out]; simp [World.setCell]
     have hSf : ∀ x o, S3.frozen? ⟨x, o, none⟩ = wr.frozen? ⟨x, o, none⟩ := fun x o => by rw [HS3.out, World.frozen?_setCell]
     have hSo : ∀ o, o ≠ off + j * 3 → S3.cell? ⟨b, o, none⟩ = wr.cell? ⟨b, o, none⟩ := fun o ho => by rw [HS3.out]; exact World.cell?_setCell_other _ _ _ _ (fun e => ho (congrArg Addr.off e).symm)
     have i0 : S3.cell? ⟨b, off + j * 3, none⟩ = some (.int .i64 (kk : Int)) := by rw [HS3.out]; exact World.cell?_setCell_same _ _ _ c0
     have i1 : S3.cell? ⟨b, off + j * 3 + 1, none⟩ = some (.slice pa dd.row.length pc) := by rw [hSo _ (by omega)]; exact c1
     have i2 : S3.cell? ⟨b, off + j * 3 + 2, none⟩ = some (.slice ta dd.tags.length tc) := by rw [hSo _ (by omega)]; exact c2
     have hSO : Onl (b :: (List.range n).flatMap f) wr S3 := by rw [HS3.out]; exact (Onl.refl _ _).set (b := b) (by simp) _ _
     have hSa : ∀ cs : List Nat, (∀ x ∈ cs, x < wr.heap.size) → b ∉ cs → Alike wr S3 cs := fun cs h1 h2 => by rw [HS3.out]; exact setRow_alike [.int .i64 (kk : Int)] (o := off + j * 3) h1 h2
     have T31 := t1.alike ptE (hSa _ (t1.lt ptE) hb1)
     have T32 := t2.alike tagE (hSa _ (t2.lt tagE) hb2)
     have F31 : ∀ x ∈ g1, ∀ o, S3.frozen? ⟨x, o, none⟩ = false := fun x hx o => by rw [hSf]; exact HFR.out x (hsub x (List.mem_append.2 (.inl hx))) o
     have F32 : ∀ x ∈ g2, ∀ o, S3.frozen? ⟨x, o, none⟩ = false := fun x hx o => by rw [hSf]; exact HFR.out x (hsub x (List.mem_append.2 (.inr hx))) o
     have HKN : Hid ((kk : Int) + 1 = ((kk + 1 : Nat) : Int)) := (by omega : (kk : Int) + 1 = ((kk + 1 : Nat) : Int))
     have hload : (wr.setCell ⟨b, off + j * 3, none⟩ (.int .i64 (kk : Int))).cell? ⟨b, off + j * 3 + 1, none⟩ = some (.slice pa dd.row.length pc) := by rw [← HS3.out]; exact i1
     have hFl : ∀ i, i < n → ∀ x ∈ f i, x < wr.heap.size := fun i hi => lneE.lt (hF i hi)
     have HFam : Hid (Fam 3 LneE wr b off n (upto j (fun i => mkLne (stLne k l i) (l.getD i ⟨0, [], []⟩)) (fun i => l.getD i ⟨0, [], []⟩)) f) := hF
     clear hF t1 t2
     go_wp2_with fail
     rw [HKN.out, ← HS3.out]
     refine (markPointS_any pa _ pc dd.row g1 (kk + 1) _ T31 F31 rfl htl1 (by omega) (by omega)).mono ?_
     rintro e w4 ⟨rfl, T4, F4, O4⟩
     have hbS : b < S3.heap.size := by rw [hSz]; exact hbr
     have hc4 : ∀ o, w4.cell? ⟨b, o, none⟩ = S3.cell? ⟨b, o, none⟩ := fun o => O4.cell hbS hb1
     have j2 : w4.cell? ⟨b, off + j * 3 + 2, none⟩ = some (.slice ta dd.tags.length tc) := by rw [hc4]; exact i2
     have hl2 : ∀ x ∈ g2, x < S3.heap.size := T32.lt tagE
     have hd21 : ∀ x ∈ g2, x ∉ g1 := fun x hx hx' => hd12 x hx' hx
     have T42 := T32.alike tagE (O4.alike hl2 hd21)
     have F42 : ∀ x ∈ g2, ∀ o, w4.frozen? ⟨x, o, none⟩ = false := fun x hx o => by rw [O4.frozen (hl2 x hx) (hd21 x hx)]; exact F32 x hx o
     clear hload
     go_wp2_with fail
     refine (markTagS_any ta _ tc dd.tags g2 (kk + 1 + 2 * dd.row.length) _ T42 F42 rfl htl2 (by omega) (by omega)).mono ?_
     rintro e w5 ⟨rfl, T5, F5, O5⟩
     have hb4 : b < w4.heap.size := Nat.lt_of_lt_of_le hbS O4.size
     have hc5 : ∀ o, w5.cell? ⟨b, o, none⟩ = S3.cell? ⟨b, o, none⟩ := fun o => by rw [O5.cell hb4 hb2, hc4]
     have hl1 : ∀ x ∈ g1, x < w4.heap.size := T4.lt ptE
     have T51 := T4.alike ptE (O5.alike hl1 hd12)
     have hne : ∀ i, i < n → i ≠ j → ∀ x ∈ f i, x ∉ g1 ∧ x ∉ g2 := fun i hi hne x hx => by
      have := nd_ne HDF.out hi hlt hne x hx
      rw [hg] at this
      exact ⟨fun h => this (List.mem_append.2 (.inl h)), fun h => this (List.mem_append.2 (.inr h))⟩
     have HF5 : Hid (Fam 3 LneE w5 b off n (upto (j + 1) (fun i => mkLne (stLne k l i) (l.getD i ⟨0, [], []⟩)) (fun i => l.getD i ⟨0, [], []⟩)) f) := by
      have := Fam.step lneE HFam.out (w' := w5) (j := j) (mkLne kk dd) (fun o ho => by rw [hc5]; exact hSo o (by omega))
       (fun i hi hij => ((hSa _ (hFl i hi) (HDB.out i hi)).trans (O4.alike (fun x hx => by rw [hSz]; exact hFl i hi x hx) (fun x hx => (hne i hi hij x hx).1))).trans
        (O5.alike (fun x hx => Nat.lt_of_lt_of_le (by rw [hSz]; exact hFl i hi x hx) O4.size) (fun x hx => (hne i hi hij x hx).2)))
       ⟨⟨by show _ ≤ (kk : Int); omega, by show (kk : Int) ≤ _; omega⟩, by rw [hc5]; exact i0, pa, pc, ta, tc, g1, g2, hg, by show (mkPoints (kk + 1) dd.row).length ≤ _; rw [mkPoints_len]; exact ml1, by show (mkTags (kk + 1 + 2 * dd.row.length) dd.tags).length ≤ _; rw [mkTags_len]; exact ml2,
        by show _ = some (Value.slice pa (mkPoints (kk + 1) dd.row).length pc); rw [hc5, mkPoints_len]; exact i1, T51,
        by show _ = some (Value.slice ta (mkTags (kk + 1 + 2 * dd.row.length) dd.tags).length tc); rw [hc5, mkTags_len]; exact i2, T5⟩
      rw [show mkLne kk dd = (fun i => mkLne (stLne k l i) (l.getD i ⟨0, [], []⟩)) j by rw [Hdd.out, ← HK.out], upto_step j (fun i => mkLne (stLne k l i) (l.getD i ⟨0, [], []⟩)) (fun i => l.getD i ⟨0, [], []⟩)] at this
      exact this
     have hO5 : Onl (b :: (List.range n).flatMap f) w w5 := ((hO.trans hSO).trans (O4.mono (fun x hx => hsub x (List.mem_append.2 (.inl hx))))).trans (O5.mono (fun x hx => hsub x (List.mem_append.2 (.inr hx))))
     have HR5 : Hid (∀ x ∈ b :: (List.range n).flatMap f, ∀ o, w5.frozen? ⟨x, o, none⟩ = false) := fun x hx o => by
      have hxs : x < S3.heap.size := by
       rw [hSz]
       rcases List.mem_cons.1 hx with rfl | hx
       ·exact hbr
       ·obtain ⟨i, hi, hx⟩ := List.mem_flatMap.1 hx
        exact hFl i (List.mem_range.1 hi) x hx
      by_cases h2 : x ∈ g2
      ·exact F5 x h2 o
      ·rw [O5.frozen (Nat.lt_of_lt_of_le hxs O4.size) h2]
       by_cases h1 : x ∈ g1
       ·exact F4 x h1 o
       ·rw [O4.frozen hxs h1, hSf]
        exact HFR.out x hx o
     clear hO hSO O4 O5 F4 F5 T4 T5 T31 T32 T42 T51 F31 F32 F42 hc4 hc5 hSa hSo hSf i0 i1 i2 j2 HFam hFl f0 c0 c1 c2
     go_wp2
     go_roundw
     case rel => exact ⟨j + 1, by omega, by go_num, by rw [HNX.out]; go_num, HF5.out, HR5, hO5⟩
     case measure => simp [intOf]; omega
    ·have e : n = j := by omega
     subst e
     have HT : Hid (LneL wr (some ⟨b, off, none⟩) (mkLnes k l) (b :: (List.range n).flatMap f)) :=
      Sl.fam hF (Nat.lt_of_lt_of_le hb hO.size) (by rw [mkLnes_len]; exact Hn.out) (fun i hi => by
       rw [mkLnes_len, Hn.out] at hi
       simp [upto, mkLnes, hi])
     clear hF
     go_wp2
     go_ret
     exact ⟨rfl, HT.out, HFR.out, hO⟩


end Go.Proofs.YtldfcnlhjjiihaaGreat

namespace Go.Proofs.YtldfcnlhjjiihaaGreat
open Go.RowKit Go.Maps

set_option maxRecDepth 100000 in
set_option maxHeartbeats 2000000 in
theorem heldLineS_any (a : Option Addr) (n c : Nat) (l : List LneD) (bs : List Nat) (k : Nat) (w : World) (hT : LneL w a (mkLnes k l) bs) (hn : l.length = n) (hm : n ≤ 1048576) (hs : ∀ i (h : i < l.length), l[i].row.length ≤ 1048576 ∧ l[i].tags.length ≤ 1048576) (h0k : 0 < k) (hk : k ≤ 70368744177664) :
  Calls Tryz.prog 38 #[.slice a n c, .int .i64 k] w fun e w' => e = .returned (.int .i64 (stLne k l n : Nat)) ∧ Bel w w' := by
 have Hn : Hid (l.length = n) := hn
 have HS : Hid (∀ i (h : i < l.length), l[i].row.length ≤ 1048576 ∧ l[i].tags.length ≤ 1048576) := hs
 have HB : Hid (∀ j, j ≤ l.length → k ≤ stLne k l j ∧ stLne k l j ≤ k + j * 4194305) := stLne_bd hs
 clear hn hs
 go_enter Tryz.func38, Tryz.ntmps38
 go_wp2
 go_loopw [1, 5] (fun t i wr => ∃ j : Nat, j ≤ n ∧ i = .int .i64 j ∧ t = .int .i64 (stLne k l j : Nat) ∧ Bel w wr) (fun _ i _ => n - (intOf i).toNat)
 case atStart => exact ⟨0, Nat.zero_le _, rfl, rfl, Bel.refl _⟩
 case round =>
  obtain ⟨j, hj, rfl, rfl, hbel⟩ := hrel
  by_cases hlt : j < n
  ·have hjl : j < (mkLnes k l).length := by rw [mkLnes_len, Hn.out]; exact hlt
   have hjd : j < l.length := by rw [Hn.out]; exact hlt
   obtain ⟨b, off, f, rfl, hb, hx⟩ := (hT.bel lneE hbel).out hjl
   have hj0 := hx j hjl
   rw [show (mkLnes k l)[j] = mkLne (stLne k l j) l[j] by simp [mkLnes, hjd]] at hj0
   have htl := HS.out j hjd
   have hkk := HB.out j (by rw [Hn.out]; exact hj)
   have HNX : Hid (stLne k l (j + 1) = stLne k l j + 1 + 2 * l[j].row.length + 2 * l[j].tags.length) := by
    show stLne k l j + (1 + 2 * (l.getD j ⟨0, [], []⟩).row.length + 2 * (l.getD j ⟨0, [], []⟩).tags.length) = _
    rw [getD_at _ hjd]; omega
   obtain ⟨d, Hd⟩ : ∃ d, Hid (d = l[j]) := ⟨_, (rfl : l[j] = _)⟩
   obtain ⟨kk, HK⟩ : ∃ kk, Hid (stLne k l j = kk) := ⟨_, (rfl : stLne k l j = _)⟩
   rw [HK.out, ← Hd.out] at hj0 HNX
   rw [HK.out] at hkk ⊢
   rw [← Hd.out] at htl
   obtain ⟨_, e0, na, nc, ta, tc, s1, s2, _, _, _, e1, u1, e2, u2⟩ := hj0
   have hlt' : (j : Int) < (n : Int) := by omega
   have hk1 : 0 < kk := by omega
   have hk2 : kk ≤ 1125899900000000 := by omega
   have c0 : wr.cell? ⟨b, off + j * 3, none⟩ = some (.int .i64 (kk : Int)) := e0
   have c1 : wr.cell? ⟨b, off + j * 3 + 1, none⟩ = some (.slice na d.row.length nc) := e1.trans (congrArg (fun z => some (Value.slice na z nc)) (by show (mkPoints (kk + 1) d.row).length = _; rw [mkPoints_len]))
   have c2 : wr.cell? ⟨b, off + j * 3 + 2, none⟩ = some (.slice ta d.tags.length tc) := e2.trans (congrArg (fun z => some (Value.slice ta z tc)) (by show (mkTags (kk + 1 + 2 * d.row.length) d.tags).length = _; rw [mkTags_len]))
   have HKN : Hid ((kk : Int) + 1 = ((kk + 1 : Nat) : Int)) := (by omega : (kk : Int) + 1 = ((kk + 1 : Nat) : Int))
   have t1 : PtL wr na (mkPoints (kk + 1) d.row) s1 := u1
   have t2 : Tags wr ta (mkTags (kk + 1 + 2 * d.row.length) d.tags) s2 := u2
   clear hx hT e0 e1 e2 u1 u2
   go_wp2_with fail
   rw [HKN.out]
   refine (heldPtS_any na _ nc d.row s1 (kk + 1) _ t1 rfl htl.1 (by omega)).mono ?_
   rintro e w3 ⟨rfl, rfl⟩
   obtain ⟨k2, Hk2⟩ : ∃ k2, Hid (kk + 1 + 2 * d.row.length = k2) := ⟨_, (rfl : kk + 1 + 2 * d.row.length = _)⟩
   have hk3 : 0 < k2 ∧ k2 ≤ 1125899904000000 := by rw [← Hk2.out]; omega
   rw [Hk2.out] at t2 ⊢
   have hn1 : ¬ ((k2 : Nat) : Int) < 0 := by omega
   clear t1
   go_wp2_with fail
   refine (heldTagS_any ta _ tc d.tags s2 k2 _ t2 rfl htl.2 (by omega) (by omega)).mono ?_
   rintro e w4 ⟨rfl, hb4⟩
   have HNY : Hid (stLne k l (j + 1) = k2 + 2 * d.tags.length) := HNX.out.trans (congrArg (fun z => z + 2 * d.tags.length) Hk2.out)
   have hnn : ¬ ((k2 + 2 * d.tags.length : Nat) : Int) < 0 := by omega
   have hB4 := bel_step hbel hb4
   clear c0 c1 c2 t2 hb
   go_wp2
   go_roundw
   case rel => exact ⟨j + 1, by omega, by go_num, by rw [HNY.out]; go_num, hB4⟩
   case measure => simp [intOf]; omega
  ·have e : n = j := by omega
   subst e
   clear hT
   go_wp2
   go_ret
   exact ⟨rfl, hbel⟩


end Go.Proofs.YtldfcnlhjjiihaaGreat
