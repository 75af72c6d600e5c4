/-
  Nodes, ways, areas and maps, marked: contracts.
  A map, marked: the contract.
  A list of numbers, its marks held: the contract.
  Tags, Parts, nodes, ways, areas and maps, their marks held: contracts.
-/
import Derived.Test.YtldfcnlhjjiihaaGreatKL
import Derived.Test.YtldfcnlhjjiihaaGreatChartF
import Derived.Test.YtldfcnlhjjiihaaGreatCC
import Derived.Deep.RegionHeld3
namespace Go.Proofs.YtldfcnlhjjiihaaGreat
open Go.RowKit Go.Maps

theorem nd_apart {f : Nat → List Nat} : ∀ n, ((List.range n).flatMap f).Nodup → ∀ i j, i < j → j < n → ∀ x ∈ f i, x ∉ f j
 | 0, _, _, j, _, hj => absurd hj (Nat.not_lt_zero _)
 | n + 1, h, i, j, hij, hj => by
  rw [List.range_succ, List.flatMap_append] at h
  obtain ⟨h1, _, h3⟩ := List.nodup_append.1 h
  by_cases e : j = n
  ·subst e
   intro x hx hx'
   exact h3 x (List.mem_flatMap.2 ⟨i, List.mem_range.2 hij, hx⟩) x (by simpa using hx') rfl
  ·exact nd_apart n h1 i j hij (by omega)
theorem nd_ne {f : Nat → List Nat} {n : Nat} (h : ((List.range n).flatMap f).Nodup) {i j : Nat} (hi : i < n) (hj : j < n) (hne : i ≠ j) : ∀ x ∈ f i, x ∉ f j := by
 rcases Nat.lt_or_gt_of_ne hne with h1 | h1
 ·exact nd_apart n h i j h1 hj
 ·exact fun x hx hx' => nd_apart n h j i h1 hi x hx' hx
theorem nd_one {f : Nat → List Nat} {n : Nat} (h : ((List.range n).flatMap f).Nodup) {i : Nat} (hi : i < n) : (f i).Nodup := by
 induction n with
 | zero => exact absurd hi (Nat.not_lt_zero _)
 | succ n ih =>
  rw [List.range_succ, List.flatMap_append] at h
  obtain ⟨h1, h2, _⟩ := List.nodup_append.1 h
  by_cases e : i = n
  ·subst e; simpa using h2
  ·exact ih h1 (by omega)
theorem Alike.trans {w w1 w2 : World} {bs : List Nat} (h : Alike w w1 bs) (k : Alike w1 w2 bs) : Alike w w2 bs := fun b hb =>
 ⟨(k b hb).1, fun o => by rw [(k b hb).2.1, (h b hb).2.1], fun o => by rw [(k b hb).2.2, (h b hb).2.2]⟩
theorem Onl.cell {bs : List Nat} {w w' : World} (h : Onl bs w w') {b o : Nat} (hb : b < w.heap.size) (hn : b ∉ bs) : w'.cell? ⟨b, o, none⟩ = w.cell? ⟨b, o, none⟩ := World.cell?_of_block (a := ⟨b, o, none⟩) (h.block b hb hn)
theorem Onl.frozen {bs : List Nat} {w w' : World} (h : Onl bs w w') {b o : Nat} (hb : b < w.heap.size) (hn : b ∉ bs) : w'.frozen? ⟨b, o, none⟩ = w.frozen? ⟨b, o, none⟩ := World.frozen?_of_block (a := ⟨b, o, none⟩) (h.block b hb hn)

def mkNode (k : Nat) (d : NodeD) : NodeD := ⟨(k : Int), ((k + 1 : Nat) : Int), ((k + 2 : Nat) : Int), mkTags (k + 3) d.tags⟩
def mkWay (k : Nat) (d : WayD) : WayD := ⟨(k : Int), mkInts (k + 1) d.nodes, mkTags (k + 1 + d.nodes.length) d.tags⟩
def mkArea (k : Nat) (d : AreaD) : AreaD := ⟨(k : Int), mkParts (k + 1) d.parts, mkTags (k + 1 + 2 * d.parts.length) d.tags⟩

/-- With which number the marks of element i begin. -/
def stNode (k : Nat) (l : List NodeD) : Nat → Nat
 | 0 => k
 | i + 1 => stNode k l i + (fun d : NodeD => 3 + 2 * d.tags.length) (l.getD i ⟨0, 0, 0, []⟩)
def mkNodes (k : Nat) (l : List NodeD) : List NodeD := (List.range l.length).map fun i => mkNode (stNode k l i) (l.getD i ⟨0, 0, 0, []⟩)
theorem mkNodes_len (k : Nat) (l : List NodeD) : (mkNodes k l).length = l.length := by simp [mkNodes]
theorem stNode_bd {k : Nat} {l : List NodeD} (hs : ∀ i (h : i < l.length), l[i].tags.length ≤ 1048576) : ∀ j, j ≤ l.length → k ≤ stNode k l j ∧ stNode k l j ≤ k + j * 2097155
 | 0, _ => by simp [stNode]
 | j + 1, hj => by
  have h1 := stNode_bd (k := k) hs j (by omega)
  have h2 := hs j (by omega)
  simp only [stNode, getD_at ⟨0, 0, 0, []⟩ (show j < l.length by omega)]
  omega

set_option maxRecDepth 100000 in
set_option maxHeartbeats 2000000 in
theorem markNodeS_any (a : Option Addr) (n c : Nat) (l : List NodeD) (bs : List Nat) (k : Nat) (w : World) (hT : Nodes w a l bs) (hf : ∀ x ∈ bs, ∀ j, w.frozen? ⟨x, j, none⟩ = false) (hd : bs.Nodup) (hn : l.length = n) (hm : n ≤ 1048576) (hs : ∀ i (h : i < l.length), l[i].tags.length ≤ 1048576) (h0k : 0 < k) (hk : k ≤ 70368744177664) :
  Calls Tryz.prog 34 #[.slice a n c, .int .i64 k] w fun e w' => e = .returned (.int .i64 (stNode k l n : Nat)) ∧ Nodes w' a (mkNodes k l) bs ∧ (∀ x ∈ bs, ∀ j, w'.frozen? ⟨x, j, none⟩ = false) ∧ Onl bs w w' := by
 by_cases h0 : n = 0
 ·subst h0
  obtain rfl : l = [] := List.length_eq_zero_iff.1 hn
  have HT : Hid (Nodes w a (mkNodes k []) bs) := hT
  clear hT
  go_enter Tryz.func34, Tryz.ntmps34
  go_wp2
  go_loopw [1, 5] (fun t i wr => t = .int .i64 k ∧ i = .int .i64 0 ∧ wr = w) (fun _ _ _ => 0)
  case atStart => exact ⟨rfl, rfl, rfl⟩
  case round =>
   obtain ⟨rfl, rfl, rfl⟩ := hrel
   go_wp2
   go_ret
   exact ⟨rfl, HT.out, hf, Onl.refl _ _⟩
 ·rcases hT with ⟨rfl, _⟩ | ⟨b, off, f, rfl, hb, rfl, hx⟩
  ·exact absurd hn.symm h0
  ·have hfam : Fam 4 NodeE w b off n (fun i => l.getD i ⟨0, 0, 0, []⟩) f := fun i hi => by
    show NodeE w b (off + i * 4) (l.getD i ⟨0, 0, 0, []⟩) (f i)
    rw [getD_at ⟨0, 0, 0, []⟩ (show i < l.length by omega)]
    exact hx i (by omega)
   rw [hn] at hd hf ⊢
   obtain ⟨hdb, hdf⟩ := List.nodup_cons.1 hd
   have Hn : Hid (l.length = n) := hn
   have HS : Hid (∀ i (h : i < l.length), l[i].tags.length ≤ 1048576) := hs
   have HB : Hid (∀ j, j ≤ l.length → k ≤ stNode k l j ∧ stNode k l j ≤ k + j * 2097155) := stNode_bd hs
   have HDF : Hid ((List.range n).flatMap f).Nodup := hdf
   have HDB : Hid (∀ i, i < n → b ∉ f i) := fun i hi h => hdb (List.mem_flatMap.2 ⟨i, List.mem_range.2 hi, h⟩)
   clear hn hx hd hdb hdf hs
   go_enter Tryz.func34, Tryz.ntmps34
   go_wp2
   go_loopw [1, 5] (fun t i wr => ∃ j : Nat, j ≤ n ∧ i = .int .i64 j ∧ t = .int .i64 (stNode k l j : Nat) ∧ Fam 4 NodeE wr b off n (upto j (fun i => mkNode (stNode k l i) (l.getD i ⟨0, 0, 0, []⟩)) (fun i => l.getD i ⟨0, 0, 0, []⟩)) f ∧ Hid (∀ x ∈ b :: (List.range n).flatMap f, ∀ o, wr.frozen? ⟨x, o, none⟩ = false) ∧ Onl (b :: (List.range n).flatMap f) w wr) (fun _ i _ => n - (intOf i).toNat)
   case atStart => exact ⟨0, Nat.zero_le _, rfl, rfl, by rw [upto_zero]; exact hfam, hf, Onl.refl _ _⟩
   case round =>
    obtain ⟨j, hj, rfl, rfl, hF, HFR, hO⟩ := hrel
    have hbr := Nat.lt_of_lt_of_le hb hO.size
    by_cases hlt : j < n
    ·have hjl : j < l.length := by rw [Hn.out]; exact hlt
     have hj0 := hF j hlt
     have eD : upto j (fun i => mkNode (stNode k l i) (l.getD i ⟨0, 0, 0, []⟩)) (fun i => l.getD i ⟨0, 0, 0, []⟩) j = l.getD j ⟨0, 0, 0, []⟩ := by simp [upto]
     rw [eD] at hj0
     obtain ⟨dd, Hdd⟩ : ∃ dd, Hid (dd = l.getD j ⟨0, 0, 0, []⟩) := ⟨_, (rfl : l.getD j ⟨0, 0, 0, []⟩ = _)⟩
     rw [← Hdd.out] at hj0
     obtain ⟨_, _, _, c0, c1, c2, ta, tc, ml2, c3, t2⟩ := hj0
     have htl : dd.tags.length ≤ 1048576 := by rw [Hdd.out, getD_at _ hjl]; exact HS.out j hjl
     obtain ⟨kk, HK⟩ : ∃ kk, Hid (stNode k l j = kk) := ⟨_, (rfl : stNode k l j = _)⟩
     have hkk := HB.out j (by rw [Hn.out]; exact hj)
     rw [HK.out] at hkk ⊢
     have HNX : Hid (stNode k l (j + 1) = kk + 3 + 2 * dd.tags.length) := by
      show stNode k l j + (3 + 2 * (l.getD j ⟨0, 0, 0, []⟩).tags.length) = _
      rw [HK.out, Hdd.out]; omega
     have f0 := HFR.out b (by simp) (off + j * 4)
     have f1 := HFR.out b (by simp) (off + j * 4 + 1)
     have f2 := HFR.out b (by simp) (off + j * 4 + 2)
     have hlt' : (j : Int) < (n : Int) := by omega
     have hk1 : 0 < kk := by omega
     have hk2 : kk ≤ 1125899900000000 := by omega
     obtain ⟨S3, HS3⟩ : ∃ S3, Hid (S3 = setRow wr b (off + j * 4) [.int .i64 (kk : Int), .int .i64 ((kk : Int) + 1), .int .i64 ((kk : Int) + 1 + 1)]) := ⟨_, (rfl : setRow wr b (off + j * 4) [.int .i64 (kk : Int), .int .i64 ((kk : Int) + 1), .int .i64 ((kk : Int) + 1 + 1)] = _)⟩
     have hdr : S3.cell? ⟨b, off + j * 4 + 3, none⟩ = some (.slice ta dd.tags.length tc) := by rw [HS3.out, setRow_out _ _ _ _ _ (by simp)]; exact c3
     have hSz : S3.heap.size = wr.heap.size := by rw [HS3.out, setRow_size]
     have hSf : ∀ x o, S3.frozen? ⟨x, o, none⟩ = wr.frozen? ⟨x, o, none⟩ := fun x o => by rw [HS3.out, setRow_frozen]
     have hSo : ∀ o, o < off + j * 4 ∨ off + j * 4 + 4 ≤ o → S3.cell? ⟨b, o, none⟩ = wr.cell? ⟨b, o, none⟩ := fun o ho => by rw [HS3.out, setRow_out _ _ _ _ _ (by simp; omega)]
     have hin := setRow_in b [.int .i64 (kk : Int), .int .i64 ((kk : Int) + 1), .int .i64 ((kk : Int) + 1 + 1)] wr (off + j * 4) (fun i hi => by
      match i, hi with
      | 0, _ => exact ⟨_, c0⟩
      | 1, _ => exact ⟨_, c1⟩
      | 2, _ => exact ⟨_, c2⟩)
     have i0 : S3.cell? ⟨b, off + j * 4, none⟩ = some (.int .i64 (kk : Int)) := by rw [HS3.out]; exact hin 0 (by simp)
     have i1 : S3.cell? ⟨b, off + j * 4 + 1, none⟩ = some (.int .i64 ((kk : Int) + 1)) := by rw [HS3.out]; exact hin 1 (by simp)
     have i2 : S3.cell? ⟨b, off + j * 4 + 2, none⟩ = some (.int .i64 ((kk : Int) + 1 + 1)) := by rw [HS3.out]; exact hin 2 (by simp)
     have hSO : Onl (b :: (List.range n).flatMap f) wr S3 := by rw [HS3.out]; exact ((((Onl.refl _ _).set (b := b) (by simp) _ _).set (b := b) (by simp) _ _).set (b := b) (by simp) _ _)
     have hSa : ∀ cs : List Nat, (∀ x ∈ cs, x < wr.heap.size) → b ∉ cs → Alike wr S3 cs := fun cs h1 h2 => by rw [HS3.out]; exact setRow_alike _ h1 h2
     have T3 := t2.alike tagE (hSa _ (t2.lt tagE) (HDB.out j hlt))
     have F3 : ∀ x ∈ f j, ∀ o, S3.frozen? ⟨x, o, none⟩ = false := fun x hx o => by rw [hSf]; exact HFR.out x (List.mem_cons_of_mem _ (List.mem_flatMap.2 ⟨j, List.mem_range.2 hlt, hx⟩)) o
     have HKN : Hid ((kk : Int) + 1 + 1 + 1 = ((kk + 3 : Nat) : Int)) := (by omega : (kk : Int) + 1 + 1 + 1 = ((kk + 3 : Nat) : Int))
     have HEQ : Hid (S3 = ((wr.setCell ⟨b, off + j * 4, none⟩ (.int .i64 (kk : Int))).setCell ⟨b, off + j * 4 + 1, none⟩ (.int .i64 ((kk : Int) + 1))).setCell ⟨b, off + j * 4 + 2, none⟩ (.int .i64 ((kk : Int) + 1 + 1))) := HS3.out
     have hload : (((wr.setCell ⟨b, off + j * 4, none⟩ (.int .i64 (kk : Int))).setCell ⟨b, off + j * 4 + 1, none⟩ (.int .i64 ((kk : Int) + 1))).setCell ⟨b, off + j * 4 + 2, none⟩ (.int .i64 ((kk : Int) + 1 + 1))).cell? ⟨b, off + j * 4 + 3, none⟩ = some (.slice ta dd.tags.length tc) := by rw [← HEQ.out]; exact hdr
     have hFl : ∀ i, i < n → ∀ x ∈ f i, x < wr.heap.size := fun i hi => nodeE.lt (hF i hi)
     have HFam : Hid _ := hF
     clear hF t2 HS3
     go_wp2_with fail
     rw [HKN.out, ← HEQ.out]
     refine (markTagS_any ta _ tc dd.tags (f j) (kk + 3) _ T3 F3 rfl htl (by omega) (by omega)).mono ?_
     rintro e w4 ⟨rfl, T4, F4, O4⟩
     have hbS : b < S3.heap.size := by rw [hSz]; exact hbr
     have hc4 : ∀ o, w4.cell? ⟨b, o, none⟩ = S3.cell? ⟨b, o, none⟩ := fun o => O4.cell hbS (HDB.out j hlt)
     have HF4 : Hid (Fam 4 NodeE w4 b off n (upto (j + 1) (fun i => mkNode (stNode k l i) (l.getD i ⟨0, 0, 0, []⟩)) (fun i => l.getD i ⟨0, 0, 0, []⟩)) f) := by
      have := Fam.step nodeE HFam.out (w' := w4) (j := j) (mkNode kk dd) (fun o ho => by rw [hc4]; exact hSo o ho)
       (fun i hi hne => (hSa _ (hFl i hi) (HDB.out i hi)).trans (O4.alike (fun x hx => by rw [hSz]; exact hFl i hi x hx) (nd_ne HDF.out hi hlt hne)))
       ⟨⟨by show _ ≤ (kk : Int); omega, by show (kk : Int) ≤ _; omega⟩, ⟨by show _ ≤ ((kk + 1 : Nat) : Int); omega, by show ((kk + 1 : Nat) : Int) ≤ _; omega⟩, ⟨by show _ ≤ ((kk + 2 : Nat) : Int); omega, by show ((kk + 2 : Nat) : Int) ≤ _; omega⟩,
        by rw [hc4]; exact i0, by rw [hc4]; exact i1, by rw [hc4]; exact i2.trans (congrArg (fun z => some (Value.int .i64 z)) (by omega : (kk : Int) + 1 + 1 = ((kk + 2 : Nat) : Int))), ta, tc, by show (mkTags (kk + 3) dd.tags).length ≤ _; rw [mkTags_len]; exact ml2, by
         show _ = some (Value.slice ta (mkTags (kk + 3) dd.tags).length tc)
         rw [hc4, mkTags_len]
         exact hdr, T4⟩
      rw [show mkNode kk dd = (fun i => mkNode (stNode k l i) (l.getD i ⟨0, 0, 0, []⟩)) j by rw [Hdd.out, ← HK.out], upto_step j (fun i => mkNode (stNode k l i) (l.getD i ⟨0, 0, 0, []⟩)) (fun i => l.getD i ⟨0, 0, 0, []⟩)] at this
      exact this
     have hO4 : Onl (b :: (List.range n).flatMap f) w w4 := (hO.trans hSO).trans (O4.mono (fun x hx => List.mem_cons_of_mem _ (List.mem_flatMap.2 ⟨j, List.mem_range.2 hlt, hx⟩)))
     have HR4 : Hid (∀ x ∈ b :: (List.range n).flatMap f, ∀ o, w4.frozen? ⟨x, o, none⟩ = false) := fun x hx o => by
      by_cases hxj : x ∈ f j
      ·exact F4 x hxj o
      ·have hxs : x < S3.heap.size := by
        rw [hSz]
        rcases List.mem_cons.1 hx with rfl | hx
        ·exact hbr
        ·obtain ⟨i, hi, hx⟩ := List.mem_flatMap.1 hx
         exact hFl i (List.mem_range.1 hi) x hx
       rw [O4.frozen hxs hxj, hSf]
       exact HFR.out x hx o
     clear hO hSO O4 F4 T4 T3 F3 hc4 hSa hSo hSf hin i0 i1 i2 hdr hload HFam hFl f0 f1 f2 c0 c1 c2 c3
     go_wp2
     go_roundw
     case rel => exact ⟨j + 1, by omega, by go_num, by rw [HNX.out]; go_num, HF4.out, HR4, hO4⟩
     case measure => simp [intOf]; omega
    ·have e : n = j := by omega
     subst e
     have HT : Hid (Nodes wr (some ⟨b, off, none⟩) (mkNodes k l) (b :: (List.range n).flatMap f)) :=
      Sl.fam hF (Nat.lt_of_lt_of_le hb hO.size) (by rw [mkNodes_len]; exact Hn.out) (fun i hi => by
       rw [mkNodes_len, Hn.out] at hi
       simp [upto, mkNodes, hi])
     clear hF
     go_wp2
     go_ret
     exact ⟨rfl, HT.out, HFR.out, hO⟩

/-- With which number the marks of element i begin. -/
def stWay (k : Nat) (l : List WayD) : Nat → Nat
 | 0 => k
 | i + 1 => stWay k l i + (1 + (l.getD i ⟨0, [], []⟩).nodes.length + 2 * (l.getD i ⟨0, [], []⟩).tags.length)
def mkWays (k : Nat) (l : List WayD) : List WayD := (List.range l.length).map fun i => mkWay (stWay k l i) (l.getD i ⟨0, [], []⟩)
theorem mkWays_len (k : Nat) (l : List WayD) : (mkWays k l).length = l.length := by simp [mkWays]
theorem stWay_bd {k : Nat} {l : List WayD} (hs : ∀ i (h : i < l.length), l[i].nodes.length ≤ 1048576 ∧ l[i].tags.length ≤ 1048576) : ∀ j, j ≤ l.length → k ≤ stWay k l j ∧ stWay k l j ≤ k + j * 4194305
 | 0, _ => by simp [stWay]
 | j + 1, hj => by
  have h1 := stWay_bd (k := k) hs j (by omega)
  have h2 := hs j (by omega)
  simp only [stWay, getD_at ⟨0, [], []⟩ (show j < l.length by omega)]
  omega

set_option maxRecDepth 100000 in
set_option maxHeartbeats 2000000 in
theorem markWayS_any (a : Option Addr) (n c : Nat) (l : List WayD) (bs : List Nat) (k : Nat) (w : World) (hT : Ways w a l bs) (hf : ∀ x ∈ bs, ∀ j, w.frozen? ⟨x, j, none⟩ = false) (hd : bs.Nodup) (hn : l.length = n) (hm : n ≤ 1048576) (hs : ∀ i (h : i < l.length), l[i].nodes.length ≤ 1048576 ∧ l[i].tags.length ≤ 1048576) (h0k : 0 < k) (hk : k ≤ 70368744177664) :
  Calls Tryz.prog 35 #[.slice a n c, .int .i64 k] w fun e w' => e = .returned (.int .i64 (stWay k l n : Nat)) ∧ Ways w' a (mkWays k l) bs ∧ (∀ x ∈ bs, ∀ j, w'.frozen? ⟨x, j, none⟩ = false) ∧ Onl bs w w' := by
 by_cases h0 : n = 0
 ·subst h0
  obtain rfl : l = [] := List.length_eq_zero_iff.1 hn
  have HT : Hid (Ways w a (mkWays k []) bs) := hT
  clear hT
  go_enter Tryz.func35, Tryz.ntmps35
  go_wp2
  go_loopw [1, 5] (fun t i wr => t = .int .i64 k ∧ i = .int .i64 0 ∧ wr = w) (fun _ _ _ => 0)
  case atStart => exact ⟨rfl, rfl, rfl⟩
  case round =>
   obtain ⟨rfl, rfl, rfl⟩ := hrel
   go_wp2
   go_ret
   exact ⟨rfl, HT.out, hf, Onl.refl _ _⟩
 ·rcases hT with ⟨rfl, _⟩ | ⟨b, off, f, rfl, hb, rfl, hx⟩
  ·exact absurd hn.symm h0
  ·have hfam : Fam 3 WayE w b off n (fun i => l.getD i ⟨0, [], []⟩) f := fun i hi => by
    show WayE w b (off + i * 3) (l.getD i ⟨0, [], []⟩) (f i)
    rw [getD_at ⟨0, [], []⟩ (show i < l.length by omega)]
    exact hx i (by omega)
   rw [hn] at hd hf ⊢
   obtain ⟨hdb, hdf⟩ := List.nodup_cons.1 hd
   have Hn : Hid (l.length = n) := hn
   have HS : Hid (∀ i (h : i < l.length), l[i].nodes.length ≤ 1048576 ∧ l[i].tags.length ≤ 1048576) := hs
   have HB : Hid (∀ j, j ≤ l.length → k ≤ stWay k l j ∧ stWay k l j ≤ k + j * 4194305) := stWay_bd hs
   have HDF : Hid ((List.range n).flatMap f).Nodup := hdf
   have HDB : Hid (∀ i, i < n → b ∉ f i) := fun i hi h => hdb (List.mem_flatMap.2 ⟨i, List.mem_range.2 hi, h⟩)
   clear hn hx hd hdb hdf hs
   go_enter Tryz.func35, Tryz.ntmps35
   go_wp2
   go_loopw [1, 5] (fun t i wr => ∃ j : Nat, j ≤ n ∧ i = .int .i64 j ∧ t = .int .i64 (stWay k l j : Nat) ∧ Fam 3 WayE wr b off n (upto j (fun i => mkWay (stWay k l i) (l.getD i ⟨0, [], []⟩)) (fun i => l.getD i ⟨0, [], []⟩)) f ∧ Hid (∀ x ∈ b :: (List.range n).flatMap f, ∀ o, wr.frozen? ⟨x, o, none⟩ = false) ∧ Onl (b :: (List.range n).flatMap f) w wr) (fun _ i _ => n - (intOf i).toNat)
   case atStart => exact ⟨0, Nat.zero_le _, rfl, rfl, by rw [upto_zero]; exact hfam, hf, Onl.refl _ _⟩
   case round =>
    obtain ⟨j, hj, rfl, rfl, hF, HFR, hO⟩ := hrel
    have hbr := Nat.lt_of_lt_of_le hb hO.size
    by_cases hlt : j < n
    ·have hjl : j < l.length := by rw [Hn.out]; exact hlt
     have hj0 := hF j hlt
     have eD : upto j (fun i => mkWay (stWay k l i) (l.getD i ⟨0, [], []⟩)) (fun i => l.getD i ⟨0, [], []⟩) j = l.getD j ⟨0, [], []⟩ := by simp [upto]
     rw [eD] at hj0
     obtain ⟨dd, Hdd⟩ : ∃ dd, Hid (dd = l.getD j ⟨0, [], []⟩) := ⟨_, (rfl : l.getD j ⟨0, [], []⟩ = _)⟩
     rw [← Hdd.out] at hj0
     obtain ⟨_, c0, pa, pc, ta, tc, g1, g2, hg, ml1, ml2, c1, t1, c2, t2⟩ := hj0
     have htl : dd.nodes.length ≤ 1048576 ∧ dd.tags.length ≤ 1048576 := by rw [Hdd.out, getD_at _ hjl]; exact HS.out j hjl
     obtain ⟨htl1, htl2⟩ := htl
     have hbj := HDB.out j hlt
     have hnj := nd_one HDF.out hlt
     rw [hg] at hbj hnj
     obtain ⟨_, _, hdis⟩ := List.nodup_append.1 hnj
     have hb1 : b ∉ g1 := fun h => hbj (List.mem_append.2 (.inl h))
     have hb2 : b ∉ g2 := fun h => hbj (List.mem_append.2 (.inr h))
     have hd12 : ∀ x ∈ g1, x ∉ g2 := fun x hx hx' => hdis x hx x hx' rfl
     have hsub : ∀ x ∈ g1 ++ g2, x ∈ b :: (List.range n).flatMap f := fun x hx => List.mem_cons_of_mem _ (List.mem_flatMap.2 ⟨j, List.mem_range.2 hlt, by rw [hg]; exact hx⟩)
     obtain ⟨kk, HK⟩ : ∃ kk, Hid (stWay k l j = kk) := ⟨_, (rfl : stWay k l j = _)⟩
     have hkk := HB.out j (by rw [Hn.out]; exact hj)
     rw [HK.out] at hkk ⊢
     have HNX : Hid (stWay k l (j + 1) = kk + 1 + dd.nodes.length + 2 * dd.tags.length) := by
      show stWay k l j + (1 + (l.getD j ⟨0, [], []⟩).nodes.length + 2 * (l.getD j ⟨0, [], []⟩).tags.length) = _
      rw [HK.out, Hdd.out]; omega
     have f0 := HFR.out b (by simp) (off + j * 3)
     have hlt' : (j : Int) < (n : Int) := by omega
     have hk1 : 0 < kk := by omega
     have hk2 : kk ≤ 1125899900000000 := by omega
     obtain ⟨S3, HS3⟩ : ∃ S3, Hid (S3 = wr.setCell ⟨b, off + j * 3, none⟩ (.int .i64 (kk : Int))) := ⟨_, (rfl : wr.setCell ⟨b, off + j * 3, none⟩ (.int .i64 (kk : Int)) = _)⟩
     have hSz : S3.heap.size = wr.heap.size := by rw [HS3.out]; simp [World.setCell]
     have hSf : ∀ x o, S3.frozen? ⟨x, o, none⟩ = wr.frozen? ⟨x, o, none⟩ := fun x o => by rw [HS3.out, World.frozen?_setCell]
     have hSo : ∀ o, o ≠ off + j * 3 → S3.cell? ⟨b, o, none⟩ = wr.cell? ⟨b, o, none⟩ := fun o ho => by rw [HS3.out]; exact World.cell?_setCell_other _ _ _ _ (fun e => ho (congrArg Addr.off e).symm)
     have i0 : S3.cell? ⟨b, off + j * 3, none⟩ = some (.int .i64 (kk : Int)) := by rw [HS3.out]; exact World.cell?_setCell_same _ _ _ c0
     have i1 : S3.cell? ⟨b, off + j * 3 + 1, none⟩ = some (.slice pa dd.nodes.length pc) := by rw [hSo _ (by omega)]; exact c1
     have i2 : S3.cell? ⟨b, off + j * 3 + 2, none⟩ = some (.slice ta dd.tags.length tc) := by rw [hSo _ (by omega)]; exact c2
     have hSO : Onl (b :: (List.range n).flatMap f) wr S3 := by rw [HS3.out]; exact (Onl.refl _ _).set (b := b) (by simp) _ _
     have hSa : ∀ cs : List Nat, (∀ x ∈ cs, x < wr.heap.size) → b ∉ cs → Alike wr S3 cs := fun cs h1 h2 => by rw [HS3.out]; exact setRow_alike [.int .i64 (kk : Int)] (o := off + j * 3) h1 h2
     have T31 := t1.alike intE (hSa _ (t1.lt intE) hb1)
     have T32 := t2.alike tagE (hSa _ (t2.lt tagE) hb2)
     have F31 : ∀ x ∈ g1, ∀ o, S3.frozen? ⟨x, o, none⟩ = false := fun x hx o => by rw [hSf]; exact HFR.out x (hsub x (List.mem_append.2 (.inl hx))) o
     have F32 : ∀ x ∈ g2, ∀ o, S3.frozen? ⟨x, o, none⟩ = false := fun x hx o => by rw [hSf]; exact HFR.out x (hsub x (List.mem_append.2 (.inr hx))) o
     have HKN : Hid ((kk : Int) + 1 = ((kk + 1 : Nat) : Int)) := (by omega : (kk : Int) + 1 = ((kk + 1 : Nat) : Int))
     have hload : (wr.setCell ⟨b, off + j * 3, none⟩ (.int .i64 (kk : Int))).cell? ⟨b, off + j * 3 + 1, none⟩ = some (.slice pa dd.nodes.length pc) := by rw [← HS3.out]; exact i1
     have hFl : ∀ i, i < n → ∀ x ∈ f i, x < wr.heap.size := fun i hi => wayE.lt (hF i hi)
     have HFam : Hid (Fam 3 WayE wr b off n (upto j (fun i => mkWay (stWay k l i) (l.getD i ⟨0, [], []⟩)) (fun i => l.getD i ⟨0, [], []⟩)) f) := hF
     clear hF t1 t2
     go_wp2_with fail
     rw [HKN.out, ← HS3.out]
     refine (markInt64S_any pa _ pc dd.nodes g1 (kk + 1) _ T31 F31 rfl htl1 (by omega)).mono ?_
     rintro e w4 ⟨rfl, T4, F4, O4⟩
     have hbS : b < S3.heap.size := by rw [hSz]; exact hbr
     have hc4 : ∀ o, w4.cell? ⟨b, o, none⟩ = S3.cell? ⟨b, o, none⟩ := fun o => O4.cell hbS hb1
     have j2 : w4.cell? ⟨b, off + j * 3 + 2, none⟩ = some (.slice ta dd.tags.length tc) := by rw [hc4]; exact i2
     have hl2 : ∀ x ∈ g2, x < S3.heap.size := T32.lt tagE
     have hd21 : ∀ x ∈ g2, x ∉ g1 := fun x hx hx' => hd12 x hx' hx
     have T42 := T32.alike tagE (O4.alike hl2 hd21)
     have F42 : ∀ x ∈ g2, ∀ o, w4.frozen? ⟨x, o, none⟩ = false := fun x hx o => by rw [O4.frozen (hl2 x hx) (hd21 x hx)]; exact F32 x hx o
     clear hload
     go_wp2_with fail
     refine (markTagS_any ta _ tc dd.tags g2 (kk + 1 + dd.nodes.length) _ T42 F42 rfl htl2 (by omega) (by omega)).mono ?_
     rintro e w5 ⟨rfl, T5, F5, O5⟩
     have hb4 : b < w4.heap.size := Nat.lt_of_lt_of_le hbS O4.size
     have hc5 : ∀ o, w5.cell? ⟨b, o, none⟩ = S3.cell? ⟨b, o, none⟩ := fun o => by rw [O5.cell hb4 hb2, hc4]
     have hl1 : ∀ x ∈ g1, x < w4.heap.size := T4.lt intE
     have T51 := T4.alike intE (O5.alike hl1 hd12)
     have hne : ∀ i, i < n → i ≠ j → ∀ x ∈ f i, x ∉ g1 ∧ x ∉ g2 := fun i hi hne x hx => by
      have := nd_ne HDF.out hi hlt hne x hx
      rw [hg] at this
      exact ⟨fun h => this (List.mem_append.2 (.inl h)), fun h => this (List.mem_append.2 (.inr h))⟩
     have HF5 : Hid (Fam 3 WayE w5 b off n (upto (j + 1) (fun i => mkWay (stWay k l i) (l.getD i ⟨0, [], []⟩)) (fun i => l.getD i ⟨0, [], []⟩)) f) := by
      have := Fam.step wayE HFam.out (w' := w5) (j := j) (mkWay kk dd) (fun o ho => by rw [hc5]; exact hSo o (by omega))
       (fun i hi hij => ((hSa _ (hFl i hi) (HDB.out i hi)).trans (O4.alike (fun x hx => by rw [hSz]; exact hFl i hi x hx) (fun x hx => (hne i hi hij x hx).1))).trans
        (O5.alike (fun x hx => Nat.lt_of_lt_of_le (by rw [hSz]; exact hFl i hi x hx) O4.size) (fun x hx => (hne i hi hij x hx).2)))
       ⟨⟨by show _ ≤ (kk : Int); omega, by show (kk : Int) ≤ _; omega⟩, by rw [hc5]; exact i0, pa, pc, ta, tc, g1, g2, hg, by show (mkInts (kk + 1) dd.nodes).length ≤ _; rw [mkInts_len]; exact ml1, by show (mkTags (kk + 1 + dd.nodes.length) dd.tags).length ≤ _; rw [mkTags_len]; exact ml2,
        by show _ = some (Value.slice pa (mkInts (kk + 1) dd.nodes).length pc); rw [hc5, mkInts_len]; exact i1, T51,
        by show _ = some (Value.slice ta (mkTags (kk + 1 + dd.nodes.length) dd.tags).length tc); rw [hc5, mkTags_len]; exact i2, T5⟩
      rw [show mkWay kk dd = (fun i => mkWay (stWay k l i) (l.getD i ⟨0, [], []⟩)) j by rw [Hdd.out, ← HK.out], upto_step j (fun i => mkWay (stWay k l i) (l.getD i ⟨0, [], []⟩)) (fun i => l.getD i ⟨0, [], []⟩)] at this
      exact this
     have hO5 : Onl (b :: (List.range n).flatMap f) w w5 := ((hO.trans hSO).trans (O4.mono (fun x hx => hsub x (List.mem_append.2 (.inl hx))))).trans (O5.mono (fun x hx => hsub x (List.mem_append.2 (.inr hx))))
     have HR5 : Hid (∀ x ∈ b :: (List.range n).flatMap f, ∀ o, w5.frozen? ⟨x, o, none⟩ = false) := fun x hx o => by
      have hxs : x < S3.heap.size := by
       rw [hSz]
       rcases List.mem_cons.1 hx with rfl | hx
       ·exact hbr
       ·obtain ⟨i, hi, hx⟩ := List.mem_flatMap.1 hx
        exact hFl i (List.mem_range.1 hi) x hx
      by_cases h2 : x ∈ g2
      ·exact F5 x h2 o
      ·rw [O5.frozen (Nat.lt_of_lt_of_le hxs O4.size) h2]
       by_cases h1 : x ∈ g1
       ·exact F4 x h1 o
       ·rw [O4.frozen hxs h1, hSf]
        exact HFR.out x hx o
     clear hO hSO O4 O5 F4 F5 T4 T5 T31 T32 T42 T51 F31 F32 F42 hc4 hc5 hSa hSo hSf i0 i1 i2 j2 HFam hFl f0 c0 c1 c2
     go_wp2
     go_roundw
     case rel => exact ⟨j + 1, by omega, by go_num, by rw [HNX.out]; go_num, HF5.out, HR5, hO5⟩
     case measure => simp [intOf]; omega
    ·have e : n = j := by omega
     subst e
     have HT : Hid (Ways wr (some ⟨b, off, none⟩) (mkWays k l) (b :: (List.range n).flatMap f)) :=
      Sl.fam hF (Nat.lt_of_lt_of_le hb hO.size) (by rw [mkWays_len]; exact Hn.out) (fun i hi => by
       rw [mkWays_len, Hn.out] at hi
       simp [upto, mkWays, hi])
     clear hF
     go_wp2
     go_ret
     exact ⟨rfl, HT.out, HFR.out, hO⟩

/-- With which number the marks of element i begin. -/
def stArea (k : Nat) (l : List AreaD) : Nat → Nat
 | 0 => k
 | i + 1 => stArea k l i + (1 + 2 * (l.getD i ⟨0, [], []⟩).parts.length + 2 * (l.getD i ⟨0, [], []⟩).tags.length)
def mkAreas (k : Nat) (l : List AreaD) : List AreaD := (List.range l.length).map fun i => mkArea (stArea k l i) (l.getD i ⟨0, [], []⟩)
theorem mkAreas_len (k : Nat) (l : List AreaD) : (mkAreas k l).length = l.length := by simp [mkAreas]
theorem stArea_bd {k : Nat} {l : List AreaD} (hs : ∀ i (h : i < l.length), l[i].parts.length ≤ 1048576 ∧ l[i].tags.length ≤ 1048576) : ∀ j, j ≤ l.length → k ≤ stArea k l j ∧ stArea k l j ≤ k + j * 4194305
 | 0, _ => by simp [stArea]
 | j + 1, hj => by
  have h1 := stArea_bd (k := k) hs j (by omega)
  have h2 := hs j (by omega)
  simp only [stArea, getD_at ⟨0, [], []⟩ (show j < l.length by omega)]
  omega

set_option maxRecDepth 100000 in
set_option maxHeartbeats 2000000 in
theorem markAreaS_any (a : Option Addr) (n c : Nat) (l : List AreaD) (bs : List Nat) (k : Nat) (w : World) (hT : Areas w a l bs) (hf : ∀ x ∈ bs, ∀ j, w.frozen? ⟨x, j, none⟩ = false) (hd : bs.Nodup) (hn : l.length = n) (hm : n ≤ 1048576) (hs : ∀ i (h : i < l.length), l[i].parts.length ≤ 1048576 ∧ l[i].tags.length ≤ 1048576) (h0k : 0 < k) (hk : k ≤ 70368744177664) :
  Calls Tryz.prog 36 #[.slice a n c, .int .i64 k] w fun e w' => e = .returned (.int .i64 (stArea k l n : Nat)) ∧ Areas w' a (mkAreas k l) bs ∧ (∀ x ∈ bs, ∀ j, w'.frozen? ⟨x, j, none⟩ = false) ∧ Onl bs w w' := by
 by_cases h0 : n = 0
 ·subst h0
  obtain rfl : l = [] := List.length_eq_zero_iff.1 hn
  have HT : Hid (Areas w a (mkAreas k []) bs) := hT
  clear hT
  go_enter Tryz.func36, Tryz.ntmps36
  go_wp2
  go_loopw [1, 5] (fun t i wr => t = .int .i64 k ∧ i = .int .i64 0 ∧ wr = w) (fun _ _ _ => 0)
  case atStart => exact ⟨rfl, rfl, rfl⟩
  case round =>
   obtain ⟨rfl, rfl, rfl⟩ := hrel
   go_wp2
   go_ret
   exact ⟨rfl, HT.out, hf, Onl.refl _ _⟩
 ·rcases hT with ⟨rfl, _⟩ | ⟨b, off, f, rfl, hb, rfl, hx⟩
  ·exact absurd hn.symm h0
  ·have hfam : Fam 3 AreaE w b off n (fun i => l.getD i ⟨0, [], []⟩) f := fun i hi => by
    show AreaE w b (off + i * 3) (l.getD i ⟨0, [], []⟩) (f i)
    rw [getD_at ⟨0, [], []⟩ (show i < l.length by omega)]
    exact hx i (by omega)
   rw [hn] at hd hf ⊢
   obtain ⟨hdb, hdf⟩ := List.nodup_cons.1 hd
   have Hn : Hid (l.length = n) := hn
   have HS : Hid (∀ i (h : i < l.length), l[i].parts.length ≤ 1048576 ∧ l[i].tags.length ≤ 1048576) := hs
   have HB : Hid (∀ j, j ≤ l.length → k ≤ stArea k l j ∧ stArea k l j ≤ k + j * 4194305) := stArea_bd hs
   have HDF : Hid ((List.range n).flatMap f).Nodup := hdf
   have HDB : Hid (∀ i, i < n → b ∉ f i) := fun i hi h => hdb (List.mem_flatMap.2 ⟨i, List.mem_range.2 hi, h⟩)
   clear hn hx hd hdb hdf hs
   go_enter Tryz.func36, Tryz.ntmps36
   go_wp2
   go_loopw [1, 5] (fun t i wr => ∃ j : Nat, j ≤ n ∧ i = .int .i64 j ∧ t = .int .i64 (stArea k l j : Nat) ∧ Fam 3 AreaE wr b off n (upto j (fun i => mkArea (stArea k l i) (l.getD i ⟨0, [], []⟩)) (fun i => l.getD i ⟨0, [], []⟩)) f ∧ Hid (∀ x ∈ b :: (List.range n).flatMap f, ∀ o, wr.frozen? ⟨x, o, none⟩ = false) ∧ Onl (b :: (List.range n).flatMap f) w wr) (fun _ i _ => n - (intOf i).toNat)
   case atStart => exact ⟨0, Nat.zero_le _, rfl, rfl, by rw [upto_zero]; exact hfam, hf, Onl.refl _ _⟩
   case round =>
    obtain ⟨j, hj, rfl, rfl, hF, HFR, hO⟩ := hrel
    have hbr := Nat.lt_of_lt_of_le hb hO.size
    by_cases hlt : j < n
    ·have hjl : j < l.length := by rw [Hn.out]; exact hlt
     have hj0 := hF j hlt
     have eD : upto j (fun i => mkArea (stArea k l i) (l.getD i ⟨0, [], []⟩)) (fun i => l.getD i ⟨0, [], []⟩) j = l.getD j ⟨0, [], []⟩ := by simp [upto]
     rw [eD] at hj0
     obtain ⟨dd, Hdd⟩ : ∃ dd, Hid (dd = l.getD j ⟨0, [], []⟩) := ⟨_, (rfl : l.getD j ⟨0, [], []⟩ = _)⟩
     rw [← Hdd.out] at hj0
     obtain ⟨_, c0, pa, pc, ta, tc, g1, g2, hg, ml1, ml2, c1, t1, c2, t2⟩ := hj0
     have htl : dd.parts.length ≤ 1048576 ∧ dd.tags.length ≤ 1048576 := by rw [Hdd.out, getD_at _ hjl]; exact HS.out j hjl
     obtain ⟨htl1, htl2⟩ := htl
     have hbj := HDB.out j hlt
     have hnj := nd_one HDF.out hlt
     rw [hg] at hbj hnj
     obtain ⟨_, _, hdis⟩ := List.nodup_append.1 hnj
     have hb1 : b ∉ g1 := fun h => hbj (List.mem_append.2 (.inl h))
     have hb2 : b ∉ g2 := fun h => hbj (List.mem_append.2 (.inr h))
     have hd12 : ∀ x ∈ g1, x ∉ g2 := fun x hx hx' => hdis x hx x hx' rfl
     have hsub : ∀ x ∈ g1 ++ g2, x ∈ b :: (List.range n).flatMap f := fun x hx => List.mem_cons_of_mem _ (List.mem_flatMap.2 ⟨j, List.mem_range.2 hlt, by rw [hg]; exact hx⟩)
     obtain ⟨kk, HK⟩ : ∃ kk, Hid (stArea k l j = kk) := ⟨_, (rfl : stArea k l j = _)⟩
     have hkk := HB.out j (by rw [Hn.out]; exact hj)
     rw [HK.out] at hkk ⊢
     have HNX : Hid (stArea k l (j + 1) = kk + 1 + 2 * dd.parts.length + 2 * dd.tags.length) := by
      show stArea k l j + (1 + 2 * (l.getD j ⟨0, [], []⟩).parts.length + 2 * (l.getD j ⟨0, [], []⟩).tags.length) = _
      rw [HK.out, Hdd.out]; omega
     have f0 := HFR.out b (by simp) (off + j * 3)
     have hlt' : (j : Int) < (n : Int) := by omega
     have hk1 : 0 < kk := by omega
     have hk2 : kk ≤ 1125899900000000 := by omega
     obtain ⟨S3, HS3⟩ : ∃ S3, Hid (S3 = wr.setCell ⟨b, off + j * 3, none⟩ (.int .i64 (kk : Int))) := ⟨_, (rfl : wr.setCell ⟨b, off + j * 3, none⟩ (.int .i64 (kk : Int)) = _)⟩
     have hSz : S3.heap.size = wr.heap.size := by rw [HS3.out]; simp [World.setCell]
     have hSf : ∀ x o, S3.frozen? ⟨x, o, none⟩ = wr.frozen? ⟨x, o, none⟩ := fun x o => by rw [HS3.out, World.frozen?_setCell]
     have hSo : ∀ o, o ≠ off + j * 3 → S3.cell? ⟨b, o, none⟩ = wr.cell? ⟨b, o, none⟩ := fun o ho => by rw [HS3.out]; exact World.cell?_setCell_other _ _ _ _ (fun e => ho (congrArg Addr.off e).symm)
     have i0 : S3.cell? ⟨b, off + j * 3, none⟩ = some (.int .i64 (kk : Int)) := by rw [HS3.out]; exact World.cell?_setCell_same _ _ _ c0
     have i1 : S3.cell? ⟨b, off + j * 3 + 1, none⟩ = some (.slice pa dd.parts.length pc) := by rw [hSo _ (by omega)]; exact c1
     have i2 : S3.cell? ⟨b, off + j * 3 + 2, none⟩ = some (.slice ta dd.tags.length tc) := by rw [hSo _ (by omega)]; exact c2
     have hSO : Onl (b :: (List.range n).flatMap f) wr S3 := by rw [HS3.out]; exact (Onl.refl _ _).set (b := b) (by simp) _ _
     have hSa : ∀ cs : List Nat, (∀ x ∈ cs, x < wr.heap.size) → b ∉ cs → Alike wr S3 cs := fun cs h1 h2 => by rw [HS3.out]; exact setRow_alike [.int .i64 (kk : Int)] (o := off + j * 3) h1 h2
     have T31 := t1.alike partE (hSa _ (t1.lt partE) hb1)
     have T32 := t2.alike tagE (hSa _ (t2.lt tagE) hb2)
     have F31 : ∀ x ∈ g1, ∀ o, S3.frozen? ⟨x, o, none⟩ = false := fun x hx o => by rw [hSf]; exact HFR.out x (hsub x (List.mem_append.2 (.inl hx))) o
     have F32 : ∀ x ∈ g2, ∀ o, S3.frozen? ⟨x, o, none⟩ = false := fun x hx o => by rw [hSf]; exact HFR.out x (hsub x (List.mem_append.2 (.inr hx))) o
     have HKN : Hid ((kk : Int) + 1 = ((kk + 1 : Nat) : Int)) := (by omega : (kk : Int) + 1 = ((kk + 1 : Nat) : Int))
     have hload : (wr.setCell ⟨b, off + j * 3, none⟩ (.int .i64 (kk : Int))).cell? ⟨b, off + j * 3 + 1, none⟩ = some (.slice pa dd.parts.length pc) := by rw [← HS3.out]; exact i1
     have hFl : ∀ i, i < n → ∀ x ∈ f i, x < wr.heap.size := fun i hi => areaE.lt (hF i hi)
     have HFam : Hid (Fam 3 AreaE wr b off n (upto j (fun i => mkArea (stArea k l i) (l.getD i ⟨0, [], []⟩)) (fun i => l.getD i ⟨0, [], []⟩)) f) := hF
     clear hF t1 t2
     go_wp2_with fail
     rw [HKN.out, ← HS3.out]
     refine (markPartS_any pa _ pc dd.parts g1 (kk + 1) _ T31 F31 rfl htl1 (by omega) (by omega)).mono ?_
     rintro e w4 ⟨rfl, T4, F4, O4⟩
     have hbS : b < S3.heap.size := by rw [hSz]; exact hbr
     have hc4 : ∀ o, w4.cell? ⟨b, o, none⟩ = S3.cell? ⟨b, o, none⟩ := fun o => O4.cell hbS hb1
     have j2 : w4.cell? ⟨b, off + j * 3 + 2, none⟩ = some (.slice ta dd.tags.length tc) := by rw [hc4]; exact i2
     have hl2 : ∀ x ∈ g2, x < S3.heap.size := T32.lt tagE
     have hd21 : ∀ x ∈ g2, x ∉ g1 := fun x hx hx' => hd12 x hx' hx
     have T42 := T32.alike tagE (O4.alike hl2 hd21)
     have F42 : ∀ x ∈ g2, ∀ o, w4.frozen? ⟨x, o, none⟩ = false := fun x hx o => by rw [O4.frozen (hl2 x hx) (hd21 x hx)]; exact F32 x hx o
     clear hload
     go_wp2_with fail
     refine (markTagS_any ta _ tc dd.tags g2 (kk + 1 + 2 * dd.parts.length) _ T42 F42 rfl htl2 (by omega) (by omega)).mono ?_
     rintro e w5 ⟨rfl, T5, F5, O5⟩
     have hb4 : b < w4.heap.size := Nat.lt_of_lt_of_le hbS O4.size
     have hc5 : ∀ o, w5.cell? ⟨b, o, none⟩ = S3.cell? ⟨b, o, none⟩ := fun o => by rw [O5.cell hb4 hb2, hc4]
     have hl1 : ∀ x ∈ g1, x < w4.heap.size := T4.lt partE
     have T51 := T4.alike partE (O5.alike hl1 hd12)
     have hne : ∀ i, i < n → i ≠ j → ∀ x ∈ f i, x ∉ g1 ∧ x ∉ g2 := fun i hi hne x hx => by
      have := nd_ne HDF.out hi hlt hne x hx
      rw [hg] at this
      exact ⟨fun h => this (List.mem_append.2 (.inl h)), fun h => this (List.mem_append.2 (.inr h))⟩
     have HF5 : Hid (Fam 3 AreaE w5 b off n (upto (j + 1) (fun i => mkArea (stArea k l i) (l.getD i ⟨0, [], []⟩)) (fun i => l.getD i ⟨0, [], []⟩)) f) := by
      have := Fam.step areaE HFam.out (w' := w5) (j := j) (mkArea kk dd) (fun o ho => by rw [hc5]; exact hSo o (by omega))
       (fun i hi hij => ((hSa _ (hFl i hi) (HDB.out i hi)).trans (O4.alike (fun x hx => by rw [hSz]; exact hFl i hi x hx) (fun x hx => (hne i hi hij x hx).1))).trans
        (O5.alike (fun x hx => Nat.lt_of_lt_of_le (by rw [hSz]; exact hFl i hi x hx) O4.size) (fun x hx => (hne i hi hij x hx).2)))
       ⟨⟨by show _ ≤ (kk : Int); omega, by show (kk : Int) ≤ _; omega⟩, by rw [hc5]; exact i0, pa, pc, ta, tc, g1, g2, hg, by show (mkParts (kk + 1) dd.parts).length ≤ _; rw [mkParts_len]; exact ml1, by show (mkTags (kk + 1 + 2 * dd.parts.length) dd.tags).length ≤ _; rw [mkTags_len]; exact ml2,
        by show _ = some (Value.slice pa (mkParts (kk + 1) dd.parts).length pc); rw [hc5, mkParts_len]; exact i1, T51,
        by show _ = some (Value.slice ta (mkTags (kk + 1 + 2 * dd.parts.length) dd.tags).length tc); rw [hc5, mkTags_len]; exact i2, T5⟩
      rw [show mkArea kk dd = (fun i => mkArea (stArea k l i) (l.getD i ⟨0, [], []⟩)) j by rw [Hdd.out, ← HK.out], upto_step j (fun i => mkArea (stArea k l i) (l.getD i ⟨0, [], []⟩)) (fun i => l.getD i ⟨0, [], []⟩)] at this
      exact this
     have hO5 : Onl (b :: (List.range n).flatMap f) w w5 := ((hO.trans hSO).trans (O4.mono (fun x hx => hsub x (List.mem_append.2 (.inl hx))))).trans (O5.mono (fun x hx => hsub x (List.mem_append.2 (.inr hx))))
     have HR5 : Hid (∀ x ∈ b :: (List.range n).flatMap f, ∀ o, w5.frozen? ⟨x, o, none⟩ = false) := fun x hx o => by
      have hxs : x < S3.heap.size := by
       rw [hSz]
       rcases List.mem_cons.1 hx with rfl | hx
       ·exact hbr
       ·obtain ⟨i, hi, hx⟩ := List.mem_flatMap.1 hx
        exact hFl i (List.mem_range.1 hi) x hx
      by_cases h2 : x ∈ g2
      ·exact F5 x h2 o
      ·rw [O5.frozen (Nat.lt_of_lt_of_le hxs O4.size) h2]
       by_cases h1 : x ∈ g1
       ·exact F4 x h1 o
       ·rw [O4.frozen hxs h1, hSf]
        exact HFR.out x hx o
     clear hO hSO O4 O5 F4 F5 T4 T5 T31 T32 T42 T51 F31 F32 F42 hc4 hc5 hSa hSo hSf i0 i1 i2 j2 HFam hFl f0 c0 c1 c2
     go_wp2
     go_roundw
     case rel => exact ⟨j + 1, by omega, by go_num, by rw [HNX.out]; go_num, HF5.out, HR5, hO5⟩
     case measure => simp [intOf]; omega
    ·have e : n = j := by omega
     subst e
     have HT : Hid (Areas wr (some ⟨b, off, none⟩) (mkAreas k l) (b :: (List.range n).flatMap f)) :=
      Sl.fam hF (Nat.lt_of_lt_of_le hb hO.size) (by rw [mkAreas_len]; exact Hn.out) (fun i hi => by
       rw [mkAreas_len, Hn.out] at hi
       simp [upto, mkAreas, hi])
     clear hF
     go_wp2
     go_ret
     exact ⟨rfl, HT.out, HFR.out, hO⟩

end Go.Proofs.YtldfcnlhjjiihaaGreat

namespace Go.Proofs.YtldfcnlhjjiihaaGreat
open Go.RowKit Go.Maps

/-- A map as its marks leave it. -/
def mkMapW (k : Nat) (m : MapD) : Nat := stNode k m.nodes m.nodes.length
def mkMapA (k : Nat) (m : MapD) : Nat := stWay (mkMapW k m) m.ways m.ways.length
def mkMapE (k : Nat) (m : MapD) : Nat := stArea (mkMapA k m) m.areas m.areas.length
def mkMap (k : Nat) (m : MapD) : MapD := ⟨mkNodes k m.nodes, mkWays (mkMapW k m) m.ways, mkAreas (mkMapA k m) m.areas⟩

set_option maxRecDepth 100000 in
set_option maxHeartbeats 2000000 in
theorem markMap_any (v : Value) (m : MapD) (bs : List Nat) (k : Nat) (w : World) (hV : MapV w v m bs) (hL : MapL m) (hf : ∀ x ∈ bs, ∀ j, w.frozen? ⟨x, j, none⟩ = false) (hd : bs.Nodup) (h0k : 0 < k) (hk : k ≤ 35184372088832) :
  Calls Tryz.prog 11 #[v, .int .i64 k] w fun e w' => e = .returned (.int .i64 (mkMapE k m : Nat)) ∧ MapV w' v (mkMap k m) bs ∧ (∀ x ∈ bs, ∀ j, w'.frozen? ⟨x, j, none⟩ = false) ∧ Onl bs w w' := by
 obtain ⟨a0, c0, a1, c1, a2, c2, b0, b1, b2, rfl, hbs, t0, t1, t2⟩ := hV.out
 obtain ⟨m0, m1, m2, u0, u1, u2⟩ := hL
 obtain ⟨n0, hn0⟩ : ∃ n, m.nodes.length = n := ⟨_, rfl⟩
 obtain ⟨n1, hn1⟩ : ∃ n, m.ways.length = n := ⟨_, rfl⟩
 obtain ⟨n2, hn2⟩ : ∃ n, m.areas.length = n := ⟨_, rfl⟩
 have H0 : Hid (m.nodes.length = n0) := hn0
 have H1 : Hid (m.ways.length = n1) := hn1
 have H2 : Hid (m.areas.length = n2) := hn2
 rw [hn0, hn1, hn2]
 rw [hn0] at m0
 rw [hn1] at m1
 rw [hn2] at m2
 have hk0 := (stNode_bd (k := k) u0 m.nodes.length (Nat.le_refl _))
 obtain ⟨kW, HW⟩ : ∃ x, Hid (stNode k m.nodes n0 = x) := ⟨_, (rfl : stNode k m.nodes n0 = _)⟩
 rw [hn0, HW.out] at hk0
 have hk1 := (stWay_bd (k := kW) u1 m.ways.length (Nat.le_refl _))
 obtain ⟨kA, HA⟩ : ∃ x, Hid (stWay kW m.ways n1 = x) := ⟨_, (rfl : stWay kW m.ways n1 = _)⟩
 rw [hn1, HA.out] at hk1
 obtain ⟨kE, HE⟩ : ∃ x, Hid (stArea kA m.areas n2 = x) := ⟨_, (rfl : stArea kA m.areas n2 = _)⟩
 have HEE : Hid (mkMapE k m = kE ∧ mkMapA k m = kA ∧ mkMapW k m = kW) := by
  have e1 : mkMapW k m = kW := by unfold mkMapW; rw [hn0]; exact HW.out
  have e2 : mkMapA k m = kA := by unfold mkMapA; rw [e1, hn1]; exact HA.out
  exact (⟨by unfold mkMapE; rw [e2, hn2]; exact HE.out, e2, e1⟩ : mkMapE k m = kE ∧ mkMapA k m = kA ∧ mkMapW k m = kW)
 rw [HEE.out.1]
 have hkW : kW ≤ 52776558133248 ∧ 0 < kW := by omega
 have hkA : kA ≤ 70368744177664 ∧ 0 < kA := by omega
 have HU0 : Hid (∀ i (h : i < m.nodes.length), m.nodes[i].tags.length ≤ 1048576) := u0
 have HU1 : Hid (∀ i (h : i < m.ways.length), m.ways[i].nodes.length ≤ 1048576 ∧ m.ways[i].tags.length ≤ 1048576) := u1
 have HU2 : Hid (∀ i (h : i < m.areas.length), m.areas[i].parts.length ≤ 1048576 ∧ m.areas[i].tags.length ≤ 1048576) := u2
 subst hbs
 obtain ⟨d0, d12, x0⟩ := List.nodup_append.1 hd
 obtain ⟨d1, d2, x1⟩ := List.nodup_append.1 d12
 have D01 : ∀ x ∈ b0, x ∉ b1 := fun x hx hy => x0 x hx x (List.mem_append.2 (.inl hy)) rfl
 have D02 : ∀ x ∈ b0, x ∉ b2 := fun x hx hy => x0 x hx x (List.mem_append.2 (.inr hy)) rfl
 have D12 : ∀ x ∈ b1, x ∉ b2 := fun x hx hy => x1 x hx x hy rfl
 have L0 := t0.lt nodeE
 have L1 := t1.lt wayE
 have L2 := t2.lt areaE
 obtain ⟨wb, HB⟩ : ∃ x, Hid (x = w.alloc (.cells #[.slice a0 n0 c0, .slice a1 n1 c1, .slice a2 n2 c2] 39)) := ⟨_, (rfl : w.alloc (.cells #[.slice a0 n0 c0, .slice a1 n1 c1, .slice a2 n2 c2] 39) = _)⟩
 have S0 : Bel w wb := by rw [HB.out]; exact bel_alloc (Bel.refl _) _
 have X0 : Blk wb w.heap.size [.slice a0 n0 c0, .slice a1 n1 c1, .slice a2 n2 c2] := by rw [HB.out]; exact Blk.new w [.slice a0 n0 c0, .slice a1 n1 c1, .slice a2 n2 c2] 39
 have zb : w.heap.size < wb.heap.size := by rw [HB.out]; simp
 have N0 : w.heap.size ∉ b0 := fun h => absurd (L0 _ h) (Nat.lt_irrefl _)
 have N1 : w.heap.size ∉ b1 := fun h => absurd (L1 _ h) (Nat.lt_irrefl _)
 have F : ∀ x ∈ b0 ++ (b1 ++ b2), ∀ j, wb.frozen? ⟨x, j, none⟩ = false := fun x hx j => by
  have hlt : x < w.heap.size := by
   rcases List.mem_append.1 hx with h | h
   ·exact L0 x h
   ·rcases List.mem_append.1 h with h | h
    ·exact L1 x h
    ·exact L2 x h
  rw [S0.out.frozen (p := ⟨x, j, none⟩) hlt]
  exact hf x hx j
 have F0 : ∀ x ∈ b0, ∀ j, wb.frozen? ⟨x, j, none⟩ = false := fun x hx => F x (List.mem_append.2 (.inl hx))
 have F1 : ∀ x ∈ b1, ∀ j, wb.frozen? ⟨x, j, none⟩ = false := fun x hx => F x (List.mem_append.2 (.inr (List.mem_append.2 (.inl hx))))
 have F2 : ∀ x ∈ b2, ∀ j, wb.frozen? ⟨x, j, none⟩ = false := fun x hx => F x (List.mem_append.2 (.inr (List.mem_append.2 (.inr hx))))
 have T0 := t0.bel nodeE S0
 have T1 := t1.bel wayE S0
 have T2 := t2.bel areaE S0
 have q0 : ∀ x ∈ b0, x < wb.heap.size := T0.lt nodeE
 have q1 : ∀ x ∈ b1, x < wb.heap.size := T1.lt wayE
 have q2 : ∀ x ∈ b2, x < wb.heap.size := T2.lt areaE
 have hld : (w.alloc (.cells #[.slice a0 n0 c0, .slice a1 n1 c1, .slice a2 n2 c2] 39)).cell? ⟨w.heap.size, 0, none⟩ = some (.slice a0 n0 c0) := by rw [← HB.out]; exact X0.cell 0 (by simp)
 clear hV hn0 hn1 hn2 u0 u1 u2 hf hd d12 x0 x1 F t0 t1 t2
 go_enter Tryz.func11, Tryz.ntmps11
 go_wp2_with fail
 rw [← HB.out]
 refine (markNodeS_any a0 _ c0 m.nodes b0 k _ T0 F0 d0 H0.out m0 HU0.out h0k (by omega)).mono ?_
 rintro e w1 ⟨rfl, V0, G0, O1⟩
 rw [HW.out]
 have y11 : w1.cell? ⟨w.heap.size, 1, none⟩ = some (.slice a1 n1 c1) := by rw [O1.cell zb N0]; exact X0.cell 1 (by simp)
 have y12 : w1.cell? ⟨w.heap.size, 2, none⟩ = some (.slice a2 n2 c2) := by rw [O1.cell zb N0]; exact X0.cell 2 (by simp)
 have z1 := Nat.lt_of_lt_of_le zb O1.size
 have D10 : ∀ x ∈ b1, x ∉ b0 := fun x hx hy => D01 x hy hx
 have D20 : ∀ x ∈ b2, x ∉ b0 := fun x hx hy => D02 x hy hx
 have D21 : ∀ x ∈ b2, x ∉ b1 := fun x hx hy => D12 x hy hx
 have T11 := T1.alike wayE (O1.alike q1 D10)
 have T12 := T2.alike areaE (O1.alike q2 D20)
 have F11 : ∀ x ∈ b1, ∀ j, w1.frozen? ⟨x, j, none⟩ = false := fun x hx j => by rw [O1.frozen (q1 x hx) (D10 x hx)]; exact F1 x hx j
 have F12 : ∀ x ∈ b2, ∀ j, w1.frozen? ⟨x, j, none⟩ = false := fun x hx j => by rw [O1.frozen (q2 x hx) (D20 x hx)]; exact F2 x hx j
 clear hld
 go_wp2_with fail
 refine (markWayS_any a1 _ c1 m.ways b1 kW _ T11 F11 d1 H1.out m1 HU1.out (by omega) (by omega)).mono ?_
 rintro e w2 ⟨rfl, V1, G1, O2⟩
 rw [HA.out]
 have y22 : w2.cell? ⟨w.heap.size, 2, none⟩ = some (.slice a2 n2 c2) := by rw [O2.cell z1 N1]; exact y12
 have q10 : ∀ x ∈ b0, x < w1.heap.size := V0.lt nodeE
 have q12 : ∀ x ∈ b2, x < w1.heap.size := T12.lt areaE
 have T20 := V0.alike nodeE (O2.alike q10 D01)
 have T22 := T12.alike areaE (O2.alike q12 D21)
 have F20 : ∀ x ∈ b0, ∀ j, w2.frozen? ⟨x, j, none⟩ = false := fun x hx j => by rw [O2.frozen (q10 x hx) (D01 x hx)]; exact G0 x hx j
 have F22 : ∀ x ∈ b2, ∀ j, w2.frozen? ⟨x, j, none⟩ = false := fun x hx j => by rw [O2.frozen (q12 x hx) (D21 x hx)]; exact F12 x hx j
 clear y11 y12
 go_wp2_with fail
 refine (markAreaS_any a2 _ c2 m.areas b2 kA _ T22 F22 d2 H2.out m2 HU2.out (by omega) (by omega)).mono ?_
 rintro e w3 ⟨rfl, V2, G2, O3⟩
 rw [HE.out]
 have q20 : ∀ x ∈ b0, x < w2.heap.size := T20.lt nodeE
 have q21 : ∀ x ∈ b1, x < w2.heap.size := V1.lt wayE
 have T30 := T20.alike nodeE (O3.alike q20 D02)
 have T31 := V1.alike wayE (O3.alike q21 D12)
 have HV : Hid (MapV w3 (.agg #[.slice a0 n0 c0, .slice a1 n1 c1, .slice a2 n2 c2]) (mkMap k m) (b0 ++ (b1 ++ b2))) :=
  (⟨a0, c0, a1, c1, a2, c2, b0, b1, b2, by show _ = Value.agg #[.slice a0 (mkNodes k m.nodes).length c0, .slice a1 (mkWays (mkMapW k m) m.ways).length c1, .slice a2 (mkAreas (mkMapA k m) m.areas).length c2]; rw [mkNodes_len, mkWays_len, mkAreas_len, H0.out, H1.out, H2.out], rfl, T30,
   by show Ways w3 a1 (mkWays (mkMapW k m) m.ways) b1; rw [HEE.out.2.2]; exact T31, by show Areas w3 a2 (mkAreas (mkMapA k m) m.areas) b2; rw [HEE.out.2.1]; exact V2⟩ : MapV w3 _ (mkMap k m) _)
 have HF : Hid (∀ x ∈ b0 ++ (b1 ++ b2), ∀ j, w3.frozen? ⟨x, j, none⟩ = false) := fun x hx j => by
  rcases List.mem_append.1 hx with h | h
  ·rw [O3.frozen (q20 x h) (D02 x h)]; exact F20 x h j
  ·rcases List.mem_append.1 h with h | h
   ·rw [O3.frozen (q21 x h) (D12 x h)]; exact G1 x h j
   ·exact G2 x h j
 have HO : Hid (Onl (b0 ++ (b1 ++ b2)) w w3) :=
  ((((Onl.refl _ w).bel S0).trans (O1.mono fun x hx => List.mem_append.2 (.inl hx))).trans (O2.mono fun x hx => List.mem_append.2 (.inr (List.mem_append.2 (.inl hx))))).trans (O3.mono fun x hx => List.mem_append.2 (.inr (List.mem_append.2 (.inr hx))))
 clear y22
 go_wp2
 go_ret
 exact ⟨rfl, HV.out, HF.out, HO.out⟩

end Go.Proofs.YtldfcnlhjjiihaaGreat

namespace Go.Proofs.YtldfcnlhjjiihaaGreat
open Go.RowKit Go.Maps

end Go.Proofs.YtldfcnlhjjiihaaGreat

namespace Go.Proofs.YtldfcnlhjjiihaaGreat
open Go.RowKit Go.Maps

set_option maxRecDepth 100000 in
set_option maxHeartbeats 2000000 in
theorem heldTagS_any (a : Option Addr) (n c : Nat) (l : List TagD) (bs : List Nat) (k : Nat) (w : World) (hT : Tags w a (mkTags k l) bs) (hn : l.length = n) (hm : n ≤ 1048576) (h0k : 0 < k) (hk : k ≤ 1125899906842624) :
  Calls Tryz.prog 72 #[.slice a n c, .int .i64 k] w fun e w' => e = .returned (.int .i64 ((k + 2 * n : Nat) : Int)) ∧ Bel w w' := by
 have Hn : Hid (l.length = n) := hn
 clear hn
 go_enter Tryz.func72, Tryz.ntmps72
 go_wp2
 go_loopw [1, 5] (fun t i wr => ∃ j : Nat, j ≤ n ∧ i = .int .i64 j ∧ t = .int .i64 ((k + 2 * j : Nat) : Int) ∧ Bel w wr) (fun _ i _ => n - (intOf i).toNat)
 case atStart => exact ⟨0, Nat.zero_le _, rfl, by simp, Bel.refl _⟩
 case round =>
  obtain ⟨j, hj, rfl, rfl, hbel⟩ := hrel
  by_cases hlt : j < n
  ·have hjl : j < (mkTags k l).length := by rw [mkTags_len, Hn.out]; exact hlt
   obtain ⟨b, off, f, rfl, hb, hx⟩ := (hT.bel tagE hbel).out hjl
   have hj0 := hx j hjl
   rw [show (mkTags k l)[j] = mkTag (k + 2 * j) by simp [mkTags]] at hj0
   obtain ⟨_, _, _, e0, e1⟩ := hj0
   obtain ⟨kk, hkk⟩ : ∃ kk, k + 2 * j = kk := ⟨_, rfl⟩
   have HK : Hid (k + 2 * (j + 1) = kk + 2) := (by omega : k + 2 * (j + 1) = kk + 2)
   rw [hkk] at e0 e1 ⊢
   have hk1 : 0 < kk := by omega
   have hk2 : kk ≤ 1125902004000000 := by omega
   clear hkk
   obtain ⟨s, Hs⟩ : ∃ s, Hid (mT kk = s) := ⟨_, (rfl : mT kk = _)⟩
   obtain ⟨t, Ht⟩ : ∃ s, Hid (mT (kk + 1) = s) := ⟨_, (rfl : mT (kk + 1) = _)⟩
   have c0 : wr.cell? ⟨b, off + j * 2, none⟩ = some (.string s) := by rw [← Hs.out]; exact e0
   have c1 : wr.cell? ⟨b, off + j * 2 + 1, none⟩ = some (.string t) := by rw [← Ht.out]; exact e1
   have hlt' : (j : Int) < (n : Int) := by omega
   have hR : ∀ w', Bel wr w' → w'.cell? ⟨b, off + j * 2, none⟩ = some (.string s) ∧ w'.cell? ⟨b, off + j * 2 + 1, none⟩ = some (.string t) := fun w' h => ⟨bel_cellM h hb c0, bel_cellM h hb c1⟩
   have HKN : Hid ((kk : Int) + 1 = ((kk + 1 : Nat) : Int)) := (by omega : (kk : Int) + 1 = ((kk + 1 : Nat) : Int))
   have g0 : Bel wr wr := Bel.refl _
   clear hx hT c0 c1 e0 e1 hb
   go_wp2
   go_region_held3 (fun w' => Bel wr w') (with_reducible (repeat (first | assumption | exact g0 | refine Bel.drew ?_ | refine bel_then (by assumption) ?_)))
    (first
     | (go_at_call 113; refine (markText_any kk _ hk1 (by omega)).mono ?_; rintro e w1 ⟨rfl, hb1⟩; rw [Hs.out]))
   have h1 : Bel wr w1 := by assumption
   clear hb1
   go_wp2
   go_region_held3 (fun w' => Bel wr w') (with_reducible (repeat (first | assumption | exact g0 | refine Bel.drew ?_ | refine bel_then (by assumption) ?_)))
    (first
     | (go_at_call 113; rw [HKN.out]; refine (markText_any (kk + 1) _ (by omega) (by omega)).mono ?_; rintro e w2 ⟨rfl, hb2⟩; rw [Ht.out]))
   have h2 : Bel wr w2 := by assumption
   clear hb2
   go_wp2
   go_roundw
   case rel => exact ⟨j + 1, by omega, by go_num, by rw [HK.out]; go_num, bel_step hbel h2⟩
   case measure => simp [intOf]; omega
  ·have e : n = j := by omega
   subst e
   clear hT
   go_wp2
   go_ret
   exact ⟨rfl, hbel⟩

end Go.Proofs.YtldfcnlhjjiihaaGreat
