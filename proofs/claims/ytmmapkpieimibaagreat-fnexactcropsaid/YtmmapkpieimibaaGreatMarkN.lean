/-
  Nodes, ways, areas and maps, marked: contracts.
-/
import Derived.Test.YtmmapkpieimibaaGreatMarkD
namespace Go.Proofs.YtmmapkpieimibaaGreat
open Go.RowKit Go.Maps

theorem nd_apart {f : Nat → List Nat} : ∀ n, ((List.range n).flatMap f).Nodup → ∀ i j, i < j → j < n → ∀ x ∈ f i, x ∉ f j
  | 0, _, _, j, _, hj => absurd hj (Nat.not_lt_zero _)
  | n + 1, h, i, j, hij, hj => by
    rw [List.range_succ, List.flatMap_append] at h
    obtain ⟨h1, _, h3⟩ := List.nodup_append.1 h
    by_cases e : j = n
    · subst e
      intro x hx hx'
      exact h3 x (List.mem_flatMap.2 ⟨i, List.mem_range.2 hij, hx⟩) x (by simpa using hx') rfl
    · exact nd_apart n h1 i j hij (by omega)
theorem nd_ne {f : Nat → List Nat} {n : Nat} (h : ((List.range n).flatMap f).Nodup) {i j : Nat} (hi : i < n) (hj : j < n) (hne : i ≠ j) : ∀ x ∈ f i, x ∉ f j := by
  rcases Nat.lt_or_gt_of_ne hne with h1 | h1
  · exact nd_apart n h i j h1 hj
  · exact fun x hx hx' => nd_apart n h j i h1 hi x hx' hx
theorem nd_one {f : Nat → List Nat} {n : Nat} (h : ((List.range n).flatMap f).Nodup) {i : Nat} (hi : i < n) : (f i).Nodup := by
  induction n with
  | zero => exact absurd hi (Nat.not_lt_zero _)
  | succ n ih =>
    rw [List.range_succ, List.flatMap_append] at h
    obtain ⟨h1, h2, _⟩ := List.nodup_append.1 h
    by_cases e : i = n
    · subst e; simpa using h2
    · exact ih h1 (by omega)
theorem Alike.trans {w w1 w2 : World} {bs : List Nat} (h : Alike w w1 bs) (k : Alike w1 w2 bs) : Alike w w2 bs := fun b hb =>
  ⟨(k b hb).1, fun o => by rw [(k b hb).2.1, (h b hb).2.1], fun o => by rw [(k b hb).2.2, (h b hb).2.2]⟩
theorem Onl.cell {bs : List Nat} {w w' : World} (h : Onl bs w w') {b o : Nat} (hb : b < w.heap.size) (hn : b ∉ bs) : w'.cell? ⟨b, o, none⟩ = w.cell? ⟨b, o, none⟩ := World.cell?_of_block (a := ⟨b, o, none⟩) (h.block b hb hn)
theorem Onl.frozen {bs : List Nat} {w w' : World} (h : Onl bs w w') {b o : Nat} (hb : b < w.heap.size) (hn : b ∉ bs) : w'.frozen? ⟨b, o, none⟩ = w.frozen? ⟨b, o, none⟩ := World.frozen?_of_block (a := ⟨b, o, none⟩) (h.block b hb hn)

def mkNode (k : Nat) (d : NodeD) : NodeD := ⟨(k : Int), ((k + 1 : Nat) : Int), ((k + 2 : Nat) : Int), mkTags (k + 3) d.tags⟩
def mkWay (k : Nat) (d : WayD) : WayD := ⟨(k : Int), mkInts (k + 1) d.nodes, mkTags (k + 1 + d.nodes.length) d.tags⟩
def mkArea (k : Nat) (d : AreaD) : AreaD := ⟨(k : Int), mkParts (k + 1) d.parts, mkTags (k + 1 + 2 * d.parts.length) d.tags⟩

/-- With which number the marks of element i begin. -/
def stNode (k : Nat) (l : List NodeD) : Nat → Nat
  | 0 => k
  | i + 1 => stNode k l i + (fun d : NodeD => 3 + 2 * d.tags.length) (l.getD i ⟨0, 0, 0, []⟩)
def mkNodes (k : Nat) (l : List NodeD) : List NodeD := (List.range l.length).map fun i => mkNode (stNode k l i) (l.getD i ⟨0, 0, 0, []⟩)
theorem mkNodes_len (k : Nat) (l : List NodeD) : (mkNodes k l).length = l.length := by simp [mkNodes]
theorem stNode_bd {k : Nat} {l : List NodeD} (hs : ∀ i (h : i < l.length), l[i].tags.length ≤ 1048576) : ∀ j, j ≤ l.length → k ≤ stNode k l j ∧ stNode k l j ≤ k + j * 2097155
  | 0, _ => by simp [stNode]
  | j + 1, hj => by
    have h1 := stNode_bd (k := k) hs j (by omega)
    have h2 := hs j (by omega)
    simp only [stNode, getD_at ⟨0, 0, 0, []⟩ (show j < l.length by omega)]
    omega

set_option maxRecDepth 100000 in
set_option maxHeartbeats 2000000 in
theorem markNodeS_any (a : Option Addr) (n c : Nat) (l : List NodeD) (bs : List Nat) (k : Nat) (w : World) (hT : Nodes w a l bs) (hf : ∀ x ∈ bs, ∀ j, w.frozen? ⟨x, j, none⟩ = false) (hd : bs.Nodup) (hn : l.length = n) (hm : n ≤ 1048576) (hs : ∀ i (h : i < l.length), l[i].tags.length ≤ 1048576) (h0k : 0 < k) (hk : k ≤ 70368744177664) :
    Calls Tryz.prog 43 #[.slice a n c, .int .i64 k] w fun e w' => e = .returned (.int .i64 (stNode k l n : Nat)) ∧ Nodes w' a (mkNodes k l) bs ∧ (∀ x ∈ bs, ∀ j, w'.frozen? ⟨x, j, none⟩ = false) ∧ Onl bs w w' := by
  by_cases h0 : n = 0
  · subst h0
    obtain rfl : l = [] := List.length_eq_zero_iff.1 hn
    have HT : Hid (Nodes w a (mkNodes k []) bs) := hT
    clear hT
    go_enter Tryz.func43, Tryz.ntmps43
    go_wp2
    go_loopw [1, 5] (fun t i wr => t = .int .i64 k ∧ i = .int .i64 0 ∧ wr = w) (fun _ _ _ => 0)
    case atStart => exact ⟨rfl, rfl, rfl⟩
    case round =>
      obtain ⟨rfl, rfl, rfl⟩ := hrel
      go_wp2
      go_ret
      exact ⟨rfl, HT.out, hf, Onl.refl _ _⟩
  · rcases hT with ⟨rfl, _⟩ | ⟨b, off, f, rfl, hb, rfl, hx⟩
    · exact absurd hn.symm h0
    · have hfam : Fam 4 NodeE w b off n (fun i => l.getD i ⟨0, 0, 0, []⟩) f := fun i hi => by
        show NodeE w b (off + i * 4) (l.getD i ⟨0, 0, 0, []⟩) (f i)
        rw [getD_at ⟨0, 0, 0, []⟩ (show i < l.length by omega)]
        exact hx i (by omega)
      rw [hn] at hd hf ⊢
      obtain ⟨hdb, hdf⟩ := List.nodup_cons.1 hd
      have Hn : Hid (l.length = n) := hn
      have HS : Hid (∀ i (h : i < l.length), l[i].tags.length ≤ 1048576) := hs
      have HB : Hid (∀ j, j ≤ l.length → k ≤ stNode k l j ∧ stNode k l j ≤ k + j * 2097155) := stNode_bd hs
      have HDF : Hid ((List.range n).flatMap f).Nodup := hdf
      have HDB : Hid (∀ i, i < n → b ∉ f i) := fun i hi h => hdb (List.mem_flatMap.2 ⟨i, List.mem_range.2 hi, h⟩)
      clear hn hx hd hdb hdf hs
      go_enter Tryz.func43, Tryz.ntmps43
      go_wp2
      go_loopw [1, 5] (fun t i wr => ∃ j : Nat, j ≤ n ∧ i = .int .i64 j ∧ t = .int .i64 (stNode k l j : Nat) ∧ Fam 4 NodeE wr b off n (upto j (fun i => mkNode (stNode k l i) (l.getD i ⟨0, 0, 0, []⟩)) (fun i => l.getD i ⟨0, 0, 0, []⟩)) f ∧ Hid (∀ x ∈ b :: (List.range n).flatMap f, ∀ o, wr.frozen? ⟨x, o, none⟩ = false) ∧ Onl (b :: (List.range n).flatMap f) w wr) (fun _ i _ => n - (intOf i).toNat)
      case atStart => exact ⟨0, Nat.zero_le _, rfl, rfl, by rw [upto_zero]; exact hfam, hf, Onl.refl _ _⟩
      case round =>
        obtain ⟨j, hj, rfl, rfl, hF, HFR, hO⟩ := hrel
        have hbr := Nat.lt_of_lt_of_le hb hO.size
        by_cases hlt : j < n
        · have hjl : j < l.length := by rw [Hn.out]; exact hlt
          have hj0 := hF j hlt
          have eD : upto j (fun i => mkNode (stNode k l i) (l.getD i ⟨0, 0, 0, []⟩)) (fun i => l.getD i ⟨0, 0, 0, []⟩) j = l.getD j ⟨0, 0, 0, []⟩ := by simp [upto]
          rw [eD] at hj0
          obtain ⟨dd, Hdd⟩ : ∃ dd, Hid (dd = l.getD j ⟨0, 0, 0, []⟩) := ⟨_, (rfl : l.getD j ⟨0, 0, 0, []⟩ = _)⟩
          rw [← Hdd.out] at hj0
          obtain ⟨_, _, _, c0, c1, c2, ta, tc, ml2, c3, t2⟩ := hj0
          have htl : dd.tags.length ≤ 1048576 := by rw [Hdd.out, getD_at _ hjl]; exact HS.out j hjl
          obtain ⟨kk, HK⟩ : ∃ kk, Hid (stNode k l j = kk) := ⟨_, (rfl : stNode k l j = _)⟩
          have hkk := HB.out j (by rw [Hn.out]; exact hj)
          rw [HK.out] at hkk ⊢
          have HNX : Hid (stNode k l (j + 1) = kk + 3 + 2 * dd.tags.length) := by
            show stNode k l j + (3 + 2 * (l.getD j ⟨0, 0, 0, []⟩).tags.length) = _
            rw [HK.out, Hdd.out]; omega
          have f0 := HFR.out b (by simp) (off + j * 4)
          have f1 := HFR.out b (by simp) (off + j * 4 + 1)
          have f2 := HFR.out b (by simp) (off + j * 4 + 2)
          have hlt' : (j : Int) < (n : Int) := by omega
          have hk1 : 0 < kk := by omega
          have hk2 : kk ≤ 1125899900000000 := by omega
          obtain ⟨S3, HS3⟩ : ∃ S3, Hid (S3 = setRow wr b (off + j * 4) [.int .i64 (kk : Int), .int .i64 ((kk : Int) + 1), .int .i64 ((kk : Int) + 1 + 1)]) := ⟨_, (rfl : setRow wr b (off + j * 4) [.int .i64 (kk : Int), .int .i64 ((kk : Int) + 1), .int .i64 ((kk : Int) + 1 + 1)] = _)⟩
          have hdr : S3.cell? ⟨b, off + j * 4 + 3, none⟩ = some (.slice ta dd.tags.length tc) := by rw [HS3.out, setRow_out _ _ _ _ _ (by simp)]; exact c3
          have hSz : S3.heap.size = wr.heap.size := by rw [HS3.out, setRow_size]
          have hSf : ∀ x o, S3.frozen? ⟨x, o, none⟩ = wr.frozen? ⟨x, o, none⟩ := fun x o => by rw [HS3.out, setRow_frozen]
          have hSo : ∀ o, o < off + j * 4 ∨ off + j * 4 + 4 ≤ o → S3.cell? ⟨b, o, none⟩ = wr.cell? ⟨b, o, none⟩ := fun o ho => by rw [HS3.out, setRow_out _ _ _ _ _ (by simp; omega)]
          have hin := setRow_in b [.int .i64 (kk : Int), .int .i64 ((kk : Int) + 1), .int .i64 ((kk : Int) + 1 + 1)] wr (off + j * 4) (fun i hi => by
            match i, hi with
            | 0, _ => exact ⟨_, c0⟩
            | 1, _ => exact ⟨_, c1⟩
            | 2, _ => exact ⟨_, c2⟩)
          have i0 : S3.cell? ⟨b, off + j * 4, none⟩ = some (.int .i64 (kk : Int)) := by rw [HS3.out]; exact hin 0 (by simp)
          have i1 : S3.cell? ⟨b, off + j * 4 + 1, none⟩ = some (.int .i64 ((kk : Int) + 1)) := by rw [HS3.out]; exact hin 1 (by simp)
          have i2 : S3.cell? ⟨b, off + j * 4 + 2, none⟩ = some (.int .i64 ((kk : Int) + 1 + 1)) := by rw [HS3.out]; exact hin 2 (by simp)
          have hSO : Onl (b :: (List.range n).flatMap f) wr S3 := by rw [HS3.out]; exact ((((Onl.refl _ _).set (b := b) (by simp) _ _).set (b := b) (by simp) _ _).set (b := b) (by simp) _ _)
          have hSa : ∀ cs : List Nat, (∀ x ∈ cs, x < wr.heap.size) → b ∉ cs → Alike wr S3 cs := fun cs h1 h2 => by rw [HS3.out]; exact setRow_alike _ h1 h2
          have T3 := t2.alike tagE (hSa _ (t2.lt tagE) (HDB.out j hlt))
          have F3 : ∀ x ∈ f j, ∀ o, S3.frozen? ⟨x, o, none⟩ = false := fun x hx o => by rw [hSf]; exact HFR.out x (List.mem_cons_of_mem _ (List.mem_flatMap.2 ⟨j, List.mem_range.2 hlt, hx⟩)) o
          have HKN : Hid ((kk : Int) + 1 + 1 + 1 = ((kk + 3 : Nat) : Int)) := (by omega : (kk : Int) + 1 + 1 + 1 = ((kk + 3 : Nat) : Int))
          have HEQ : Hid (S3 = ((wr.setCell ⟨b, off + j * 4, none⟩ (.int .i64 (kk : Int))).setCell ⟨b, off + j * 4 + 1, none⟩ (.int .i64 ((kk : Int) + 1))).setCell ⟨b, off + j * 4 + 2, none⟩ (.int .i64 ((kk : Int) + 1 + 1))) := HS3.out
          have hload : (((wr.setCell ⟨b, off + j * 4, none⟩ (.int .i64 (kk : Int))).setCell ⟨b, off + j * 4 + 1, none⟩ (.int .i64 ((kk : Int) + 1))).setCell ⟨b, off + j * 4 + 2, none⟩ (.int .i64 ((kk : Int) + 1 + 1))).cell? ⟨b, off + j * 4 + 3, none⟩ = some (.slice ta dd.tags.length tc) := by rw [← HEQ.out]; exact hdr
          have hFl : ∀ i, i < n → ∀ x ∈ f i, x < wr.heap.size := fun i hi => nodeE.lt (hF i hi)
          have HFam : Hid _ := hF
          clear hF t2 HS3
          go_wp2_with fail
          rw [HKN.out, ← HEQ.out]
          refine (markTagS_any ta _ tc dd.tags (f j) (kk + 3) _ T3 F3 rfl htl (by omega) (by omega)).mono ?_
          rintro e w4 ⟨rfl, T4, F4, O4⟩
          have hbS : b < S3.heap.size := by rw [hSz]; exact hbr
          have hc4 : ∀ o, w4.cell? ⟨b, o, none⟩ = S3.cell? ⟨b, o, none⟩ := fun o => O4.cell hbS (HDB.out j hlt)
          have HF4 : Hid (Fam 4 NodeE w4 b off n (upto (j + 1) (fun i => mkNode (stNode k l i) (l.getD i ⟨0, 0, 0, []⟩)) (fun i => l.getD i ⟨0, 0, 0, []⟩)) f) := by
            have := Fam.step nodeE HFam.out (w' := w4) (j := j) (mkNode kk dd) (fun o ho => by rw [hc4]; exact hSo o ho)
              (fun i hi hne => (hSa _ (hFl i hi) (HDB.out i hi)).trans (O4.alike (fun x hx => by rw [hSz]; exact hFl i hi x hx) (nd_ne HDF.out hi hlt hne)))
              ⟨⟨by show _ ≤ (kk : Int); omega, by show (kk : Int) ≤ _; omega⟩, ⟨by show _ ≤ ((kk + 1 : Nat) : Int); omega, by show ((kk + 1 : Nat) : Int) ≤ _; omega⟩, ⟨by show _ ≤ ((kk + 2 : Nat) : Int); omega, by show ((kk + 2 : Nat) : Int) ≤ _; omega⟩,
                by rw [hc4]; exact i0, by rw [hc4]; exact i1, by rw [hc4]; exact i2.trans (congrArg (fun z => some (Value.int .i64 z)) (by omega : (kk : Int) + 1 + 1 = ((kk + 2 : Nat) : Int))), ta, tc, by show (mkTags (kk + 3) dd.tags).length ≤ _; rw [mkTags_len]; exact ml2, by
                  show _ = some (Value.slice ta (mkTags (kk + 3) dd.tags).length tc)
                  rw [hc4, mkTags_len]
                  exact hdr, T4⟩
            rw [show mkNode kk dd = (fun i => mkNode (stNode k l i) (l.getD i ⟨0, 0, 0, []⟩)) j by rw [Hdd.out, ← HK.out], upto_step j (fun i => mkNode (stNode k l i) (l.getD i ⟨0, 0, 0, []⟩)) (fun i => l.getD i ⟨0, 0, 0, []⟩)] at this
            exact this
          have hO4 : Onl (b :: (List.range n).flatMap f) w w4 := (hO.trans hSO).trans (O4.mono (fun x hx => List.mem_cons_of_mem _ (List.mem_flatMap.2 ⟨j, List.mem_range.2 hlt, hx⟩)))
          have HR4 : Hid (∀ x ∈ b :: (List.range n).flatMap f, ∀ o, w4.frozen? ⟨x, o, none⟩ = false) := fun x hx o => by
            by_cases hxj : x ∈ f j
            · exact F4 x hxj o
            · have hxs : x < S3.heap.size := by
                rw [hSz]
                rcases List.mem_cons.1 hx with rfl | hx
                · exact hbr
                · obtain ⟨i, hi, hx⟩ := List.mem_flatMap.1 hx
                  exact hFl i (List.mem_range.1 hi) x hx
              rw [O4.frozen hxs hxj, hSf]
              exact HFR.out x hx o
          clear hO hSO O4 F4 T4 T3 F3 hc4 hSa hSo hSf hin i0 i1 i2 hdr hload HFam hFl f0 f1 f2 c0 c1 c2 c3
          go_wp2
          go_roundw
          case rel => exact ⟨j + 1, by omega, by go_num, by rw [HNX.out]; go_num, HF4.out, HR4, hO4⟩
          case measure => simp [intOf]; omega
        · have e : n = j := by omega
          subst e
          have HT : Hid (Nodes wr (some ⟨b, off, none⟩) (mkNodes k l) (b :: (List.range n).flatMap f)) :=
            Sl.fam hF (Nat.lt_of_lt_of_le hb hO.size) (by rw [mkNodes_len]; exact Hn.out) (fun i hi => by
              rw [mkNodes_len, Hn.out] at hi
              simp [upto, mkNodes, hi])
          clear hF
          go_wp2
          go_ret
          exact ⟨rfl, HT.out, HFR.out, hO⟩

/-- With which number the marks of element i begin. -/
def stWay (k : Nat) (l : List WayD) : Nat → Nat
  | 0 => k
  | i + 1 => stWay k l i + (1 + (l.getD i ⟨0, [], []⟩).nodes.length + 2 * (l.getD i ⟨0, [], []⟩).tags.length)
def mkWays (k : Nat) (l : List WayD) : List WayD := (List.range l.length).map fun i => mkWay (stWay k l i) (l.getD i ⟨0, [], []⟩)
theorem mkWays_len (k : Nat) (l : List WayD) : (mkWays k l).length = l.length := by simp [mkWays]
theorem stWay_bd {k : Nat} {l : List WayD} (hs : ∀ i (h : i < l.length), l[i].nodes.length ≤ 1048576 ∧ l[i].tags.length ≤ 1048576) : ∀ j, j ≤ l.length → k ≤ stWay k l j ∧ stWay k l j ≤ k + j * 4194305
  | 0, _ => by simp [stWay]
  | j + 1, hj => by
    have h1 := stWay_bd (k := k) hs j (by omega)
    have h2 := hs j (by omega)
    simp only [stWay, getD_at ⟨0, [], []⟩ (show j < l.length by omega)]
    omega

set_option maxRecDepth 100000 in
set_option maxHeartbeats 2000000 in
theorem markWayS_any (a : Option Addr) (n c : Nat) (l : List WayD) (bs : List Nat) (k : Nat) (w : World) (hT : Ways w a l bs) (hf : ∀ x ∈ bs, ∀ j, w.frozen? ⟨x, j, none⟩ = false) (hd : bs.Nodup) (hn : l.length = n) (hm : n ≤ 1048576) (hs : ∀ i (h : i < l.length), l[i].nodes.length ≤ 1048576 ∧ l[i].tags.length ≤ 1048576) (h0k : 0 < k) (hk : k ≤ 70368744177664) :
    Calls Tryz.prog 44 #[.slice a n c, .int .i64 k] w fun e w' => e = .returned (.int .i64 (stWay k l n : Nat)) ∧ Ways w' a (mkWays k l) bs ∧ (∀ x ∈ bs, ∀ j, w'.frozen? ⟨x, j, none⟩ = false) ∧ Onl bs w w' := by
  by_cases h0 : n = 0
  · subst h0
    obtain rfl : l = [] := List.length_eq_zero_iff.1 hn
    have HT : Hid (Ways w a (mkWays k []) bs) := hT
    clear hT
    go_enter Tryz.func44, Tryz.ntmps44
    go_wp2
    go_loopw [1, 5] (fun t i wr => t = .int .i64 k ∧ i = .int .i64 0 ∧ wr = w) (fun _ _ _ => 0)
    case atStart => exact ⟨rfl, rfl, rfl⟩
    case round =>
      obtain ⟨rfl, rfl, rfl⟩ := hrel
      go_wp2
      go_ret
      exact ⟨rfl, HT.out, hf, Onl.refl _ _⟩
  · rcases hT with ⟨rfl, _⟩ | ⟨b, off, f, rfl, hb, rfl, hx⟩
    · exact absurd hn.symm h0
    · have hfam : Fam 3 WayE w b off n (fun i => l.getD i ⟨0, [], []⟩) f := fun i hi => by
        show WayE w b (off + i * 3) (l.getD i ⟨0, [], []⟩) (f i)
        rw [getD_at ⟨0, [], []⟩ (show i < l.length by omega)]
        exact hx i (by omega)
      rw [hn] at hd hf ⊢
      obtain ⟨hdb, hdf⟩ := List.nodup_cons.1 hd
      have Hn : Hid (l.length = n) := hn
      have HS : Hid (∀ i (h : i < l.length), l[i].nodes.length ≤ 1048576 ∧ l[i].tags.length ≤ 1048576) := hs
      have HB : Hid (∀ j, j ≤ l.length → k ≤ stWay k l j ∧ stWay k l j ≤ k + j * 4194305) := stWay_bd hs
      have HDF : Hid ((List.range n).flatMap f).Nodup := hdf
      have HDB : Hid (∀ i, i < n → b ∉ f i) := fun i hi h => hdb (List.mem_flatMap.2 ⟨i, List.mem_range.2 hi, h⟩)
      clear hn hx hd hdb hdf hs
      go_enter Tryz.func44, Tryz.ntmps44
      go_wp2
      go_loopw [1, 5] (fun t i wr => ∃ j : Nat, j ≤ n ∧ i = .int .i64 j ∧ t = .int .i64 (stWay k l j : Nat) ∧ Fam 3 WayE wr b off n (upto j (fun i => mkWay (stWay k l i) (l.getD i ⟨0, [], []⟩)) (fun i => l.getD i ⟨0, [], []⟩)) f ∧ Hid (∀ x ∈ b :: (List.range n).flatMap f, ∀ o, wr.frozen? ⟨x, o, none⟩ = false) ∧ Onl (b :: (List.range n).flatMap f) w wr) (fun _ i _ => n - (intOf i).toNat)
      case atStart => exact ⟨0, Nat.zero_le _, rfl, rfl, by rw [upto_zero]; exact hfam, hf, Onl.refl _ _⟩
      case round =>
        obtain ⟨j, hj, rfl, rfl, hF, HFR, hO⟩ := hrel
        have hbr := Nat.lt_of_lt_of_le hb hO.size
        by_cases hlt : j < n
        · have hjl : j < l.length := by rw [Hn.out]; exact hlt
          have hj0 := hF j hlt
          have eD : upto j (fun i => mkWay (stWay k l i) (l.getD i ⟨0, [], []⟩)) (fun i => l.getD i ⟨0, [], []⟩) j = l.getD j ⟨0, [], []⟩ := by simp [upto]
          rw [eD] at hj0
          obtain ⟨dd, Hdd⟩ : ∃ dd, Hid (dd = l.getD j ⟨0, [], []⟩) := ⟨_, (rfl : l.getD j ⟨0, [], []⟩ = _)⟩
          rw [← Hdd.out] at hj0
          obtain ⟨_, c0, pa, pc, ta, tc, g1, g2, hg, ml1, ml2, c1, t1, c2, t2⟩ := hj0
          have htl : dd.nodes.length ≤ 1048576 ∧ dd.tags.length ≤ 1048576 := by rw [Hdd.out, getD_at _ hjl]; exact HS.out j hjl
          obtain ⟨htl1, htl2⟩ := htl
          have hbj := HDB.out j hlt
          have hnj := nd_one HDF.out hlt
          rw [hg] at hbj hnj
          obtain ⟨_, _, hdis⟩ := List.nodup_append.1 hnj
          have hb1 : b ∉ g1 := fun h => hbj (List.mem_append.2 (.inl h))
          have hb2 : b ∉ g2 := fun h => hbj (List.mem_append.2 (.inr h))
          have hd12 : ∀ x ∈ g1, x ∉ g2 := fun x hx hx' => hdis x hx x hx' rfl
          have hsub : ∀ x ∈ g1 ++ g2, x ∈ b :: (List.range n).flatMap f := fun x hx => List.mem_cons_of_mem _ (List.mem_flatMap.2 ⟨j, List.mem_range.2 hlt, by rw [hg]; exact hx⟩)
          obtain ⟨kk, HK⟩ : ∃ kk, Hid (stWay k l j = kk) := ⟨_, (rfl : stWay k l j = _)⟩
          have hkk := HB.out j (by rw [Hn.out]; exact hj)
          rw [HK.out] at hkk ⊢
          have HNX : Hid (stWay k l (j + 1) = kk + 1 + dd.nodes.length + 2 * dd.tags.length) := by
            show stWay k l j + (1 + (l.getD j ⟨0, [], []⟩).nodes.length + 2 * (l.getD j ⟨0, [], []⟩).tags.length) = _
            rw [HK.out, Hdd.out]; omega
          have f0 := HFR.out b (by simp) (off + j * 3)
          have hlt' : (j : Int) < (n : Int) := by omega
          have hk1 : 0 < kk := by omega
          have hk2 : kk ≤ 1125899900000000 := by omega
          obtain ⟨S3, HS3⟩ : ∃ S3, Hid (S3 = wr.setCell ⟨b, off + j * 3, none⟩ (.int .i64 (kk : Int))) := ⟨_, (rfl : wr.setCell ⟨b, off + j * 3, none⟩ (.int .i64 (kk : Int)) = _)⟩
          have hSz : S3.heap.size = wr.heap.size := by rw [HS3.out]; simp [World.setCell]
          have hSf : ∀ x o, S3.frozen? ⟨x, o, none⟩ = wr.frozen? ⟨x, o, none⟩ := fun x o => by rw [HS3.out, World.frozen?_setCell]
          have hSo : ∀ o, o ≠ off + j * 3 → S3.cell? ⟨b, o, none⟩ = wr.cell? ⟨b, o, none⟩ := fun o ho => by rw [HS3.out]; exact World.cell?_setCell_other _ _ _ _ (fun e => ho (congrArg Addr.off e).symm)
          have i0 : S3.cell? ⟨b, off + j * 3, none⟩ = some (.int .i64 (kk : Int)) := by rw [HS3.out]; exact World.cell?_setCell_same _ _ _ c0
          have i1 : S3.cell? ⟨b, off + j * 3 + 1, none⟩ = some (.slice pa dd.nodes.length pc) := by rw [hSo _ (by omega)]; exact c1
          have i2 : S3.cell? ⟨b, off + j * 3 + 2, none⟩ = some (.slice ta dd.tags.length tc) := by rw [hSo _ (by omega)]; exact c2
          have hSO : Onl (b :: (List.range n).flatMap f) wr S3 := by rw [HS3.out]; exact (Onl.refl _ _).set (b := b) (by simp) _ _
          have hSa : ∀ cs : List Nat, (∀ x ∈ cs, x < wr.heap.size) → b ∉ cs → Alike wr S3 cs := fun cs h1 h2 => by rw [HS3.out]; exact setRow_alike [.int .i64 (kk : Int)] (o := off + j * 3) h1 h2
          have T31 := t1.alike intE (hSa _ (t1.lt intE) hb1)
          have T32 := t2.alike tagE (hSa _ (t2.lt tagE) hb2)
          have F31 : ∀ x ∈ g1, ∀ o, S3.frozen? ⟨x, o, none⟩ = false := fun x hx o => by rw [hSf]; exact HFR.out x (hsub x (List.mem_append.2 (.inl hx))) o
          have F32 : ∀ x ∈ g2, ∀ o, S3.frozen? ⟨x, o, none⟩ = false := fun x hx o => by rw [hSf]; exact HFR.out x (hsub x (List.mem_append.2 (.inr hx))) o
          have HKN : Hid ((kk : Int) + 1 = ((kk + 1 : Nat) : Int)) := (by omega : (kk : Int) + 1 = ((kk + 1 : Nat) : Int))
          have hload : (wr.setCell ⟨b, off + j * 3, none⟩ (.int .i64 (kk : Int))).cell? ⟨b, off + j * 3 + 1, none⟩ = some (.slice pa dd.nodes.length pc) := by rw [← HS3.out]; exact i1
          have hFl : ∀ i, i < n → ∀ x ∈ f i, x < wr.heap.size := fun i hi => wayE.lt (hF i hi)
          have HFam : Hid (Fam 3 WayE wr b off n (upto j (fun i => mkWay (stWay k l i) (l.getD i ⟨0, [], []⟩)) (fun i => l.getD i ⟨0, [], []⟩)) f) := hF
          clear hF t1 t2
          go_wp2_with fail
          rw [HKN.out, ← HS3.out]
          refine (markInt64S_any pa _ pc dd.nodes g1 (kk + 1) _ T31 F31 rfl htl1 (by omega)).mono ?_
          rintro e w4 ⟨rfl, T4, F4, O4⟩
          have hbS : b < S3.heap.size := by rw [hSz]; exact hbr
          have hc4 : ∀ o, w4.cell? ⟨b, o, none⟩ = S3.cell? ⟨b, o, none⟩ := fun o => O4.cell hbS hb1
          have j2 : w4.cell? ⟨b, off + j * 3 + 2, none⟩ = some (.slice ta dd.tags.length tc) := by rw [hc4]; exact i2
          have hl2 : ∀ x ∈ g2, x < S3.heap.size := T32.lt tagE
          have hd21 : ∀ x ∈ g2, x ∉ g1 := fun x hx hx' => hd12 x hx' hx
          have T42 := T32.alike tagE (O4.alike hl2 hd21)
          have F42 : ∀ x ∈ g2, ∀ o, w4.frozen? ⟨x, o, none⟩ = false := fun x hx o => by rw [O4.frozen (hl2 x hx) (hd21 x hx)]; exact F32 x hx o
          clear hload
          go_wp2_with fail
          refine (markTagS_any ta _ tc dd.tags g2 (kk + 1 + dd.nodes.length) _ T42 F42 rfl htl2 (by omega) (by omega)).mono ?_
          rintro e w5 ⟨rfl, T5, F5, O5⟩
          have hb4 : b < w4.heap.size := Nat.lt_of_lt_of_le hbS O4.size
          have hc5 : ∀ o, w5.cell? ⟨b, o, none⟩ = S3.cell? ⟨b, o, none⟩ := fun o => by rw [O5.cell hb4 hb2, hc4]
          have hl1 : ∀ x ∈ g1, x < w4.heap.size := T4.lt intE
          have T51 := T4.alike intE (O5.alike hl1 hd12)
          have hne : ∀ i, i < n → i ≠ j → ∀ x ∈ f i, x ∉ g1 ∧ x ∉ g2 := fun i hi hne x hx => by
            have := nd_ne HDF.out hi hlt hne x hx
            rw [hg] at this
            exact ⟨fun h => this (List.mem_append.2 (.inl h)), fun h => this (List.mem_append.2 (.inr h))⟩
          have HF5 : Hid (Fam 3 WayE w5 b off n (upto (j + 1) (fun i => mkWay (stWay k l i) (l.getD i ⟨0, [], []⟩)) (fun i => l.getD i ⟨0, [], []⟩)) f) := by
            have := Fam.step wayE HFam.out (w' := w5) (j := j) (mkWay kk dd) (fun o ho => by rw [hc5]; exact hSo o (by omega))
              (fun i hi hij => ((hSa _ (hFl i hi) (HDB.out i hi)).trans (O4.alike (fun x hx => by rw [hSz]; exact hFl i hi x hx) (fun x hx => (hne i hi hij x hx).1))).trans
                (O5.alike (fun x hx => Nat.lt_of_lt_of_le (by rw [hSz]; exact hFl i hi x hx) O4.size) (fun x hx => (hne i hi hij x hx).2)))
              ⟨⟨by show _ ≤ (kk : Int); omega, by show (kk : Int) ≤ _; omega⟩, by rw [hc5]; exact i0, pa, pc, ta, tc, g1, g2, hg, by show (mkInts (kk + 1) dd.nodes).length ≤ _; rw [mkInts_len]; exact ml1, by show (mkTags (kk + 1 + dd.nodes.length) dd.tags).length ≤ _; rw [mkTags_len]; exact ml2,
                by show _ = some (Value.slice pa (mkInts (kk + 1) dd.nodes).length pc); rw [hc5, mkInts_len]; exact i1, T51,
                by show _ = some (Value.slice ta (mkTags (kk + 1 + dd.nodes.length) dd.tags).length tc); rw [hc5, mkTags_len]; exact i2, T5⟩
            rw [show mkWay kk dd = (fun i => mkWay (stWay k l i) (l.getD i ⟨0, [], []⟩)) j by rw [Hdd.out, ← HK.out], upto_step j (fun i => mkWay (stWay k l i) (l.getD i ⟨0, [], []⟩)) (fun i => l.getD i ⟨0, [], []⟩)] at this
            exact this
          have hO5 : Onl (b :: (List.range n).flatMap f) w w5 := ((hO.trans hSO).trans (O4.mono (fun x hx => hsub x (List.mem_append.2 (.inl hx))))).trans (O5.mono (fun x hx => hsub x (List.mem_append.2 (.inr hx))))
          have HR5 : Hid (∀ x ∈ b :: (List.range n).flatMap f, ∀ o, w5.frozen? ⟨x, o, none⟩ = false) := fun x hx o => by
            have hxs : x < S3.heap.size := by
              rw [hSz]
              rcases List.mem_cons.1 hx with rfl | hx
              · exact hbr
              · obtain ⟨i, hi, hx⟩ := List.mem_flatMap.1 hx
                exact hFl i (List.mem_range.1 hi) x hx
            by_cases h2 : x ∈ g2
            · exact F5 x h2 o
            · rw [O5.frozen (Nat.lt_of_lt_of_le hxs O4.size) h2]
              by_cases h1 : x ∈ g1
              · exact F4 x h1 o
              · rw [O4.frozen hxs h1, hSf]
                exact HFR.out x hx o
          clear hO hSO O4 O5 F4 F5 T4 T5 T31 T32 T42 T51 F31 F32 F42 hc4 hc5 hSa hSo hSf i0 i1 i2 j2 HFam hFl f0 c0 c1 c2
          go_wp2
          go_roundw
          case rel => exact ⟨j + 1, by omega, by go_num, by rw [HNX.out]; go_num, HF5.out, HR5, hO5⟩
          case measure => simp [intOf]; omega
        · have e : n = j := by omega
          subst e
          have HT : Hid (Ways wr (some ⟨b, off, none⟩) (mkWays k l) (b :: (List.range n).flatMap f)) :=
            Sl.fam hF (Nat.lt_of_lt_of_le hb hO.size) (by rw [mkWays_len]; exact Hn.out) (fun i hi => by
              rw [mkWays_len, Hn.out] at hi
              simp [upto, mkWays, hi])
          clear hF
          go_wp2
          go_ret
          exact ⟨rfl, HT.out, HFR.out, hO⟩

/-- With which number the marks of element i begin. -/
def stArea (k : Nat) (l : List AreaD) : Nat → Nat
  | 0 => k
  | i + 1 => stArea k l i + (1 + 2 * (l.getD i ⟨0, [], []⟩).parts.length + 2 * (l.getD i ⟨0, [], []⟩).tags.length)
def mkAreas (k : Nat) (l : List AreaD) : List AreaD := (List.range l.length).map fun i => mkArea (stArea k l i) (l.getD i ⟨0, [], []⟩)
theorem mkAreas_len (k : Nat) (l : List AreaD) : (mkAreas k l).length = l.length := by simp [mkAreas]
theorem stArea_bd {k : Nat} {l : List AreaD} (hs : ∀ i (h : i < l.length), l[i].parts.length ≤ 1048576 ∧ l[i].tags.length ≤ 1048576) : ∀ j, j ≤ l.length → k ≤ stArea k l j ∧ stArea k l j ≤ k + j * 4194305
  | 0, _ => by simp [stArea]
  | j + 1, hj => by
    have h1 := stArea_bd (k := k) hs j (by omega)
    have h2 := hs j (by omega)
    simp only [stArea, getD_at ⟨0, [], []⟩ (show j < l.length by omega)]
    omega

set_option maxRecDepth 100000 in
set_option maxHeartbeats 2000000 in
theorem markAreaS_any (a : Option Addr) (n c : Nat) (l : List AreaD) (bs : List Nat) (k : Nat) (w : World) (hT : Areas w a l bs) (hf : ∀ x ∈ bs, ∀ j, w.frozen? ⟨x, j, none⟩ = false) (hd : bs.Nodup) (hn : l.length = n) (hm : n ≤ 1048576) (hs : ∀ i (h : i < l.length), l[i].parts.length ≤ 1048576 ∧ l[i].tags.length ≤ 1048576) (h0k : 0 < k) (hk : k ≤ 70368744177664) :
    Calls Tryz.prog 45 #[.slice a n c, .int .i64 k] w fun e w' => e = .returned (.int .i64 (stArea k l n : Nat)) ∧ Areas w' a (mkAreas k l) bs ∧ (∀ x ∈ bs, ∀ j, w'.frozen? ⟨x, j, none⟩ = false) ∧ Onl bs w w' := by
  by_cases h0 : n = 0
  · subst h0
    obtain rfl : l = [] := List.length_eq_zero_iff.1 hn
    have HT : Hid (Areas w a (mkAreas k []) bs) := hT
    clear hT
    go_enter Tryz.func45, Tryz.ntmps45
    go_wp2
    go_loopw [1, 5] (fun t i wr => t = .int .i64 k ∧ i = .int .i64 0 ∧ wr = w) (fun _ _ _ => 0)
    case atStart => exact ⟨rfl, rfl, rfl⟩
    case round =>
      obtain ⟨rfl, rfl, rfl⟩ := hrel
      go_wp2
      go_ret
      exact ⟨rfl, HT.out, hf, Onl.refl _ _⟩
  · rcases hT with ⟨rfl, _⟩ | ⟨b, off, f, rfl, hb, rfl, hx⟩
    · exact absurd hn.symm h0
    · have hfam : Fam 3 AreaE w b off n (fun i => l.getD i ⟨0, [], []⟩) f := fun i hi => by
        show AreaE w b (off + i * 3) (l.getD i ⟨0, [], []⟩) (f i)
        rw [getD_at ⟨0, [], []⟩ (show i < l.length by omega)]
        exact hx i (by omega)
      rw [hn] at hd hf ⊢
      obtain ⟨hdb, hdf⟩ := List.nodup_cons.1 hd
      have Hn : Hid (l.length = n) := hn
      have HS : Hid (∀ i (h : i < l.length), l[i].parts.length ≤ 1048576 ∧ l[i].tags.length ≤ 1048576) := hs
      have HB : Hid (∀ j, j ≤ l.length → k ≤ stArea k l j ∧ stArea k l j ≤ k + j * 4194305) := stArea_bd hs
      have HDF : Hid ((List.range n).flatMap f).Nodup := hdf
      have HDB : Hid (∀ i, i < n → b ∉ f i) := fun i hi h => hdb (List.mem_flatMap.2 ⟨i, List.mem_range.2 hi, h⟩)
      clear hn hx hd hdb hdf hs
      go_enter Tryz.func45, Tryz.ntmps45
      go_wp2
      go_loopw [1, 5] (fun t i wr => ∃ j : Nat, j ≤ n ∧ i = .int .i64 j ∧ t = .int .i64 (stArea k l j : Nat) ∧ Fam 3 AreaE wr b off n (upto j (fun i => mkArea (stArea k l i) (l.getD i ⟨0, [], []⟩)) (fun i => l.getD i ⟨0, [], []⟩)) f ∧ Hid (∀ x ∈ b :: (List.range n).flatMap f, ∀ o, wr.frozen? ⟨x, o, none⟩ = false) ∧ Onl (b :: (List.range n).flatMap f) w wr) (fun _ i _ => n - (intOf i).toNat)
      case atStart => exact ⟨0, Nat.zero_le _, rfl, rfl, by rw [upto_zero]; exact hfam, hf, Onl.refl _ _⟩
      case round =>
        obtain ⟨j, hj, rfl, rfl, hF, HFR, hO⟩ := hrel
        have hbr := Nat.lt_of_lt_of_le hb hO.size
        by_cases hlt : j < n
        · have hjl : j < l.length := by rw [Hn.out]; exact hlt
          have hj0 := hF j hlt
          have eD : upto j (fun i => mkArea (stArea k l i) (l.getD i ⟨0, [], []⟩)) (fun i => l.getD i ⟨0, [], []⟩) j = l.getD j ⟨0, [], []⟩ := by simp [upto]
          rw [eD] at hj0
          obtain ⟨dd, Hdd⟩ : ∃ dd, Hid (dd = l.getD j ⟨0, [], []⟩) := ⟨_, (rfl : l.getD j ⟨0, [], []⟩ = _)⟩
          rw [← Hdd.out] at hj0
          obtain ⟨_, c0, pa, pc, ta, tc, g1, g2, hg, ml1, ml2, c1, t1, c2, t2⟩ := hj0
          have htl : dd.parts.length ≤ 1048576 ∧ dd.tags.length ≤ 1048576 := by rw [Hdd.out, getD_at _ hjl]; exact HS.out j hjl
          obtain ⟨htl1, htl2⟩ := htl
          have hbj := HDB.out j hlt
          have hnj := nd_one HDF.out hlt
          rw [hg] at hbj hnj
          obtain ⟨_, _, hdis⟩ := List.nodup_append.1 hnj
          have hb1 : b ∉ g1 := fun h => hbj (List.mem_append.2 (.inl h))
          have hb2 : b ∉ g2 := fun h => hbj (List.mem_append.2 (.inr h))
          have hd12 : ∀ x ∈ g1, x ∉ g2 := fun x hx hx' => hdis x hx x hx' rfl
          have hsub : ∀ x ∈ g1 ++ g2, x ∈ b :: (List.range n).flatMap f := fun x hx => List.mem_cons_of_mem _ (List.mem_flatMap.2 ⟨j, List.mem_range.2 hlt, by rw [hg]; exact hx⟩)
          obtain ⟨kk, HK⟩ : ∃ kk, Hid (stArea k l j = kk) := ⟨_, (rfl : stArea k l j = _)⟩
          have hkk := HB.out j (by rw [Hn.out]; exact hj)
          rw [HK.out] at hkk ⊢
          have HNX : Hid (stArea k l (j + 1) = kk + 1 + 2 * dd.parts.length + 2 * dd.tags.length) := by
            show stArea k l j + (1 + 2 * (l.getD j ⟨0, [], []⟩).parts.length + 2 * (l.getD j ⟨0, [], []⟩).tags.length) = _
            rw [HK.out, Hdd.out]; omega
          have f0 := HFR.out b (by simp) (off + j * 3)
          have hlt' : (j : Int) < (n : Int) := by omega
          have hk1 : 0 < kk := by omega
          have hk2 : kk ≤ 1125899900000000 := by omega
          obtain ⟨S3, HS3⟩ : ∃ S3, Hid (S3 = wr.setCell ⟨b, off + j * 3, none⟩ (.int .i64 (kk : Int))) := ⟨_, (rfl : wr.setCell ⟨b, off + j * 3, none⟩ (.int .i64 (kk : Int)) = _)⟩
          have hSz : S3.heap.size = wr.heap.size := by rw [HS3.out]; simp [World.setCell]
          have hSf : ∀ x o, S3.frozen? ⟨x, o, none⟩ = wr.frozen? ⟨x, o, none⟩ := fun x o => by rw [HS3.out, World.frozen?_setCell]
          have hSo : ∀ o, o ≠ off + j * 3 → S3.cell? ⟨b, o, none⟩ = wr.cell? ⟨b, o, none⟩ := fun o ho => by rw [HS3.out]; exact World.cell?_setCell_other _ _ _ _ (fun e => ho (congrArg Addr.off e).symm)
          have i0 : S3.cell? ⟨b, off + j * 3, none⟩ = some (.int .i64 (kk : Int)) := by rw [HS3.out]; exact World.cell?_setCell_same _ _ _ c0
          have i1 : S3.cell? ⟨b, off + j * 3 + 1, none⟩ = some (.slice pa dd.parts.length pc) := by rw [hSo _ (by omega)]; exact c1
          have i2 : S3.cell? ⟨b, off + j * 3 + 2, none⟩ = some (.slice ta dd.tags.length tc) := by rw [hSo _ (by omega)]; exact c2
          have hSO : Onl (b :: (List.range n).flatMap f) wr S3 := by rw [HS3.out]; exact (Onl.refl _ _).set (b := b) (by simp) _ _
          have hSa : ∀ cs : List Nat, (∀ x ∈ cs, x < wr.heap.size) → b ∉ cs → Alike wr S3 cs := fun cs h1 h2 => by rw [HS3.out]; exact setRow_alike [.int .i64 (kk : Int)] (o := off + j * 3) h1 h2
          have T31 := t1.alike partE (hSa _ (t1.lt partE) hb1)
          have T32 := t2.alike tagE (hSa _ (t2.lt tagE) hb2)
          have F31 : ∀ x ∈ g1, ∀ o, S3.frozen? ⟨x, o, none⟩ = false := fun x hx o => by rw [hSf]; exact HFR.out x (hsub x (List.mem_append.2 (.inl hx))) o
          have F32 : ∀ x ∈ g2, ∀ o, S3.frozen? ⟨x, o, none⟩ = false := fun x hx o => by rw [hSf]; exact HFR.out x (hsub x (List.mem_append.2 (.inr hx))) o
          have HKN : Hid ((kk : Int) + 1 = ((kk + 1 : Nat) : Int)) := (by omega : (kk : Int) + 1 = ((kk + 1 : Nat) : Int))
          have hload : (wr.setCell ⟨b, off + j * 3, none⟩ (.int .i64 (kk : Int))).cell? ⟨b, off + j * 3 + 1, none⟩ = some (.slice pa dd.parts.length pc) := by rw [← HS3.out]; exact i1
          have hFl : ∀ i, i < n → ∀ x ∈ f i, x < wr.heap.size := fun i hi => areaE.lt (hF i hi)
          have HFam : Hid (Fam 3 AreaE wr b off n (upto j (fun i => mkArea (stArea k l i) (l.getD i ⟨0, [], []⟩)) (fun i => l.getD i ⟨0, [], []⟩)) f) := hF
          clear hF t1 t2
          go_wp2_with fail
          rw [HKN.out, ← HS3.out]
          refine (markPartS_any pa _ pc dd.parts g1 (kk + 1) _ T31 F31 rfl htl1 (by omega) (by omega)).mono ?_
          rintro e w4 ⟨rfl, T4, F4, O4⟩
          have hbS : b < S3.heap.size := by rw [hSz]; exact hbr
          have hc4 : ∀ o, w4.cell? ⟨b, o, none⟩ = S3.cell? ⟨b, o, none⟩ := fun o => O4.cell hbS hb1
          have j2 : w4.cell? ⟨b, off + j * 3 + 2, none⟩ = some (.slice ta dd.tags.length tc) := by rw [hc4]; exact i2
          have hl2 : ∀ x ∈ g2, x < S3.heap.size := T32.lt tagE
          have hd21 : ∀ x ∈ g2, x ∉ g1 := fun x hx hx' => hd12 x hx' hx
          have T42 := T32.alike tagE (O4.alike hl2 hd21)
          have F42 : ∀ x ∈ g2, ∀ o, w4.frozen? ⟨x, o, none⟩ = false := fun x hx o => by rw [O4.frozen (hl2 x hx) (hd21 x hx)]; exact F32 x hx o
          clear hload
          go_wp2_with fail
          refine (markTagS_any ta _ tc dd.tags g2 (kk + 1 + 2 * dd.parts.length) _ T42 F42 rfl htl2 (by omega) (by omega)).mono ?_
          rintro e w5 ⟨rfl, T5, F5, O5⟩
          have hb4 : b < w4.heap.size := Nat.lt_of_lt_of_le hbS O4.size
          have hc5 : ∀ o, w5.cell? ⟨b, o, none⟩ = S3.cell? ⟨b, o, none⟩ := fun o => by rw [O5.cell hb4 hb2, hc4]
          have hl1 : ∀ x ∈ g1, x < w4.heap.size := T4.lt partE
          have T51 := T4.alike partE (O5.alike hl1 hd12)
          have hne : ∀ i, i < n → i ≠ j → ∀ x ∈ f i, x ∉ g1 ∧ x ∉ g2 := fun i hi hne x hx => by
            have := nd_ne HDF.out hi hlt hne x hx
            rw [hg] at this
            exact ⟨fun h => this (List.mem_append.2 (.inl h)), fun h => this (List.mem_append.2 (.inr h))⟩
          have HF5 : Hid (Fam 3 AreaE w5 b off n (upto (j + 1) (fun i => mkArea (stArea k l i) (l.getD i ⟨0, [], []⟩)) (fun i => l.getD i ⟨0, [], []⟩)) f) := by
            have := Fam.step areaE HFam.out (w' := w5) (j := j) (mkArea kk dd) (fun o ho => by rw [hc5]; exact hSo o (by omega))
              (fun i hi hij => ((hSa _ (hFl i hi) (HDB.out i hi)).trans (O4.alike (fun x hx => by rw [hSz]; exact hFl i hi x hx) (fun x hx => (hne i hi hij x hx).1))).trans
                (O5.alike (fun x hx => Nat.lt_of_lt_of_le (by rw [hSz]; exact hFl i hi x hx) O4.size) (fun x hx => (hne i hi hij x hx).2)))
              ⟨⟨by show _ ≤ (kk : Int); omega, by show (kk : Int) ≤ _; omega⟩, by rw [hc5]; exact i0, pa, pc, ta, tc, g1, g2, hg, by show (mkParts (kk + 1) dd.parts).length ≤ _; rw [mkParts_len]; exact ml1, by show (mkTags (kk + 1 + 2 * dd.parts.length) dd.tags).length ≤ _; rw [mkTags_len]; exact ml2,
                by show _ = some (Value.slice pa (mkParts (kk + 1) dd.parts).length pc); rw [hc5, mkParts_len]; exact i1, T51,
                by show _ = some (Value.slice ta (mkTags (kk + 1 + 2 * dd.parts.length) dd.tags).length tc); rw [hc5, mkTags_len]; exact i2, T5⟩
            rw [show mkArea kk dd = (fun i => mkArea (stArea k l i) (l.getD i ⟨0, [], []⟩)) j by rw [Hdd.out, ← HK.out], upto_step j (fun i => mkArea (stArea k l i) (l.getD i ⟨0, [], []⟩)) (fun i => l.getD i ⟨0, [], []⟩)] at this
            exact this
          have hO5 : Onl (b :: (List.range n).flatMap f) w w5 := ((hO.trans hSO).trans (O4.mono (fun x hx => hsub x (List.mem_append.2 (.inl hx))))).trans (O5.mono (fun x hx => hsub x (List.mem_append.2 (.inr hx))))
          have HR5 : Hid (∀ x ∈ b :: (List.range n).flatMap f, ∀ o, w5.frozen? ⟨x, o, none⟩ = false) := fun x hx o => by
            have hxs : x < S3.heap.size := by
              rw [hSz]
              rcases List.mem_cons.1 hx with rfl | hx
              · exact hbr
              · obtain ⟨i, hi, hx⟩ := List.mem_flatMap.1 hx
                exact hFl i (List.mem_range.1 hi) x hx
            by_cases h2 : x ∈ g2
            · exact F5 x h2 o
            · rw [O5.frozen (Nat.lt_of_lt_of_le hxs O4.size) h2]
              by_cases h1 : x ∈ g1
              · exact F4 x h1 o
              · rw [O4.frozen hxs h1, hSf]
                exact HFR.out x hx o
          clear hO hSO O4 O5 F4 F5 T4 T5 T31 T32 T42 T51 F31 F32 F42 hc4 hc5 hSa hSo hSf i0 i1 i2 j2 HFam hFl f0 c0 c1 c2
          go_wp2
          go_roundw
          case rel => exact ⟨j + 1, by omega, by go_num, by rw [HNX.out]; go_num, HF5.out, HR5, hO5⟩
          case measure => simp [intOf]; omega
        · have e : n = j := by omega
          subst e
          have HT : Hid (Areas wr (some ⟨b, off, none⟩) (mkAreas k l) (b :: (List.range n).flatMap f)) :=
            Sl.fam hF (Nat.lt_of_lt_of_le hb hO.size) (by rw [mkAreas_len]; exact Hn.out) (fun i hi => by
              rw [mkAreas_len, Hn.out] at hi
              simp [upto, mkAreas, hi])
          clear hF
          go_wp2
          go_ret
          exact ⟨rfl, HT.out, HFR.out, hO⟩

end Go.Proofs.YtmmapkpieimibaaGreat
