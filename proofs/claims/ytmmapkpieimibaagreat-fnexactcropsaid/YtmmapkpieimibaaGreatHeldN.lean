/-
  Tags, Parts, nodes, ways, areas and maps, their marks held: contracts.
-/
import Derived.Test.YtmmapkpieimibaaGreatMarkM
import Derived.Test.YtmmapkpieimibaaGreatHeldI
import Derived.Deep.RegionHeld3
namespace Go.Proofs.YtmmapkpieimibaaGreat
open Go.RowKit Go.Maps

set_option maxRecDepth 100000 in
set_option maxHeartbeats 2000000 in
theorem heldTagS_any (a : Option Addr) (n c : Nat) (l : List TagD) (bs : List Nat) (k : Nat) (w : World) (hT : Tags w a (mkTags k l) bs) (hn : l.length = n) (hm : n ≤ 1048576) (h0k : 0 < k) (hk : k ≤ 1125899906842624) :
    Calls Tryz.prog 67 #[.slice a n c, .int .i64 k] w fun e w' => e = .returned (.int .i64 ((k + 2 * n : Nat) : Int)) ∧ Bel w w' := by
  have Hn : Hid (l.length = n) := hn
  clear hn
  go_enter Tryz.func67, Tryz.ntmps67
  go_wp2
  go_loopw [1, 5] (fun t i wr => ∃ j : Nat, j ≤ n ∧ i = .int .i64 j ∧ t = .int .i64 ((k + 2 * j : Nat) : Int) ∧ Bel w wr) (fun _ i _ => n - (intOf i).toNat)
  case atStart => exact ⟨0, Nat.zero_le _, rfl, by simp, Bel.refl _⟩
  case round =>
    obtain ⟨j, hj, rfl, rfl, hbel⟩ := hrel
    by_cases hlt : j < n
    · have hjl : j < (mkTags k l).length := by rw [mkTags_len, Hn.out]; exact hlt
      obtain ⟨b, off, f, rfl, hb, hx⟩ := (hT.bel tagE hbel).out hjl
      have hj0 := hx j hjl
      rw [show (mkTags k l)[j] = mkTag (k + 2 * j) by simp [mkTags]] at hj0
      obtain ⟨_, _, _, e0, e1⟩ := hj0
      obtain ⟨kk, hkk⟩ : ∃ kk, k + 2 * j = kk := ⟨_, rfl⟩
      have HK : Hid (k + 2 * (j + 1) = kk + 2) := (by omega : k + 2 * (j + 1) = kk + 2)
      rw [hkk] at e0 e1 ⊢
      have hk1 : 0 < kk := by omega
      have hk2 : kk ≤ 1125902004000000 := by omega
      clear hkk
      obtain ⟨s, Hs⟩ : ∃ s, Hid (mT kk = s) := ⟨_, (rfl : mT kk = _)⟩
      obtain ⟨t, Ht⟩ : ∃ s, Hid (mT (kk + 1) = s) := ⟨_, (rfl : mT (kk + 1) = _)⟩
      have c0 : wr.cell? ⟨b, off + j * 2, none⟩ = some (.string s) := by rw [← Hs.out]; exact e0
      have c1 : wr.cell? ⟨b, off + j * 2 + 1, none⟩ = some (.string t) := by rw [← Ht.out]; exact e1
      have hlt' : (j : Int) < (n : Int) := by omega
      have hR : ∀ w', Bel wr w' → w'.cell? ⟨b, off + j * 2, none⟩ = some (.string s) ∧ w'.cell? ⟨b, off + j * 2 + 1, none⟩ = some (.string t) := fun w' h => ⟨bel_cellM h hb c0, bel_cellM h hb c1⟩
      have HKN : Hid ((kk : Int) + 1 = ((kk + 1 : Nat) : Int)) := (by omega : (kk : Int) + 1 = ((kk + 1 : Nat) : Int))
      have g0 : Bel wr wr := Bel.refl _
      clear hx hT c0 c1 e0 e1 hb
      go_wp2
      go_region_held3 (fun w' => Bel wr w') (with_reducible (repeat (first | assumption | exact g0 | refine Bel.drew ?_ | refine bel_then (by assumption) ?_)))
        (first
          | (go_at_call 99; refine (markText_any kk _ hk1 (by omega)).mono ?_; rintro e w1 ⟨rfl, hb1⟩; rw [Hs.out]))
      have h1 : Bel wr w1 := by assumption
      clear hb1
      go_wp2
      go_region_held3 (fun w' => Bel wr w') (with_reducible (repeat (first | assumption | exact g0 | refine Bel.drew ?_ | refine bel_then (by assumption) ?_)))
        (first
          | (go_at_call 99; rw [HKN.out]; refine (markText_any (kk + 1) _ (by omega) (by omega)).mono ?_; rintro e w2 ⟨rfl, hb2⟩; rw [Ht.out]))
      have h2 : Bel wr w2 := by assumption
      clear hb2
      go_wp2
      go_roundw
      case rel => exact ⟨j + 1, by omega, by go_num, by rw [HK.out]; go_num, bel_step hbel h2⟩
      case measure => simp [intOf]; omega
    · have e : n = j := by omega
      subst e
      clear hT
      go_wp2
      go_ret
      exact ⟨rfl, hbel⟩

set_option maxRecDepth 100000 in
set_option maxHeartbeats 2000000 in
theorem heldPartS_any (a : Option Addr) (n c : Nat) (l : List PartD) (bs : List Nat) (k : Nat) (w : World) (hT : Parts w a (mkParts k l) bs) (hn : l.length = n) (hm : n ≤ 1048576) (hk : k ≤ 1125899906842624) :
    Calls Tryz.prog 69 #[.slice a n c, .int .i64 k] w fun e w' => e = .returned (.int .i64 ((k + 2 * n : Nat) : Int)) ∧ w' = w := by
  have Hn : Hid (l.length = n) := hn
  clear hn
  go_enter Tryz.func69, Tryz.ntmps69
  go_wp2
  go_loopw [1, 5] (fun t i wr => ∃ j : Nat, j ≤ n ∧ i = .int .i64 j ∧ t = .int .i64 ((k + 2 * j : Nat) : Int) ∧ wr = w) (fun _ i _ => n - (intOf i).toNat)
  case atStart => exact ⟨0, Nat.zero_le _, rfl, by simp, rfl⟩
  case round =>
    obtain ⟨j, hj, rfl, rfl, rfl⟩ := hrel
    by_cases hlt : j < n
    · have hjl : j < (mkParts k l).length := by rw [mkParts_len, Hn.out]; exact hlt
      obtain ⟨b, off, f, rfl, hb, hx⟩ := hT.out hjl
      have hj0 := hx j hjl
      rw [show (mkParts k l)[j] = mkPart (k + 2 * j) by simp [mkParts]] at hj0
      obtain ⟨_, _, e0, e1⟩ := hj0
      obtain ⟨kk, hkk⟩ : ∃ kk, k + 2 * j = kk := ⟨_, rfl⟩
      have HK : Hid (k + 2 * (j + 1) = kk + 2) := (by omega : k + 2 * (j + 1) = kk + 2)
      rw [hkk] at e0 e1 ⊢
      have hk2 : kk ≤ 1125902004000000 := by omega
      clear hkk
      have c0 : wr.cell? ⟨b, off + j * 2, none⟩ = some (.int .i64 (kk : Int)) := e0
      have c1 : wr.cell? ⟨b, off + j * 2 + 1, none⟩ = some (.bool (((kk : Int) + 1) % 3 == 0)) := e1
      have hlt' : (j : Int) < (n : Int) := by omega
      clear hx hT e0 e1
      go_wp2
      go_roundw
      case rel => exact ⟨j + 1, by omega, by go_num, by rw [HK.out]; go_num, trivial⟩
      case measure => simp [intOf]; omega
    · have e : n = j := by omega
      subst e
      clear hT
      go_wp2
      go_ret
      exact ⟨rfl, rfl⟩

set_option maxRecDepth 100000 in
set_option maxHeartbeats 2000000 in
theorem heldNodeS_any (a : Option Addr) (n c : Nat) (l : List NodeD) (bs : List Nat) (k : Nat) (w : World) (hT : Nodes w a (mkNodes k l) bs) (hn : l.length = n) (hm : n ≤ 1048576) (hs : ∀ i (h : i < l.length), l[i].tags.length ≤ 1048576) (h0k : 0 < k) (hk : k ≤ 70368744177664) :
    Calls Tryz.prog 46 #[.slice a n c, .int .i64 k] w fun e w' => e = .returned (.int .i64 (stNode k l n : Nat)) ∧ Bel w w' := by
  have Hn : Hid (l.length = n) := hn
  have HS : Hid (∀ i (h : i < l.length), l[i].tags.length ≤ 1048576) := hs
  have HB : Hid (∀ j, j ≤ l.length → k ≤ stNode k l j ∧ stNode k l j ≤ k + j * 2097155) := stNode_bd hs
  clear hn hs
  go_enter Tryz.func46, Tryz.ntmps46
  go_wp2
  go_loopw [1, 5] (fun t i wr => ∃ j : Nat, j ≤ n ∧ i = .int .i64 j ∧ t = .int .i64 (stNode k l j : Nat) ∧ Bel w wr) (fun _ i _ => n - (intOf i).toNat)
  case atStart => exact ⟨0, Nat.zero_le _, rfl, rfl, Bel.refl _⟩
  case round =>
    obtain ⟨j, hj, rfl, rfl, hbel⟩ := hrel
    by_cases hlt : j < n
    · have hjl : j < (mkNodes k l).length := by rw [mkNodes_len, Hn.out]; exact hlt
      have hjd : j < l.length := by rw [Hn.out]; exact hlt
      obtain ⟨b, off, f, rfl, hb, hx⟩ := (hT.bel nodeE hbel).out hjl
      have hj0 := hx j hjl
      rw [show (mkNodes k l)[j] = mkNode (stNode k l j) l[j] by simp [mkNodes, hjd]] at hj0
      have htl := HS.out j hjd
      have hkk := HB.out j (by rw [Hn.out]; exact hj)
      have HNX : Hid (stNode k l (j + 1) = stNode k l j + 3 + 2 * l[j].tags.length) := by
        show stNode k l j + (3 + 2 * (l.getD j ⟨0, 0, 0, []⟩).tags.length) = _
        rw [getD_at _ hjd]; omega
      obtain ⟨d, Hd⟩ : ∃ d, Hid (d = l[j]) := ⟨_, (rfl : l[j] = _)⟩
      obtain ⟨kk, HK⟩ : ∃ kk, Hid (stNode k l j = kk) := ⟨_, (rfl : stNode k l j = _)⟩
      rw [HK.out, ← Hd.out] at hj0 HNX
      rw [HK.out] at hkk ⊢
      rw [← Hd.out] at htl
      obtain ⟨_, _, _, e0, e1, e2, ta, tc, _, e3, u2⟩ := hj0
      have hlt' : (j : Int) < (n : Int) := by omega
      have hk1 : 0 < kk := by omega
      have hk2 : kk ≤ 1125899900000000 := by omega
      have c0 : wr.cell? ⟨b, off + j * 4, none⟩ = some (.int .i64 (kk : Int)) := e0
      have c1 : wr.cell? ⟨b, off + j * 4 + 1, none⟩ = some (.int .i64 ((kk : Int) + 1)) := e1.trans (congrArg (fun z => some (Value.int .i64 z)) (by show ((kk + 1 : Nat) : Int) = _; omega))
      have c2 : wr.cell? ⟨b, off + j * 4 + 2, none⟩ = some (.int .i64 ((kk : Int) + 1 + 1)) := e2.trans (congrArg (fun z => some (Value.int .i64 z)) (by show ((kk + 2 : Nat) : Int) = _; omega))
      have c3 : wr.cell? ⟨b, off + j * 4 + 3, none⟩ = some (.slice ta d.tags.length tc) := e3.trans (congrArg (fun z => some (Value.slice ta z tc)) (by show (mkTags (kk + 3) d.tags).length = _; rw [mkTags_len]))
      have HKN : Hid ((kk : Int) + 1 + 1 + 1 = ((kk + 3 : Nat) : Int)) := (by omega : (kk : Int) + 1 + 1 + 1 = ((kk + 3 : Nat) : Int))
      have t2 : Tags wr ta (mkTags (kk + 3) d.tags) (f j) := u2
      clear hx hT e0 e1 e2 e3 u2
      go_wp2_with fail
      rw [HKN.out]
      refine (heldTagS_any ta _ tc d.tags (f j) (kk + 3) _ t2 rfl htl (by omega) (by omega)).mono ?_
      rintro e w4 ⟨rfl, hb4⟩
      have hnn : ¬ ((kk + 3 + 2 * d.tags.length : Nat) : Int) < 0 := by omega
      have hB4 := bel_step hbel hb4
      clear c0 c1 c2 c3 t2 hb
      go_wp2
      go_roundw
      case rel => exact ⟨j + 1, by omega, by go_num, by rw [HNX.out]; go_num, hB4⟩
      case measure => simp [intOf]; omega
    · have e : n = j := by omega
      subst e
      clear hT
      go_wp2
      go_ret
      exact ⟨rfl, hbel⟩

set_option maxRecDepth 100000 in
set_option maxHeartbeats 2000000 in
theorem heldWayS_any (a : Option Addr) (n c : Nat) (l : List WayD) (bs : List Nat) (k : Nat) (w : World) (hT : Ways w a (mkWays k l) bs) (hn : l.length = n) (hm : n ≤ 1048576) (hs : ∀ i (h : i < l.length), l[i].nodes.length ≤ 1048576 ∧ l[i].tags.length ≤ 1048576) (h0k : 0 < k) (hk : k ≤ 70368744177664) :
    Calls Tryz.prog 47 #[.slice a n c, .int .i64 k] w fun e w' => e = .returned (.int .i64 (stWay k l n : Nat)) ∧ Bel w w' := by
  have Hn : Hid (l.length = n) := hn
  have HS : Hid (∀ i (h : i < l.length), l[i].nodes.length ≤ 1048576 ∧ l[i].tags.length ≤ 1048576) := hs
  have HB : Hid (∀ j, j ≤ l.length → k ≤ stWay k l j ∧ stWay k l j ≤ k + j * 4194305) := stWay_bd hs
  clear hn hs
  go_enter Tryz.func47, Tryz.ntmps47
  go_wp2
  go_loopw [1, 5] (fun t i wr => ∃ j : Nat, j ≤ n ∧ i = .int .i64 j ∧ t = .int .i64 (stWay k l j : Nat) ∧ Bel w wr) (fun _ i _ => n - (intOf i).toNat)
  case atStart => exact ⟨0, Nat.zero_le _, rfl, rfl, Bel.refl _⟩
  case round =>
    obtain ⟨j, hj, rfl, rfl, hbel⟩ := hrel
    by_cases hlt : j < n
    · have hjl : j < (mkWays k l).length := by rw [mkWays_len, Hn.out]; exact hlt
      have hjd : j < l.length := by rw [Hn.out]; exact hlt
      obtain ⟨b, off, f, rfl, hb, hx⟩ := (hT.bel wayE hbel).out hjl
      have hj0 := hx j hjl
      rw [show (mkWays k l)[j] = mkWay (stWay k l j) l[j] by simp [mkWays, hjd]] at hj0
      have htl := HS.out j hjd
      have hkk := HB.out j (by rw [Hn.out]; exact hj)
      have HNX : Hid (stWay k l (j + 1) = stWay k l j + 1 + l[j].nodes.length + 2 * l[j].tags.length) := by
        show stWay k l j + (1 + (l.getD j ⟨0, [], []⟩).nodes.length + 2 * (l.getD j ⟨0, [], []⟩).tags.length) = _
        rw [getD_at _ hjd]; omega
      obtain ⟨d, Hd⟩ : ∃ d, Hid (d = l[j]) := ⟨_, (rfl : l[j] = _)⟩
      obtain ⟨kk, HK⟩ : ∃ kk, Hid (stWay k l j = kk) := ⟨_, (rfl : stWay k l j = _)⟩
      rw [HK.out, ← Hd.out] at hj0 HNX
      rw [HK.out] at hkk ⊢
      rw [← Hd.out] at htl
      obtain ⟨_, e0, na, nc, ta, tc, s1, s2, _, _, _, e1, u1, e2, u2⟩ := hj0
      have hlt' : (j : Int) < (n : Int) := by omega
      have hk1 : 0 < kk := by omega
      have hk2 : kk ≤ 1125899900000000 := by omega
      have c0 : wr.cell? ⟨b, off + j * 3, none⟩ = some (.int .i64 (kk : Int)) := e0
      have c1 : wr.cell? ⟨b, off + j * 3 + 1, none⟩ = some (.slice na d.nodes.length nc) := e1.trans (congrArg (fun z => some (Value.slice na z nc)) (by show (mkInts (kk + 1) d.nodes).length = _; rw [mkInts_len]))
      have c2 : wr.cell? ⟨b, off + j * 3 + 2, none⟩ = some (.slice ta d.tags.length tc) := e2.trans (congrArg (fun z => some (Value.slice ta z tc)) (by show (mkTags (kk + 1 + d.nodes.length) d.tags).length = _; rw [mkTags_len]))
      have HKN : Hid ((kk : Int) + 1 = ((kk + 1 : Nat) : Int)) := (by omega : (kk : Int) + 1 = ((kk + 1 : Nat) : Int))
      have t1 : Ints wr na (mkInts (kk + 1) d.nodes) s1 := u1
      have t2 : Tags wr ta (mkTags (kk + 1 + d.nodes.length) d.tags) s2 := u2
      clear hx hT e0 e1 e2 u1 u2
      go_wp2_with fail
      rw [HKN.out]
      refine (heldInt64S_any na _ nc d.nodes s1 (kk + 1) _ t1 rfl htl.1 (by omega)).mono ?_
      rintro e w3 ⟨rfl, rfl⟩
      obtain ⟨k2, Hk2⟩ : ∃ k2, Hid (kk + 1 + d.nodes.length = k2) := ⟨_, (rfl : kk + 1 + d.nodes.length = _)⟩
      have hk3 : 0 < k2 ∧ k2 ≤ 1125899904000000 := by rw [← Hk2.out]; omega
      rw [Hk2.out] at t2 ⊢
      have hn1 : ¬ ((k2 : Nat) : Int) < 0 := by omega
      clear t1
      go_wp2_with fail
      refine (heldTagS_any ta _ tc d.tags s2 k2 _ t2 rfl htl.2 (by omega) (by omega)).mono ?_
      rintro e w4 ⟨rfl, hb4⟩
      have HNY : Hid (stWay k l (j + 1) = k2 + 2 * d.tags.length) := HNX.out.trans (congrArg (fun z => z + 2 * d.tags.length) Hk2.out)
      have hnn : ¬ ((k2 + 2 * d.tags.length : Nat) : Int) < 0 := by omega
      have hB4 := bel_step hbel hb4
      clear c0 c1 c2 t2 hb
      go_wp2
      go_roundw
      case rel => exact ⟨j + 1, by omega, by go_num, by rw [HNY.out]; go_num, hB4⟩
      case measure => simp [intOf]; omega
    · have e : n = j := by omega
      subst e
      clear hT
      go_wp2
      go_ret
      exact ⟨rfl, hbel⟩

set_option maxRecDepth 100000 in
set_option maxHeartbeats 2000000 in
theorem heldAreaS_any (a : Option Addr) (n c : Nat) (l : List AreaD) (bs : List Nat) (k : Nat) (w : World) (hT : Areas w a (mkAreas k l) bs) (hn : l.length = n) (hm : n ≤ 1048576) (hs : ∀ i (h : i < l.length), l[i].parts.length ≤ 1048576 ∧ l[i].tags.length ≤ 1048576) (h0k : 0 < k) (hk : k ≤ 70368744177664) :
    Calls Tryz.prog 48 #[.slice a n c, .int .i64 k] w fun e w' => e = .returned (.int .i64 (stArea k l n : Nat)) ∧ Bel w w' := by
  have Hn : Hid (l.length = n) := hn
  have HS : Hid (∀ i (h : i < l.length), l[i].parts.length ≤ 1048576 ∧ l[i].tags.length ≤ 1048576) := hs
  have HB : Hid (∀ j, j ≤ l.length → k ≤ stArea k l j ∧ stArea k l j ≤ k + j * 4194305) := stArea_bd hs
  clear hn hs
  go_enter Tryz.func48, Tryz.ntmps48
  go_wp2
  go_loopw [1, 5] (fun t i wr => ∃ j : Nat, j ≤ n ∧ i = .int .i64 j ∧ t = .int .i64 (stArea k l j : Nat) ∧ Bel w wr) (fun _ i _ => n - (intOf i).toNat)
  case atStart => exact ⟨0, Nat.zero_le _, rfl, rfl, Bel.refl _⟩
  case round =>
    obtain ⟨j, hj, rfl, rfl, hbel⟩ := hrel
    by_cases hlt : j < n
    · have hjl : j < (mkAreas k l).length := by rw [mkAreas_len, Hn.out]; exact hlt
      have hjd : j < l.length := by rw [Hn.out]; exact hlt
      obtain ⟨b, off, f, rfl, hb, hx⟩ := (hT.bel areaE hbel).out hjl
      have hj0 := hx j hjl
      rw [show (mkAreas k l)[j] = mkArea (stArea k l j) l[j] by simp [mkAreas, hjd]] at hj0
      have htl := HS.out j hjd
      have hkk := HB.out j (by rw [Hn.out]; exact hj)
      have HNX : Hid (stArea k l (j + 1) = stArea k l j + 1 + 2 * l[j].parts.length + 2 * l[j].tags.length) := by
        show stArea k l j + (1 + 2 * (l.getD j ⟨0, [], []⟩).parts.length + 2 * (l.getD j ⟨0, [], []⟩).tags.length) = _
        rw [getD_at _ hjd]; omega
      obtain ⟨d, Hd⟩ : ∃ d, Hid (d = l[j]) := ⟨_, (rfl : l[j] = _)⟩
      obtain ⟨kk, HK⟩ : ∃ kk, Hid (stArea k l j = kk) := ⟨_, (rfl : stArea k l j = _)⟩
      rw [HK.out, ← Hd.out] at hj0 HNX
      rw [HK.out] at hkk ⊢
      rw [← Hd.out] at htl
      obtain ⟨_, e0, na, nc, ta, tc, s1, s2, _, _, _, e1, u1, e2, u2⟩ := hj0
      have hlt' : (j : Int) < (n : Int) := by omega
      have hk1 : 0 < kk := by omega
      have hk2 : kk ≤ 1125899900000000 := by omega
      have c0 : wr.cell? ⟨b, off + j * 3, none⟩ = some (.int .i64 (kk : Int)) := e0
      have c1 : wr.cell? ⟨b, off + j * 3 + 1, none⟩ = some (.slice na d.parts.length nc) := e1.trans (congrArg (fun z => some (Value.slice na z nc)) (by show (mkParts (kk + 1) d.parts).length = _; rw [mkParts_len]))
      have c2 : wr.cell? ⟨b, off + j * 3 + 2, none⟩ = some (.slice ta d.tags.length tc) := e2.trans (congrArg (fun z => some (Value.slice ta z tc)) (by show (mkTags (kk + 1 + 2 * d.parts.length) d.tags).length = _; rw [mkTags_len]))
      have HKN : Hid ((kk : Int) + 1 = ((kk + 1 : Nat) : Int)) := (by omega : (kk : Int) + 1 = ((kk + 1 : Nat) : Int))
      have t1 : Parts wr na (mkParts (kk + 1) d.parts) s1 := u1
      have t2 : Tags wr ta (mkTags (kk + 1 + 2 * d.parts.length) d.tags) s2 := u2
      clear hx hT e0 e1 e2 u1 u2
      go_wp2_with fail
      rw [HKN.out]
      refine (heldPartS_any na _ nc d.parts s1 (kk + 1) _ t1 rfl htl.1 (by omega)).mono ?_
      rintro e w3 ⟨rfl, rfl⟩
      obtain ⟨k2, Hk2⟩ : ∃ k2, Hid (kk + 1 + 2 * d.parts.length = k2) := ⟨_, (rfl : kk + 1 + 2 * d.parts.length = _)⟩
      have hk3 : 0 < k2 ∧ k2 ≤ 1125899904000000 := by rw [← Hk2.out]; omega
      rw [Hk2.out] at t2 ⊢
      have hn1 : ¬ ((k2 : Nat) : Int) < 0 := by omega
      clear t1
      go_wp2_with fail
      refine (heldTagS_any ta _ tc d.tags s2 k2 _ t2 rfl htl.2 (by omega) (by omega)).mono ?_
      rintro e w4 ⟨rfl, hb4⟩
      have HNY : Hid (stArea k l (j + 1) = k2 + 2 * d.tags.length) := HNX.out.trans (congrArg (fun z => z + 2 * d.tags.length) Hk2.out)
      have hnn : ¬ ((k2 + 2 * d.tags.length : Nat) : Int) < 0 := by omega
      have hB4 := bel_step hbel hb4
      clear c0 c1 c2 t2 hb
      go_wp2
      go_roundw
      case rel => exact ⟨j + 1, by omega, by go_num, by rw [HNY.out]; go_num, hB4⟩
      case measure => simp [intOf]; omega
    · have e : n = j := by omega
      subst e
      clear hT
      go_wp2
      go_ret
      exact ⟨rfl, hbel⟩

set_option maxRecDepth 100000 in
set_option maxHeartbeats 2000000 in
theorem heldMap_any (v : Value) (m : MapD) (bs : List Nat) (k : Nat) (w : World) (hV : MapV w v (mkMap k m) bs) (hL : MapL m) (h0k : 0 < k) (hk : k ≤ 35184372088832) :
    Calls Tryz.prog 12 #[v, .int .i64 k] w fun e w' => e = .returned (.int .i64 (mkMapE k m : Nat)) ∧ Bel w w' := by
  obtain ⟨a0, c0, a1, c1, a2, c2, b0, b1, b2, rfl, hbs, t0, t1, t2⟩ := hV.out
  obtain ⟨m0, m1, m2, u0, u1, u2⟩ := hL
  obtain ⟨n0, hn0⟩ : ∃ n, m.nodes.length = n := ⟨_, rfl⟩
  obtain ⟨n1, hn1⟩ : ∃ n, m.ways.length = n := ⟨_, rfl⟩
  obtain ⟨n2, hn2⟩ : ∃ n, m.areas.length = n := ⟨_, rfl⟩
  have H0 : Hid (m.nodes.length = n0) := hn0
  have H1 : Hid (m.ways.length = n1) := hn1
  have H2 : Hid (m.areas.length = n2) := hn2
  rw [show (mkMap k m).nodes.length = n0 from (mkNodes_len _ _).trans hn0, show (mkMap k m).ways.length = n1 from (mkWays_len _ _).trans hn1, show (mkMap k m).areas.length = n2 from (mkAreas_len _ _).trans hn2]
  rw [hn0] at m0
  rw [hn1] at m1
  rw [hn2] at m2
  have hk0 := (stNode_bd (k := k) u0 m.nodes.length (Nat.le_refl _))
  obtain ⟨kW, HW⟩ : ∃ x, Hid (stNode k m.nodes n0 = x) := ⟨_, (rfl : stNode k m.nodes n0 = _)⟩
  rw [hn0, HW.out] at hk0
  have hk1 := (stWay_bd (k := kW) u1 m.ways.length (Nat.le_refl _))
  obtain ⟨kA, HA⟩ : ∃ x, Hid (stWay kW m.ways n1 = x) := ⟨_, (rfl : stWay kW m.ways n1 = _)⟩
  rw [hn1, HA.out] at hk1
  obtain ⟨kE, HE⟩ : ∃ x, Hid (stArea kA m.areas n2 = x) := ⟨_, (rfl : stArea kA m.areas n2 = _)⟩
  have HEE : Hid (mkMapE k m = kE ∧ mkMapA k m = kA ∧ mkMapW k m = kW) := by
    have e1 : mkMapW k m = kW := by unfold mkMapW; rw [hn0]; exact HW.out
    have e2 : mkMapA k m = kA := by unfold mkMapA; rw [e1, hn1]; exact HA.out
    exact (⟨by unfold mkMapE; rw [e2, hn2]; exact HE.out, e2, e1⟩ : mkMapE k m = kE ∧ mkMapA k m = kA ∧ mkMapW k m = kW)
  rw [HEE.out.1]
  have hkW : kW ≤ 52776558133248 ∧ 0 < kW := by omega
  have hkA : kA ≤ 70368744177664 ∧ 0 < kA := by omega
  have HU0 : Hid (∀ i (h : i < m.nodes.length), m.nodes[i].tags.length ≤ 1048576) := u0
  have HU1 : Hid (∀ i (h : i < m.ways.length), m.ways[i].nodes.length ≤ 1048576 ∧ m.ways[i].tags.length ≤ 1048576) := u1
  have HU2 : Hid (∀ i (h : i < m.areas.length), m.areas[i].parts.length ≤ 1048576 ∧ m.areas[i].tags.length ≤ 1048576) := u2
  have T0 : Nodes w a0 (mkNodes k m.nodes) b0 := t0
  have T1 : Ways w a1 (mkWays kW m.ways) b1 := by rw [← HEE.out.2.2]; exact t1
  have T2 : Areas w a2 (mkAreas kA m.areas) b2 := by rw [← HEE.out.2.1]; exact t2
  obtain ⟨wb, HB⟩ : ∃ x, Hid (x = w.alloc (.cells #[.slice a0 n0 c0, .slice a1 n1 c1, .slice a2 n2 c2] 36)) := ⟨_, (rfl : w.alloc (.cells #[.slice a0 n0 c0, .slice a1 n1 c1, .slice a2 n2 c2] 36) = _)⟩
  have S0 : Bel w wb := by rw [HB.out]; exact bel_alloc (Bel.refl _) _
  have X0 : Blk wb w.heap.size [.slice a0 n0 c0, .slice a1 n1 c1, .slice a2 n2 c2] := by rw [HB.out]; exact Blk.new w [.slice a0 n0 c0, .slice a1 n1 c1, .slice a2 n2 c2] 36
  have nW : ¬ ((kW : Nat) : Int) < 0 := by omega
  have nA : ¬ ((kA : Nat) : Int) < 0 := by omega
  have nE : ¬ ((kE : Nat) : Int) < 0 := by omega
  clear hV t0 t1 t2 hn0 hn1 hn2 u0 u1 u2 hbs
  go_enter Tryz.func12, Tryz.ntmps12
  go_wp2_with fail
  rw [← HB.out]
  refine (heldNodeS_any a0 _ c0 m.nodes b0 k _ (T0.bel nodeE S0) H0.out m0 HU0.out h0k (by omega)).mono ?_
  rintro e w1 ⟨rfl, hb1⟩
  rw [HW.out]
  have X1 := X0.bel hb1
  have x1 : w1.cell? ⟨w.heap.size, 1, none⟩ = some (.slice a1 n1 c1) := X1.cell 1 (by simp)
  have S1 := bel_step S0 hb1
  go_wp2_with fail
  refine (heldWayS_any a1 _ c1 m.ways b1 kW _ (T1.bel wayE S1) H1.out m1 HU1.out hkW.2 (by omega)).mono ?_
  rintro e w2 ⟨rfl, hb2⟩
  rw [HA.out]
  have x2 : w2.cell? ⟨w.heap.size, 2, none⟩ = some (.slice a2 n2 c2) := (X1.bel hb2).cell 2 (by simp)
  have S2 := bel_step S1 hb2
  clear x1
  go_wp2_with fail
  refine (heldAreaS_any a2 _ c2 m.areas b2 kA _ (T2.bel areaE S2) H2.out m2 HU2.out hkA.2 (by omega)).mono ?_
  rintro e w3 ⟨rfl, hb3⟩
  rw [HE.out]
  have S3 := bel_step S2 hb3
  clear x2
  go_wp2
  go_ret
  exact ⟨rfl, S3⟩
end Go.Proofs.YtmmapkpieimibaaGreat
