/-
  Tags and Parts, marked: contracts.
  Places, roads, bans and graphs, marked, and their marks held: what is written, and that it is found again: contracts.
  Graphs, marked, and their marks held: contracts.
-/
import Derived.Test.YtakedciemnkfhaaGreatDoorGT
import Derived.Deep.RegionHeld3
namespace Go.Proofs.YtakedciemnkfhaaGreatDoor
open Go.RowKit Go.Maps

end Go.Proofs.YtakedciemnkfhaaGreatDoor

namespace Go.Proofs.YtakedciemnkfhaaGreatDoor
open Go.RowKit Go.Maps

/-- The first m cells are marked. -/
structure Mkd (V : Nat → Value) (w : World) (b off N m : Nat) : Prop where
 lt : b < w.heap.size
 done : ∀ p, p < m → w.cell? ⟨b, off + p, none⟩ = some (V p)
 there : ∀ p, p < N → ∃ v, w.cell? ⟨b, off + p, none⟩ = some v
 free : ∀ j, w.frozen? ⟨b, j, none⟩ = false
theorem Mkd.set {V : Nat → Value} {w : World} {b off N m : Nat} (h : Mkd V w b off N m) (o : Nat) (v : Value) (hm : m < N) (ho : o = off + m) (hv : v = V m) : Mkd V (w.setCell ⟨b, o, none⟩ v) b off N (m + 1) := by
 subst ho
 refine ⟨by simpa [World.setCell] using h.lt, fun p hp => ?_, fun p hp => ?_, fun j => by rw [World.frozen?_setCell]; exact h.free j⟩
 ·by_cases e : p = m
  ·subst e
   obtain ⟨u, hu⟩ := h.there p hm
   rw [← hv]; exact World.cell?_setCell_same _ _ _ hu
  ·rw [World.cell?_setCell_other _ _ _ _ (fun e2 => e (by have := congrArg Addr.off e2; simp at this; omega))]
   exact h.done p (by omega)
 ·by_cases e : p = m
  ·subst e
   obtain ⟨u, hu⟩ := h.there p hm
   exact ⟨_, World.cell?_setCell_same _ _ _ hu⟩
  ·rw [World.cell?_setCell_other _ _ _ _ (fun e2 => e (by have := congrArg Addr.off e2; simp at this; omega))]
   exact h.there p hp
theorem Mkd.bel {V : Nat → Value} {w w' : World} {b off N m : Nat} (h : Mkd V w b off N m) (hb : Bel w w') : Mkd V w' b off N m :=
 ⟨bel_lt hb h.lt, fun p hp => bel_cellM hb h.lt (h.done p hp), fun p hp => by obtain ⟨u, hu⟩ := h.there p hp; exact ⟨u, bel_cellM hb h.lt hu⟩, fun j => by rw [hb.out.frozen (p := ⟨b, j, none⟩) h.lt]; exact h.free j⟩
/-- A slice of N marked cells. -/
def MkS (V : Nat → Value) (w : World) (a : Option Addr) (N : Nat) (bs : List Nat) : Prop := N = 0 ∨ ∃ b off, a = some ⟨b, off, none⟩ ∧ b ∈ bs ∧ b < w.heap.size ∧ ∀ p, p < N → w.cell? ⟨b, off + p, none⟩ = some (V p)
theorem MkS.bel {V : Nat → Value} {w w' : World} {a : Option Addr} {N : Nat} {bs : List Nat} (h : MkS V w a N bs) (hb : Bel w w') : MkS V w' a N bs :=
 h.imp id fun ⟨b, off, e, hm, hl, hc⟩ => ⟨b, off, e, hm, bel_lt hb hl, fun p hp => bel_cellM hb hl (hc p hp)⟩
theorem MkS.onl {V : Nat → Value} {w w' : World} {a : Option Addr} {N : Nat} {bs cs : List Nat} (h : MkS V w a N bs) (ho : Onl cs w w') (hd : ∀ x ∈ bs, x ∉ cs) : MkS V w' a N bs :=
 h.imp id fun ⟨b, off, e, hm, hl, hc⟩ => ⟨b, off, e, hm, Nat.lt_of_lt_of_le hl ho.size, fun p hp => by rw [OnlF.cell ho hl (hd b hm)]; exact hc p hp⟩
/-- Marks of numbers; marks of Roads. -/
def mkV (k p : Nat) : Value := .int .i64 ((k + p : Nat) : Int)
def mkR (k p : Nat) : Value := if p % 6 = 5 then .string (mT (k + p)) else .int .i64 ((k + p : Nat) : Int)
theorem mkR_n {k p : Nat} (h : p % 6 ≠ 5) : mkR k p = .int .i64 ((k + p : Nat) : Int) := if_neg h
theorem mkR_t {k p : Nat} (h : p % 6 = 5) : mkR k p = .string (mT (k + p)) := if_pos h

set_option maxRecDepth 100000 in
set_option maxHeartbeats 1000000 in
theorem markBanS_x (a : Option Addr) (n c : Nat) (l : List BanD) (bs : List Nat) (k : Nat) (w : World) (hT : BanL w a l bs) (hf : ∀ x ∈ bs, ∀ j, w.frozen? ⟨x, j, none⟩ = false) (hn : l.length = n) (hm : n ≤ 1048576) (h0k : 0 < k) (hk : k ≤ 1125899906842624) :
  Calls Tryz.prog 43 #[.slice a n c, .int .i64 k] w fun e w' => e = .returned (.int .i64 ((k + 2 * n : Nat) : Int)) ∧ MkS (mkV k) w' a (n * 2) bs ∧ Onl bs w w' := by
 by_cases h0 : n = 0
 ·subst h0
  go_enter Tryz.func43, Tryz.ntmps43
  go_wp2
  go_loopw [1, 5] (fun t i wr => t = .int .i64 k ∧ i = .int .i64 0 ∧ wr = w) (fun _ _ _ => 0)
  case atStart => exact ⟨rfl, rfl, rfl⟩
  case round =>
   obtain ⟨rfl, rfl, rfl⟩ := hrel
   go_wp2
   go_ret
   exact ⟨by simp, .inl (Nat.zero_mul _), Onl.refl _ _⟩
 ·rcases hT with ⟨rfl, _⟩ | ⟨b, off, f, rfl, hb, rfl, hx⟩
  ·exact absurd hn.symm h0
  ·have hT0 : Mkd (mkV k) w b off (n * 2) (0 * 2) := ⟨hb, fun p hp => by omega, fun j hj => ?_, hf b (by simp)⟩
   rotate_left
   ·have hi : j / 2 < l.length := by rw [hn]; omega
    have hc := hx (j / 2) hi
    have e : j = j / 2 * 2 + j % 2 := by omega
    have hr : j % 2 < 2 := by omega
    rw [e, ← Nat.add_assoc]
    obtain ⟨_, _, _, c0, c1⟩ := hc
    match hj' : j % 2, hr with
    | 0, _ => exact ⟨_, c0⟩
    | 1, _ => exact ⟨_, c1⟩
   have Hn : Hid (l.length = n) := hn
   clear hx hf hn
   go_enter Tryz.func43, Tryz.ntmps43
   go_wp2
   go_loopw [1, 5] (fun t i wr => ∃ j : Nat, j ≤ n ∧ i = .int .i64 j ∧ t = .int .i64 ((k + 2 * j : Nat) : Int) ∧ Mkd (mkV k) wr b off (n * 2) (j * 2) ∧ Onl [b] w wr) (fun _ i _ => n - (intOf i).toNat)
   case atStart => exact ⟨0, Nat.zero_le _, rfl, by simp, hT0, Onl.refl _ _⟩
   case round =>
    obtain ⟨j, hj, rfl, rfl, hF, hO⟩ := hrel
    clear hT0
    by_cases hlt : j < n
    ·have hlt' : (j : Int) < (n : Int) := by omega
     obtain ⟨v0, d0⟩ := hF.there (j * 2) (by omega)
     obtain ⟨v1, d1⟩ := hF.there (j * 2 + 1) (by omega)
     rw [← Nat.add_assoc] at d1
     have f0 := hF.free
     have hbl := hF.lt
     obtain ⟨K, HK⟩ : ∃ K, Hid (k + 2 * j = K) := ⟨_, (rfl : k + 2 * j = _)⟩
     rw [HK.out]
     have hK : (K : Int) ≤ 2251799813685248 := by have := HK.out; omega
     have hK0 : 0 < K := by have := HK.out; omega
     have hT2 := ((hF).set (off + j * 2) (.int .i64 (K : Int)) (by omega) (by omega) (by unfold mkV; have := HK.out; congr 1; omega)).set (off + j * 2 + 1) (.int .i64 ((K : Int) + 1)) (by omega) (by omega) (by unfold mkV; have := HK.out; congr 1; omega)
     have hO2 := ((hO).set (b := b) (by simp) (off + j * 2) (.int .i64 (K : Int))).set (b := b) (by simp) (off + j * 2 + 1) (.int .i64 ((K : Int) + 1))
     have HT2 : Hid (Mkd (mkV k) (((wr).setCell ⟨b, off + j * 2, none⟩ (.int .i64 (K : Int))).setCell ⟨b, off + j * 2 + 1, none⟩ (.int .i64 ((K : Int) + 1))) b off (n * 2) ((j + 1) * 2)) := (by rw [show (j + 1) * 2 = j * 2 + 1 + 1 by omega]; exact hT2 : Mkd (mkV k) (((wr).setCell ⟨b, off + j * 2, none⟩ (.int .i64 (K : Int))).setCell ⟨b, off + j * 2 + 1, none⟩ (.int .i64 ((K : Int) + 1))) b off (n * 2) ((j + 1) * 2))
     have HO2 := (show Hid _ from hO2)
     clear hF hO hT2 hO2
     go_wp2
     go_roundw
     case rel => exact ⟨j + 1, by omega, by go_num, by have := HK.out; go_num, HT2.out, HO2.out⟩
     case measure => simp [intOf]; omega
    ·have e : n = j := by omega
     subst e
     have HO : Hid (Onl (b :: (List.range l.length).flatMap f) w wr) := hO.mono (fun x hx => by simp at hx; simp [hx])
     have HM : Hid (MkS (mkV k) wr (some ⟨b, off, none⟩) (n * 2) (b :: (List.range l.length).flatMap f)) := .inr ⟨b, off, rfl, by simp, hF.lt, hF.done⟩
     clear hO hF
     go_wp2
     go_ret
     exact ⟨rfl, HM.out, HO.out⟩

set_option maxRecDepth 100000 in
set_option maxHeartbeats 1000000 in
theorem markSpotS_x (a : Option Addr) (n c : Nat) (l : List SpotD) (bs : List Nat) (k : Nat) (w : World) (hT : SpotL w a l bs) (hf : ∀ x ∈ bs, ∀ j, w.frozen? ⟨x, j, none⟩ = false) (hn : l.length = n) (hm : n ≤ 1048576) (h0k : 0 < k) (hk : k ≤ 1125899906842624) :
  Calls Tryz.prog 41 #[.slice a n c, .int .i64 k] w fun e w' => e = .returned (.int .i64 ((k + 3 * n : Nat) : Int)) ∧ MkS (mkV k) w' a (n * 3) bs ∧ Onl bs w w' := by
 by_cases h0 : n = 0
 ·subst h0
  go_enter Tryz.func41, Tryz.ntmps41
  go_wp2
  go_loopw [1, 5] (fun t i wr => t = .int .i64 k ∧ i = .int .i64 0 ∧ wr = w) (fun _ _ _ => 0)
  case atStart => exact ⟨rfl, rfl, rfl⟩
  case round =>
   obtain ⟨rfl, rfl, rfl⟩ := hrel
   go_wp2
   go_ret
   exact ⟨by simp, .inl (Nat.zero_mul _), Onl.refl _ _⟩
 ·rcases hT with ⟨rfl, _⟩ | ⟨b, off, f, rfl, hb, rfl, hx⟩
  ·exact absurd hn.symm h0
  ·have hT0 : Mkd (mkV k) w b off (n * 3) (0 * 3) := ⟨hb, fun p hp => by omega, fun j hj => ?_, hf b (by simp)⟩
   rotate_left
   ·have hi : j / 3 < l.length := by rw [hn]; omega
    have hc := hx (j / 3) hi
    have e : j = j / 3 * 3 + j % 3 := by omega
    have hr : j % 3 < 3 := by omega
    rw [e, ← Nat.add_assoc]
    obtain ⟨_, _, _, _, c0, c1, c2⟩ := hc
    match hj' : j % 3, hr with
    | 0, _ => exact ⟨_, c0⟩
    | 1, _ => exact ⟨_, c1⟩
    | 2, _ => exact ⟨_, c2⟩
   have Hn : Hid (l.length = n) := hn
   clear hx hf hn
   go_enter Tryz.func41, Tryz.ntmps41
   go_wp2
   go_loopw [1, 5] (fun t i wr => ∃ j : Nat, j ≤ n ∧ i = .int .i64 j ∧ t = .int .i64 ((k + 3 * j : Nat) : Int) ∧ Mkd (mkV k) wr b off (n * 3) (j * 3) ∧ Onl [b] w wr) (fun _ i _ => n - (intOf i).toNat)
   case atStart => exact ⟨0, Nat.zero_le _, rfl, by simp, hT0, Onl.refl _ _⟩
   case round =>
    obtain ⟨j, hj, rfl, rfl, hF, hO⟩ := hrel
    clear hT0
    by_cases hlt : j < n
    ·have hlt' : (j : Int) < (n : Int) := by omega
     obtain ⟨v0, d0⟩ := hF.there (j * 3) (by omega)
     obtain ⟨v1, d1⟩ := hF.there (j * 3 + 1) (by omega)
     rw [← Nat.add_assoc] at d1
     obtain ⟨v2, d2⟩ := hF.there (j * 3 + 2) (by omega)
     rw [← Nat.add_assoc] at d2
     have f0 := hF.free
     have hbl := hF.lt
     obtain ⟨K, HK⟩ : ∃ K, Hid (k + 3 * j = K) := ⟨_, (rfl : k + 3 * j = _)⟩
     rw [HK.out]
     have hK : (K : Int) ≤ 2251799813685248 := by have := HK.out; omega
     have hK0 : 0 < K := by have := HK.out; omega
     have hT2 := (((hF).set (off + j * 3) (.int .i64 (K : Int)) (by omega) (by omega) (by unfold mkV; have := HK.out; congr 1; omega)).set (off + j * 3 + 1) (.int .i64 ((K : Int) + 1)) (by omega) (by omega) (by unfold mkV; have := HK.out; congr 1; omega)).set (off + j * 3 + 2) (.int .i64 ((K : Int) + 2)) (by omega) (by omega) (by unfold mkV; have := HK.out; congr 1; omega)
     have hO2 := (((hO).set (b := b) (by simp) (off + j * 3) (.int .i64 (K : Int))).set (b := b) (by simp) (off + j * 3 + 1) (.int .i64 ((K : Int) + 1))).set (b := b) (by simp) (off + j * 3 + 2) (.int .i64 ((K : Int) + 2))
     have HT2 : Hid (Mkd (mkV k) ((((wr).setCell ⟨b, off + j * 3, none⟩ (.int .i64 (K : Int))).setCell ⟨b, off + j * 3 + 1, none⟩ (.int .i64 ((K : Int) + 1))).setCell ⟨b, off + j * 3 + 2, none⟩ (.int .i64 ((K : Int) + 2))) b off (n * 3) ((j + 1) * 3)) := (by rw [show (j + 1) * 3 = j * 3 + 1 + 1 + 1 by omega]; exact hT2 : Mkd (mkV k) ((((wr).setCell ⟨b, off + j * 3, none⟩ (.int .i64 (K : Int))).setCell ⟨b, off + j * 3 + 1, none⟩ (.int .i64 ((K : Int) + 1))).setCell ⟨b, off + j * 3 + 2, none⟩ (.int .i64 ((K : Int) + 2))) b off (n * 3) ((j + 1) * 3))
     have HO2 := (show Hid _ from hO2)
     clear hF hO hT2 hO2
     go_wp2
     go_roundw
     case rel => exact ⟨j + 1, by omega, by go_num, by have := HK.out; go_num, HT2.out, HO2.out⟩
     case measure => simp [intOf]; omega
    ·have e : n = j := by omega
     subst e
     have HO : Hid (Onl (b :: (List.range l.length).flatMap f) w wr) := hO.mono (fun x hx => by simp at hx; simp [hx])
     have HM : Hid (MkS (mkV k) wr (some ⟨b, off, none⟩) (n * 3) (b :: (List.range l.length).flatMap f)) := .inr ⟨b, off, rfl, by simp, hF.lt, hF.done⟩
     clear hO hF
     go_wp2
     go_ret
     exact ⟨rfl, HM.out, HO.out⟩

set_option maxRecDepth 100000 in
set_option maxHeartbeats 1000000 in
theorem markRoadS_x (a : Option Addr) (n c : Nat) (l : List RoadD) (bs : List Nat) (k : Nat) (w : World) (hT : RoadL w a l bs) (hf : ∀ x ∈ bs, ∀ j, w.frozen? ⟨x, j, none⟩ = false) (hn : l.length = n) (hm : n ≤ 1048576) (h0k : 0 < k) (hk : k ≤ 1125899906842624) :
  Calls Tryz.prog 42 #[.slice a n c, .int .i64 k] w fun e w' => e = .returned (.int .i64 ((k + 6 * n : Nat) : Int)) ∧ MkS (mkR k) w' a (n * 6) bs ∧ Onl bs w w' := by
 by_cases h0 : n = 0
 ·subst h0
  go_enter Tryz.func42, Tryz.ntmps42
  go_wp2
  go_loopw [1, 5] (fun t i wr => t = .int .i64 k ∧ i = .int .i64 0 ∧ wr = w) (fun _ _ _ => 0)
  case atStart => exact ⟨rfl, rfl, rfl⟩
  case round =>
   obtain ⟨rfl, rfl, rfl⟩ := hrel
   go_wp2
   go_ret
   exact ⟨by simp, .inl (Nat.zero_mul _), Onl.refl _ _⟩
 ·rcases hT with ⟨rfl, _⟩ | ⟨b, off, f, rfl, hb, rfl, hx⟩
  ·exact absurd hn.symm h0
  ·have hT0 : Mkd (mkR k) w b off (n * 6) (0 * 6) := ⟨hb, fun p hp => by omega, fun j hj => ?_, hf b (by simp)⟩
   rotate_left
   ·have hi : j / 6 < l.length := by rw [hn]; omega
    have hc := hx (j / 6) hi
    have e : j = j / 6 * 6 + j % 6 := by omega
    have hr : j % 6 < 6 := by omega
    rw [e, ← Nat.add_assoc]
    obtain ⟨_, _, _, _, _, _, _, c0, c1, c2, c3, c4, c5⟩ := hc
    match hj' : j % 6, hr with
    | 0, _ => exact ⟨_, c0⟩
    | 1, _ => exact ⟨_, c1⟩
    | 2, _ => exact ⟨_, c2⟩
    | 3, _ => exact ⟨_, c3⟩
    | 4, _ => exact ⟨_, c4⟩
    | 5, _ => exact ⟨_, c5⟩
   have Hn : Hid (l.length = n) := hn
   clear hx hf hn
   go_enter Tryz.func42, Tryz.ntmps42
   go_wp2
   go_loopw [1, 5] (fun t i wr => ∃ j : Nat, j ≤ n ∧ i = .int .i64 j ∧ t = .int .i64 ((k + 6 * j : Nat) : Int) ∧ Mkd (mkR k) wr b off (n * 6) (j * 6) ∧ Onl [b] w wr) (fun _ i _ => n - (intOf i).toNat)
   case atStart => exact ⟨0, Nat.zero_le _, rfl, by simp, hT0, Onl.refl _ _⟩
   case round =>
    obtain ⟨j, hj, rfl, rfl, hF, hO⟩ := hrel
    clear hT0
    by_cases hlt : j < n
    ·have hlt' : (j : Int) < (n : Int) := by omega
     obtain ⟨v0, d0⟩ := hF.there (j * 6) (by omega)
     obtain ⟨v1, d1⟩ := hF.there (j * 6 + 1) (by omega)
     rw [← Nat.add_assoc] at d1
     obtain ⟨v2, d2⟩ := hF.there (j * 6 + 2) (by omega)
     rw [← Nat.add_assoc] at d2
     obtain ⟨v3, d3⟩ := hF.there (j * 6 + 3) (by omega)
     rw [← Nat.add_assoc] at d3
     obtain ⟨v4, d4⟩ := hF.there (j * 6 + 4) (by omega)
     rw [← Nat.add_assoc] at d4
     obtain ⟨v5, d5⟩ := hF.there (j * 6 + 5) (by omega)
     rw [← Nat.add_assoc] at d5
     have f0 := hF.free
     have hbl := hF.lt
     obtain ⟨K, HK⟩ : ∃ K, Hid (k + 6 * j = K) := ⟨_, (rfl : k + 6 * j = _)⟩
     rw [HK.out]
     have hK : (K : Int) ≤ 2251799813685248 := by have := HK.out; omega
     have hK0 : 0 < K := by have := HK.out; omega
     have hT2 := (((((hF).set (off + j * 6) (.int .i64 (K : Int)) (by omega) (by omega) (by rw [mkR_n (by omega)]; have := HK.out; congr 1; omega)).set (off + j * 6 + 1) (.int .i64 ((K : Int) + 1)) (by omega) (by omega) (by rw [mkR_n (by omega)]; have := HK.out; congr 1; omega)).set (off + j * 6 + 2) (.int .i64 ((K : Int) + 1 + 1)) (by omega) (by omega) (by rw [mkR_n (by omega)]; have := HK.out; congr 1; omega)).set (off + j * 6 + 3) (.int .i64 ((K : Int) + 1 + 1 + 1)) (by omega) (by omega) (by rw [mkR_n (by omega)]; have := HK.out; congr 1; omega)).set (off + j * 6 + 4) (.int .i64 ((K : Int) + 1 + 1 + 1 + 1)) (by omega) (by omega) (by rw [mkR_n (by omega)]; have := HK.out; congr 1; omega)
     have hO2 := (((((hO).set (b := b) (by simp) (off + j * 6) (.int .i64 (K : Int))).set (b := b) (by simp) (off + j * 6 + 1) (.int .i64 ((K : Int) + 1))).set (b := b) (by simp) (off + j * 6 + 2) (.int .i64 ((K : Int) + 1 + 1))).set (b := b) (by simp) (off + j * 6 + 3) (.int .i64 ((K : Int) + 1 + 1 + 1))).set (b := b) (by simp) (off + j * 6 + 4) (.int .i64 ((K : Int) + 1 + 1 + 1 + 1))
     obtain ⟨U, HU⟩ : ∃ U, Hid (U = (((((wr).setCell ⟨b, off + j * 6, none⟩ (.int .i64 (K : Int))).setCell ⟨b, off + j * 6 + 1, none⟩ (.int .i64 ((K : Int) + 1))).setCell ⟨b, off + j * 6 + 2, none⟩ (.int .i64 ((K : Int) + 1 + 1))).setCell ⟨b, off + j * 6 + 3, none⟩ (.int .i64 ((K : Int) + 1 + 1 + 1))).setCell ⟨b, off + j * 6 + 4, none⟩ (.int .i64 ((K : Int) + 1 + 1 + 1 + 1))) := ⟨_, (rfl : (((((wr).setCell ⟨b, off + j * 6, none⟩ (.int .i64 (K : Int))).setCell ⟨b, off + j * 6 + 1, none⟩ (.int .i64 ((K : Int) + 1))).setCell ⟨b, off + j * 6 + 2, none⟩ (.int .i64 ((K : Int) + 1 + 1))).setCell ⟨b, off + j * 6 + 3, none⟩ (.int .i64 ((K : Int) + 1 + 1 + 1))).setCell ⟨b, off + j * 6 + 4, none⟩ (.int .i64 ((K : Int) + 1 + 1 + 1 + 1)) = _)⟩
     rw [← HU.out] at hT2 hO2
     go_wp2_with fail
     rw [← HU.out]
     have hE : (K : Int) + 1 + 1 + 1 + 1 + 1 = ((K + 5 : Nat) : Int) := by omega
     rw [hE]
     refine (markText_any (K + 5) _ (by omega) (by omega)).mono ?_
     rintro e w1 ⟨rfl, hb1⟩
     have hT3 := hT2.bel hb1
     have hO3 := hO2.bel hb1
     obtain ⟨u5, g5⟩ := hT3.there (j * 6 + 5) (by omega)
     rw [← Nat.add_assoc] at g5
     have gf := hT3.free
     have gl := hT3.lt
     have hT4 := hT3.set (off + j * 6 + 5) (.string (mT (K + 5))) (by omega) (by omega) (by rw [mkR_t (by omega)]; have := HK.out; congr 2; omega)
     have HT2 : Hid (Mkd (mkR k) (w1.setCell ⟨b, off + j * 6 + 5, none⟩ (.string (mT (K + 5)))) b off (n * 6) ((j + 1) * 6)) := (by rw [show (j + 1) * 6 = j * 6 + 1 + 1 + 1 + 1 + 1 + 1 by omega]; exact hT4 : Mkd (mkR k) (w1.setCell ⟨b, off + j * 6 + 5, none⟩ (.string (mT (K + 5)))) b off (n * 6) ((j + 1) * 6))
     have HO2 := (show Hid _ from hO3.set (b := b) (by simp) (off + j * 6 + 5) (.string (mT (K + 5))))
     clear hF hO hT2 hO2 hT3 hT4 hO3 hb1 d0 d1 d2 d3 d4 d5 f0 hbl
     go_wp2
     go_roundw
     case rel => exact ⟨j + 1, by omega, by go_num, by have := HK.out; go_num, HT2.out, HO2.out⟩
     case measure => simp [intOf]; omega
    ·have e : n = j := by omega
     subst e
     have HO : Hid (Onl (b :: (List.range l.length).flatMap f) w wr) := hO.mono (fun x hx => by simp at hx; simp [hx])
     have HM : Hid (MkS (mkR k) wr (some ⟨b, off, none⟩) (n * 6) (b :: (List.range l.length).flatMap f)) := .inr ⟨b, off, rfl, by simp, hF.lt, hF.done⟩
     clear hO hF
     go_wp2
     go_ret
     exact ⟨rfl, HM.out, HO.out⟩

end Go.Proofs.YtakedciemnkfhaaGreatDoor

namespace Go.Proofs.YtakedciemnkfhaaGreatDoor
open Go.RowKit Go.Maps

/-- How far the marks of a graph go. -/
def gMk (g : GraphD) : Nat := 1 + 3 * g.places.length + 6 * g.roads.length + 2 * g.bans.length
/-- A graph that is marked from 1 on. -/
def MkG (w : World) (v : Value) (g : GraphD) (bs : List Nat) : Prop :=
 ∃ a0 c0 a1 c1 a2 c2 b0 b1 b2, bs = b0 ++ (b1 ++ b2) ∧ v = .agg #[.slice a0 g.places.length c0, .slice a1 g.roads.length c1, .slice a2 g.bans.length c2] ∧ MkS (mkV 1) w a0 (g.places.length * 3) b0 ∧ MkS (mkR (1 + 3 * g.places.length)) w a1 (g.roads.length * 6) b1 ∧ MkS (mkV (1 + 3 * g.places.length + 6 * g.roads.length)) w a2 (g.bans.length * 2) b2
theorem MkG.bel {w w' : World} {v : Value} {g : GraphD} {bs : List Nat} (h : MkG w v g bs) (hb : Bel w w') : MkG w' v g bs := by
 obtain ⟨a0, c0, a1, c1, a2, c2, b0, b1, b2, e1, e2, h0, h1, h2⟩ := h
 exact ⟨a0, c0, a1, c1, a2, c2, b0, b1, b2, e1, e2, h0.bel hb, h1.bel hb, h2.bel hb⟩

set_option maxRecDepth 100000 in
set_option maxHeartbeats 2000000 in
theorem markGraph_x (v : Value) (g : GraphD) (bs : List Nat) (w : World) (hV : GphV w v g bs) (hQ : GphQ g) (hf : ∀ x ∈ bs, ∀ j, w.frozen? ⟨x, j, none⟩ = false) (hd : bs.Nodup) :
  Calls Tryz.prog 13 #[v, .int .i64 1] w fun e w' => e = .returned (.int .i64 ((gMk g : Nat) : Int)) ∧ MkG w' v g bs ∧ Onl bs w w' := by
 obtain ⟨a0, c0, a1, c1, a2, c2, b0, b1, b2, rfl, rfl, t0, t1, t2⟩ := hV
 obtain ⟨m0, m1, m2⟩ := hQ
 obtain ⟨n0, H0⟩ : ∃ n, Hid (g.places.length = n) := ⟨_, (rfl : g.places.length = _)⟩
 obtain ⟨n1, H1⟩ : ∃ n, Hid (g.roads.length = n) := ⟨_, (rfl : g.roads.length = _)⟩
 obtain ⟨n2, H2⟩ : ∃ n, Hid (g.bans.length = n) := ⟨_, (rfl : g.bans.length = _)⟩
 rw [H0.out] at m0
 rw [H1.out] at m1
 rw [H2.out] at m2
 rw [H0.out, H1.out, H2.out]
 obtain ⟨d0, d12, x0⟩ := List.nodup_append.1 hd
 obtain ⟨d1, d2, x1⟩ := List.nodup_append.1 d12
 have D01 : ∀ x ∈ b1, x ∉ b0 := fun x hx hy => x0 x hy x (List.mem_append.2 (.inl hx)) rfl
 have D02 : ∀ x ∈ b2, x ∉ b0 := fun x hx hy => x0 x hy x (List.mem_append.2 (.inr hx)) rfl
 have D12 : ∀ x ∈ b2, x ∉ b1 := fun x hx hy => x1 x hy x hx rfl
 obtain ⟨W, HW⟩ : ∃ W, Hid (W = w.alloc (.cells #[.slice a0 n0 c0, .slice a1 n1 c1, .slice a2 n2 c2] 36)) := ⟨_, (rfl : w.alloc (.cells #[.slice a0 n0 c0, .slice a1 n1 c1, .slice a2 n2 c2] 36) = _)⟩
 have hBW : Bel w W := by rw [HW.out]; exact bel_alloc (Bel.refl _) _
 have X0 : Blk W w.heap.size [.slice a0 n0 c0, .slice a1 n1 c1, .slice a2 n2 c2] := by rw [HW.out]; exact Blk.new w [.slice a0 n0 c0, .slice a1 n1 c1, .slice a2 n2 c2] _
 have L0 := t0.lt spotE
 have L1 := t1.lt roadE
 have L2 := t2.lt banE
 have T0 := t0.bel spotE hBW
 have T1 := t1.bel roadE hBW
 have T2 := t2.bel banE hBW
 have fz : ∀ x, x < w.heap.size → (∀ j, w.frozen? ⟨x, j, none⟩ = false) → ∀ j, W.frozen? ⟨x, j, none⟩ = false := fun x hx h j => by rw [hBW.out.frozen (p := ⟨x, j, none⟩) hx]; exact h j
 have F0 : ∀ x ∈ b0, ∀ j, W.frozen? ⟨x, j, none⟩ = false := fun x hx => fz x (L0 x hx) (hf x (by simp [hx]))
 have F1 : ∀ x ∈ b1, ∀ j, W.frozen? ⟨x, j, none⟩ = false := fun x hx => fz x (L1 x hx) (hf x (by simp [hx]))
 have F2 : ∀ x ∈ b2, ∀ j, W.frozen? ⟨x, j, none⟩ = false := fun x hx => fz x (L2 x hx) (hf x (by simp [hx]))
 have N0 : w.heap.size ∉ b0 := fun h => absurd (L0 _ h) (Nat.lt_irrefl _)
 have N1 : w.heap.size ∉ b1 := fun h => absurd (L1 _ h) (Nat.lt_irrefl _)
 clear t0 t1 t2 hd d12 x0 x1 hf fz
 go_enter Tryz.func13, Tryz.ntmps13
 go_wp2_with fail
 rw [← HW.out]
 refine (markSpotS_x _ _ _ g.places b0 1 _ T0 F0 H0.out m0 (by omega) (by omega)).mono ?_
 rintro e w1 ⟨rfl, M1, O1⟩
 have y1 : w1.cell? ⟨w.heap.size, 1, none⟩ = some (.slice a1 n1 c1) := by rw [OnlF.cell O1 X0.lt N0]; exact X0.cell 1 (by simp)
 have y2 : w1.cell? ⟨w.heap.size, 2, none⟩ = some (.slice a2 n2 c2) := by rw [OnlF.cell O1 X0.lt N0]; exact X0.cell 2 (by simp)
 have z1 := Nat.lt_of_lt_of_le X0.lt O1.size
 have q1 : ∀ x ∈ b1, x < W.heap.size := T1.lt roadE
 have q2 : ∀ x ∈ b2, x < W.heap.size := T2.lt banE
 have T11 := T1.alike roadE (O1.alike q1 D01)
 have T12 := T2.alike banE (O1.alike q2 D02)
 have F11 : ∀ x ∈ b1, ∀ j, w1.frozen? ⟨x, j, none⟩ = false := fun x hx j => by rw [OnlF.frozen O1 (q1 x hx) (D01 x hx)]; exact F1 x hx j
 have F12 : ∀ x ∈ b2, ∀ j, w1.frozen? ⟨x, j, none⟩ = false := fun x hx j => by rw [OnlF.frozen O1 (q2 x hx) (D02 x hx)]; exact F2 x hx j
 obtain ⟨k1, HK1⟩ : ∃ k, Hid (1 + 3 * n0 = k) := ⟨_, (rfl : 1 + 3 * n0 = _)⟩
 rw [HK1.out]
 have hk1 : 0 < k1 ∧ k1 ≤ 4000000 := by have := HK1.out; omega
 go_wp2_with fail
 refine (markRoadS_x _ _ _ g.roads b1 k1 _ T11 F11 H1.out m1 (by omega) (by omega)).mono ?_
 rintro e w2 ⟨rfl, M2, O2⟩
 have y22 : w2.cell? ⟨w.heap.size, 2, none⟩ = some (.slice a2 n2 c2) := by rw [OnlF.cell O2 z1 N1]; exact y2
 have z2 := Nat.lt_of_lt_of_le z1 O2.size
 have q12 : ∀ x ∈ b2, x < w1.heap.size := T12.lt banE
 have T22 := T12.alike banE (O2.alike q12 D12)
 have F22 : ∀ x ∈ b2, ∀ j, w2.frozen? ⟨x, j, none⟩ = false := fun x hx j => by rw [OnlF.frozen O2 (q12 x hx) (D12 x hx)]; exact F12 x hx j
 obtain ⟨k2, HK2⟩ : ∃ k, Hid (k1 + 6 * n1 = k) := ⟨_, (rfl : k1 + 6 * n1 = _)⟩
 rw [HK2.out]
 have hk2 : 0 < k2 ∧ k2 ≤ 12000000 := by have := HK2.out; omega
 clear y1 y2
 go_wp2_with fail
 refine (markBanS_x _ _ _ g.bans b2 k2 _ T22 F22 H2.out m2 (by omega) (by omega)).mono ?_
 rintro e w3 ⟨rfl, M3, O3⟩
 have HO : Hid (Onl (b0 ++ (b1 ++ b2)) w w3) :=
  ((((Onl.refl _ w).bel hBW).trans (O1.mono fun x hx => List.mem_append.2 (.inl hx))).trans (O2.mono fun x hx => List.mem_append.2 (.inr (List.mem_append.2 (.inl hx))))).trans (O3.mono fun x hx => List.mem_append.2 (.inr (List.mem_append.2 (.inr hx))))
 have HM : Hid (MkG w3 (.agg #[.slice a0 n0 c0, .slice a1 n1 c1, .slice a2 n2 c2]) g (b0 ++ (b1 ++ b2))) := ⟨a0, c0, a1, c1, a2, c2, b0, b1, b2, rfl, by rw [H0.out, H1.out, H2.out], by
  rw [H0.out]
  exact (M1.onl O2 fun x hx hy => D01 x hy hx).onl O3 fun x hx hy => D02 x hy hx, by
  rw [H0.out, H1.out, HK1.out]
  exact M2.onl O3 fun x hx hy => D12 x hy hx, by
  rw [H0.out, H1.out, H2.out, HK1.out, HK2.out]
  exact M3⟩
 have HG : Hid (gMk g = k2 + 2 * n2) := (by unfold gMk; rw [H0.out, H1.out, H2.out, HK1.out, HK2.out] : gMk g = k2 + 2 * n2)
 clear y22 M1 M2 M3
 go_wp2
 go_ret
 exact ⟨by rw [HG.out]; rfl, HM.out, HO.out⟩

end Go.Proofs.YtakedciemnkfhaaGreatDoor
