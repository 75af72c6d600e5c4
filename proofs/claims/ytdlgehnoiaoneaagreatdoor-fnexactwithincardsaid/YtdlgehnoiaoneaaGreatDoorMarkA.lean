/-
  Arrivals held against each other, marked, and their marks held: contracts.
-/
import Derived.Test.YtdlgehnoiaoneaaGreatDoorHA
import Derived.Test.YtdlgehnoiaoneaaGreatDoorGF
import Derived.Deep.RegionHeld3
namespace Go.Proofs.YtdlgehnoiaoneaaGreatDoor
open Go.RowKit Go.Maps

theorem eqArrival_same (x0 : Int) (x1 : Int) (w : World) :
  Calls Tryz.prog 25 #[.agg #[.int .i64 x0, .int .i64 x1], .agg #[.int .i64 x0, .int .i64 x1]] w fun e w' => e = .returned (.bool true) ∧ Bel w w' := by
 go_enter Tryz.func25, Tryz.ntmps25
 go_wp2
 go_ret
 exact ⟨rfl, bel_alloc (bel_alloc (Bel.refl _) _) _⟩

set_option maxHeartbeats 1000000 in
theorem eqArrivalS_same (a a' : Option Addr) (n c c' : Nat) (l : List BanD) (bs bs' : List Nat) (w : World) (hP : BanL w a l bs) (hP' : BanL w a' l bs') (hn : l.length = n) (hm : n ≤ 1048576) :
  Calls Tryz.prog 8 #[.slice a n c, .slice a' n c'] w fun e w' => e = .returned (.bool true) ∧ Bel w w' := by
 have Hn : Hid (l.length = n) := hn
 clear hn
 go_enter Tryz.func8, Tryz.ntmps8
 go_wp2
 go_loopw [5] (fun i wr => ∃ k : Nat, k ≤ n ∧ i = .int .i64 k ∧ Bel w wr) (fun i _ => n - (intOf i).toNat)
 case atStart => exact ⟨0, Nat.zero_le _, rfl, Bel.refl _⟩
 case round =>
  obtain ⟨k, hk, rfl, hbel⟩ := hrel
  by_cases hlt : k < n
  ·have hkl : k < l.length := by rw [Hn.out]; exact hlt
   obtain ⟨b, off, f, rfl, h2, h3⟩ := (hP.bel banE hbel).out hkl
   obtain ⟨b', off', f', rfl, h2', h3'⟩ := (hP'.bel banE hbel).out hkl
   obtain ⟨_, in0, in1, c0, c1⟩ := h3 k hkl
   obtain ⟨_, in0', in1', c0', c1'⟩ := h3' k hkl
   have hR : ∀ w', Bel wr w' → w'.cell? ⟨b, off + k * 2, none⟩ = some (.int .i64 l[k].fr) ∧ w'.cell? ⟨b, off + k * 2 + 1, none⟩ = some (.int .i64 l[k].to) ∧ w'.cell? ⟨b', off' + k * 2, none⟩ = some (.int .i64 l[k].fr) ∧ w'.cell? ⟨b', off' + k * 2 + 1, none⟩ = some (.int .i64 l[k].to) :=
    fun w' h => ⟨bel_cellM h h2 c0, bel_cellM h h2 c1, bel_cellM h h2' c0', bel_cellM h h2' c1'⟩
   have hlt' : (k : Int) < (n : Int) := by omega
   have g0 : Bel wr wr := Bel.refl _
   clear h3 h3' c0 c0' c1 c1' h2 h2' hP hP'
   go_wp2
   go_region_held3 (fun w' => Bel wr w') (repeat (first | exact g0 | refine Bel.drew ?_ | assumption | refine bel_then (by assumption) ?_))
    (first
     | (go_at_call 25; refine (eqArrival_same l[k].fr l[k].to _).mono ?_; rintro e w' ⟨rfl, hbk⟩))
   have hH : Bel wr w' := by assumption
   go_wp2
   go_roundw
   case rel => exact ⟨k + 1, by omega, by go_num, bel_step hbel hH⟩
   case measure => simp [intOf]; omega
  ·have e : k = n := by omega
   subst e
   go_wp2
   go_ret
   exact ⟨rfl, hbel⟩


set_option maxRecDepth 100000 in
set_option maxHeartbeats 1000000 in
theorem markArrivalS_x (a : Option Addr) (n c : Nat) (l : List BanD) (bs : List Nat) (k : Nat) (w : World) (hT : BanL w a l bs) (hf : ∀ x ∈ bs, ∀ j, w.frozen? ⟨x, j, none⟩ = false) (hn : l.length = n) (hm : n ≤ 1048576) (h0k : 0 < k) (hk : k ≤ 1125899906842624) :
  Calls Tryz.prog 11 #[.slice a n c, .int .i64 k] w fun e w' => e = .returned (.int .i64 ((k + 2 * n : Nat) : Int)) ∧ MkS (mkV k) w' a (n * 2) bs ∧ Onl bs w w' := by
 by_cases h0 : n = 0
 ·subst h0
  go_enter Tryz.func11, Tryz.ntmps11
  go_wp2
  go_loopw [1, 5] (fun t i wr => t = .int .i64 k ∧ i = .int .i64 0 ∧ wr = w) (fun _ _ _ => 0)
  case atStart => exact ⟨rfl, rfl, rfl⟩
  case round =>
   obtain ⟨rfl, rfl, rfl⟩ := hrel
   go_wp2
   go_ret
   exact ⟨by simp, .inl (Nat.zero_mul _), Onl.refl _ _⟩
 ·rcases hT with ⟨rfl, _⟩ | ⟨b, off, f, rfl, hb, rfl, hx⟩
  ·exact absurd hn.symm h0
  ·have hT0 : Mkd (mkV k) w b off (n * 2) (0 * 2) := ⟨hb, fun p hp => by omega, fun j hj => ?_, hf b (by simp)⟩
   rotate_left
   ·have hi : j / 2 < l.length := by rw [hn]; omega
    have hc := hx (j / 2) hi
    have e : j = j / 2 * 2 + j % 2 := by omega
    have hr : j % 2 < 2 := by omega
    rw [e, ← Nat.add_assoc]
    obtain ⟨_, _, _, c0, c1⟩ := hc
    match hj' : j % 2, hr with
    | 0, _ => exact ⟨_, c0⟩
    | 1, _ => exact ⟨_, c1⟩
   have Hn : Hid (l.length = n) := hn
   clear hx hf hn
   go_enter Tryz.func11, Tryz.ntmps11
   go_wp2
   go_loopw [1, 5] (fun t i wr => ∃ j : Nat, j ≤ n ∧ i = .int .i64 j ∧ t = .int .i64 ((k + 2 * j : Nat) : Int) ∧ Mkd (mkV k) wr b off (n * 2) (j * 2) ∧ Onl [b] w wr) (fun _ i _ => n - (intOf i).toNat)
   case atStart => exact ⟨0, Nat.zero_le _, rfl, by simp, hT0, Onl.refl _ _⟩
   case round =>
    obtain ⟨j, hj, rfl, rfl, hF, hO⟩ := hrel
    clear hT0
    by_cases hlt : j < n
    ·have hlt' : (j : Int) < (n : Int) := by omega
     obtain ⟨v0, d0⟩ := hF.there (j * 2) (by omega)
     obtain ⟨v1, d1⟩ := hF.there (j * 2 + 1) (by omega)
     rw [← Nat.add_assoc] at d1
     have f0 := hF.free
     have hbl := hF.lt
     obtain ⟨K, HK⟩ : ∃ K, Hid (k + 2 * j = K) := ⟨_, (rfl : k + 2 * j = _)⟩
     rw [HK.out]
     have hK : (K : Int) ≤ 2251799813685248 := by have := HK.out; omega
     have hK0 : 0 < K := by have := HK.out; omega
     have hT2 := ((hF).set (off + j * 2) (.int .i64 (K : Int)) (by omega) (by omega) (by unfold mkV; have := HK.out; congr 1; omega)).set (off + j * 2 + 1) (.int .i64 ((K : Int) + 1)) (by omega) (by omega) (by unfold mkV; have := HK.out; congr 1; omega)
     have hO2 := ((hO).set (b := b) (by simp) (off + j * 2) (.int .i64 (K : Int))).set (b := b) (by simp) (off + j * 2 + 1) (.int .i64 ((K : Int) + 1))
     have HT2 : Hid (Mkd (mkV k) (((wr).setCell ⟨b, off + j * 2, none⟩ (.int .i64 (K : Int))).setCell ⟨b, off + j * 2 + 1, none⟩ (.int .i64 ((K : Int) + 1))) b off (n * 2) ((j + 1) * 2)) := (by rw [show (j + 1) * 2 = j * 2 + 1 + 1 by omega]; exact hT2 : Mkd (mkV k) (((wr).setCell ⟨b, off + j * 2, none⟩ (.int .i64 (K : Int))).setCell ⟨b, off + j * 2 + 1, none⟩ (.int .i64 ((K : Int) + 1))) b off (n * 2) ((j + 1) * 2))
     have HO2 := (show Hid _ from hO2)
     clear hF hO hT2 hO2
     go_wp2
     go_roundw
     case rel => exact ⟨j + 1, by omega, by go_num, by have := HK.out; go_num, HT2.out, HO2.out⟩
     case measure => simp [intOf]; omega
    ·have e : n = j := by omega
     subst e
     have HO : Hid (Onl (b :: (List.range l.length).flatMap f) w wr) := hO.mono (fun x hx => by simp at hx; simp [hx])
     have HM : Hid (MkS (mkV k) wr (some ⟨b, off, none⟩) (n * 2) (b :: (List.range l.length).flatMap f)) := .inr ⟨b, off, rfl, by simp, hF.lt, hF.done⟩
     clear hO hF
     go_wp2
     go_ret
     exact ⟨rfl, HM.out, HO.out⟩

set_option maxRecDepth 100000 in
set_option maxHeartbeats 1000000 in
theorem heldArrivalS_x (a : Option Addr) (n c : Nat) (bs : List Nat) (k : Nat) (w : World) (hT : MkS (mkV k) w a (n * 2) bs) (hm : n ≤ 1048576) (h0k : 0 < k) (hk : k ≤ 1125899906842624) :
  Calls Tryz.prog 12 #[.slice a n c, .int .i64 k] w fun e w' => e = .returned (.int .i64 ((k + 2 * n : Nat) : Int)) ∧ Bel w w' := by
 rcases hT with h0 | ⟨b, off, rfl, _, hb, hx⟩
 ·obtain rfl : n = 0 := by omega
  go_enter Tryz.func12, Tryz.ntmps12
  go_wp2
  go_loopw [1, 5] (fun t i wr => t = .int .i64 k ∧ i = .int .i64 0 ∧ wr = w) (fun _ _ _ => 0)
  case atStart => exact ⟨rfl, rfl, rfl⟩
  case round =>
   obtain ⟨rfl, rfl, rfl⟩ := hrel
   go_wp2
   go_ret
   exact ⟨by simp, Bel.refl _⟩
 ·have HC : Hid (∀ p, p < n * 2 → w.cell? ⟨b, off + p, none⟩ = some (mkV k p)) := hx
  clear hx
  go_enter Tryz.func12, Tryz.ntmps12
  go_wp2
  go_loopw [1, 5] (fun t i wr => ∃ j : Nat, j ≤ n ∧ i = .int .i64 j ∧ t = .int .i64 ((k + 2 * j : Nat) : Int) ∧ Bel w wr) (fun _ i _ => n - (intOf i).toNat)
  case atStart => exact ⟨0, Nat.zero_le _, rfl, by simp, Bel.refl _⟩
  case round =>
   obtain ⟨j, hj, rfl, rfl, hbel⟩ := hrel
   by_cases hlt : j < n
   ·have hlt' : (j : Int) < (n : Int) := by omega
    obtain ⟨K, HK⟩ : ∃ K, Hid (k + 2 * j = K) := ⟨_, (rfl : k + 2 * j = _)⟩
    have hbl := bel_lt hbel hb
    have c0 : wr.cell? ⟨b, off + j * 2, none⟩ = some (.int .i64 (K : Int)) := by
     have h := bel_cellM hbel hb (HC.out (j * 2) (by omega))
     rw [h]
     unfold mkV; have := HK.out; congr 2; omega
    have c1 : wr.cell? ⟨b, off + j * 2 + 1, none⟩ = some (.int .i64 ((K : Int) + 1)) := by
     have h := bel_cellM hbel hb (HC.out (j * 2 + 1) (by omega))
     rw [← Nat.add_assoc] at h
     rw [h]
     unfold mkV; have := HK.out; congr 2; omega
    rw [HK.out]
    have hK : (K : Int) ≤ 2251799813685248 := by have := HK.out; omega
    have hK0 : 0 < K := by have := HK.out; omega
    go_wp2
    go_roundw
    case rel => exact ⟨j + 1, by omega, by go_num, by have := HK.out; go_num, hbel⟩
    case measure => simp [intOf]; omega
   ·have e : n = j := by omega
    subst e
    go_wp2
    go_ret
    exact ⟨rfl, hbel⟩

end Go.Proofs.YtdlgehnoiaoneaaGreatDoor
