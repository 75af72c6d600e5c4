/-
  Places, roads, bans and graphs, marked, and their marks held: what is written, and that it is found again: contracts.
-/
import Derived.Test.YtiagdabikbjbiaaMarkG
import Derived.Test.YtiagdabikbjbiaaMarkD
import Derived.Deep.RegionHeld3
namespace Go.Proofs.Ytiagdabikbjbiaa
open Go.RowKit Go.Maps

/-- The first m cells are marked. -/
structure Mkd (V : Nat → Value) (w : World) (b off N m : Nat) : Prop where
  lt : b < w.heap.size
  done : ∀ p, p < m → w.cell? ⟨b, off + p, none⟩ = some (V p)
  there : ∀ p, p < N → ∃ v, w.cell? ⟨b, off + p, none⟩ = some v
  free : ∀ j, w.frozen? ⟨b, j, none⟩ = false
theorem Mkd.set {V : Nat → Value} {w : World} {b off N m : Nat} (h : Mkd V w b off N m) (o : Nat) (v : Value) (hm : m < N) (ho : o = off + m) (hv : v = V m) : Mkd V (w.setCell ⟨b, o, none⟩ v) b off N (m + 1) := by
  subst ho
  refine ⟨by simpa [World.setCell] using h.lt, fun p hp => ?_, fun p hp => ?_, fun j => by rw [World.frozen?_setCell]; exact h.free j⟩
  · by_cases e : p = m
    · subst e
      obtain ⟨u, hu⟩ := h.there p hm
      rw [← hv]; exact World.cell?_setCell_same _ _ _ hu
    · rw [World.cell?_setCell_other _ _ _ _ (fun e2 => e (by have := congrArg Addr.off e2; simp at this; omega))]
      exact h.done p (by omega)
  · by_cases e : p = m
    · subst e
      obtain ⟨u, hu⟩ := h.there p hm
      exact ⟨_, World.cell?_setCell_same _ _ _ hu⟩
    · rw [World.cell?_setCell_other _ _ _ _ (fun e2 => e (by have := congrArg Addr.off e2; simp at this; omega))]
      exact h.there p hp
theorem Mkd.bel {V : Nat → Value} {w w' : World} {b off N m : Nat} (h : Mkd V w b off N m) (hb : Bel w w') : Mkd V w' b off N m :=
  ⟨bel_lt hb h.lt, fun p hp => bel_cellM hb h.lt (h.done p hp), fun p hp => by obtain ⟨u, hu⟩ := h.there p hp; exact ⟨u, bel_cellM hb h.lt hu⟩, fun j => by rw [hb.out.frozen (p := ⟨b, j, none⟩) h.lt]; exact h.free j⟩
/-- A slice of N marked cells. -/
def MkS (V : Nat → Value) (w : World) (a : Option Addr) (N : Nat) (bs : List Nat) : Prop := N = 0 ∨ ∃ b off, a = some ⟨b, off, none⟩ ∧ b ∈ bs ∧ b < w.heap.size ∧ ∀ p, p < N → w.cell? ⟨b, off + p, none⟩ = some (V p)
theorem MkS.bel {V : Nat → Value} {w w' : World} {a : Option Addr} {N : Nat} {bs : List Nat} (h : MkS V w a N bs) (hb : Bel w w') : MkS V w' a N bs :=
  h.imp id fun ⟨b, off, e, hm, hl, hc⟩ => ⟨b, off, e, hm, bel_lt hb hl, fun p hp => bel_cellM hb hl (hc p hp)⟩
theorem MkS.onl {V : Nat → Value} {w w' : World} {a : Option Addr} {N : Nat} {bs cs : List Nat} (h : MkS V w a N bs) (ho : Onl cs w w') (hd : ∀ x ∈ bs, x ∉ cs) : MkS V w' a N bs :=
  h.imp id fun ⟨b, off, e, hm, hl, hc⟩ => ⟨b, off, e, hm, Nat.lt_of_lt_of_le hl ho.size, fun p hp => by rw [OnlF.cell ho hl (hd b hm)]; exact hc p hp⟩
/-- Marks of numbers; marks of Roads. -/
def mkV (k p : Nat) : Value := .int .i64 ((k + p : Nat) : Int)
def mkR (k p : Nat) : Value := if p % 6 = 5 then .string (mT (k + p)) else .int .i64 ((k + p : Nat) : Int)
theorem mkR_n {k p : Nat} (h : p % 6 ≠ 5) : mkR k p = .int .i64 ((k + p : Nat) : Int) := if_neg h
theorem mkR_t {k p : Nat} (h : p % 6 = 5) : mkR k p = .string (mT (k + p)) := if_pos h

set_option maxRecDepth 100000 in
set_option maxHeartbeats 1000000 in
theorem markBanS_x (a : Option Addr) (n c : Nat) (l : List BanD) (bs : List Nat) (k : Nat) (w : World) (hT : BanL w a l bs) (hf : ∀ x ∈ bs, ∀ j, w.frozen? ⟨x, j, none⟩ = false) (hn : l.length = n) (hm : n ≤ 1048576) (h0k : 0 < k) (hk : k ≤ 1125899906842624) :
    Calls Try.prog 39 #[.slice a n c, .int .i64 k] w fun e w' => e = .returned (.int .i64 ((k + 2 * n : Nat) : Int)) ∧ MkS (mkV k) w' a (n * 2) bs ∧ Onl bs w w' := by
  by_cases h0 : n = 0
  · subst h0
    go_enter Try.func39, Try.ntmps39
    go_wp2
    go_loopw [1, 5] (fun t i wr => t = .int .i64 k ∧ i = .int .i64 0 ∧ wr = w) (fun _ _ _ => 0)
    case atStart => exact ⟨rfl, rfl, rfl⟩
    case round =>
      obtain ⟨rfl, rfl, rfl⟩ := hrel
      go_wp2
      go_ret
      exact ⟨by simp, .inl (Nat.zero_mul _), Onl.refl _ _⟩
  · rcases hT with ⟨rfl, _⟩ | ⟨b, off, f, rfl, hb, rfl, hx⟩
    · exact absurd hn.symm h0
    · have hT0 : Mkd (mkV k) w b off (n * 2) (0 * 2) := ⟨hb, fun p hp => by omega, fun j hj => ?_, hf b (by simp)⟩
      rotate_left
      · have hi : j / 2 < l.length := by rw [hn]; omega
        have hc := hx (j / 2) hi
        have e : j = j / 2 * 2 + j % 2 := by omega
        have hr : j % 2 < 2 := by omega
        rw [e, ← Nat.add_assoc]
        obtain ⟨_, _, _, c0, c1⟩ := hc
        match hj' : j % 2, hr with
        | 0, _ => exact ⟨_, c0⟩
        | 1, _ => exact ⟨_, c1⟩
      have Hn : Hid (l.length = n) := hn
      clear hx hf hn
      go_enter Try.func39, Try.ntmps39
      go_wp2
      go_loopw [1, 5] (fun t i wr => ∃ j : Nat, j ≤ n ∧ i = .int .i64 j ∧ t = .int .i64 ((k + 2 * j : Nat) : Int) ∧ Mkd (mkV k) wr b off (n * 2) (j * 2) ∧ Onl [b] w wr) (fun _ i _ => n - (intOf i).toNat)
      case atStart => exact ⟨0, Nat.zero_le _, rfl, by simp, hT0, Onl.refl _ _⟩
      case round =>
        obtain ⟨j, hj, rfl, rfl, hF, hO⟩ := hrel
        clear hT0
        by_cases hlt : j < n
        · have hlt' : (j : Int) < (n : Int) := by omega
          obtain ⟨v0, d0⟩ := hF.there (j * 2) (by omega)
          obtain ⟨v1, d1⟩ := hF.there (j * 2 + 1) (by omega)
          rw [← Nat.add_assoc] at d1
          have f0 := hF.free
          have hbl := hF.lt
          obtain ⟨K, HK⟩ : ∃ K, Hid (k + 2 * j = K) := ⟨_, (rfl : k + 2 * j = _)⟩
          rw [HK.out]
          have hK : (K : Int) ≤ 2251799813685248 := by have := HK.out; omega
          have hK0 : 0 < K := by have := HK.out; omega
          have hT2 := ((hF).set (off + j * 2) (.int .i64 (K : Int)) (by omega) (by omega) (by unfold mkV; have := HK.out; congr 1; omega)).set (off + j * 2 + 1) (.int .i64 ((K : Int) + 1)) (by omega) (by omega) (by unfold mkV; have := HK.out; congr 1; omega)
          have hO2 := ((hO).set (b := b) (by simp) (off + j * 2) (.int .i64 (K : Int))).set (b := b) (by simp) (off + j * 2 + 1) (.int .i64 ((K : Int) + 1))
          have HT2 : Hid (Mkd (mkV k) (((wr).setCell ⟨b, off + j * 2, none⟩ (.int .i64 (K : Int))).setCell ⟨b, off + j * 2 + 1, none⟩ (.int .i64 ((K : Int) + 1))) b off (n * 2) ((j + 1) * 2)) := (by rw [show (j + 1) * 2 = j * 2 + 1 + 1 by omega]; exact hT2 : Mkd (mkV k) (((wr).setCell ⟨b, off + j * 2, none⟩ (.int .i64 (K : Int))).setCell ⟨b, off + j * 2 + 1, none⟩ (.int .i64 ((K : Int) + 1))) b off (n * 2) ((j + 1) * 2))
          have HO2 := (show Hid _ from hO2)
          clear hF hO hT2 hO2
          go_wp2
          go_roundw
          case rel => exact ⟨j + 1, by omega, by go_num, by have := HK.out; go_num, HT2.out, HO2.out⟩
          case measure => simp [intOf]; omega
        · have e : n = j := by omega
          subst e
          have HO : Hid (Onl (b :: (List.range l.length).flatMap f) w wr) := hO.mono (fun x hx => by simp at hx; simp [hx])
          have HM : Hid (MkS (mkV k) wr (some ⟨b, off, none⟩) (n * 2) (b :: (List.range l.length).flatMap f)) := .inr ⟨b, off, rfl, by simp, hF.lt, hF.done⟩
          clear hO hF
          go_wp2
          go_ret
          exact ⟨rfl, HM.out, HO.out⟩

set_option maxRecDepth 100000 in
set_option maxHeartbeats 1000000 in
theorem markSpotS_x (a : Option Addr) (n c : Nat) (l : List SpotD) (bs : List Nat) (k : Nat) (w : World) (hT : SpotL w a l bs) (hf : ∀ x ∈ bs, ∀ j, w.frozen? ⟨x, j, none⟩ = false) (hn : l.length = n) (hm : n ≤ 1048576) (h0k : 0 < k) (hk : k ≤ 1125899906842624) :
    Calls Try.prog 37 #[.slice a n c, .int .i64 k] w fun e w' => e = .returned (.int .i64 ((k + 3 * n : Nat) : Int)) ∧ MkS (mkV k) w' a (n * 3) bs ∧ Onl bs w w' := by
  by_cases h0 : n = 0
  · subst h0
    go_enter Try.func37, Try.ntmps37
    go_wp2
    go_loopw [1, 5] (fun t i wr => t = .int .i64 k ∧ i = .int .i64 0 ∧ wr = w) (fun _ _ _ => 0)
    case atStart => exact ⟨rfl, rfl, rfl⟩
    case round =>
      obtain ⟨rfl, rfl, rfl⟩ := hrel
      go_wp2
      go_ret
      exact ⟨by simp, .inl (Nat.zero_mul _), Onl.refl _ _⟩
  · rcases hT with ⟨rfl, _⟩ | ⟨b, off, f, rfl, hb, rfl, hx⟩
    · exact absurd hn.symm h0
    · have hT0 : Mkd (mkV k) w b off (n * 3) (0 * 3) := ⟨hb, fun p hp => by omega, fun j hj => ?_, hf b (by simp)⟩
      rotate_left
      · have hi : j / 3 < l.length := by rw [hn]; omega
        have hc := hx (j / 3) hi
        have e : j = j / 3 * 3 + j % 3 := by omega
        have hr : j % 3 < 3 := by omega
        rw [e, ← Nat.add_assoc]
        obtain ⟨_, _, _, _, c0, c1, c2⟩ := hc
        match hj' : j % 3, hr with
        | 0, _ => exact ⟨_, c0⟩
        | 1, _ => exact ⟨_, c1⟩
        | 2, _ => exact ⟨_, c2⟩
      have Hn : Hid (l.length = n) := hn
      clear hx hf hn
      go_enter Try.func37, Try.ntmps37
      go_wp2
      go_loopw [1, 5] (fun t i wr => ∃ j : Nat, j ≤ n ∧ i = .int .i64 j ∧ t = .int .i64 ((k + 3 * j : Nat) : Int) ∧ Mkd (mkV k) wr b off (n * 3) (j * 3) ∧ Onl [b] w wr) (fun _ i _ => n - (intOf i).toNat)
      case atStart => exact ⟨0, Nat.zero_le _, rfl, by simp, hT0, Onl.refl _ _⟩
      case round =>
        obtain ⟨j, hj, rfl, rfl, hF, hO⟩ := hrel
        clear hT0
        by_cases hlt : j < n
        · have hlt' : (j : Int) < (n : Int) := by omega
          obtain ⟨v0, d0⟩ := hF.there (j * 3) (by omega)
          obtain ⟨v1, d1⟩ := hF.there (j * 3 + 1) (by omega)
          rw [← Nat.add_assoc] at d1
          obtain ⟨v2, d2⟩ := hF.there (j * 3 + 2) (by omega)
          rw [← Nat.add_assoc] at d2
          have f0 := hF.free
          have hbl := hF.lt
          obtain ⟨K, HK⟩ : ∃ K, Hid (k + 3 * j = K) := ⟨_, (rfl : k + 3 * j = _)⟩
          rw [HK.out]
          have hK : (K : Int) ≤ 2251799813685248 := by have := HK.out; omega
          have hK0 : 0 < K := by have := HK.out; omega
          have hT2 := (((hF).set (off + j * 3) (.int .i64 (K : Int)) (by omega) (by omega) (by unfold mkV; have := HK.out; congr 1; omega)).set (off + j * 3 + 1) (.int .i64 ((K : Int) + 1)) (by omega) (by omega) (by unfold mkV; have := HK.out; congr 1; omega)).set (off + j * 3 + 2) (.int .i64 ((K : Int) + 2)) (by omega) (by omega) (by unfold mkV; have := HK.out; congr 1; omega)
          have hO2 := (((hO).set (b := b) (by simp) (off + j * 3) (.int .i64 (K : Int))).set (b := b) (by simp) (off + j * 3 + 1) (.int .i64 ((K : Int) + 1))).set (b := b) (by simp) (off + j * 3 + 2) (.int .i64 ((K : Int) + 2))
          have HT2 : Hid (Mkd (mkV k) ((((wr).setCell ⟨b, off + j * 3, none⟩ (.int .i64 (K : Int))).setCell ⟨b, off + j * 3 + 1, none⟩ (.int .i64 ((K : Int) + 1))).setCell ⟨b, off + j * 3 + 2, none⟩ (.int .i64 ((K : Int) + 2))) b off (n * 3) ((j + 1) * 3)) := (by rw [show (j + 1) * 3 = j * 3 + 1 + 1 + 1 by omega]; exact hT2 : Mkd (mkV k) ((((wr).setCell ⟨b, off + j * 3, none⟩ (.int .i64 (K : Int))).setCell ⟨b, off + j * 3 + 1, none⟩ (.int .i64 ((K : Int) + 1))).setCell ⟨b, off + j * 3 + 2, none⟩ (.int .i64 ((K : Int) + 2))) b off (n * 3) ((j + 1) * 3))
          have HO2 := (show Hid _ from hO2)
          clear hF hO hT2 hO2
          go_wp2
          go_roundw
          case rel => exact ⟨j + 1, by omega, by go_num, by have := HK.out; go_num, HT2.out, HO2.out⟩
          case measure => simp [intOf]; omega
        · have e : n = j := by omega
          subst e
          have HO : Hid (Onl (b :: (List.range l.length).flatMap f) w wr) := hO.mono (fun x hx => by simp at hx; simp [hx])
          have HM : Hid (MkS (mkV k) wr (some ⟨b, off, none⟩) (n * 3) (b :: (List.range l.length).flatMap f)) := .inr ⟨b, off, rfl, by simp, hF.lt, hF.done⟩
          clear hO hF
          go_wp2
          go_ret
          exact ⟨rfl, HM.out, HO.out⟩

set_option maxRecDepth 100000 in
set_option maxHeartbeats 1000000 in
theorem markRoadS_x (a : Option Addr) (n c : Nat) (l : List RoadD) (bs : List Nat) (k : Nat) (w : World) (hT : RoadL w a l bs) (hf : ∀ x ∈ bs, ∀ j, w.frozen? ⟨x, j, none⟩ = false) (hn : l.length = n) (hm : n ≤ 1048576) (h0k : 0 < k) (hk : k ≤ 1125899906842624) :
    Calls Try.prog 38 #[.slice a n c, .int .i64 k] w fun e w' => e = .returned (.int .i64 ((k + 6 * n : Nat) : Int)) ∧ MkS (mkR k) w' a (n * 6) bs ∧ Onl bs w w' := by
  by_cases h0 : n = 0
  · subst h0
    go_enter Try.func38, Try.ntmps38
    go_wp2
    go_loopw [1, 5] (fun t i wr => t = .int .i64 k ∧ i = .int .i64 0 ∧ wr = w) (fun _ _ _ => 0)
    case atStart => exact ⟨rfl, rfl, rfl⟩
    case round =>
      obtain ⟨rfl, rfl, rfl⟩ := hrel
      go_wp2
      go_ret
      exact ⟨by simp, .inl (Nat.zero_mul _), Onl.refl _ _⟩
  · rcases hT with ⟨rfl, _⟩ | ⟨b, off, f, rfl, hb, rfl, hx⟩
    · exact absurd hn.symm h0
    · have hT0 : Mkd (mkR k) w b off (n * 6) (0 * 6) := ⟨hb, fun p hp => by omega, fun j hj => ?_, hf b (by simp)⟩
      rotate_left
      · have hi : j / 6 < l.length := by rw [hn]; omega
        have hc := hx (j / 6) hi
        have e : j = j / 6 * 6 + j % 6 := by omega
        have hr : j % 6 < 6 := by omega
        rw [e, ← Nat.add_assoc]
        obtain ⟨_, _, _, _, _, _, _, c0, c1, c2, c3, c4, c5⟩ := hc
        match hj' : j % 6, hr with
        | 0, _ => exact ⟨_, c0⟩
        | 1, _ => exact ⟨_, c1⟩
        | 2, _ => exact ⟨_, c2⟩
        | 3, _ => exact ⟨_, c3⟩
        | 4, _ => exact ⟨_, c4⟩
        | 5, _ => exact ⟨_, c5⟩
      have Hn : Hid (l.length = n) := hn
      clear hx hf hn
      go_enter Try.func38, Try.ntmps38
      go_wp2
      go_loopw [1, 5] (fun t i wr => ∃ j : Nat, j ≤ n ∧ i = .int .i64 j ∧ t = .int .i64 ((k + 6 * j : Nat) : Int) ∧ Mkd (mkR k) wr b off (n * 6) (j * 6) ∧ Onl [b] w wr) (fun _ i _ => n - (intOf i).toNat)
      case atStart => exact ⟨0, Nat.zero_le _, rfl, by simp, hT0, Onl.refl _ _⟩
      case round =>
        obtain ⟨j, hj, rfl, rfl, hF, hO⟩ := hrel
        clear hT0
        by_cases hlt : j < n
        · have hlt' : (j : Int) < (n : Int) := by omega
          obtain ⟨v0, d0⟩ := hF.there (j * 6) (by omega)
          obtain ⟨v1, d1⟩ := hF.there (j * 6 + 1) (by omega)
          rw [← Nat.add_assoc] at d1
          obtain ⟨v2, d2⟩ := hF.there (j * 6 + 2) (by omega)
          rw [← Nat.add_assoc] at d2
          obtain ⟨v3, d3⟩ := hF.there (j * 6 + 3) (by omega)
          rw [← Nat.add_assoc] at d3
          obtain ⟨v4, d4⟩ := hF.there (j * 6 + 4) (by omega)
          rw [← Nat.add_assoc] at d4
          obtain ⟨v5, d5⟩ := hF.there (j * 6 + 5) (by omega)
          rw [← Nat.add_assoc] at d5
          have f0 := hF.free
          have hbl := hF.lt
          obtain ⟨K, HK⟩ : ∃ K, Hid (k + 6 * j = K) := ⟨_, (rfl : k + 6 * j = _)⟩
          rw [HK.out]
          have hK : (K : Int) ≤ 2251799813685248 := by have := HK.out; omega
          have hK0 : 0 < K := by have := HK.out; omega
          have hT2 := (((((hF).set (off + j * 6) (.int .i64 (K : Int)) (by omega) (by omega) (by rw [mkR_n (by omega)]; have := HK.out; congr 1; omega)).set (off + j * 6 + 1) (.int .i64 ((K : Int) + 1)) (by omega) (by omega) (by rw [mkR_n (by omega)]; have := HK.out; congr 1; omega)).set (off + j * 6 + 2) (.int .i64 ((K : Int) + 1 + 1)) (by omega) (by omega) (by rw [mkR_n (by omega)]; have := HK.out; congr 1; omega)).set (off + j * 6 + 3) (.int .i64 ((K : Int) + 1 + 1 + 1)) (by omega) (by omega) (by rw [mkR_n (by omega)]; have := HK.out; congr 1; omega)).set (off + j * 6 + 4) (.int .i64 ((K : Int) + 1 + 1 + 1 + 1)) (by omega) (by omega) (by rw [mkR_n (by omega)]; have := HK.out; congr 1; omega)
          have hO2 := (((((hO).set (b := b) (by simp) (off + j * 6) (.int .i64 (K : Int))).set (b := b) (by simp) (off + j * 6 + 1) (.int .i64 ((K : Int) + 1))).set (b := b) (by simp) (off + j * 6 + 2) (.int .i64 ((K : Int) + 1 + 1))).set (b := b) (by simp) (off + j * 6 + 3) (.int .i64 ((K : Int) + 1 + 1 + 1))).set (b := b) (by simp) (off + j * 6 + 4) (.int .i64 ((K : Int) + 1 + 1 + 1 + 1))
          obtain ⟨U, HU⟩ : ∃ U, Hid (U = (((((wr).setCell ⟨b, off + j * 6, none⟩ (.int .i64 (K : Int))).setCell ⟨b, off + j * 6 + 1, none⟩ (.int .i64 ((K : Int) + 1))).setCell ⟨b, off + j * 6 + 2, none⟩ (.int .i64 ((K : Int) + 1 + 1))).setCell ⟨b, off + j * 6 + 3, none⟩ (.int .i64 ((K : Int) + 1 + 1 + 1))).setCell ⟨b, off + j * 6 + 4, none⟩ (.int .i64 ((K : Int) + 1 + 1 + 1 + 1))) := ⟨_, (rfl : (((((wr).setCell ⟨b, off + j * 6, none⟩ (.int .i64 (K : Int))).setCell ⟨b, off + j * 6 + 1, none⟩ (.int .i64 ((K : Int) + 1))).setCell ⟨b, off + j * 6 + 2, none⟩ (.int .i64 ((K : Int) + 1 + 1))).setCell ⟨b, off + j * 6 + 3, none⟩ (.int .i64 ((K : Int) + 1 + 1 + 1))).setCell ⟨b, off + j * 6 + 4, none⟩ (.int .i64 ((K : Int) + 1 + 1 + 1 + 1)) = _)⟩
          rw [← HU.out] at hT2 hO2
          go_wp2_with fail
          rw [← HU.out]
          have hE : (K : Int) + 1 + 1 + 1 + 1 + 1 = ((K + 5 : Nat) : Int) := by omega
          rw [hE]
          refine (markText_any (K + 5) _ (by omega) (by omega)).mono ?_
          rintro e w1 ⟨rfl, hb1⟩
          have hT3 := hT2.bel hb1
          have hO3 := hO2.bel hb1
          obtain ⟨u5, g5⟩ := hT3.there (j * 6 + 5) (by omega)
          rw [← Nat.add_assoc] at g5
          have gf := hT3.free
          have gl := hT3.lt
          have hT4 := hT3.set (off + j * 6 + 5) (.string (mT (K + 5))) (by omega) (by omega) (by rw [mkR_t (by omega)]; have := HK.out; congr 2; omega)
          have HT2 : Hid (Mkd (mkR k) (w1.setCell ⟨b, off + j * 6 + 5, none⟩ (.string (mT (K + 5)))) b off (n * 6) ((j + 1) * 6)) := (by rw [show (j + 1) * 6 = j * 6 + 1 + 1 + 1 + 1 + 1 + 1 by omega]; exact hT4 : Mkd (mkR k) (w1.setCell ⟨b, off + j * 6 + 5, none⟩ (.string (mT (K + 5)))) b off (n * 6) ((j + 1) * 6))
          have HO2 := (show Hid _ from hO3.set (b := b) (by simp) (off + j * 6 + 5) (.string (mT (K + 5))))
          clear hF hO hT2 hO2 hT3 hT4 hO3 hb1 d0 d1 d2 d3 d4 d5 f0 hbl
          go_wp2
          go_roundw
          case rel => exact ⟨j + 1, by omega, by go_num, by have := HK.out; go_num, HT2.out, HO2.out⟩
          case measure => simp [intOf]; omega
        · have e : n = j := by omega
          subst e
          have HO : Hid (Onl (b :: (List.range l.length).flatMap f) w wr) := hO.mono (fun x hx => by simp at hx; simp [hx])
          have HM : Hid (MkS (mkR k) wr (some ⟨b, off, none⟩) (n * 6) (b :: (List.range l.length).flatMap f)) := .inr ⟨b, off, rfl, by simp, hF.lt, hF.done⟩
          clear hO hF
          go_wp2
          go_ret
          exact ⟨rfl, HM.out, HO.out⟩

set_option maxRecDepth 100000 in
set_option maxHeartbeats 1000000 in
theorem heldBanS_x (a : Option Addr) (n c : Nat) (bs : List Nat) (k : Nat) (w : World) (hT : MkS (mkV k) w a (n * 2) bs) (hm : n ≤ 1048576) (h0k : 0 < k) (hk : k ≤ 1125899906842624) :
    Calls Try.prog 43 #[.slice a n c, .int .i64 k] w fun e w' => e = .returned (.int .i64 ((k + 2 * n : Nat) : Int)) ∧ Bel w w' := by
  rcases hT with h0 | ⟨b, off, rfl, _, hb, hx⟩
  · obtain rfl : n = 0 := by omega
    go_enter Try.func43, Try.ntmps43
    go_wp2
    go_loopw [1, 5] (fun t i wr => t = .int .i64 k ∧ i = .int .i64 0 ∧ wr = w) (fun _ _ _ => 0)
    case atStart => exact ⟨rfl, rfl, rfl⟩
    case round =>
      obtain ⟨rfl, rfl, rfl⟩ := hrel
      go_wp2
      go_ret
      exact ⟨by simp, Bel.refl _⟩
  · have HC : Hid (∀ p, p < n * 2 → w.cell? ⟨b, off + p, none⟩ = some (mkV k p)) := hx
    clear hx
    go_enter Try.func43, Try.ntmps43
    go_wp2
    go_loopw [1, 5] (fun t i wr => ∃ j : Nat, j ≤ n ∧ i = .int .i64 j ∧ t = .int .i64 ((k + 2 * j : Nat) : Int) ∧ Bel w wr) (fun _ i _ => n - (intOf i).toNat)
    case atStart => exact ⟨0, Nat.zero_le _, rfl, by simp, Bel.refl _⟩
    case round =>
      obtain ⟨j, hj, rfl, rfl, hbel⟩ := hrel
      by_cases hlt : j < n
      · have hlt' : (j : Int) < (n : Int) := by omega
        obtain ⟨K, HK⟩ : ∃ K, Hid (k + 2 * j = K) := ⟨_, (rfl : k + 2 * j = _)⟩
        have hbl := bel_lt hbel hb
        have c0 : wr.cell? ⟨b, off + j * 2, none⟩ = some (.int .i64 (K : Int)) := by
          have h := bel_cellM hbel hb (HC.out (j * 2) (by omega))
          rw [h]
          unfold mkV; have := HK.out; congr 2; omega
        have c1 : wr.cell? ⟨b, off + j * 2 + 1, none⟩ = some (.int .i64 ((K : Int) + 1)) := by
          have h := bel_cellM hbel hb (HC.out (j * 2 + 1) (by omega))
          rw [← Nat.add_assoc] at h
          rw [h]
          unfold mkV; have := HK.out; congr 2; omega
        rw [HK.out]
        have hK : (K : Int) ≤ 2251799813685248 := by have := HK.out; omega
        have hK0 : 0 < K := by have := HK.out; omega
        go_wp2
        go_roundw
        case rel => exact ⟨j + 1, by omega, by go_num, by have := HK.out; go_num, hbel⟩
        case measure => simp [intOf]; omega
      · have e : n = j := by omega
        subst e
        go_wp2
        go_ret
        exact ⟨rfl, hbel⟩

set_option maxRecDepth 100000 in
set_option maxHeartbeats 1000000 in
theorem heldSpotS_x (a : Option Addr) (n c : Nat) (bs : List Nat) (k : Nat) (w : World) (hT : MkS (mkV k) w a (n * 3) bs) (hm : n ≤ 1048576) (h0k : 0 < k) (hk : k ≤ 1125899906842624) :
    Calls Try.prog 41 #[.slice a n c, .int .i64 k] w fun e w' => e = .returned (.int .i64 ((k + 3 * n : Nat) : Int)) ∧ Bel w w' := by
  rcases hT with h0 | ⟨b, off, rfl, _, hb, hx⟩
  · obtain rfl : n = 0 := by omega
    go_enter Try.func41, Try.ntmps41
    go_wp2
    go_loopw [1, 5] (fun t i wr => t = .int .i64 k ∧ i = .int .i64 0 ∧ wr = w) (fun _ _ _ => 0)
    case atStart => exact ⟨rfl, rfl, rfl⟩
    case round =>
      obtain ⟨rfl, rfl, rfl⟩ := hrel
      go_wp2
      go_ret
      exact ⟨by simp, Bel.refl _⟩
  · have HC : Hid (∀ p, p < n * 3 → w.cell? ⟨b, off + p, none⟩ = some (mkV k p)) := hx
    clear hx
    go_enter Try.func41, Try.ntmps41
    go_wp2
    go_loopw [1, 5] (fun t i wr => ∃ j : Nat, j ≤ n ∧ i = .int .i64 j ∧ t = .int .i64 ((k + 3 * j : Nat) : Int) ∧ Bel w wr) (fun _ i _ => n - (intOf i).toNat)
    case atStart => exact ⟨0, Nat.zero_le _, rfl, by simp, Bel.refl _⟩
    case round =>
      obtain ⟨j, hj, rfl, rfl, hbel⟩ := hrel
      by_cases hlt : j < n
      · have hlt' : (j : Int) < (n : Int) := by omega
        obtain ⟨K, HK⟩ : ∃ K, Hid (k + 3 * j = K) := ⟨_, (rfl : k + 3 * j = _)⟩
        have hbl := bel_lt hbel hb
        have c0 : wr.cell? ⟨b, off + j * 3, none⟩ = some (.int .i64 (K : Int)) := by
          have h := bel_cellM hbel hb (HC.out (j * 3) (by omega))
          rw [h]
          unfold mkV; have := HK.out; congr 2; omega
        have c1 : wr.cell? ⟨b, off + j * 3 + 1, none⟩ = some (.int .i64 ((K : Int) + 1)) := by
          have h := bel_cellM hbel hb (HC.out (j * 3 + 1) (by omega))
          rw [← Nat.add_assoc] at h
          rw [h]
          unfold mkV; have := HK.out; congr 2; omega
        have c2 : wr.cell? ⟨b, off + j * 3 + 2, none⟩ = some (.int .i64 ((K : Int) + 1 + 1)) := by
          have h := bel_cellM hbel hb (HC.out (j * 3 + 2) (by omega))
          rw [← Nat.add_assoc] at h
          rw [h]
          unfold mkV; have := HK.out; congr 2; omega
        rw [HK.out]
        have hK : (K : Int) ≤ 2251799813685248 := by have := HK.out; omega
        have hK0 : 0 < K := by have := HK.out; omega
        go_wp2
        go_roundw
        case rel => exact ⟨j + 1, by omega, by go_num, by have := HK.out; go_num, hbel⟩
        case measure => simp [intOf]; omega
      · have e : n = j := by omega
        subst e
        go_wp2
        go_ret
        exact ⟨rfl, hbel⟩

set_option maxRecDepth 100000 in
set_option maxHeartbeats 1000000 in
theorem heldRoadS_x (a : Option Addr) (n c : Nat) (bs : List Nat) (k : Nat) (w : World) (hT : MkS (mkR k) w a (n * 6) bs) (hm : n ≤ 1048576) (h0k : 0 < k) (hk : k ≤ 1125899906842624) :
    Calls Try.prog 42 #[.slice a n c, .int .i64 k] w fun e w' => e = .returned (.int .i64 ((k + 6 * n : Nat) : Int)) ∧ Bel w w' := by
  rcases hT with h0 | ⟨b, off, rfl, _, hb, hx⟩
  · obtain rfl : n = 0 := by omega
    go_enter Try.func42, Try.ntmps42
    go_wp2
    go_loopw [1, 5] (fun t i wr => t = .int .i64 k ∧ i = .int .i64 0 ∧ wr = w) (fun _ _ _ => 0)
    case atStart => exact ⟨rfl, rfl, rfl⟩
    case round =>
      obtain ⟨rfl, rfl, rfl⟩ := hrel
      go_wp2
      go_ret
      exact ⟨by simp, Bel.refl _⟩
  · have HC : Hid (∀ p, p < n * 6 → w.cell? ⟨b, off + p, none⟩ = some (mkR k p)) := hx
    clear hx
    go_enter Try.func42, Try.ntmps42
    go_wp2
    go_loopw [1, 5] (fun t i wr => ∃ j : Nat, j ≤ n ∧ i = .int .i64 j ∧ t = .int .i64 ((k + 6 * j : Nat) : Int) ∧ Bel w wr) (fun _ i _ => n - (intOf i).toNat)
    case atStart => exact ⟨0, Nat.zero_le _, rfl, by simp, Bel.refl _⟩
    case round =>
      obtain ⟨j, hj, rfl, rfl, hbel⟩ := hrel
      by_cases hlt : j < n
      · have hlt' : (j : Int) < (n : Int) := by omega
        obtain ⟨K, HK⟩ : ∃ K, Hid (k + 6 * j = K) := ⟨_, (rfl : k + 6 * j = _)⟩
        have hbl := bel_lt hbel hb
        have c0 : wr.cell? ⟨b, off + j * 6, none⟩ = some (.int .i64 (K : Int)) := by
          have h := bel_cellM hbel hb (HC.out (j * 6) (by omega))
          rw [h]
          rw [mkR_n (by omega)]; have := HK.out; congr 2; omega
        have c1 : wr.cell? ⟨b, off + j * 6 + 1, none⟩ = some (.int .i64 ((K : Int) + 1)) := by
          have h := bel_cellM hbel hb (HC.out (j * 6 + 1) (by omega))
          rw [← Nat.add_assoc] at h
          rw [h]
          rw [mkR_n (by omega)]; have := HK.out; congr 2; omega
        have c2 : wr.cell? ⟨b, off + j * 6 + 2, none⟩ = some (.int .i64 ((K : Int) + 1 + 1)) := by
          have h := bel_cellM hbel hb (HC.out (j * 6 + 2) (by omega))
          rw [← Nat.add_assoc] at h
          rw [h]
          rw [mkR_n (by omega)]; have := HK.out; congr 2; omega
        have c3 : wr.cell? ⟨b, off + j * 6 + 3, none⟩ = some (.int .i64 ((K : Int) + 1 + 1 + 1)) := by
          have h := bel_cellM hbel hb (HC.out (j * 6 + 3) (by omega))
          rw [← Nat.add_assoc] at h
          rw [h]
          rw [mkR_n (by omega)]; have := HK.out; congr 2; omega
        have c4 : wr.cell? ⟨b, off + j * 6 + 4, none⟩ = some (.int .i64 ((K : Int) + 1 + 1 + 1 + 1)) := by
          have h := bel_cellM hbel hb (HC.out (j * 6 + 4) (by omega))
          rw [← Nat.add_assoc] at h
          rw [h]
          rw [mkR_n (by omega)]; have := HK.out; congr 2; omega
        have c5 : wr.cell? ⟨b, off + j * 6 + 5, none⟩ = some (.string (mT (K + 5))) := by
          have h := bel_cellM hbel hb (HC.out (j * 6 + 5) (by omega))
          rw [← Nat.add_assoc] at h
          rw [h]
          rw [mkR_t (by omega)]; have := HK.out; congr 3; omega
        rw [HK.out]
        have hK : (K : Int) ≤ 2251799813685248 := by have := HK.out; omega
        have hK0 : 0 < K := by have := HK.out; omega
        obtain ⟨s, Hs⟩ : ∃ s, Hid (mT (K + 5) = s) := ⟨_, (rfl : mT (K + 5) = _)⟩
        rw [Hs.out] at c5
        have HE : Hid ((K : Int) + 1 + 1 + 1 + 1 + 1 = ((K + 5 : Nat) : Int)) := (by omega : (K : Int) + 1 + 1 + 1 + 1 + 1 = ((K + 5 : Nat) : Int))
        have hR : ∀ w', Bel wr w' → w'.cell? ⟨b, off + j * 6 + 5, none⟩ = some (.string s) := fun w' h => bel_cellM h hbl c5
        have g0 : Bel wr wr := Bel.refl _
        go_wp2
        go_region_held3 (fun w' => Bel wr w') (with_reducible (repeat (first | assumption | exact g0 | refine Bel.drew ?_ | refine bel_then (by assumption) ?_)))
          (first
            | (go_at_call 65; rw [HE.out]; refine (markText_any (K + 5) _ (by omega) (by omega)).mono ?_; rintro e w1 ⟨rfl, hb1⟩; rw [Hs.out]))
        have h1 : Bel wr w1 := by assumption
        clear hb1 c0 c1 c2 c3 c4 c5 hR
        go_wp2
        go_roundw
        case rel => exact ⟨j + 1, by omega, by go_num, by have := HK.out; go_num, bel_step hbel h1⟩
        case measure => simp [intOf]; omega
      · have e : n = j := by omega
        subst e
        go_wp2
        go_ret
        exact ⟨rfl, hbel⟩

end Go.Proofs.Ytiagdabikbjbiaa
