/-
  Places, roads, bans and graphs, marked: what is written lies in their own blocks: contracts.
-/
import Derived.Test.YtiagdabikbjbiaaMarkT
import Derived.Test.YtiagdabikbjbiaaXC
namespace Go.Proofs.Ytiagdabikbjbiaa
open Go.RowKit Go.Maps

/-- m cells of a block are there and can be written. -/
structure Thr (w : World) (b off m : Nat) : Prop where
  lt : b < w.heap.size
  there : ∀ j, j < m → ∃ v, w.cell? ⟨b, off + j, none⟩ = some v
  free : ∀ j, w.frozen? ⟨b, j, none⟩ = false
theorem Thr.set {w : World} {b off m : Nat} (h : Thr w b off m) (o : Nat) (v : Value) : Thr (w.setCell ⟨b, o, none⟩ v) b off m := by
  refine ⟨by simpa [World.setCell] using h.lt, fun j hj => ?_, fun j => by rw [World.frozen?_setCell]; exact h.free j⟩
  obtain ⟨u, hu⟩ := h.there j hj
  by_cases e : o = off + j
  · subst e; exact ⟨v, World.cell?_setCell_same _ _ _ hu⟩
  · exact ⟨u, by rw [World.cell?_setCell_other _ _ _ _ (fun e2 => e (by have := congrArg Addr.off e2; simpa using this))]; exact hu⟩
theorem Thr.bel {w w' : World} {b off m : Nat} (h : Thr w b off m) (hb : Bel w w') : Thr w' b off m :=
  ⟨bel_lt hb h.lt, fun j hj => by obtain ⟨u, hu⟩ := h.there j hj; exact ⟨u, bel_cellM hb h.lt hu⟩, fun j => by rw [hb.out.frozen (p := ⟨b, j, none⟩) h.lt]; exact h.free j⟩
theorem OnlF.cell {bs : List Nat} {w w' : World} (h : Onl bs w w') {b o : Nat} (hb : b < w.heap.size) (hn : b ∉ bs) : w'.cell? ⟨b, o, none⟩ = w.cell? ⟨b, o, none⟩ := World.cell?_of_block (a := ⟨b, o, none⟩) (h.block b hb hn)
theorem OnlF.frozen {bs : List Nat} {w w' : World} (h : Onl bs w w') {b o : Nat} (hb : b < w.heap.size) (hn : b ∉ bs) : w'.frozen? ⟨b, o, none⟩ = w.frozen? ⟨b, o, none⟩ := World.frozen?_of_block (a := ⟨b, o, none⟩) (h.block b hb hn)
set_option maxRecDepth 100000 in
set_option maxHeartbeats 1000000 in
theorem markBanS_o (a : Option Addr) (n c : Nat) (l : List BanD) (bs : List Nat) (k : Nat) (w : World) (hT : BanL w a l bs) (hf : ∀ x ∈ bs, ∀ j, w.frozen? ⟨x, j, none⟩ = false) (hn : l.length = n) (hm : n ≤ 1048576) (h0k : 0 < k) (hk : k ≤ 1125899906842624) :
    Calls Try.prog 39 #[.slice a n c, .int .i64 k] w fun e w' => e = .returned (.int .i64 ((k + 2 * n : Nat) : Int)) ∧ Onl bs w w' := by
  by_cases h0 : n = 0
  · subst h0
    go_enter Try.func39, Try.ntmps39
    go_wp2
    go_loopw [1, 5] (fun t i wr => t = .int .i64 k ∧ i = .int .i64 0 ∧ wr = w) (fun _ _ _ => 0)
    case atStart => exact ⟨rfl, rfl, rfl⟩
    case round =>
      obtain ⟨rfl, rfl, rfl⟩ := hrel
      go_wp2
      go_ret
      exact ⟨by simp, Onl.refl _ _⟩
  · rcases hT with ⟨rfl, _⟩ | ⟨b, off, f, rfl, hb, rfl, hx⟩
    · exact absurd hn.symm h0
    · have hT0 : Thr w b off (n * 2) := ⟨hb, fun j hj => ?_, hf b (by simp)⟩
      rotate_left
      · have hi : j / 2 < l.length := by rw [hn]; omega
        have hc := hx (j / 2) hi
        have e : j = j / 2 * 2 + j % 2 := by omega
        have hr : j % 2 < 2 := by omega
        rw [e, ← Nat.add_assoc]
        obtain ⟨_, _, _, c0, c1⟩ := hc
        match hj' : j % 2, hr with
        | 0, _ => exact ⟨_, c0⟩
        | 1, _ => exact ⟨_, c1⟩
      have Hn : Hid (l.length = n) := hn
      clear hx hf hn
      go_enter Try.func39, Try.ntmps39
      go_wp2
      go_loopw [1, 5] (fun t i wr => ∃ j : Nat, j ≤ n ∧ i = .int .i64 j ∧ t = .int .i64 ((k + 2 * j : Nat) : Int) ∧ Thr wr b off (n * 2) ∧ Onl [b] w wr) (fun _ i _ => n - (intOf i).toNat)
      case atStart => exact ⟨0, Nat.zero_le _, rfl, by simp, hT0, Onl.refl _ _⟩
      case round =>
        obtain ⟨j, hj, rfl, rfl, hF, hO⟩ := hrel
        clear hT0
        by_cases hlt : j < n
        · have hlt' : (j : Int) < (n : Int) := by omega
          obtain ⟨v0, d0⟩ := hF.there (j * 2) (by omega)
          have e0 : off + (j * 2) = off + j * 2 := rfl
          clear e0
          obtain ⟨v1, d1⟩ := hF.there (j * 2 + 1) (by omega)
          rw [← Nat.add_assoc] at d1
          have f0 := hF.free
          have hbl := hF.lt
          obtain ⟨K, HK⟩ : ∃ K, Hid (k + 2 * j = K) := ⟨_, (rfl : k + 2 * j = _)⟩
          rw [HK.out]
          have hK : (K : Int) ≤ 2251799813685248 := by have := HK.out; omega
          have hK0 : 0 < K := by have := HK.out; omega
          have hT2 := ((hF).set (off + j * 2) (.int .i64 (K : Int))).set (off + j * 2 + 1) (.int .i64 ((K : Int) + 1))
          have hO2 := ((hO).set (b := b) (by simp) (off + j * 2) (.int .i64 (K : Int))).set (b := b) (by simp) (off + j * 2 + 1) (.int .i64 ((K : Int) + 1))
          have HT2 := (show Hid _ from hT2)
          have HO2 := (show Hid _ from hO2)
          clear hF hO hT2 hO2
          go_wp2
          go_roundw
          case rel => exact ⟨j + 1, by omega, by go_num, by have := HK.out; go_num, HT2.out, HO2.out⟩
          case measure => simp [intOf]; omega
        · have e : n = j := by omega
          subst e
          have HO : Hid (Onl (b :: (List.range l.length).flatMap f) w wr) := hO.mono (fun x hx => by simp at hx; simp [hx])
          clear hO hF
          go_wp2
          go_ret
          exact ⟨rfl, HO.out⟩

set_option maxRecDepth 100000 in
set_option maxHeartbeats 1000000 in
theorem markSpotS_o (a : Option Addr) (n c : Nat) (l : List SpotD) (bs : List Nat) (k : Nat) (w : World) (hT : SpotL w a l bs) (hf : ∀ x ∈ bs, ∀ j, w.frozen? ⟨x, j, none⟩ = false) (hn : l.length = n) (hm : n ≤ 1048576) (h0k : 0 < k) (hk : k ≤ 1125899906842624) :
    Calls Try.prog 37 #[.slice a n c, .int .i64 k] w fun e w' => e = .returned (.int .i64 ((k + 3 * n : Nat) : Int)) ∧ Onl bs w w' := by
  by_cases h0 : n = 0
  · subst h0
    go_enter Try.func37, Try.ntmps37
    go_wp2
    go_loopw [1, 5] (fun t i wr => t = .int .i64 k ∧ i = .int .i64 0 ∧ wr = w) (fun _ _ _ => 0)
    case atStart => exact ⟨rfl, rfl, rfl⟩
    case round =>
      obtain ⟨rfl, rfl, rfl⟩ := hrel
      go_wp2
      go_ret
      exact ⟨by simp, Onl.refl _ _⟩
  · rcases hT with ⟨rfl, _⟩ | ⟨b, off, f, rfl, hb, rfl, hx⟩
    · exact absurd hn.symm h0
    · have hT0 : Thr w b off (n * 3) := ⟨hb, fun j hj => ?_, hf b (by simp)⟩
      rotate_left
      · have hi : j / 3 < l.length := by rw [hn]; omega
        have hc := hx (j / 3) hi
        have e : j = j / 3 * 3 + j % 3 := by omega
        have hr : j % 3 < 3 := by omega
        rw [e, ← Nat.add_assoc]
        obtain ⟨_, _, _, _, c0, c1, c2⟩ := hc
        match hj' : j % 3, hr with
        | 0, _ => exact ⟨_, c0⟩
        | 1, _ => exact ⟨_, c1⟩
        | 2, _ => exact ⟨_, c2⟩
      have Hn : Hid (l.length = n) := hn
      clear hx hf hn
      go_enter Try.func37, Try.ntmps37
      go_wp2
      go_loopw [1, 5] (fun t i wr => ∃ j : Nat, j ≤ n ∧ i = .int .i64 j ∧ t = .int .i64 ((k + 3 * j : Nat) : Int) ∧ Thr wr b off (n * 3) ∧ Onl [b] w wr) (fun _ i _ => n - (intOf i).toNat)
      case atStart => exact ⟨0, Nat.zero_le _, rfl, by simp, hT0, Onl.refl _ _⟩
      case round =>
        obtain ⟨j, hj, rfl, rfl, hF, hO⟩ := hrel
        clear hT0
        by_cases hlt : j < n
        · have hlt' : (j : Int) < (n : Int) := by omega
          obtain ⟨v0, d0⟩ := hF.there (j * 3) (by omega)
          have e0 : off + (j * 3) = off + j * 3 := rfl
          clear e0
          obtain ⟨v1, d1⟩ := hF.there (j * 3 + 1) (by omega)
          rw [← Nat.add_assoc] at d1
          obtain ⟨v2, d2⟩ := hF.there (j * 3 + 2) (by omega)
          rw [← Nat.add_assoc] at d2
          have f0 := hF.free
          have hbl := hF.lt
          obtain ⟨K, HK⟩ : ∃ K, Hid (k + 3 * j = K) := ⟨_, (rfl : k + 3 * j = _)⟩
          rw [HK.out]
          have hK : (K : Int) ≤ 2251799813685248 := by have := HK.out; omega
          have hK0 : 0 < K := by have := HK.out; omega
          have hT2 := (((hF).set (off + j * 3) (.int .i64 (K : Int))).set (off + j * 3 + 1) (.int .i64 ((K : Int) + 1))).set (off + j * 3 + 2) (.int .i64 ((K : Int) + 2))
          have hO2 := (((hO).set (b := b) (by simp) (off + j * 3) (.int .i64 (K : Int))).set (b := b) (by simp) (off + j * 3 + 1) (.int .i64 ((K : Int) + 1))).set (b := b) (by simp) (off + j * 3 + 2) (.int .i64 ((K : Int) + 2))
          have HT2 := (show Hid _ from hT2)
          have HO2 := (show Hid _ from hO2)
          clear hF hO hT2 hO2
          go_wp2
          go_roundw
          case rel => exact ⟨j + 1, by omega, by go_num, by have := HK.out; go_num, HT2.out, HO2.out⟩
          case measure => simp [intOf]; omega
        · have e : n = j := by omega
          subst e
          have HO : Hid (Onl (b :: (List.range l.length).flatMap f) w wr) := hO.mono (fun x hx => by simp at hx; simp [hx])
          clear hO hF
          go_wp2
          go_ret
          exact ⟨rfl, HO.out⟩

set_option maxRecDepth 100000 in
set_option maxHeartbeats 1000000 in
theorem markRoadS_o (a : Option Addr) (n c : Nat) (l : List RoadD) (bs : List Nat) (k : Nat) (w : World) (hT : RoadL w a l bs) (hf : ∀ x ∈ bs, ∀ j, w.frozen? ⟨x, j, none⟩ = false) (hn : l.length = n) (hm : n ≤ 1048576) (h0k : 0 < k) (hk : k ≤ 1125899906842624) :
    Calls Try.prog 38 #[.slice a n c, .int .i64 k] w fun e w' => e = .returned (.int .i64 ((k + 6 * n : Nat) : Int)) ∧ Onl bs w w' := by
  by_cases h0 : n = 0
  · subst h0
    go_enter Try.func38, Try.ntmps38
    go_wp2
    go_loopw [1, 5] (fun t i wr => t = .int .i64 k ∧ i = .int .i64 0 ∧ wr = w) (fun _ _ _ => 0)
    case atStart => exact ⟨rfl, rfl, rfl⟩
    case round =>
      obtain ⟨rfl, rfl, rfl⟩ := hrel
      go_wp2
      go_ret
      exact ⟨by simp, Onl.refl _ _⟩
  · rcases hT with ⟨rfl, _⟩ | ⟨b, off, f, rfl, hb, rfl, hx⟩
    · exact absurd hn.symm h0
    · have hT0 : Thr w b off (n * 6) := ⟨hb, fun j hj => ?_, hf b (by simp)⟩
      rotate_left
      · have hi : j / 6 < l.length := by rw [hn]; omega
        have hc := hx (j / 6) hi
        have e : j = j / 6 * 6 + j % 6 := by omega
        have hr : j % 6 < 6 := by omega
        rw [e, ← Nat.add_assoc]
        obtain ⟨_, _, _, _, _, _, _, c0, c1, c2, c3, c4, c5⟩ := hc
        match hj' : j % 6, hr with
        | 0, _ => exact ⟨_, c0⟩
        | 1, _ => exact ⟨_, c1⟩
        | 2, _ => exact ⟨_, c2⟩
        | 3, _ => exact ⟨_, c3⟩
        | 4, _ => exact ⟨_, c4⟩
        | 5, _ => exact ⟨_, c5⟩
      have Hn : Hid (l.length = n) := hn
      clear hx hf hn
      go_enter Try.func38, Try.ntmps38
      go_wp2
      go_loopw [1, 5] (fun t i wr => ∃ j : Nat, j ≤ n ∧ i = .int .i64 j ∧ t = .int .i64 ((k + 6 * j : Nat) : Int) ∧ Thr wr b off (n * 6) ∧ Onl [b] w wr) (fun _ i _ => n - (intOf i).toNat)
      case atStart => exact ⟨0, Nat.zero_le _, rfl, by simp, hT0, Onl.refl _ _⟩
      case round =>
        obtain ⟨j, hj, rfl, rfl, hF, hO⟩ := hrel
        clear hT0
        by_cases hlt : j < n
        · have hlt' : (j : Int) < (n : Int) := by omega
          obtain ⟨v0, d0⟩ := hF.there (j * 6) (by omega)
          have e0 : off + (j * 6) = off + j * 6 := rfl
          clear e0
          obtain ⟨v1, d1⟩ := hF.there (j * 6 + 1) (by omega)
          rw [← Nat.add_assoc] at d1
          obtain ⟨v2, d2⟩ := hF.there (j * 6 + 2) (by omega)
          rw [← Nat.add_assoc] at d2
          obtain ⟨v3, d3⟩ := hF.there (j * 6 + 3) (by omega)
          rw [← Nat.add_assoc] at d3
          obtain ⟨v4, d4⟩ := hF.there (j * 6 + 4) (by omega)
          rw [← Nat.add_assoc] at d4
          obtain ⟨v5, d5⟩ := hF.there (j * 6 + 5) (by omega)
          rw [← Nat.add_assoc] at d5
          have f0 := hF.free
          have hbl := hF.lt
          obtain ⟨K, HK⟩ : ∃ K, Hid (k + 6 * j = K) := ⟨_, (rfl : k + 6 * j = _)⟩
          rw [HK.out]
          have hK : (K : Int) ≤ 2251799813685248 := by have := HK.out; omega
          have hK0 : 0 < K := by have := HK.out; omega
          have hT2 := (((((hF).set (off + j * 6) (.int .i64 (K : Int))).set (off + j * 6 + 1) (.int .i64 ((K : Int) + 1))).set (off + j * 6 + 2) (.int .i64 ((K : Int) + 1 + 1))).set (off + j * 6 + 3) (.int .i64 ((K : Int) + 1 + 1 + 1))).set (off + j * 6 + 4) (.int .i64 ((K : Int) + 1 + 1 + 1 + 1))
          have hO2 := (((((hO).set (b := b) (by simp) (off + j * 6) (.int .i64 (K : Int))).set (b := b) (by simp) (off + j * 6 + 1) (.int .i64 ((K : Int) + 1))).set (b := b) (by simp) (off + j * 6 + 2) (.int .i64 ((K : Int) + 1 + 1))).set (b := b) (by simp) (off + j * 6 + 3) (.int .i64 ((K : Int) + 1 + 1 + 1))).set (b := b) (by simp) (off + j * 6 + 4) (.int .i64 ((K : Int) + 1 + 1 + 1 + 1))
          obtain ⟨U, HU⟩ : ∃ U, Hid (U = (((((wr).setCell ⟨b, off + j * 6, none⟩ (.int .i64 (K : Int))).setCell ⟨b, off + j * 6 + 1, none⟩ (.int .i64 ((K : Int) + 1))).setCell ⟨b, off + j * 6 + 2, none⟩ (.int .i64 ((K : Int) + 1 + 1))).setCell ⟨b, off + j * 6 + 3, none⟩ (.int .i64 ((K : Int) + 1 + 1 + 1))).setCell ⟨b, off + j * 6 + 4, none⟩ (.int .i64 ((K : Int) + 1 + 1 + 1 + 1))) := ⟨_, (rfl : (((((wr).setCell ⟨b, off + j * 6, none⟩ (.int .i64 (K : Int))).setCell ⟨b, off + j * 6 + 1, none⟩ (.int .i64 ((K : Int) + 1))).setCell ⟨b, off + j * 6 + 2, none⟩ (.int .i64 ((K : Int) + 1 + 1))).setCell ⟨b, off + j * 6 + 3, none⟩ (.int .i64 ((K : Int) + 1 + 1 + 1))).setCell ⟨b, off + j * 6 + 4, none⟩ (.int .i64 ((K : Int) + 1 + 1 + 1 + 1)) = _)⟩
          rw [← HU.out] at hT2 hO2
          go_wp2_with fail
          rw [← HU.out]
          have hE : (K : Int) + 1 + 1 + 1 + 1 + 1 = ((K + 5 : Nat) : Int) := by omega
          rw [hE]
          refine (markText_any (K + 5) _ (by omega) (by omega)).mono ?_
          rintro e w1 ⟨rfl, hb1⟩
          have hT3 := hT2.bel hb1
          have hO3 := hO2.bel hb1
          obtain ⟨u5, g5⟩ := hT3.there (j * 6 + 5) (by omega)
          rw [← Nat.add_assoc] at g5
          have gf := hT3.free
          have gl := hT3.lt
          have HT2 := (show Hid _ from hT3.set (off + j * 6 + 5) (.string (mT (K + 5))))
          have HO2 := (show Hid _ from hO3.set (b := b) (by simp) (off + j * 6 + 5) (.string (mT (K + 5))))
          clear hF hO hT2 hO2 hT3 hO3 hb1 d0 d1 d2 d3 d4 d5 f0 hbl
          go_wp2
          go_roundw
          case rel => exact ⟨j + 1, by omega, by go_num, by have := HK.out; go_num, HT2.out, HO2.out⟩
          case measure => simp [intOf]; omega
        · have e : n = j := by omega
          subst e
          have HO : Hid (Onl (b :: (List.range l.length).flatMap f) w wr) := hO.mono (fun x hx => by simp at hx; simp [hx])
          clear hO hF
          go_wp2
          go_ret
          exact ⟨rfl, HO.out⟩

set_option maxRecDepth 100000 in
set_option maxHeartbeats 2000000 in
theorem markGraph_o (v : Value) (g : GraphD) (bs : List Nat) (w : World) (hV : GphV w v g bs) (hQ : GphQ g) (hf : ∀ x ∈ bs, ∀ j, w.frozen? ⟨x, j, none⟩ = false) (hd : bs.Nodup) :
    Calls Try.prog 13 #[v, .int .i64 1] w fun e w' => ∃ k : Nat, e = .returned (.int .i64 (k : Int)) ∧ Onl bs w w' := by
  obtain ⟨a0, c0, a1, c1, a2, c2, b0, b1, b2, rfl, rfl, t0, t1, t2⟩ := hV
  obtain ⟨m0, m1, m2⟩ := hQ
  obtain ⟨n0, H0⟩ : ∃ n, Hid (g.places.length = n) := ⟨_, (rfl : g.places.length = _)⟩
  obtain ⟨n1, H1⟩ : ∃ n, Hid (g.roads.length = n) := ⟨_, (rfl : g.roads.length = _)⟩
  obtain ⟨n2, H2⟩ : ∃ n, Hid (g.bans.length = n) := ⟨_, (rfl : g.bans.length = _)⟩
  rw [H0.out] at m0
  rw [H1.out] at m1
  rw [H2.out] at m2
  rw [H0.out, H1.out, H2.out]
  obtain ⟨d0, d12, x0⟩ := List.nodup_append.1 hd
  obtain ⟨d1, d2, x1⟩ := List.nodup_append.1 d12
  have D01 : ∀ x ∈ b1, x ∉ b0 := fun x hx hy => x0 x hy x (List.mem_append.2 (.inl hx)) rfl
  have D02 : ∀ x ∈ b2, x ∉ b0 := fun x hx hy => x0 x hy x (List.mem_append.2 (.inr hx)) rfl
  have D12 : ∀ x ∈ b2, x ∉ b1 := fun x hx hy => x1 x hy x hx rfl
  obtain ⟨W, HW⟩ : ∃ W, Hid (W = w.alloc (.cells #[.slice a0 n0 c0, .slice a1 n1 c1, .slice a2 n2 c2] 34)) := ⟨_, (rfl : w.alloc (.cells #[.slice a0 n0 c0, .slice a1 n1 c1, .slice a2 n2 c2] 34) = _)⟩
  have hBW : Bel w W := by rw [HW.out]; exact bel_alloc (Bel.refl _) _
  have X0 : Blk W w.heap.size [.slice a0 n0 c0, .slice a1 n1 c1, .slice a2 n2 c2] := by rw [HW.out]; exact Blk.new w [.slice a0 n0 c0, .slice a1 n1 c1, .slice a2 n2 c2] _
  have L0 := t0.lt spotE
  have L1 := t1.lt roadE
  have L2 := t2.lt banE
  have T0 := t0.bel spotE hBW
  have T1 := t1.bel roadE hBW
  have T2 := t2.bel banE hBW
  have fz : ∀ x, x < w.heap.size → (∀ j, w.frozen? ⟨x, j, none⟩ = false) → ∀ j, W.frozen? ⟨x, j, none⟩ = false := fun x hx h j => by rw [hBW.out.frozen (p := ⟨x, j, none⟩) hx]; exact h j
  have F0 : ∀ x ∈ b0, ∀ j, W.frozen? ⟨x, j, none⟩ = false := fun x hx => fz x (L0 x hx) (hf x (by simp [hx]))
  have F1 : ∀ x ∈ b1, ∀ j, W.frozen? ⟨x, j, none⟩ = false := fun x hx => fz x (L1 x hx) (hf x (by simp [hx]))
  have F2 : ∀ x ∈ b2, ∀ j, W.frozen? ⟨x, j, none⟩ = false := fun x hx => fz x (L2 x hx) (hf x (by simp [hx]))
  have N0 : w.heap.size ∉ b0 := fun h => absurd (L0 _ h) (Nat.lt_irrefl _)
  have N1 : w.heap.size ∉ b1 := fun h => absurd (L1 _ h) (Nat.lt_irrefl _)
  clear t0 t1 t2 hd d12 x0 x1 hf fz
  go_enter Try.func13, Try.ntmps13
  go_wp2_with fail
  rw [← HW.out]
  refine (markSpotS_o _ _ _ g.places b0 1 _ T0 F0 H0.out m0 (by omega) (by omega)).mono ?_
  rintro e w1 ⟨rfl, O1⟩
  have y1 : w1.cell? ⟨w.heap.size, 1, none⟩ = some (.slice a1 n1 c1) := by rw [OnlF.cell O1 X0.lt N0]; exact X0.cell 1 (by simp)
  have y2 : w1.cell? ⟨w.heap.size, 2, none⟩ = some (.slice a2 n2 c2) := by rw [OnlF.cell O1 X0.lt N0]; exact X0.cell 2 (by simp)
  have z1 := Nat.lt_of_lt_of_le X0.lt O1.size
  have q1 : ∀ x ∈ b1, x < W.heap.size := T1.lt roadE
  have q2 : ∀ x ∈ b2, x < W.heap.size := T2.lt banE
  have T11 := T1.alike roadE (O1.alike q1 D01)
  have T12 := T2.alike banE (O1.alike q2 D02)
  have F11 : ∀ x ∈ b1, ∀ j, w1.frozen? ⟨x, j, none⟩ = false := fun x hx j => by rw [OnlF.frozen O1 (q1 x hx) (D01 x hx)]; exact F1 x hx j
  have F12 : ∀ x ∈ b2, ∀ j, w1.frozen? ⟨x, j, none⟩ = false := fun x hx j => by rw [OnlF.frozen O1 (q2 x hx) (D02 x hx)]; exact F2 x hx j
  obtain ⟨k1, HK1⟩ : ∃ k, Hid (1 + 3 * n0 = k) := ⟨_, (rfl : 1 + 3 * n0 = _)⟩
  rw [HK1.out]
  have hk1 : 0 < k1 ∧ k1 ≤ 4000000 := by have := HK1.out; omega
  go_wp2_with fail
  refine (markRoadS_o _ _ _ g.roads b1 k1 _ T11 F11 H1.out m1 (by omega) (by omega)).mono ?_
  rintro e w2 ⟨rfl, O2⟩
  have y22 : w2.cell? ⟨w.heap.size, 2, none⟩ = some (.slice a2 n2 c2) := by rw [OnlF.cell O2 z1 N1]; exact y2
  have z2 := Nat.lt_of_lt_of_le z1 O2.size
  have q12 : ∀ x ∈ b2, x < w1.heap.size := T12.lt banE
  have T22 := T12.alike banE (O2.alike q12 D12)
  have F22 : ∀ x ∈ b2, ∀ j, w2.frozen? ⟨x, j, none⟩ = false := fun x hx j => by rw [OnlF.frozen O2 (q12 x hx) (D12 x hx)]; exact F12 x hx j
  obtain ⟨k2, HK2⟩ : ∃ k, Hid (k1 + 6 * n1 = k) := ⟨_, (rfl : k1 + 6 * n1 = _)⟩
  rw [HK2.out]
  have hk2 : 0 < k2 ∧ k2 ≤ 12000000 := by have := HK2.out; omega
  clear y1 y2
  go_wp2_with fail
  refine (markBanS_o _ _ _ g.bans b2 k2 _ T22 F22 H2.out m2 (by omega) (by omega)).mono ?_
  rintro e w3 ⟨rfl, O3⟩
  have HO : Hid (Onl (b0 ++ (b1 ++ b2)) w w3) :=
    ((((Onl.refl _ w).bel hBW).trans (O1.mono fun x hx => List.mem_append.2 (.inl hx))).trans (O2.mono fun x hx => List.mem_append.2 (.inr (List.mem_append.2 (.inl hx))))).trans (O3.mono fun x hx => List.mem_append.2 (.inr (List.mem_append.2 (.inr hx))))
  clear y22
  go_wp2
  go_ret
  exact ⟨_, rfl, HO.out⟩
end Go.Proofs.Ytiagdabikbjbiaa
