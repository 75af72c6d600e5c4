/-
  Graphs, marked, and their marks held: contracts.
-/
import Derived.Test.YtiagdabikbjbiaaMarkX
namespace Go.Proofs.Ytiagdabikbjbiaa
open Go.RowKit Go.Maps

/-- How far the marks of a graph go. -/
def gMk (g : GraphD) : Nat := 1 + 3 * g.places.length + 6 * g.roads.length + 2 * g.bans.length
/-- A graph that is marked from 1 on. -/
def MkG (w : World) (v : Value) (g : GraphD) (bs : List Nat) : Prop :=
  ∃ a0 c0 a1 c1 a2 c2 b0 b1 b2, bs = b0 ++ (b1 ++ b2) ∧ v = .agg #[.slice a0 g.places.length c0, .slice a1 g.roads.length c1, .slice a2 g.bans.length c2] ∧ MkS (mkV 1) w a0 (g.places.length * 3) b0 ∧ MkS (mkR (1 + 3 * g.places.length)) w a1 (g.roads.length * 6) b1 ∧ MkS (mkV (1 + 3 * g.places.length + 6 * g.roads.length)) w a2 (g.bans.length * 2) b2
theorem MkG.bel {w w' : World} {v : Value} {g : GraphD} {bs : List Nat} (h : MkG w v g bs) (hb : Bel w w') : MkG w' v g bs := by
  obtain ⟨a0, c0, a1, c1, a2, c2, b0, b1, b2, e1, e2, h0, h1, h2⟩ := h
  exact ⟨a0, c0, a1, c1, a2, c2, b0, b1, b2, e1, e2, h0.bel hb, h1.bel hb, h2.bel hb⟩

set_option maxRecDepth 100000 in
set_option maxHeartbeats 2000000 in
theorem markGraph_x (v : Value) (g : GraphD) (bs : List Nat) (w : World) (hV : GphV w v g bs) (hQ : GphQ g) (hf : ∀ x ∈ bs, ∀ j, w.frozen? ⟨x, j, none⟩ = false) (hd : bs.Nodup) :
    Calls Try.prog 13 #[v, .int .i64 1] w fun e w' => e = .returned (.int .i64 ((gMk g : Nat) : Int)) ∧ MkG w' v g bs ∧ Onl bs w w' := by
  obtain ⟨a0, c0, a1, c1, a2, c2, b0, b1, b2, rfl, rfl, t0, t1, t2⟩ := hV
  obtain ⟨m0, m1, m2⟩ := hQ
  obtain ⟨n0, H0⟩ : ∃ n, Hid (g.places.length = n) := ⟨_, (rfl : g.places.length = _)⟩
  obtain ⟨n1, H1⟩ : ∃ n, Hid (g.roads.length = n) := ⟨_, (rfl : g.roads.length = _)⟩
  obtain ⟨n2, H2⟩ : ∃ n, Hid (g.bans.length = n) := ⟨_, (rfl : g.bans.length = _)⟩
  rw [H0.out] at m0
  rw [H1.out] at m1
  rw [H2.out] at m2
  rw [H0.out, H1.out, H2.out]
  obtain ⟨d0, d12, x0⟩ := List.nodup_append.1 hd
  obtain ⟨d1, d2, x1⟩ := List.nodup_append.1 d12
  have D01 : ∀ x ∈ b1, x ∉ b0 := fun x hx hy => x0 x hy x (List.mem_append.2 (.inl hx)) rfl
  have D02 : ∀ x ∈ b2, x ∉ b0 := fun x hx hy => x0 x hy x (List.mem_append.2 (.inr hx)) rfl
  have D12 : ∀ x ∈ b2, x ∉ b1 := fun x hx hy => x1 x hy x hx rfl
  obtain ⟨W, HW⟩ : ∃ W, Hid (W = w.alloc (.cells #[.slice a0 n0 c0, .slice a1 n1 c1, .slice a2 n2 c2] 34)) := ⟨_, (rfl : w.alloc (.cells #[.slice a0 n0 c0, .slice a1 n1 c1, .slice a2 n2 c2] 34) = _)⟩
  have hBW : Bel w W := by rw [HW.out]; exact bel_alloc (Bel.refl _) _
  have X0 : Blk W w.heap.size [.slice a0 n0 c0, .slice a1 n1 c1, .slice a2 n2 c2] := by rw [HW.out]; exact Blk.new w [.slice a0 n0 c0, .slice a1 n1 c1, .slice a2 n2 c2] _
  have L0 := t0.lt spotE
  have L1 := t1.lt roadE
  have L2 := t2.lt banE
  have T0 := t0.bel spotE hBW
  have T1 := t1.bel roadE hBW
  have T2 := t2.bel banE hBW
  have fz : ∀ x, x < w.heap.size → (∀ j, w.frozen? ⟨x, j, none⟩ = false) → ∀ j, W.frozen? ⟨x, j, none⟩ = false := fun x hx h j => by rw [hBW.out.frozen (p := ⟨x, j, none⟩) hx]; exact h j
  have F0 : ∀ x ∈ b0, ∀ j, W.frozen? ⟨x, j, none⟩ = false := fun x hx => fz x (L0 x hx) (hf x (by simp [hx]))
  have F1 : ∀ x ∈ b1, ∀ j, W.frozen? ⟨x, j, none⟩ = false := fun x hx => fz x (L1 x hx) (hf x (by simp [hx]))
  have F2 : ∀ x ∈ b2, ∀ j, W.frozen? ⟨x, j, none⟩ = false := fun x hx => fz x (L2 x hx) (hf x (by simp [hx]))
  have N0 : w.heap.size ∉ b0 := fun h => absurd (L0 _ h) (Nat.lt_irrefl _)
  have N1 : w.heap.size ∉ b1 := fun h => absurd (L1 _ h) (Nat.lt_irrefl _)
  clear t0 t1 t2 hd d12 x0 x1 hf fz
  go_enter Try.func13, Try.ntmps13
  go_wp2_with fail
  rw [← HW.out]
  refine (markSpotS_x _ _ _ g.places b0 1 _ T0 F0 H0.out m0 (by omega) (by omega)).mono ?_
  rintro e w1 ⟨rfl, M1, O1⟩
  have y1 : w1.cell? ⟨w.heap.size, 1, none⟩ = some (.slice a1 n1 c1) := by rw [OnlF.cell O1 X0.lt N0]; exact X0.cell 1 (by simp)
  have y2 : w1.cell? ⟨w.heap.size, 2, none⟩ = some (.slice a2 n2 c2) := by rw [OnlF.cell O1 X0.lt N0]; exact X0.cell 2 (by simp)
  have z1 := Nat.lt_of_lt_of_le X0.lt O1.size
  have q1 : ∀ x ∈ b1, x < W.heap.size := T1.lt roadE
  have q2 : ∀ x ∈ b2, x < W.heap.size := T2.lt banE
  have T11 := T1.alike roadE (O1.alike q1 D01)
  have T12 := T2.alike banE (O1.alike q2 D02)
  have F11 : ∀ x ∈ b1, ∀ j, w1.frozen? ⟨x, j, none⟩ = false := fun x hx j => by rw [OnlF.frozen O1 (q1 x hx) (D01 x hx)]; exact F1 x hx j
  have F12 : ∀ x ∈ b2, ∀ j, w1.frozen? ⟨x, j, none⟩ = false := fun x hx j => by rw [OnlF.frozen O1 (q2 x hx) (D02 x hx)]; exact F2 x hx j
  obtain ⟨k1, HK1⟩ : ∃ k, Hid (1 + 3 * n0 = k) := ⟨_, (rfl : 1 + 3 * n0 = _)⟩
  rw [HK1.out]
  have hk1 : 0 < k1 ∧ k1 ≤ 4000000 := by have := HK1.out; omega
  go_wp2_with fail
  refine (markRoadS_x _ _ _ g.roads b1 k1 _ T11 F11 H1.out m1 (by omega) (by omega)).mono ?_
  rintro e w2 ⟨rfl, M2, O2⟩
  have y22 : w2.cell? ⟨w.heap.size, 2, none⟩ = some (.slice a2 n2 c2) := by rw [OnlF.cell O2 z1 N1]; exact y2
  have z2 := Nat.lt_of_lt_of_le z1 O2.size
  have q12 : ∀ x ∈ b2, x < w1.heap.size := T12.lt banE
  have T22 := T12.alike banE (O2.alike q12 D12)
  have F22 : ∀ x ∈ b2, ∀ j, w2.frozen? ⟨x, j, none⟩ = false := fun x hx j => by rw [OnlF.frozen O2 (q12 x hx) (D12 x hx)]; exact F12 x hx j
  obtain ⟨k2, HK2⟩ : ∃ k, Hid (k1 + 6 * n1 = k) := ⟨_, (rfl : k1 + 6 * n1 = _)⟩
  rw [HK2.out]
  have hk2 : 0 < k2 ∧ k2 ≤ 12000000 := by have := HK2.out; omega
  clear y1 y2
  go_wp2_with fail
  refine (markBanS_x _ _ _ g.bans b2 k2 _ T22 F22 H2.out m2 (by omega) (by omega)).mono ?_
  rintro e w3 ⟨rfl, M3, O3⟩
  have HO : Hid (Onl (b0 ++ (b1 ++ b2)) w w3) :=
    ((((Onl.refl _ w).bel hBW).trans (O1.mono fun x hx => List.mem_append.2 (.inl hx))).trans (O2.mono fun x hx => List.mem_append.2 (.inr (List.mem_append.2 (.inl hx))))).trans (O3.mono fun x hx => List.mem_append.2 (.inr (List.mem_append.2 (.inr hx))))
  have HM : Hid (MkG w3 (.agg #[.slice a0 n0 c0, .slice a1 n1 c1, .slice a2 n2 c2]) g (b0 ++ (b1 ++ b2))) := ⟨a0, c0, a1, c1, a2, c2, b0, b1, b2, rfl, by rw [H0.out, H1.out, H2.out], by
    rw [H0.out]
    exact (M1.onl O2 fun x hx hy => D01 x hy hx).onl O3 fun x hx hy => D02 x hy hx, by
    rw [H0.out, H1.out, HK1.out]
    exact M2.onl O3 fun x hx hy => D12 x hy hx, by
    rw [H0.out, H1.out, H2.out, HK1.out, HK2.out]
    exact M3⟩
  have HG : Hid (gMk g = k2 + 2 * n2) := (by unfold gMk; rw [H0.out, H1.out, H2.out, HK1.out, HK2.out] : gMk g = k2 + 2 * n2)
  clear y22 M1 M2 M3
  go_wp2
  go_ret
  exact ⟨by rw [HG.out]; rfl, HM.out, HO.out⟩

set_option maxRecDepth 100000 in
set_option maxHeartbeats 2000000 in
theorem heldGraph_x (v : Value) (g : GraphD) (bs : List Nat) (w : World) (hV : MkG w v g bs) (hQ : GphQ g) :
    Calls Try.prog 15 #[v, .int .i64 1] w fun e w' => e = .returned (.int .i64 ((gMk g : Nat) : Int)) ∧ Bel w w' := by
  obtain ⟨a0, c0, a1, c1, a2, c2, b0, b1, b2, rfl, rfl, t0, t1, t2⟩ := hV
  obtain ⟨m0, m1, m2⟩ := hQ
  obtain ⟨n0, H0⟩ : ∃ n, Hid (g.places.length = n) := ⟨_, (rfl : g.places.length = _)⟩
  obtain ⟨n1, H1⟩ : ∃ n, Hid (g.roads.length = n) := ⟨_, (rfl : g.roads.length = _)⟩
  obtain ⟨n2, H2⟩ : ∃ n, Hid (g.bans.length = n) := ⟨_, (rfl : g.bans.length = _)⟩
  rw [H0.out] at m0
  rw [H1.out] at m1
  rw [H2.out] at m2
  rw [H0.out, H1.out, H2.out]
  rw [H0.out] at t0
  rw [H0.out, H1.out] at t1
  rw [H0.out, H1.out, H2.out] at t2
  obtain ⟨k1, HK1⟩ : ∃ k, Hid (1 + 3 * n0 = k) := ⟨_, (rfl : 1 + 3 * n0 = _)⟩
  have hk1 : 0 < k1 ∧ k1 ≤ 4000000 := by have := HK1.out; omega
  obtain ⟨k2, HK2⟩ : ∃ k, Hid (k1 + 6 * n1 = k) := ⟨_, (rfl : k1 + 6 * n1 = _)⟩
  have hk2 : 0 < k2 ∧ k2 ≤ 12000000 := by have := HK2.out; omega
  rw [HK1.out] at t1 t2
  rw [HK2.out] at t2
  have HG : Hid (gMk g = k2 + 2 * n2) := (by unfold gMk; rw [H0.out, H1.out, H2.out, HK1.out, HK2.out] : gMk g = k2 + 2 * n2)
  obtain ⟨W, HW⟩ : ∃ W, Hid (W = w.alloc (.cells #[.slice a0 n0 c0, .slice a1 n1 c1, .slice a2 n2 c2] 34)) := ⟨_, (rfl : w.alloc (.cells #[.slice a0 n0 c0, .slice a1 n1 c1, .slice a2 n2 c2] 34) = _)⟩
  have hBW : Bel w W := by rw [HW.out]; exact bel_alloc (Bel.refl _) _
  have X0 : Blk W w.heap.size [.slice a0 n0 c0, .slice a1 n1 c1, .slice a2 n2 c2] := by rw [HW.out]; exact Blk.new w [.slice a0 n0 c0, .slice a1 n1 c1, .slice a2 n2 c2] _
  go_enter Try.func15, Try.ntmps15
  go_wp2_with fail
  rw [← HW.out]
  refine (heldSpotS_x _ _ _ b0 1 _ (t0.bel hBW) m0 (by omega) (by omega)).mono ?_
  rintro e w1 ⟨rfl, hb1⟩
  rw [HK1.out]
  have hB1 := bel_step hBW hb1
  have X1 := X0.bel hb1
  have y1 : w1.cell? ⟨w.heap.size, 1, none⟩ = some (.slice a1 n1 c1) := X1.cell 1 (by simp)
  have yl := X1.lt
  have hc1 : decide ((k1 : Int) < 0) = false := by simp
  go_wp2_with fail
  refine (heldRoadS_x _ _ _ b1 k1 _ (t1.bel hB1) m1 (by omega) (by omega)).mono ?_
  rintro e w2 ⟨rfl, hb2⟩
  rw [HK2.out]
  have hB2 := bel_step hB1 hb2
  have X2 := X1.bel hb2
  have y2 : w2.cell? ⟨w.heap.size, 2, none⟩ = some (.slice a2 n2 c2) := X2.cell 2 (by simp)
  have yl2 := X2.lt
  have hc2 : decide ((k2 : Int) < 0) = false := by simp
  clear y1 yl
  go_wp2_with fail
  refine (heldBanS_x _ _ _ b2 k2 _ (t2.bel hB2) m2 (by omega) (by omega)).mono ?_
  rintro e w3 ⟨rfl, hb3⟩
  obtain ⟨k3, HK3⟩ : ∃ k, Hid (k2 + 2 * n2 = k) := ⟨_, (rfl : k2 + 2 * n2 = _)⟩
  rw [HK3.out]
  have hc3 : decide ((k3 : Int) < 0) = false := by simp
  clear y2 yl2 X0 X1 X2
  go_wp2
  go_ret
  exact ⟨by rw [HG.out, HK3.out]; rfl, bel_step hB2 hb3⟩
end Go.Proofs.Ytiagdabikbjbiaa
