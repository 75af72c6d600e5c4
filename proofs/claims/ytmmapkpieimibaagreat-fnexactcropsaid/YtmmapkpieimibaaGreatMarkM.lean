/-
  A map, marked: the contract.
-/
import Derived.Test.YtmmapkpieimibaaGreatMarkN
import Derived.Test.YtmmapkpieimibaaGreatChartF
namespace Go.Proofs.YtmmapkpieimibaaGreat
open Go.RowKit Go.Maps

/-- A map as its marks leave it. -/
def mkMapW (k : Nat) (m : MapD) : Nat := stNode k m.nodes m.nodes.length
def mkMapA (k : Nat) (m : MapD) : Nat := stWay (mkMapW k m) m.ways m.ways.length
def mkMapE (k : Nat) (m : MapD) : Nat := stArea (mkMapA k m) m.areas m.areas.length
def mkMap (k : Nat) (m : MapD) : MapD := ⟨mkNodes k m.nodes, mkWays (mkMapW k m) m.ways, mkAreas (mkMapA k m) m.areas⟩

set_option maxRecDepth 100000 in
set_option maxHeartbeats 2000000 in
theorem markMap_any (v : Value) (m : MapD) (bs : List Nat) (k : Nat) (w : World) (hV : MapV w v m bs) (hL : MapL m) (hf : ∀ x ∈ bs, ∀ j, w.frozen? ⟨x, j, none⟩ = false) (hd : bs.Nodup) (h0k : 0 < k) (hk : k ≤ 35184372088832) :
    Calls Tryz.prog 11 #[v, .int .i64 k] w fun e w' => e = .returned (.int .i64 (mkMapE k m : Nat)) ∧ MapV w' v (mkMap k m) bs ∧ (∀ x ∈ bs, ∀ j, w'.frozen? ⟨x, j, none⟩ = false) ∧ Onl bs w w' := by
  obtain ⟨a0, c0, a1, c1, a2, c2, b0, b1, b2, rfl, hbs, t0, t1, t2⟩ := hV.out
  obtain ⟨m0, m1, m2, u0, u1, u2⟩ := hL
  obtain ⟨n0, hn0⟩ : ∃ n, m.nodes.length = n := ⟨_, rfl⟩
  obtain ⟨n1, hn1⟩ : ∃ n, m.ways.length = n := ⟨_, rfl⟩
  obtain ⟨n2, hn2⟩ : ∃ n, m.areas.length = n := ⟨_, rfl⟩
  have H0 : Hid (m.nodes.length = n0) := hn0
  have H1 : Hid (m.ways.length = n1) := hn1
  have H2 : Hid (m.areas.length = n2) := hn2
  rw [hn0, hn1, hn2]
  rw [hn0] at m0
  rw [hn1] at m1
  rw [hn2] at m2
  have hk0 := (stNode_bd (k := k) u0 m.nodes.length (Nat.le_refl _))
  obtain ⟨kW, HW⟩ : ∃ x, Hid (stNode k m.nodes n0 = x) := ⟨_, (rfl : stNode k m.nodes n0 = _)⟩
  rw [hn0, HW.out] at hk0
  have hk1 := (stWay_bd (k := kW) u1 m.ways.length (Nat.le_refl _))
  obtain ⟨kA, HA⟩ : ∃ x, Hid (stWay kW m.ways n1 = x) := ⟨_, (rfl : stWay kW m.ways n1 = _)⟩
  rw [hn1, HA.out] at hk1
  obtain ⟨kE, HE⟩ : ∃ x, Hid (stArea kA m.areas n2 = x) := ⟨_, (rfl : stArea kA m.areas n2 = _)⟩
  have HEE : Hid (mkMapE k m = kE ∧ mkMapA k m = kA ∧ mkMapW k m = kW) := by
    have e1 : mkMapW k m = kW := by unfold mkMapW; rw [hn0]; exact HW.out
    have e2 : mkMapA k m = kA := by unfold mkMapA; rw [e1, hn1]; exact HA.out
    exact (⟨by unfold mkMapE; rw [e2, hn2]; exact HE.out, e2, e1⟩ : mkMapE k m = kE ∧ mkMapA k m = kA ∧ mkMapW k m = kW)
  rw [HEE.out.1]
  have hkW : kW ≤ 52776558133248 ∧ 0 < kW := by omega
  have hkA : kA ≤ 70368744177664 ∧ 0 < kA := by omega
  have HU0 : Hid (∀ i (h : i < m.nodes.length), m.nodes[i].tags.length ≤ 1048576) := u0
  have HU1 : Hid (∀ i (h : i < m.ways.length), m.ways[i].nodes.length ≤ 1048576 ∧ m.ways[i].tags.length ≤ 1048576) := u1
  have HU2 : Hid (∀ i (h : i < m.areas.length), m.areas[i].parts.length ≤ 1048576 ∧ m.areas[i].tags.length ≤ 1048576) := u2
  subst hbs
  obtain ⟨d0, d12, x0⟩ := List.nodup_append.1 hd
  obtain ⟨d1, d2, x1⟩ := List.nodup_append.1 d12
  have D01 : ∀ x ∈ b0, x ∉ b1 := fun x hx hy => x0 x hx x (List.mem_append.2 (.inl hy)) rfl
  have D02 : ∀ x ∈ b0, x ∉ b2 := fun x hx hy => x0 x hx x (List.mem_append.2 (.inr hy)) rfl
  have D12 : ∀ x ∈ b1, x ∉ b2 := fun x hx hy => x1 x hx x hy rfl
  have L0 := t0.lt nodeE
  have L1 := t1.lt wayE
  have L2 := t2.lt areaE
  obtain ⟨wb, HB⟩ : ∃ x, Hid (x = w.alloc (.cells #[.slice a0 n0 c0, .slice a1 n1 c1, .slice a2 n2 c2] 36)) := ⟨_, (rfl : w.alloc (.cells #[.slice a0 n0 c0, .slice a1 n1 c1, .slice a2 n2 c2] 36) = _)⟩
  have S0 : Bel w wb := by rw [HB.out]; exact bel_alloc (Bel.refl _) _
  have X0 : Blk wb w.heap.size [.slice a0 n0 c0, .slice a1 n1 c1, .slice a2 n2 c2] := by rw [HB.out]; exact Blk.new w [.slice a0 n0 c0, .slice a1 n1 c1, .slice a2 n2 c2] 36
  have zb : w.heap.size < wb.heap.size := by rw [HB.out]; simp
  have N0 : w.heap.size ∉ b0 := fun h => absurd (L0 _ h) (Nat.lt_irrefl _)
  have N1 : w.heap.size ∉ b1 := fun h => absurd (L1 _ h) (Nat.lt_irrefl _)
  have F : ∀ x ∈ b0 ++ (b1 ++ b2), ∀ j, wb.frozen? ⟨x, j, none⟩ = false := fun x hx j => by
    have hlt : x < w.heap.size := by
      rcases List.mem_append.1 hx with h | h
      · exact L0 x h
      · rcases List.mem_append.1 h with h | h
        · exact L1 x h
        · exact L2 x h
    rw [S0.out.frozen (p := ⟨x, j, none⟩) hlt]
    exact hf x hx j
  have F0 : ∀ x ∈ b0, ∀ j, wb.frozen? ⟨x, j, none⟩ = false := fun x hx => F x (List.mem_append.2 (.inl hx))
  have F1 : ∀ x ∈ b1, ∀ j, wb.frozen? ⟨x, j, none⟩ = false := fun x hx => F x (List.mem_append.2 (.inr (List.mem_append.2 (.inl hx))))
  have F2 : ∀ x ∈ b2, ∀ j, wb.frozen? ⟨x, j, none⟩ = false := fun x hx => F x (List.mem_append.2 (.inr (List.mem_append.2 (.inr hx))))
  have T0 := t0.bel nodeE S0
  have T1 := t1.bel wayE S0
  have T2 := t2.bel areaE S0
  have q0 : ∀ x ∈ b0, x < wb.heap.size := T0.lt nodeE
  have q1 : ∀ x ∈ b1, x < wb.heap.size := T1.lt wayE
  have q2 : ∀ x ∈ b2, x < wb.heap.size := T2.lt areaE
  have hld : (w.alloc (.cells #[.slice a0 n0 c0, .slice a1 n1 c1, .slice a2 n2 c2] 36)).cell? ⟨w.heap.size, 0, none⟩ = some (.slice a0 n0 c0) := by rw [← HB.out]; exact X0.cell 0 (by simp)
  clear hV hn0 hn1 hn2 u0 u1 u2 hf hd d12 x0 x1 F t0 t1 t2
  go_enter Tryz.func11, Tryz.ntmps11
  go_wp2_with fail
  rw [← HB.out]
  refine (markNodeS_any a0 _ c0 m.nodes b0 k _ T0 F0 d0 H0.out m0 HU0.out h0k (by omega)).mono ?_
  rintro e w1 ⟨rfl, V0, G0, O1⟩
  rw [HW.out]
  have y11 : w1.cell? ⟨w.heap.size, 1, none⟩ = some (.slice a1 n1 c1) := by rw [O1.cell zb N0]; exact X0.cell 1 (by simp)
  have y12 : w1.cell? ⟨w.heap.size, 2, none⟩ = some (.slice a2 n2 c2) := by rw [O1.cell zb N0]; exact X0.cell 2 (by simp)
  have z1 := Nat.lt_of_lt_of_le zb O1.size
  have D10 : ∀ x ∈ b1, x ∉ b0 := fun x hx hy => D01 x hy hx
  have D20 : ∀ x ∈ b2, x ∉ b0 := fun x hx hy => D02 x hy hx
  have D21 : ∀ x ∈ b2, x ∉ b1 := fun x hx hy => D12 x hy hx
  have T11 := T1.alike wayE (O1.alike q1 D10)
  have T12 := T2.alike areaE (O1.alike q2 D20)
  have F11 : ∀ x ∈ b1, ∀ j, w1.frozen? ⟨x, j, none⟩ = false := fun x hx j => by rw [O1.frozen (q1 x hx) (D10 x hx)]; exact F1 x hx j
  have F12 : ∀ x ∈ b2, ∀ j, w1.frozen? ⟨x, j, none⟩ = false := fun x hx j => by rw [O1.frozen (q2 x hx) (D20 x hx)]; exact F2 x hx j
  clear hld
  go_wp2_with fail
  refine (markWayS_any a1 _ c1 m.ways b1 kW _ T11 F11 d1 H1.out m1 HU1.out (by omega) (by omega)).mono ?_
  rintro e w2 ⟨rfl, V1, G1, O2⟩
  rw [HA.out]
  have y22 : w2.cell? ⟨w.heap.size, 2, none⟩ = some (.slice a2 n2 c2) := by rw [O2.cell z1 N1]; exact y12
  have q10 : ∀ x ∈ b0, x < w1.heap.size := V0.lt nodeE
  have q12 : ∀ x ∈ b2, x < w1.heap.size := T12.lt areaE
  have T20 := V0.alike nodeE (O2.alike q10 D01)
  have T22 := T12.alike areaE (O2.alike q12 D21)
  have F20 : ∀ x ∈ b0, ∀ j, w2.frozen? ⟨x, j, none⟩ = false := fun x hx j => by rw [O2.frozen (q10 x hx) (D01 x hx)]; exact G0 x hx j
  have F22 : ∀ x ∈ b2, ∀ j, w2.frozen? ⟨x, j, none⟩ = false := fun x hx j => by rw [O2.frozen (q12 x hx) (D21 x hx)]; exact F12 x hx j
  clear y11 y12
  go_wp2_with fail
  refine (markAreaS_any a2 _ c2 m.areas b2 kA _ T22 F22 d2 H2.out m2 HU2.out (by omega) (by omega)).mono ?_
  rintro e w3 ⟨rfl, V2, G2, O3⟩
  rw [HE.out]
  have q20 : ∀ x ∈ b0, x < w2.heap.size := T20.lt nodeE
  have q21 : ∀ x ∈ b1, x < w2.heap.size := V1.lt wayE
  have T30 := T20.alike nodeE (O3.alike q20 D02)
  have T31 := V1.alike wayE (O3.alike q21 D12)
  have HV : Hid (MapV w3 (.agg #[.slice a0 n0 c0, .slice a1 n1 c1, .slice a2 n2 c2]) (mkMap k m) (b0 ++ (b1 ++ b2))) :=
    (⟨a0, c0, a1, c1, a2, c2, b0, b1, b2, by show _ = Value.agg #[.slice a0 (mkNodes k m.nodes).length c0, .slice a1 (mkWays (mkMapW k m) m.ways).length c1, .slice a2 (mkAreas (mkMapA k m) m.areas).length c2]; rw [mkNodes_len, mkWays_len, mkAreas_len, H0.out, H1.out, H2.out], rfl, T30,
      by show Ways w3 a1 (mkWays (mkMapW k m) m.ways) b1; rw [HEE.out.2.2]; exact T31, by show Areas w3 a2 (mkAreas (mkMapA k m) m.areas) b2; rw [HEE.out.2.1]; exact V2⟩ : MapV w3 _ (mkMap k m) _)
  have HF : Hid (∀ x ∈ b0 ++ (b1 ++ b2), ∀ j, w3.frozen? ⟨x, j, none⟩ = false) := fun x hx j => by
    rcases List.mem_append.1 hx with h | h
    · rw [O3.frozen (q20 x h) (D02 x h)]; exact F20 x h j
    · rcases List.mem_append.1 h with h | h
      · rw [O3.frozen (q21 x h) (D12 x h)]; exact G1 x h j
      · exact G2 x h j
  have HO : Hid (Onl (b0 ++ (b1 ++ b2)) w w3) :=
    ((((Onl.refl _ w).bel S0).trans (O1.mono fun x hx => List.mem_append.2 (.inl hx))).trans (O2.mono fun x hx => List.mem_append.2 (.inr (List.mem_append.2 (.inl hx))))).trans (O3.mono fun x hx => List.mem_append.2 (.inr (List.mem_append.2 (.inr hx))))
  clear y22
  go_wp2
  go_ret
  exact ⟨rfl, HV.out, HF.out, HO.out⟩

end Go.Proofs.YtmmapkpieimibaaGreat
