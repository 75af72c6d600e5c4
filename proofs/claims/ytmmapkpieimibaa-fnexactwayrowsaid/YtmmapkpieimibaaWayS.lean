/-
  The row of a way, in the document's model: the contract.
-/
import Derived.Test.YtmmapkpieimibaaRowS
import Derived.Test.YtmmapkpieimibaaWayI
import Derived.Test.YtmmapkpieimibaaSpecM
namespace Go.Proofs.Ytmmapkpieimibaa
open Go.RowKit Go.Maps

theorem l2Way_at (v : Value) (m : MapD) (bs : List Nat) (x j : Int) (w : World) (hV : MapV w v m bs) (hl : m.ways.length ≤ 1000) (hA : AscP m.ways.length (wId m.ways) (wTg m.ways)) (hj : posI (wId m.ways) m.ways.length x = j) :
    Calls Try.prog 40 #[v, .int .i64 x] w fun e w' => e = .returned (.int .i64 j) ∧ Bel w w' := by
  rw [← hj]
  exact l2Way_any v m bs x w hV hl hA

set_option maxRecDepth 100000 in
set_option maxHeartbeats 4000000 in
theorem specWayRow_any (v : Value) (m : MapD) (bs : List Nat) (id : Int) (w : World) (hV : MapV w v m bs) (hL : MapL m) :
    Calls Try.prog 12 #[v, .int .i64 id] w fun e w' => ∃ v', e = .returned v' ∧ OutP w.heap.size w' v' (wayQ m id) ∧ Bel w w' := by
  obtain ⟨a0, c0, a1, c1, a2, c2, b0, b1, b2, hv, hbs, t0, t1, t2⟩ := hV.out
  have HL : Hid (MapL m) := hL
  obtain ⟨n0, hn0⟩ : ∃ n, m.nodes.length = n := ⟨_, rfl⟩
  obtain ⟨n1, hn1⟩ : ∃ n, m.ways.length = n := ⟨_, rfl⟩
  obtain ⟨n2, hn2⟩ : ∃ n, m.areas.length = n := ⟨_, rfl⟩
  have H1 : Hid (m.ways.length = n1) := hn1
  rw [hn0, hn1, hn2] at hv
  subst hv
  obtain ⟨W, HW⟩ : ∃ W, Hid (W = w.alloc (.cells #[.slice a0 n0 c0, .slice a1 n1 c1, .slice a2 n2 c2] 33)) := ⟨_, (rfl : w.alloc (.cells #[.slice a0 n0 c0, .slice a1 n1 c1, .slice a2 n2 c2] 33) = _)⟩
  have S0 : Bel w W := by rw [HW.out]; exact bel_alloc (Bel.refl _) _
  have X0 : Blk W w.heap.size [.slice a0 n0 c0, .slice a1 n1 c1, .slice a2 n2 c2] := by rw [HW.out]; exact Blk.new w [.slice a0 n0 c0, .slice a1 n1 c1, .slice a2 n2 c2] 33
  have HV : Hid (MapV W (.agg #[.slice a0 n0 c0, .slice a1 n1 c1, .slice a2 n2 c2]) m bs) := hV.bel S0
  obtain ⟨A, C, A', C', f1, f2, _, hX⟩ := name_ways (t1.bel wayE S0)
  have HX : Hid _ := hX
  clear hX hV hL hbs t0 t1 t2 hn0 hn1 hn2
  go_enter Try.func12, Try.ntmps12
  go_wp2_with fail
  rw [← HW.out]
  refine (specMapOk_any _ m bs _ HV.out HL.out).mono ?_
  rintro e w1 ⟨rfl, hb1⟩
  have hB1 := bel_step S0 hb1
  have X1 := X0.bel hb1
  by_cases hm : mapB m = true
  · have hok := bP_out hm
    have hl1 : Hid (m.ways.length ≤ 1000) := hok.n2
    have hl0 : Hid (m.nodes.length ≤ 5000) := hok.n1
    have HA : Hid (AscP m.nodes.length (nId m.nodes) (nTg m.nodes)) := hok.an
    have HAW : Hid (AscP m.ways.length (wId m.ways) (wTg m.ways)) := hok.aw
    have HY : Hid (∀ i (h : i < m.ways.length), m.ways[i].nodes.length ≤ 2000 ∧ ∀ j (h' : j < m.ways[i].nodes.length), HasI m.nodes.length (nId m.nodes) m.ways[i].nodes[j]) := fun i h => ⟨(hok.wy i h).2.1, fun j h' => ((hok.wy i h).2.2 j h').1⟩
    have HMB : Hid (mapB m = true) := hm
    obtain ⟨z, Hz⟩ : ∃ z, Hid (posI (wId m.ways) m.ways.length id = z) := ⟨_, (rfl : posI (wId m.ways) m.ways.length id = _)⟩
    have hbd := posI_bd (wId m.ways) m.ways.length id
    rw [Hz.out] at hbd
    obtain ⟨z1, z2, -⟩ := hbd
    rw [H1.out] at z2
    rw [hm]
    have x0 : w1.cell? ⟨w.heap.size, 0, none⟩ = some (.slice a0 n0 c0) := X1.cell 0 (by simp)
    have x1 : w1.cell? ⟨w.heap.size, 1, none⟩ = some (.slice a1 n1 c1) := X1.cell 1 (by simp)
    have x2 : w1.cell? ⟨w.heap.size, 2, none⟩ = some (.slice a2 n2 c2) := X1.cell 2 (by simp)
    clear hm hok X0
    go_wp2_with fail
    refine (l2Way_at _ m bs id z _ (HV.out.bel hb1) hl1.out HAW.out Hz.out).mono ?_
    rintro e w2 ⟨rfl, hb2⟩
    have hB2 := bel_step hB1 hb2
    have X2 := X1.bel hb2
    clear x0 x1 x2 X1
    by_cases hz : z < 0
    · have HQ : Hid (wayQ m id = []) := wayQ_none (by rw [Hz.out]; omega)
      go_wp2
      go_ret
      exact ⟨_, rfl, by rw [HQ.out]; exact OutP.nil _ _ _ _, bel_alloc hB2 _⟩
    · obtain ⟨k, rfl⟩ : ∃ k : Nat, z = (k : Int) := ⟨z.toNat, by omega⟩
      have hkl : k < m.ways.length := by rw [H1.out]; omega
      obtain ⟨b, off, rfl, hb, _, d0, _, _, d1, tt, d2, _⟩ := HX.out k hkl
      obtain ⟨d, Hd⟩ : ∃ d, Hid (d = m.ways[k]) := ⟨_, (rfl : m.ways[k] = _)⟩
      have HYk := HY.out k hkl
      have HQ : Hid (wayQ m id = rowTo m.nodes m.ways[k].nodes m.ways[k].nodes.length) := wayQ_some HMB.out Hz.out hkl
      rw [← Hd.out] at d0 d1 d2 tt HYk HQ
      have HYK : Hid _ := HYk
      have hBW := bel_step hb1 hb2
      have hbl := bel_lt hBW hb
      have d0 := bel_cellM hBW hb d0
      have d1 := bel_cellM hBW hb d1
      have d2 := bel_cellM hBW hb d2
      have tt := tt.bel intE hBW
      have hR : ∀ w', Bel w2 w' → w'.cell? ⟨w.heap.size, 0, none⟩ = some (.slice a0 n0 c0) ∧ w'.cell? ⟨w.heap.size, 1, none⟩ = some (.slice (some ⟨b, off, none⟩) n1 c1) ∧ w'.cell? ⟨w.heap.size, 2, none⟩ = some (.slice a2 n2 c2) ∧ w'.cell? ⟨b, off + k * 3, none⟩ = some (.int .i64 d.id) ∧ w'.cell? ⟨b, off + k * 3 + 1, none⟩ = some (.slice (A k) d.nodes.length (C k)) ∧ w'.cell? ⟨b, off + k * 3 + 2, none⟩ = some (.slice (A' k) d.tags.length (C' k)) :=
        fun w' h => ⟨(X2.bel h).cell 0 (by simp), (X2.bel h).cell 1 (by simp), (X2.bel h).cell 2 (by simp), bel_cellM h hbl d0, bel_cellM h hbl d1, bel_cellM h hbl d2⟩
      have hMV : ∀ w', Bel w2 w' → MapV w' (.agg #[.slice a0 n0 c0, .slice (some ⟨b, off, none⟩) n1 c1, .slice a2 n2 c2]) m bs := fun w' h => (HV.out.bel hBW).bel h
      have hT1 : ∀ w', Bel w2 w' → Ints w' (A k) d.nodes (f1 k) := fun w' h => tt.bel intE h
      have hT4 : ∀ w', Bel w2 w' → w.heap.size ≤ w'.heap.size := fun w' h => Nat.le_trans hB2.out.size h.out.size
      have g0 : Bel w2 w2 := Bel.refl _
      have hk1 : (k : Int) < (n1 : Int) := z2
      have hkn : k < n1 := by omega
      clear d0 d1 d2 tt X2 hb HYk z1 z2
      have hzd : decide ((k : Int) < 0) = false := decide_eq_false hz
      clear hz
      go_wp2
      clear hzd
      go_region_held3 (fun w' => Bel w2 w') (with_reducible (repeat (first | assumption | exact g0 | refine Bel.drew ?_ | refine bel_then (by assumption) ?_)))
        (first
          | (go_at_call 41; refine (l2Row_any _ m bs _ _ _ _ _ _ _ d.nodes (f1 k) w.heap.size _ (hT4 _ (by assumption)) (hMV _ (by assumption)) (hT1 _ (by assumption)) rfl HYK.out.1 hl0.out HA.out HYK.out.2).mono ?_; rintro e w5 ⟨v5, rfl, O5, hb5⟩))
      have hH : Bel w2 w5 := by assumption
      go_wp2
      go_ret
      exact ⟨_, rfl, by rw [HQ.out]; exact O5, bel_step hB2 hH⟩
  · have hm : mapB m = false := by simpa using hm
    have HQ : Hid (wayQ m id = []) := (by unfold wayQ; rw [hm]; rfl : wayQ m id = [])
    rw [hm]
    clear hm
    go_wp2
    go_ret
    exact ⟨_, rfl, by rw [HQ.out]; exact OutP.nil _ _ _ _, bel_alloc hB1 _⟩
end Go.Proofs.Ytmmapkpieimibaa
