/-
  The row of a way, in the program: the contract.
-/
import Derived.Test.YtmmapkpieimibaaRowI
namespace Go.Proofs.Ytmmapkpieimibaa
open Go.RowKit Go.Maps

theorem plc_pos {I : Nat → Int} {n : Nat} {x : Int} {k : Nat} (h : plc I n x = some (k : Int)) : posI I n x = k := by unfold posI; rw [h]; rfl
theorem plc_none {I : Nat → Int} {n : Nat} {x : Int} (h : plc I n x = none) : posI I n x = -1 := by unfold posI; rw [h]; rfl
theorem wayQ_none {m : MapD} {id : Int} (h : posI (wId m.ways) m.ways.length id = -1) : wayQ m id = [] := by
  unfold wayQ
  rw [h]
  simp
theorem wayQ_some {m : MapD} {id : Int} {k : Nat} (hm : mapB m = true) (h : posI (wId m.ways) m.ways.length id = k) (hk : k < m.ways.length) : wayQ m id = rowTo m.nodes m.ways[k].nodes m.ways[k].nodes.length := by
  unfold wayQ
  rw [if_pos hm, h, if_neg (by omega), Int.toNat_natCast, getD_at _ hk]

set_option maxRecDepth 100000 in
set_option maxHeartbeats 4000000 in
theorem wayRow_any (v : Value) (m : MapD) (bs : List Nat) (id : Int) (w : World) (hV : MapV w v m bs) (hL : MapL m) (hid : In64 id) :
    Calls Try.prog 13 #[v, .int .i64 id] w fun e w' => ∃ v', e = .returned v' ∧ OutP w.heap.size w' v' (wayQ m id) ∧ Bel w w' := by
  have hV' := hV
  obtain ⟨a0, c0, a1, c1, a2, c2, b0, b1, b2, rfl, _, _, _, _⟩ := hV.out
  clear hV
  go_enter Try.func13, Try.ntmps13
  go_wp2_with fail
  refine (chartOf_any _ m bs _ (hV'.bel (bel_alloc (Bel.refl _) _)) hL).mono ?_
  rintro e w1 (⟨hm, d0, k0, d1, k1, d2, k2, bN, bW, q0, q1, q2, rfl, hN, hR, _, hMN, hMW, hb⟩ | ⟨hm, rfl, hb⟩)
  · have hB := bel_step (bel_alloc (Bel.refl w) _) hb
    have hok := bP_out hm
    have hB2 := bel_alloc hB (.cells #[.slice d0 m.nodes.length k0, .slice d1 m.ways.length k1, .slice d2 m.areas.length k2, .map (some bN), .map (some bW)] 74)
    have hlk := (hMW.bel (bel_alloc (Bel.refl _) (.cells #[.slice d0 m.nodes.length k0, .slice d1 m.ways.length k1, .slice d2 m.areas.length k2, .map (some bN), .map (some bW)] 74))).look hid
    cases hp : plc (wId m.ways) m.ways.length id with
    | none =>
      have HQ : Hid (wayQ m id = []) := wayQ_none (plc_none hp)
      rw [hp] at hlk
      clear hV' hm hb hok hp
      go_wp2
      go_ret
      exact ⟨_, rfl, by rw [HQ.out]; exact OutP.nil _ _ _ _, hB2⟩
    | some kz =>
      obtain ⟨z1, z2⟩ := plc_bd _ _ _ _ hp
      obtain ⟨k, rfl⟩ : ∃ k : Nat, kz = (k : Int) := ⟨kz.toNat, by omega⟩
      have hkl : k < m.ways.length := by omega
      have HQ : Hid (wayQ m id = rowTo m.nodes m.ways[k].nodes m.ways[k].nodes.length) := wayQ_some hm (plc_pos hp) hkl
      rw [hp] at hlk
      have HY : Hid (m.ways[k].nodes.length ≤ 2000 ∧ ∀ j (h' : j < m.ways[k].nodes.length), HasI m.nodes.length (nId m.nodes) m.ways[k].nodes[j]) := ⟨(hok.wy k hkl).2.1, fun j h' => ((hok.wy k hkl).2.2 j h').1⟩
      have HA : Hid (AscP m.nodes.length (nId m.nodes) (nTg m.nodes)) := hok.an
      obtain ⟨d, Hd⟩ : ∃ d, Hid (d = m.ways[k]) := ⟨_, (rfl : m.ways[k] = _)⟩
      rw [← Hd.out] at HQ HY
      obtain ⟨V, HV⟩ : ∃ W, Hid (W = w1.alloc (.cells #[.slice d0 m.nodes.length k0, .slice d1 m.ways.length k1, .slice d2 m.areas.length k2, .map (some bN), .map (some bW)] 74)) := ⟨_, (rfl : w1.alloc (.cells #[.slice d0 m.nodes.length k0, .slice d1 m.ways.length k1, .slice d2 m.areas.length k2, .map (some bN), .map (some bW)] 74) = _)⟩
      have S1 : Bel w1 V := by rw [HV.out]; exact bel_alloc (Bel.refl _) _
      have hBV : Bel w V := bel_step hB S1
      have Xc : Blk V w1.heap.size [.slice d0 m.nodes.length k0, .slice d1 m.ways.length k1, .slice d2 m.areas.length k2, .map (some bN), .map (some bW)] := by rw [HV.out]; exact Blk.new w1 [.slice d0 m.nodes.length k0, .slice d1 m.ways.length k1, .slice d2 m.areas.length k2, .map (some bN), .map (some bW)] 74
      obtain ⟨b, off, f, rfl, hbb, hx⟩ := (hR.bel wRecE S1).out hkl
      obtain ⟨_, e0, an, cn, at', ct, s1, s2, _, _, _, e2, tn, e1, _⟩ := hx k hkl
      rw [← Hd.out] at e0 e1 e2 tn
      have hR1 : ∀ w', Bel V w' → w'.cell? ⟨w1.heap.size, 0, none⟩ = some (.slice d0 m.nodes.length k0) ∧ w'.cell? ⟨w1.heap.size, 1, none⟩ = some (.slice (some ⟨b, off, none⟩) m.ways.length k1) ∧ w'.cell? ⟨w1.heap.size, 2, none⟩ = some (.slice d2 m.areas.length k2) ∧ w'.cell? ⟨w1.heap.size, 3, none⟩ = some (.map (some bN)) ∧ w'.cell? ⟨w1.heap.size, 4, none⟩ = some (.map (some bW)) ∧ w'.cell? ⟨b, off + k * 3, none⟩ = some (.int .i64 d.id) ∧ w'.cell? ⟨b, off + k * 3 + 1, none⟩ = some (.slice at' d.tags.length ct) ∧ w'.cell? ⟨b, off + k * 3 + 2, none⟩ = some (.slice an d.nodes.length cn) :=
        fun w' h => ⟨(Xc.bel h).cell 0 (by simp), (Xc.bel h).cell 1 (by simp), (Xc.bel h).cell 2 (by simp), (Xc.bel h).cell 3 (by simp), (Xc.bel h).cell 4 (by simp), bel_cellM h hbb e0, bel_cellM h hbb e1, bel_cellM h hbb e2⟩
      have hT1 : ∀ w', Bel V w' → Ints w' an d.nodes s1 := fun w' h => tn.bel intE h
      have hT2 : ∀ w', Bel V w' → NRecs w' d0 m.nodes q0 := fun w' h => (hN.bel nRecE S1).bel nRecE h
      have hT3 : ∀ w', Bel V w' → MapAt w' bN m.nodes.length (plc (nId m.nodes) m.nodes.length) := fun w' h => (hMN.bel S1).bel h
      have hT4 : ∀ w', Bel V w' → w.heap.size ≤ w'.heap.size := fun w' h => Nat.le_trans hBV.out.size h.out.size
      have g0 : Bel V V := Bel.refl _
      have hk1 : (k : Int) < (m.ways.length : Int) := by omega
      obtain ⟨n1, hn1⟩ : ∃ n, m.ways.length = n := ⟨_, rfl⟩
      rw [hn1] at hlk hR1 HV hk1 ⊢
      clear hx e0 e1 e2 tn Xc hN hR hMN hMW hb hB hok hm hp hV' hB2 S1
      go_wp2
      rw [← HV.out]
      go_region_held3 (fun w' => Bel V w') (with_reducible (repeat (first | assumption | exact g0 | refine Bel.drew ?_ | refine bel_then (by assumption) ?_)))
        (first
          | (go_at_call 42; refine (rowI_any _ _ _ _ _ _ _ _ _ _ _ _ _ _ _ _ _ _ d.nodes s1 m.nodes q0 (nTg m.nodes) w.heap.size _ (hT4 _ (by assumption)) (hT1 _ (by assumption)) rfl HY.out.1 (hT2 _ (by assumption)) rfl HA.out (hT3 _ (by assumption)) HY.out.2).mono ?_; rintro e w5 ⟨v5, rfl, O5, hb5⟩))
      have hH : Bel V w5 := by assumption
      go_wp2
      go_ret
      exact ⟨_, rfl, by rw [HQ.out]; exact O5, bel_step hBV hH⟩
  · have HQ : Hid (wayQ m id = []) := (by unfold wayQ; rw [hm]; rfl : wayQ m id = [])
    have hB := bel_step (bel_alloc (Bel.refl w) _) hb
    clear hV' hm hb
    go_wp2
    go_ret
    have hB2 := bel_alloc hB (.cells #[.slice none 0 0, .slice none 0 0, .slice none 0 0, .map none, .map none] 74)
    exact ⟨_, rfl, by rw [HQ.out]; exact OutP.nil _ _ _ _, hB2⟩
end Go.Proofs.Ytmmapkpieimibaa
