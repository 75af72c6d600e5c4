/-
  The ways and nodes of a map that lie in a box, as sets: contracts.
-/
import Derived.Test.YtmmapkpieimibaaGreatBoxC
import Derived.Test.YtmmapkpieimibaaGreatRowI
import Derived.Test.YtmmapkpieimibaaGreatGrowC
import Derived.Deep.RegionHeld3
namespace Go.Proofs.YtmmapkpieimibaaGreat
open Go.RowKit Go.Maps

theorem tagd_any (i : Int) (a : Option Addr) (n c : Nat) (w : World) (hn : n ≤ 1048576) :
    Calls Tryz.prog 88 #[.agg #[.int .i64 i, .slice a n c]] w fun e w' => e = .returned (.bool (decide (n ≠ 0))) ∧ Bel w w' := by
  have hB : Bel w (w.alloc (.cells #[.int .i64 i, .slice a n c] 89)) := bel_alloc (Bel.refl _) _
  go_enter Tryz.func88, Tryz.ntmps88
  go_wp2
  go_ret
  exact ⟨congrArg (fun b => Ending.returned (.bool b)) (decide_eq_decide.2 (by omega)), hB⟩

set_option maxRecDepth 100000 in
set_option maxHeartbeats 4000000 in
theorem waysIn_any (m : MapD) (q : BoxD) (an : Option Addr) (nn cn : Nat) (aw : Option Addr) (nw cw : Nat) (aa : Option Addr) (na ca : Nat) (bN bW : Nat) (q0 q1 : List Nat) (w : World) (hok : MapOkP m) (hnn : m.nodes.length = nn) (hnw : m.ways.length = nw)
    (hN : NRecs w an m.nodes q0) (hR : WRecs w aw m.ways q1) (hM : MapAt w bN m.nodes.length (plc (nId m.nodes) m.nodes.length)) :
    Calls Tryz.prog 33 #[chV an nn cn aw nw cw aa na ca bN bW, .agg #[.int .i64 q.a, .int .i64 q.b, .int .i64 q.c, .int .i64 q.d]] w fun e w' => ∃ S cnt, e = .returned (.map (some S)) ∧ w.heap.size ≤ S ∧ cnt ≤ 1000 ∧ SetAt w' S cnt (wSetTo m q m.ways.length) ∧ Bel w w' := by
  have hmm := @run_makeMap Tryz.prog
  have H0 : Hid (m.nodes.length = nn) := hnn
  have H1 : Hid (m.ways.length = nw) := hnw
  have hle1 : nw ≤ 1000 := by rw [← hnw]; exact hok.n2
  have HA : Hid (AscP m.nodes.length (nId m.nodes) (nTg m.nodes)) := hok.an
  have HY : Hid (∀ i (h : i < m.ways.length), m.ways[i].nodes.length ≤ 2000 ∧ ∀ j (h' : j < m.ways[i].nodes.length), HasI m.nodes.length (nId m.nodes) m.ways[i].nodes[j]) := fun i h => ⟨(hok.wy i h).2.1, fun j h' => ((hok.wy i h).2.2 j h').1⟩
  obtain ⟨V, HV⟩ : ∃ W, Hid (W = (w.alloc (.cells #[.slice an nn cn, .slice aw nw cw, .slice aa na ca, .map (some bN), .map (some bW)] 81)).alloc (.cells #[.int .i64 q.a, .int .i64 q.b, .int .i64 q.c, .int .i64 q.d] 41)) := ⟨_, (rfl : (w.alloc (.cells #[.slice an nn cn, .slice aw nw cw, .slice aa na ca, .map (some bN), .map (some bW)] 81)).alloc (.cells #[.int .i64 q.a, .int .i64 q.b, .int .i64 q.c, .int .i64 q.d] 41) = _)⟩
  have hBV : Bel w V := by rw [HV.out]; exact bel_alloc (bel_alloc (Bel.refl _) _) _
  have hVs : V.heap.size = w.heap.size + 1 + 1 := by rw [HV.out]; simp
  have X0 : Blk V w.heap.size [.slice an nn cn, .slice aw nw cw, .slice aa na ca, .map (some bN), .map (some bW)] := by rw [HV.out]; exact (Blk.new w [.slice an nn cn, .slice aw nw cw, .slice aa na ca, .map (some bN), .map (some bW)] _).bel (bel_alloc (Bel.refl _) _)
  have X1 : Blk V (w.heap.size + 1) [.int .i64 q.a, .int .i64 q.b, .int .i64 q.c, .int .i64 q.d] := by rw [HV.out]; exact Blk.new1 w _ [.int .i64 q.a, .int .i64 q.b, .int .i64 q.c, .int .i64 q.d] _
  have HN := hN.bel nRecE hBV
  have HR := hR.bel wRecE hBV
  have HM := hM.bel hBV
  have hS0 : SetAt (V.alloc (.map #[] 0)) (w.heap.size + 1 + 1) 0 (fun _ => False) := by rw [← hVs]; exact SetAt.new V
  obtain ⟨W, HW⟩ : ∃ W, Hid (W = V.alloc (.map #[] 0)) := ⟨_, (rfl : V.alloc (.map #[] 0) = _)⟩
  have hVW : Bel V W := by rw [HW.out]; exact bel_alloc (Bel.refl _) _
  rw [← HW.out] at hS0
  have x1 : W.cell? ⟨w.heap.size, 1, none⟩ = some (.slice aw nw cw) := (X0.bel hVW).cell 1 (by simp)
  clear hN hR hM hnn hnw hok
  go_enter Tryz.func33, Tryz.ntmps33
  go_wp2
  rw [← HV.out, ← HW.out]
  go_loopw [7, 12] (fun _ i wr => ∃ k cnt : Nat, k ≤ nw ∧ cnt ≤ k ∧ i = .int .i64 k ∧ SetAt wr (w.heap.size + 1 + 1) cnt (wSetTo m q k) ∧ W.grownBy wr (some (w.heap.size + 1 + 1))) (fun _ i _ => nw - (intOf i).toNat)
  case atStart => exact ⟨0, 0, Nat.zero_le _, Nat.le_refl _, rfl, by rw [wSet_zero]; exact hS0, World.grownBy.refl _ _⟩
  case round =>
    clear hS0 x1
    obtain ⟨k, cnt, hk, hcnt, rfl, hSk, hgr⟩ := hrel
    have hBr : Bel V wr := bel_grow hVW hgr (fun k e => by injection e with e; omega)
    by_cases hlt : k < nw
    · have hkl : k < m.ways.length := by rw [H1.out]; exact hlt
      obtain ⟨b, off, f, rfl, hb, hx⟩ := HR.out hkl
      obtain ⟨id0, e0, a, c, a', c', g1, g2, _, _, _, e2, tt, e1, _⟩ := hx k hkl
      obtain ⟨d, Hd⟩ : ∃ d, Hid (d = m.ways[k]) := ⟨_, (rfl : m.ways[k] = _)⟩
      have HYk := HY.out k hkl
      obtain ⟨r, Hr⟩ : ∃ r, Hid (wInB m q m.ways[k] = r) := ⟨_, (rfl : wInB m q m.ways[k] = _)⟩
      have HSy : Hid (r = true → (fun y => y ∈ [d.id] ∨ wSetTo m q k y) = wSetTo m q (k + 1)) := fun e => by rw [Hd.out]; exact wSet_yes hkl (Hr.out.trans e)
      have HSn : Hid (r = false → wSetTo m q (k + 1) = wSetTo m q k) := fun e => wSet_no hkl (Hr.out.trans e)
      rw [← Hd.out] at e0 e1 e2 tt HYk id0 Hr
      have HYK : Hid _ := HYk
      obtain ⟨L, HLq⟩ : ∃ L, Hid (rowTo m.nodes d.nodes d.nodes.length = L) := ⟨_, (rfl : rowTo m.nodes d.nodes d.nodes.length = _)⟩
      have HRW : Hid ((L.any fun p => ptB q p.x p.y) = r) := by rw [← HLq.out]; exact Hr.out
      have hLl : Hid (L.length ≤ 1048576) := by rw [← HLq.out, rowTo_len (Nat.le_refl _)]; exact Nat.le_trans HYk.1 (by decide)
      have e0 := bel_cellM hBr hb e0
      have e1 := bel_cellM hBr hb e1
      have e2 := bel_cellM hBr hb e2
      obtain ⟨Q, HQ⟩ : ∃ Q, Hid (Q = wr.alloc (.cells #[.int .i64 d.id, .slice a' d.tags.length c', .slice a d.nodes.length c] 95)) := ⟨_, (rfl : wr.alloc (.cells #[.int .i64 d.id, .slice a' d.tags.length c', .slice a d.nodes.length c] 95) = _)⟩
      have hBQ : Bel wr Q := by rw [HQ.out]; exact bel_alloc (Bel.refl _) _
      have XQ : Blk Q wr.heap.size [.int .i64 d.id, .slice a' d.tags.length c', .slice a d.nodes.length c] := by rw [HQ.out]; exact Blk.new wr [.int .i64 d.id, .slice a' d.tags.length c', .slice a d.nodes.length c] _
      have hBVQ := bel_step hBr hBQ
      have hSQ := hSk.bel hBQ
      have hgQ := grown_step hgr hBQ
      have hC : ∀ w', Bel Q w' → w'.cell? ⟨w.heap.size, 0, none⟩ = some (.slice an nn cn) ∧ w'.cell? ⟨w.heap.size, 1, none⟩ = some (.slice (some ⟨b, off, none⟩) nw cw) ∧ w'.cell? ⟨w.heap.size, 2, none⟩ = some (.slice aa na ca) ∧ w'.cell? ⟨w.heap.size, 3, none⟩ = some (.map (some bN)) ∧ w'.cell? ⟨w.heap.size, 4, none⟩ = some (.map (some bW)) ∧ w'.cell? ⟨wr.heap.size, 0, none⟩ = some (.int .i64 d.id) ∧ w'.cell? ⟨wr.heap.size, 1, none⟩ = some (.slice a' d.tags.length c') ∧ w'.cell? ⟨wr.heap.size, 2, none⟩ = some (.slice a d.nodes.length c) ∧ w'.cell? ⟨w.heap.size + 1, 0, none⟩ = some (.int .i64 q.a) ∧ w'.cell? ⟨w.heap.size + 1, 1, none⟩ = some (.int .i64 q.b) ∧ w'.cell? ⟨w.heap.size + 1, 2, none⟩ = some (.int .i64 q.c) ∧ w'.cell? ⟨w.heap.size + 1, 3, none⟩ = some (.int .i64 q.d) :=
        fun w' h => ⟨((X0.bel hBVQ).bel h).cell 0 (by simp), ((X0.bel hBVQ).bel h).cell 1 (by simp), ((X0.bel hBVQ).bel h).cell 2 (by simp), ((X0.bel hBVQ).bel h).cell 3 (by simp), ((X0.bel hBVQ).bel h).cell 4 (by simp), (XQ.bel h).cell 0 (by simp), (XQ.bel h).cell 1 (by simp), (XQ.bel h).cell 2 (by simp), ((X1.bel hBVQ).bel h).cell 0 (by simp), ((X1.bel hBVQ).bel h).cell 1 (by simp), ((X1.bel hBVQ).bel h).cell 2 (by simp), ((X1.bel hBVQ).bel h).cell 3 (by simp)⟩
      have hT1 : ∀ w', Bel Q w' → Ints w' a d.nodes g1 := fun w' h => (tt.bel intE hBVQ).bel intE h
      have hT2 : ∀ w', Bel Q w' → NRecs w' an m.nodes q0 := fun w' h => (HN.bel nRecE hBVQ).bel nRecE h
      have hT3 : ∀ w', Bel Q w' → MapAt w' bN m.nodes.length (plc (nId m.nodes) m.nodes.length) := fun w' h => (HM.bel hBVQ).bel h
      have g0 : Bel Q Q := Bel.refl _
      have hlt' : (k : Int) < (nw : Int) := by omega
      have hszQ : w.heap.size + 1 + 1 < Q.heap.size := hSQ.lt
      clear hx tt hSk hgr hb
      go_wp2
      rw [← HQ.out]
      go_region_held3 (fun w' => Bel Q w') (with_reducible (repeat (first | assumption | exact g0 | refine Bel.drew ?_ | refine bel_then (by assumption) ?_)))
        (first
          | (go_at_call 85; refine (rowI_any _ _ _ _ _ _ _ _ _ _ _ _ _ _ _ _ _ _ d.nodes g1 m.nodes q0 (nTg m.nodes) 0 _ (Nat.zero_le _) (hT1 _ (by assumption)) rfl HYK.out.1 (hT2 _ (by assumption)) H0.out HA.out (hT3 _ (by assumption)) HYK.out.2).mono ?_; rintro e w5 ⟨v5, rfl, O5, hb5⟩; rw [HLq.out] at O5; obtain ⟨a5, c5, b5, rfl, P5, _, _⟩ := O5)
          | (go_at_call 84; refine (containsFunc_any q r _ _ _ L b5 _ (P5.bel ptE (by with_reducible (repeat (first | exact Bel.refl _ | refine Bel.drew ?_)))) rfl hLl.out HRW.out).mono ?_; rintro e w6 ⟨rfl, hb6⟩))
      all_goals
        have hQ6 : Bel Q w6 := by assumption
        have hS6 := hSQ.bel hQ6
        have hg6 := grown_step hgQ hQ6
        have X6 := XQ.bel hQ6
        have t0 : w6.cell? ⟨wr.heap.size, 0, none⟩ = some (.int .i64 d.id) := X6.cell 0 (by simp)
        have hw6 := Nat.lt_of_lt_of_le hszQ hQ6.out.size
        clear hC hT1 hT2 hT3 P5 hb5 hb6 g0
        cases r
        · have HSS : Hid (SetAt w6 (w.heap.size + 1 + 1) cnt (wSetTo m q (k + 1))) := by rw [HSn.out rfl]; exact hS6
          clear hS6
          go_wp2
          go_roundw
          case rel => exact ⟨k + 1, cnt, by omega, by omega, by go_num, HSS.out, hg6⟩
          case measure => simp [intOf]; omega
        · have hSa := hS6.bel (bel_alloc (Bel.refl w6) (.cells #[.int .i64 d.id] 2))
          have hIa := ints_one w6 d.id id0 2
          have hga := grown_step hg6 (bel_alloc (Bel.refl w6) (.cells #[.int .i64 d.id] 2))
          have HE := HSy.out rfl
          have HEE : Hid _ := HE
          clear hS6 hg6 HE
          go_wp2_with fail
          refine (add_any (w.heap.size + 1 + 1) cnt _ _ 1 _ [d.id] [w6.heap.size] _ hSa hIa rfl (by omega) (by omega) (by simp; omega)).mono ?_
          rintro e w7 ⟨rfl, hS7, hg7⟩
          rw [HEE.out] at hS7
          have hG7 := hga.trans hg7
          clear hSa hIa hga hg7
          go_wp2
          go_roundw
          case rel => exact ⟨k + 1, cnt + 1, by omega, by omega, by go_num, hS7, hG7⟩
          case measure => simp [intOf]; omega
    · have e : nw = k := by omega
      subst e
      have HS : Hid (SetAt wr (w.heap.size + 1 + 1) cnt (wSetTo m q m.ways.length)) := by rw [H1.out]; exact hSk
      clear hSk
      go_wp2
      go_ret
      exact ⟨_, cnt, rfl, by omega, by omega, HS.out, bel_step hBV hBr⟩
end Go.Proofs.YtmmapkpieimibaaGreat
