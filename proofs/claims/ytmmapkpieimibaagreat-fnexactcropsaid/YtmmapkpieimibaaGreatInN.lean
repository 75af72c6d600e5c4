/-
  The nodes of a map that a crop keeps, as a set: the contract.
-/
import Derived.Test.YtmmapkpieimibaaGreatInC
namespace Go.Proofs.YtmmapkpieimibaaGreat
open Go.RowKit Go.Maps

set_option maxRecDepth 100000 in
set_option maxHeartbeats 4000000 in
theorem nodesIn_any (m : MapD) (q : BoxD) (an : Option Addr) (nn cn : Nat) (aw : Option Addr) (nw cw : Nat) (aa : Option Addr) (na ca : Nat) (bN bW : Nat) (q0 q1 : List Nat) (S0 c0 : Nat) (w : World) (hok : MapOkP m) (hu : ∀ i (h : i < m.nodes.length), m.nodes[i].tags.length ≤ 1048576) (hnn : m.nodes.length = nn) (hnw : m.ways.length = nw)
    (hN : NRecs w an m.nodes q0) (hR : WRecs w aw m.ways q1) (hS : SetAt w S0 c0 (wSetTo m q m.ways.length)) :
    Calls Tryz.prog 34 #[chV an nn cn aw nw cw aa na ca bN bW, .agg #[.int .i64 q.a, .int .i64 q.b, .int .i64 q.c, .int .i64 q.d], .map (some S0)] w fun e w' => ∃ S cnt, e = .returned (.map (some S)) ∧ w.heap.size ≤ S ∧ SetAt w' S cnt (aSetTo m q m.ways.length) ∧ Bel w w' := by
  have hmm := @run_makeMap Tryz.prog
  have H0 : Hid (m.nodes.length = nn) := hnn
  have H1 : Hid (m.ways.length = nw) := hnw
  have hle0 : nn ≤ 5000 := by rw [← hnn]; exact hok.n1
  have hle1 : nw ≤ 1000 := by rw [← hnw]; exact hok.n2
  have HU : Hid (∀ i (h : i < m.nodes.length), m.nodes[i].tags.length ≤ 1048576) := hu
  have HW2 : Hid (∀ i (h : i < m.ways.length), m.ways[i].nodes.length ≤ 2000) := fun i h => (hok.wy i h).2.1
  obtain ⟨V, HV⟩ : ∃ W, Hid (W = (w.alloc (.cells #[.slice an nn cn, .slice aw nw cw, .slice aa na ca, .map (some bN), .map (some bW)] 81)).alloc (.cells #[.int .i64 q.a, .int .i64 q.b, .int .i64 q.c, .int .i64 q.d] 41)) := ⟨_, (rfl : (w.alloc (.cells #[.slice an nn cn, .slice aw nw cw, .slice aa na ca, .map (some bN), .map (some bW)] 81)).alloc (.cells #[.int .i64 q.a, .int .i64 q.b, .int .i64 q.c, .int .i64 q.d] 41) = _)⟩
  have hBV : Bel w V := by rw [HV.out]; exact bel_alloc (bel_alloc (Bel.refl _) _) _
  have hVs : V.heap.size = w.heap.size + 1 + 1 := by rw [HV.out]; simp
  have X0 : Blk V w.heap.size [.slice an nn cn, .slice aw nw cw, .slice aa na ca, .map (some bN), .map (some bW)] := by rw [HV.out]; exact (Blk.new w [.slice an nn cn, .slice aw nw cw, .slice aa na ca, .map (some bN), .map (some bW)] _).bel (bel_alloc (Bel.refl _) _)
  have X1 : Blk V (w.heap.size + 1) [.int .i64 q.a, .int .i64 q.b, .int .i64 q.c, .int .i64 q.d] := by rw [HV.out]; exact Blk.new1 w _ [.int .i64 q.a, .int .i64 q.b, .int .i64 q.c, .int .i64 q.d] _
  have HN := hN.bel nRecE hBV
  have HR := hR.bel wRecE hBV
  have HSV := hS.bel hBV
  have hS0 : SetAt (V.alloc (.map #[] 0)) (w.heap.size + 1 + 1) 0 (fun _ => False) := by rw [← hVs]; exact SetAt.new V
  obtain ⟨W, HW⟩ : ∃ W, Hid (W = V.alloc (.map #[] 0)) := ⟨_, (rfl : V.alloc (.map #[] 0) = _)⟩
  have hVW : Bel V W := by rw [HW.out]; exact bel_alloc (Bel.refl _) _
  rw [← HW.out] at hS0
  have x0 : W.cell? ⟨w.heap.size, 0, none⟩ = some (.slice an nn cn) := (X0.bel hVW).cell 0 (by simp)
  clear hN hR hS hnn hnw hok hu
  go_enter Tryz.func34, Tryz.ntmps34
  go_wp2
  rw [← HV.out, ← HW.out]
  go_loopw [9, 16] (fun _ i wr => ∃ k cnt : Nat, k ≤ nn ∧ cnt ≤ k ∧ i = .int .i64 k ∧ SetAt wr (w.heap.size + 1 + 1) cnt (nSetTo m q k) ∧ W.grownBy wr (some (w.heap.size + 1 + 1))) (fun _ i _ => nn - (intOf i).toNat)
  case atStart => exact ⟨0, 0, Nat.zero_le _, Nat.le_refl _, rfl, by rw [nSet_zero]; exact hS0, World.grownBy.refl _ _⟩
  case round =>
    clear hS0 x0
    obtain ⟨k, cnt, hk, hcnt, rfl, hSk, hgr⟩ := hrel
    have hBr : Bel V wr := bel_grow hVW hgr (fun k e => by injection e with e; omega)
    by_cases hlt : k < nn
    · have hkl : k < m.nodes.length := by rw [H0.out]; exact hlt
      obtain ⟨b, off, f, rfl, hb, hx⟩ := HN.out hkl
      obtain ⟨id0, _, _, e0, e2, e3, a, c, _, e1, _⟩ := hx k hkl
      obtain ⟨d, Hd⟩ : ∃ d, Hid (d = m.nodes[k]) := ⟨_, (rfl : m.nodes[k] = _)⟩
      have htl := HU.out k hkl
      have HSy : Hid (nIn q d → (fun y => y ∈ [d.id] ∨ nSetTo m q k y) = nSetTo m q (k + 1)) := fun e => by rw [Hd.out] at e ⊢; exact nSet_yes hkl e
      have HSn : Hid (¬ nIn q d → nSetTo m q (k + 1) = nSetTo m q k) := fun e => by rw [Hd.out] at e; exact nSet_no hkl e
      rw [← Hd.out] at e0 e1 e2 e3 id0 htl
      have e0 := bel_cellM hBr hb e0
      have e1 := bel_cellM hBr hb e1
      have e2 := bel_cellM hBr hb e2
      have e3 := bel_cellM hBr hb e3
      have hlt' : (k : Int) < (nn : Int) := by omega
      obtain ⟨Q, HQ⟩ : ∃ Q, Hid (Q = wr.alloc (.cells #[.int .i64 d.id, .slice a d.tags.length c, .int .i64 d.x, .int .i64 d.y] 91)) := ⟨_, (rfl : wr.alloc (.cells #[.int .i64 d.id, .slice a d.tags.length c, .int .i64 d.x, .int .i64 d.y] 91) = _)⟩
      have hBQ : Bel wr Q := by rw [HQ.out]; exact bel_alloc (Bel.refl _) _
      have XQ : Blk Q wr.heap.size [.int .i64 d.id, .slice a d.tags.length c, .int .i64 d.x, .int .i64 d.y] := by rw [HQ.out]; exact Blk.new wr [.int .i64 d.id, .slice a d.tags.length c, .int .i64 d.x, .int .i64 d.y] _
      have hBVQ := bel_step hBr hBQ
      clear hx
      go_wp2_with fail
      rw [← HQ.out]
      refine (tagd_any d.id a d.tags.length c _ htl).mono ?_
      rintro e w2 ⟨rfl, hb2⟩
      have hQ2 := bel_step hBQ hb2
      have X2 := XQ.bel hb2
      have p0 : w2.cell? ⟨wr.heap.size, 0, none⟩ = some (.int .i64 d.id) := X2.cell 0 (by simp)
      have p2 : w2.cell? ⟨wr.heap.size, 2, none⟩ = some (.int .i64 d.x) := X2.cell 2 (by simp)
      have p3 : w2.cell? ⟨wr.heap.size, 3, none⟩ = some (.int .i64 d.y) := X2.cell 3 (by simp)
      have Y2 := (X1.bel hBVQ).bel hb2
      have o0 : w2.cell? ⟨w.heap.size + 1, 0, none⟩ = some (.int .i64 q.a) := Y2.cell 0 (by simp)
      have o1 : w2.cell? ⟨w.heap.size + 1, 1, none⟩ = some (.int .i64 q.b) := Y2.cell 1 (by simp)
      have o2 : w2.cell? ⟨w.heap.size + 1, 2, none⟩ = some (.int .i64 q.c) := Y2.cell 2 (by simp)
      have o3 : w2.cell? ⟨w.heap.size + 1, 3, none⟩ = some (.int .i64 q.d) := Y2.cell 3 (by simp)
      have hS2 := hSk.bel hQ2
      have hg2 := grown_step hgr hQ2
      clear hSk hgr e0 e1 e2 e3 hb XQ Y2
      by_cases ht : d.tags.length = 0
      · rw [decide_eq_false (show ¬ d.tags.length ≠ 0 from fun h => h ht)]
        have HSS : Hid (SetAt w2 (w.heap.size + 1 + 1) cnt (nSetTo m q (k + 1))) := by rw [HSn.out fun h => h.1 ht]; exact hS2
        clear hS2
        go_wp2
        go_roundw
        case rel => exact ⟨k + 1, cnt, by omega, by omega, by go_num, HSS.out, hg2⟩
        case measure => simp [intOf]; omega
      · rw [decide_eq_true (show d.tags.length ≠ 0 from ht)]
        obtain ⟨r, Hr⟩ : ∃ r, Hid (ptB q d.x d.y = r) := ⟨_, (rfl : ptB q d.x d.y = _)⟩
        go_wp2_with fail
        refine (holds_any q _ _ _).mono ?_
        rintro e w3 ⟨rfl, hb3⟩
        rw [Hr.out]
        have hS3 := hS2.bel hb3
        have hg3 := grown_step hg2 hb3
        have s0 : w3.cell? ⟨wr.heap.size, 0, none⟩ = some (.int .i64 d.id) := (X2.bel hb3).cell 0 (by simp)
        clear hS2 hg2 o0 o1 o2 o3 p0 p2 p3
        cases r
        · have HSS : Hid (SetAt w3 (w.heap.size + 1 + 1) cnt (nSetTo m q (k + 1))) := by rw [HSn.out fun h => by have := h.2; rw [Hr.out] at this; cases this]; exact hS3
          clear hS3
          go_wp2
          go_roundw
          case rel => exact ⟨k + 1, cnt, by omega, by omega, by go_num, HSS.out, hg3⟩
          case measure => simp [intOf]; omega
        · have hSa := hS3.bel (bel_alloc (Bel.refl w3) (.cells #[.int .i64 d.id] 2))
          have hIa := ints_one w3 d.id id0 2
          have hga := grown_step hg3 (bel_alloc (Bel.refl w3) (.cells #[.int .i64 d.id] 2))
          have hEE := HSy.out ⟨ht, Hr.out⟩
          have HEE : Hid _ := hEE
          have hlt3 := hS3.lt
          clear hS3 hg3 hEE
          go_wp2_with fail
          refine (add_any (w.heap.size + 1 + 1) cnt _ _ 1 _ [d.id] [w3.heap.size] _ hSa hIa rfl (by omega) (by omega) (by simp; omega)).mono ?_
          rintro e w7 ⟨rfl, hS7, hg7⟩
          rw [HEE.out] at hS7
          have hG7 := hga.trans hg7
          clear hSa hIa hga hg7
          go_wp2
          go_roundw
          case rel => exact ⟨k + 1, cnt + 1, by omega, by omega, by go_num, hS7, hG7⟩
          case measure => simp [intOf]; omega
    · have e : nn = k := by omega
      subst e
      have hS1 : SetAt wr (w.heap.size + 1 + 1) cnt (aSetTo m q 0) := by rw [aSet_zero, H0.out]; exact hSk
      have y1 : wr.cell? ⟨w.heap.size, 1, none⟩ = some (.slice aw nw cw) := (X0.bel hBr).cell 1 (by simp)
      have HSA := HSV.bel hBr
      have hlS := HSV.lt
      have hWU : Bel V wr := hBr
      obtain ⟨U, rfl⟩ : ∃ U, U = wr := ⟨_, rfl⟩
      clear hSk
      go_wp2
      go_loopw [11, 39] (fun _ i wq => ∃ k ct : Nat, k ≤ nw ∧ ct ≤ 5000 + k * 2000 ∧ i = .int .i64 k ∧ SetAt wq (w.heap.size + 1 + 1) ct (aSetTo m q k) ∧ W.grownBy wq (some (w.heap.size + 1 + 1))) (fun _ i _ => nw - (intOf i).toNat)
      case atStart => exact ⟨0, cnt, Nat.zero_le _, by omega, rfl, hS1, hgr⟩
      case round =>
        clear hS1 y1 hgr
        obtain ⟨k, ct, hk, hct, rfl, hSk, hgr⟩ := hrel
        have hBr : Bel V wr := bel_grow hVW hgr (fun k e => by injection e with e; omega)
        by_cases hlt : k < nw
        · have hkl : k < m.ways.length := by rw [H1.out]; exact hlt
          obtain ⟨b, off, f, rfl, hb, hx⟩ := HR.out hkl
          obtain ⟨id0, e0, a, c, a', c', g1, g2, _, _, _, e2, tt, e1, _⟩ := hx k hkl
          obtain ⟨d, Hd⟩ : ∃ d, Hid (d = m.ways[k]) := ⟨_, (rfl : m.ways[k] = _)⟩
          have hnl := HW2.out k hkl
          have HSy : Hid (wSetTo m q m.ways.length d.id → (fun y => y ∈ d.nodes ∨ aSetTo m q k y) = aSetTo m q (k + 1)) := fun e => by rw [Hd.out] at e ⊢; exact aSet_yes hkl e
          have HSn : Hid (¬ wSetTo m q m.ways.length d.id → aSetTo m q (k + 1) = aSetTo m q k) := fun e => by rw [Hd.out] at e; exact aSet_no hkl e
          rw [← Hd.out] at e0 e1 e2 tt id0 hnl
          have e0 := bel_cellM hBr hb e0
          have e1 := bel_cellM hBr hb e1
          have e2 := bel_cellM hBr hb e2
          have hg1 : w.heap.size + 1 + 1 ∉ g1 := fun h => by have := tt.lt intE _ h; omega
          have hlt' : (k : Int) < (nw : Int) := by omega
          obtain ⟨Q, HQ⟩ : ∃ Q, Hid (Q = wr.alloc (.cells #[.int .i64 d.id, .slice a' d.tags.length c', .slice a d.nodes.length c] 95)) := ⟨_, (rfl : wr.alloc (.cells #[.int .i64 d.id, .slice a' d.tags.length c', .slice a d.nodes.length c] 95) = _)⟩
          have hBQ : Bel wr Q := by rw [HQ.out]; exact bel_alloc (Bel.refl _) _
          have XQ : Blk Q wr.heap.size [.int .i64 d.id, .slice a' d.tags.length c', .slice a d.nodes.length c] := by rw [HQ.out]; exact Blk.new wr [.int .i64 d.id, .slice a' d.tags.length c', .slice a d.nodes.length c] _
          have hBVQ := bel_step hBr hBQ
          have hSQ0 := HSV.bel hBVQ
          clear hx
          go_wp2_with fail
          rw [← HQ.out]
          refine (has_any S0 c0 _ d.id _ hSQ0 id0).mono ?_
          rintro e w2 ⟨rfl, hb2⟩
          have hQ2 := bel_step hBQ hb2
          have hS2 := hSk.bel hQ2
          have hg2 := grown_step hgr hQ2
          have X2 := XQ.bel hb2
          have p2 : w2.cell? ⟨wr.heap.size, 2, none⟩ = some (.slice a d.nodes.length c) := X2.cell 2 (by simp)
          have tt2 := (tt.bel intE hBVQ).bel intE hb2
          clear hSk hgr e0 e1 e2 hb tt
          cases hr : bP (wSetTo m q m.ways.length d.id)
          · have HSS : Hid (SetAt w2 (w.heap.size + 1 + 1) ct (aSetTo m q (k + 1))) := by
              rw [HSn.out (bP_not hr)]
              exact hS2
            clear hS2 tt2
            go_wp2
            go_roundw
            case rel => exact ⟨k + 1, ct, by omega, by omega, by go_num, HSS.out, hg2⟩
            case measure => simp [intOf]; omega
          · have hEE := HSy.out (bP_out hr)
            have HEE : Hid _ := hEE
            clear hEE
            go_wp2_with fail
            refine (add_any (w.heap.size + 1 + 1) _ _ _ _ _ d.nodes g1 _ hS2 tt2 rfl (by omega) (by omega) hg1).mono ?_
            rintro e w7 ⟨rfl, hS7, hg7⟩
            rw [HEE.out] at hS7
            have hG7 := hg2.trans hg7
            clear hS2 hg2 hg7 tt2
            go_wp2
            go_roundw
            case rel => exact ⟨k + 1, ct + d.nodes.length, by omega, by omega, by go_num, hS7, hG7⟩
            case measure => simp [intOf]; omega
        · have e : nw = k := by omega
          subst e
          have HS : Hid (SetAt wr (w.heap.size + 1 + 1) ct (aSetTo m q m.ways.length)) := by rw [H1.out]; exact hSk
          clear hSk
          go_wp2
          go_ret
          exact ⟨_, _, rfl, by omega, HS.out, bel_step hBV hBr⟩
end Go.Proofs.YtmmapkpieimibaaGreat
