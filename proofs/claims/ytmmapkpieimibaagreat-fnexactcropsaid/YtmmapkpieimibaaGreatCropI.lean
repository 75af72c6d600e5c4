/-
  A map cropped, in the program: the contract.
-/
import Derived.Test.YtmmapkpieimibaaGreatInN
import Derived.Test.YtmmapkpieimibaaGreatCopyC
import Derived.Test.YtmmapkpieimibaaGreatKpG
import Derived.Test.YtmmapkpieimibaaGreatChartF
import Derived.Deep.AppendLies
import Derived.Deep.RegionLaw
namespace Go.Proofs.YtmmapkpieimibaaGreat
open Go.RowKit Go.Maps

theorem infoKNode : (Tryz.prog.info? 58).map (fun i => (i.zero, i.size, i.bytes)) = some (some (.agg #[.int .i64 0, .int .i64 0, .int .i64 0, .slice none 0 0]), 4, 48) := by kernel_rfl
theorem infoKWay : (Tryz.prog.info? 62).map (fun i => (i.zero, i.size, i.bytes)) = some (some (.agg #[.int .i64 0, .slice none 0 0, .slice none 0 0]), 3, 56) := by kernel_rfl
theorem infoKArea : (Tryz.prog.info? 68).map (fun i => (i.zero, i.size, i.bytes)) = some (some (.agg #[.int .i64 0, .slice none 0 0, .slice none 0 0]), 3, 56) := by kernel_rfl
theorem hat_of {v : Value} {g n c H : Nat} (h : v.ownBlock = some g ∨ g = H) : (Value.slice (some ⟨g, 0, none⟩) n c).ownBlock = v.ownBlock ∨ (Value.slice (some ⟨g, 0, none⟩) n c).ownBlock = some H := by
  rcases h with h | h
  · exact .inl h.symm
  · exact .inr (by rw [h]; rfl)
/-- Three rows of the call's own, one behind the other. -/
theorem map_out {w U1 U2 U3 E : World} {K : Nat} {m : MapD} {v0 v1 v2 : Value} {R0 R1 R2 : Nat → List Value} {f0 f1 f2 : Nat → List Nat} (hw : w.heap.size ≤ U1.heap.size) (hK : K < U1.heap.size)
    (g0 : Gr 4 NodeV 58 U1.heap.size U2 v0 m.nodes R0 f0) (h12 : U1.heap.size ≤ U2.heap.size) (g1 : Gr 3 WayV 62 U2.heap.size U3 v1 m.ways R1 f1) (e23 : U2.grownBy U3 (some K)) (g2 : Gr 3 AreaV 68 U3.heap.size E v2 m.areas R2 f2) (e3 : U3.grownBy E (some K)) :
    ∃ bs, MapV E (.agg #[v0, v1, v2]) m bs ∧ Fresh w E bs ∧ ∀ x ∈ bs, U1.heap.size ≤ x := by
  obtain ⟨a0, c0, b0, rfl, s0, m0⟩ := g0.out nodeV
  obtain ⟨a1, c1, b1, rfl, s1, m1⟩ := g1.out wayV
  obtain ⟨a2, c2, b2, rfl, s2, m2⟩ := g2.out areaV
  have e2E := e23.trans e3
  have A0 : Alike U2 E b0 := grown_alike e2E (fun x hx => (m0.new x hx).2) fun hx => by have := (m0.new K hx).1; omega
  have A1 : Alike U3 E b1 := grown_alike e3 (fun x hx => (m1.new x hx).2) fun hx => by have := (m1.new K hx).1; omega
  have z23 := e23.size
  have z3 := e3.size
  refine ⟨b0 ++ (b1 ++ b2), ⟨a0, c0, a1, c1, a2, c2, b0, b1, b2, rfl, rfl, s0.alike nodeE A0, s1.alike wayE A1, s2⟩, ⟨?_, ?_, ?_⟩, ?_⟩
  · refine List.nodup_append.2 ⟨m0.nd, List.nodup_append.2 ⟨m1.nd, m2.nd, fun a ha b hb e => ?_⟩, fun a ha b hb e => ?_⟩
    · subst e
      have := (m1.new a ha).2
      have := (m2.new a hb).1
      omega
    · subst e
      have := (m0.new a ha).2
      rcases List.mem_append.1 hb with hb | hb
      · have := (m1.new a hb).1; omega
      · have := (m2.new a hb).1; omega
  · intro x hx
    rcases List.mem_append.1 hx with hx | hx
    · have := (m0.new x hx).1; exact ⟨by omega, (A0 x hx).1⟩
    · rcases List.mem_append.1 hx with hx | hx
      · have := (m1.new x hx).1; exact ⟨by omega, (A1 x hx).1⟩
      · have := m2.new x hx; exact ⟨by omega, this.2⟩
  · intro x hx j
    rcases List.mem_append.1 hx with hx | hx
    · rw [(A0 x hx).2.2 j]; exact m0.free x hx j
    · rcases List.mem_append.1 hx with hx | hx
      · rw [(A1 x hx).2.2 j]; exact m1.free x hx j
      · exact m2.free x hx j
  · intro x hx
    rcases List.mem_append.1 hx with hx | hx
    · exact (m0.new x hx).1
    · rcases List.mem_append.1 hx with hx | hx
      · have := (m1.new x hx).1; omega
      · have := (m2.new x hx).1; omega

set_option maxRecDepth 100000 in
set_option maxHeartbeats 16000000 in
theorem crop_any (v : Value) (m : MapD) (bs : List Nat) (q : BoxD) (w : World) (hV : MapV w v m bs) (hL : MapL m) :
    Calls Tryz.prog 9 #[v, .agg #[.int .i64 q.a, .int .i64 q.b, .int .i64 q.c, .int .i64 q.d]] w fun e w' => ∃ v' bs', e = .returned v' ∧ MapV w' v' (cropQ m q) bs' ∧ Fresh w w' bs' ∧ Bel w w' := by
  obtain ⟨i0, hi0, hz00, hz01, hz02⟩ := info_parts infoKNode
  obtain ⟨i1, hi1, hz10, hz11, hz12⟩ := info_parts infoKWay
  obtain ⟨i2, hi2, hz20, hz21, hz22⟩ := info_parts infoKArea
  have hV' := hV
  obtain ⟨a0, c0, a1, c1, a2, c2, b0, b1, b2, rfl, _, _, _, _⟩ := hV.out
  clear hV
  have HU0 : Hid (∀ i (h : i < m.nodes.length), m.nodes[i].tags.length ≤ 1048576) := hL.u0
  have HU1 : Hid (∀ i (h : i < m.ways.length), m.ways[i].nodes.length ≤ 1048576 ∧ m.ways[i].tags.length ≤ 1048576) := hL.u1
  have HU2 : Hid (∀ i (h : i < m.areas.length), m.areas[i].parts.length ≤ 1048576 ∧ m.areas[i].tags.length ≤ 1048576) := hL.u2
  obtain ⟨l0, hl0⟩ : ∃ n, m.nodes.length = n := ⟨_, rfl⟩
  obtain ⟨l1, hl1⟩ : ∃ n, m.ways.length = n := ⟨_, rfl⟩
  obtain ⟨l2, hl2⟩ : ∃ n, m.areas.length = n := ⟨_, rfl⟩
  rw [hl0, hl1, hl2] at hV' ⊢
  clear hl0 hl1 hl2
  obtain ⟨W, HW⟩ : ∃ W, Hid (W = ((w.alloc (.cells #[.slice a0 l0 c0, .slice a1 l1 c1, .slice a2 l2 c2] 36)).alloc (.cells #[.int .i64 q.a, .int .i64 q.b, .int .i64 q.c, .int .i64 q.d] 41)).alloc (.cells #[.slice none 0 0, .slice none 0 0, .slice none 0 0] 36)) := ⟨_, (rfl : ((w.alloc (.cells #[.slice a0 l0 c0, .slice a1 l1 c1, .slice a2 l2 c2] 36)).alloc (.cells #[.int .i64 q.a, .int .i64 q.b, .int .i64 q.c, .int .i64 q.d] 41)).alloc (.cells #[.slice none 0 0, .slice none 0 0, .slice none 0 0] 36) = _)⟩
  have hBW : Bel w W := by rw [HW.out]; exact bel_alloc (bel_alloc (bel_alloc (Bel.refl _) _) _) _
  have hWs : W.heap.size = w.heap.size + 1 + 1 + 1 := by rw [HW.out]; simp
  have XB : Blk W (w.heap.size + 1) [.int .i64 q.a, .int .i64 q.b, .int .i64 q.c, .int .i64 q.d] := by rw [HW.out]; exact (Blk.new1 w _ [.int .i64 q.a, .int .i64 q.b, .int .i64 q.c, .int .i64 q.d] _).bel (bel_alloc (Bel.refl _) _)
  have XR : Blk W (w.heap.size + 1 + 1) [.slice none 0 0, .slice none 0 0, .slice none 0 0] := by rw [HW.out]; exact Blk.new2 w _ _ [.slice none 0 0, .slice none 0 0, .slice none 0 0] _
  go_enter Tryz.func9, Tryz.ntmps9
  go_wp2_with fail
  rw [← HW.out]
  refine (chartOf_any _ m bs _ (hV'.bel hBW) hL).mono ?_
  rintro e w1 (⟨hm, d0, k0, d1, k1, d2, k2, bN, bW, q0, q1, q2, rfl, hN, hR, hA, hMN, hMW, hb⟩ | ⟨hm, rfl, hb⟩)
  · have hok := bP_out hm
    have HOK : Hid (MapOkP m) := hok
    have hB1 := bel_step hBW hb
    obtain ⟨n0, hn0⟩ : ∃ n, m.nodes.length = n := ⟨_, rfl⟩
    obtain ⟨n1, hn1⟩ : ∃ n, m.ways.length = n := ⟨_, rfl⟩
    obtain ⟨n2, hn2⟩ : ∃ n, m.areas.length = n := ⟨_, rfl⟩
    have H0 : Hid (m.nodes.length = n0) := hn0
    have H1 : Hid (m.ways.length = n1) := hn1
    have H2 : Hid (m.areas.length = n2) := hn2
    have hle0 : n0 ≤ 5000 := by rw [← hn0]; exact hok.n1
    have hle1 : n1 ≤ 1000 := by rw [← hn1]; exact hok.n2
    have hle2 : n2 ≤ 300 := by rw [← hn2]; exact hok.n3
    have HQ : Hid (cropQ m q = ⟨m.nodes.filter (keptN m q), m.ways.filter (keptW m q), m.areas.filter (keptA m q)⟩) := (by unfold cropQ; rw [if_pos hm] : cropQ m q = ⟨m.nodes.filter (keptN m q), m.ways.filter (keptW m q), m.areas.filter (keptA m q)⟩)
    rw [hn0, hn1, hn2]
    clear hok hm hn0 hn1 hn2
    obtain ⟨V, HV⟩ : ∃ W, Hid (W = w1.alloc (.cells #[.slice d0 n0 k0, .slice d1 n1 k1, .slice d2 n2 k2, .map (some bN), .map (some bW)] 81)) := ⟨_, (rfl : w1.alloc (.cells #[.slice d0 n0 k0, .slice d1 n1 k1, .slice d2 n2 k2, .map (some bN), .map (some bW)] 81) = _)⟩
    have S1 : Bel w1 V := by rw [HV.out]; exact bel_alloc (Bel.refl _) _
    have hBV : Bel W V := bel_step hb S1
    have Xc : Blk V w1.heap.size [.slice d0 n0 k0, .slice d1 n1 k1, .slice d2 n2 k2, .map (some bN), .map (some bW)] := by rw [HV.out]; exact Blk.new w1 [.slice d0 n0 k0, .slice d1 n1 k1, .slice d2 n2 k2, .map (some bN), .map (some bW)] 81
    have YB := XB.bel hb
    have b0 : w1.cell? ⟨w.heap.size + 1, 0, none⟩ = some (.int .i64 q.a) := YB.cell 0 (by simp)
    have b1 : w1.cell? ⟨w.heap.size + 1, 1, none⟩ = some (.int .i64 q.b) := YB.cell 1 (by simp)
    have b2 : w1.cell? ⟨w.heap.size + 1, 2, none⟩ = some (.int .i64 q.c) := YB.cell 2 (by simp)
    have b3 : w1.cell? ⟨w.heap.size + 1, 3, none⟩ = some (.int .i64 q.d) := YB.cell 3 (by simp)
    have hwl : w.heap.size + 1 < w1.heap.size := YB.lt
    go_wp2_with fail
    rw [← HV.out]
    refine (waysIn_any m q _ _ _ _ _ _ _ _ _ _ _ q0 q1 _ HOK.out H0.out H1.out (hN.bel nRecE S1) (hR.bel wRecE S1) (hMN.bel S1)).mono ?_
    rintro e w2 ⟨SW, cw, rfl, hSWl, hcw, hSW, hb2⟩
    have Zc := Xc.bel hb2
    have ZB := (YB.bel S1).bel hb2
    have s0 : w2.cell? ⟨w1.heap.size, 0, none⟩ = some (.slice d0 n0 k0) := Zc.cell 0 (by simp)
    have s1 : w2.cell? ⟨w1.heap.size, 1, none⟩ = some (.slice d1 n1 k1) := Zc.cell 1 (by simp)
    have s2 : w2.cell? ⟨w1.heap.size, 2, none⟩ = some (.slice d2 n2 k2) := Zc.cell 2 (by simp)
    have s3 : w2.cell? ⟨w1.heap.size, 3, none⟩ = some (.map (some bN)) := Zc.cell 3 (by simp)
    have s4 : w2.cell? ⟨w1.heap.size, 4, none⟩ = some (.map (some bW)) := Zc.cell 4 (by simp)
    have t0 : w2.cell? ⟨w.heap.size + 1, 0, none⟩ = some (.int .i64 q.a) := ZB.cell 0 (by simp)
    have t1 : w2.cell? ⟨w.heap.size + 1, 1, none⟩ = some (.int .i64 q.b) := ZB.cell 1 (by simp)
    have t2 : w2.cell? ⟨w.heap.size + 1, 2, none⟩ = some (.int .i64 q.c) := ZB.cell 2 (by simp)
    have t3 : w2.cell? ⟨w.heap.size + 1, 3, none⟩ = some (.int .i64 q.d) := ZB.cell 3 (by simp)
    clear b0 b1 b2 b3
    go_wp2_with fail
    refine (nodesIn_any m q _ _ _ _ _ _ _ _ _ _ _ q0 q1 SW cw _ HOK.out HU0.out H0.out H1.out ((hN.bel nRecE S1).bel nRecE hb2) ((hR.bel wRecE S1).bel wRecE hb2) hSW).mono ?_
    rintro e w3 ⟨SN, cn, rfl, hSNl, hSN, hb3⟩
    have hV3 := bel_step hb2 hb3
    have hW3 := bel_step hBV hV3
    have hw3 : Bel w w3 := bel_step hBW hW3
    have HN := (hN.bel nRecE S1).bel nRecE hV3
    have HR := (hR.bel wRecE S1).bel wRecE hV3
    have HA := (hA.bel aRecE S1).bel aRecE hV3
    have hSW3 := hSW.bel hb3
    have Yc := Xc.bel hV3
    have XR3 := XR.bel hW3
    have hClt : w1.heap.size < w3.heap.size := Yc.lt
    have x0 : w3.cell? ⟨w1.heap.size, 0, none⟩ = some (.slice d0 n0 k0) := Yc.cell 0 (by simp)
    obtain ⟨U1, HUq⟩ : ∃ U, Hid (U = w3.alloc (.cells #[.slice none 0 0, .slice none 0 0, .slice none 0 0] 36)) := ⟨_, (rfl : w3.alloc (.cells #[.slice none 0 0, .slice none 0 0, .slice none 0 0] 36) = _)⟩
    have hU1 : Bel w3 U1 := by rw [HUq.out]; exact bel_alloc (Bel.refl _) _
    have hU1s : U1.heap.size = w3.heap.size + 1 := by rw [HUq.out]; simp
    have XK : Blk U1 w3.heap.size [.slice none 0 0, .slice none 0 0, .slice none 0 0] := by rw [HUq.out]; exact Blk.new w3 [.slice none 0 0, .slice none 0 0, .slice none 0 0] _
    clear s0 s1 s2 s3 s4 t0 t1 t2 t3 Zc ZB YB Xc XB XR hN hR hA hMN hMW hSW hb hb2 hb3 hBV S1 hV3 HV HW hV' hL hSWl hSNl
    go_wp2
    rw [← HUq.out]
    have hKU1 : w3.heap.size < U1.heap.size := by omega
    go_loopw [11, 34] (fun _ i wr => ∃ (k : Nat) (v : Value) (R : Nat → List Value) (f : Nat → List Nat), k ≤ n0 ∧ i = .int .i64 k ∧ Kp 4 NodeV 58 w3.heap.size U1 [] [.slice none 0 0, .slice none 0 0] wr v ((m.nodes.take k).filter (keptN m q)) R f) (fun _ i _ => n0 - (intOf i).toNat)
    case atStart => exact ⟨0, _, _, _, Nat.zero_le _, rfl, Kp.start 4 NodeV 58 (pre := []) (post := [.slice none 0 0, .slice none 0 0]) XK⟩
    case round =>
      clear XK
      obtain ⟨k, vv, R, f, hk, rfl, hKp⟩ := hrel
      have hBr : Bel w3 wr := bel_grow hU1 hKp.far (fun j e => by injection e with e; omega)
      by_cases hlt : k < n0
      · have hkl : k < m.nodes.length := by rw [H0.out]; exact hlt
        obtain ⟨b, off, f', rfl, hb, hx⟩ := HN.out hkl
        obtain ⟨id0, ix, iy, e0, e2, e3, ra, rc, hml, e1, tt⟩ := hx k hkl
        obtain ⟨d, Hd⟩ : ∃ d, Hid (d = m.nodes[k]) := ⟨_, (rfl : m.nodes[k] = _)⟩
        have hul := HU0.out k hkl
        have HFy : Hid (keptN m q d = true → (m.nodes.take (k + 1)).filter (keptN m q) = (m.nodes.take k).filter (keptN m q) ++ [d]) := fun e => by rw [Hd.out] at e ⊢; exact filt_yes hkl e
        have HFn : Hid (keptN m q d = false → (m.nodes.take (k + 1)).filter (keptN m q) = (m.nodes.take k).filter (keptN m q)) := fun e => by rw [Hd.out] at e; exact filt_no hkl e
        rw [← Hd.out] at e0 e1 e2 e3 id0 ix iy hml tt hul
        have e0 := bel_cellM hBr hb e0
        have e1 := bel_cellM hBr hb e1
        have e2 := bel_cellM hBr hb e2
        have e3 := bel_cellM hBr hb e3
        have hlt' : (k : Int) < (n0 : Int) := by omega
        obtain ⟨Q, HQW⟩ : ∃ Q, Hid (Q = wr.alloc (.cells #[.int .i64 d.id, .slice ra d.tags.length rc, .int .i64 d.x, .int .i64 d.y] 91)) := ⟨_, (rfl : wr.alloc (.cells #[.int .i64 d.id, .slice ra d.tags.length rc, .int .i64 d.x, .int .i64 d.y] 91) = _)⟩
        have hBQ : Bel wr Q := by rw [HQW.out]; exact bel_alloc (Bel.refl _) _
        have XQ : Blk Q wr.heap.size [.int .i64 d.id, .slice ra d.tags.length rc, .int .i64 d.x, .int .i64 d.y] := by rw [HQW.out]; exact Blk.new wr [.int .i64 d.id, .slice ra d.tags.length rc, .int .i64 d.x, .int .i64 d.y] _
        have hln := filt_len (keptN m q) m.nodes k
        obtain ⟨L, HLq⟩ : ∃ L, Hid ((m.nodes.take k).filter (keptN m q) = L) := ⟨_, (rfl : (m.nodes.take k).filter (keptN m q) = _)⟩
        rw [HLq.out] at hKp hln HFy HFn
        clear hx
        go_wp2_with fail
        rw [← HQW.out]
        refine (has_any SN cn _ d.id _ ((hSN.bel hBr).bel hBQ) id0).mono ?_
        rintro e w4 ⟨rfl, hb4⟩
        have h4 := bel_step hBQ hb4
        have hKp4 := hKp.bel nodeV h4
        have X4 := XQ.bel hb4
        have tt4 := (tt.bel tagE hBr).bel tagE h4
        obtain ⟨r, Hr⟩ : ∃ r, Hid (bP (aSetTo m q m.ways.length d.id) = r) := ⟨_, (rfl : bP (aSetTo m q m.ways.length d.id) = _)⟩
        rw [Hr.out]
        clear hKp XQ
        cases r
        · have HK4 : Hid (Kp 4 NodeV 58 w3.heap.size U1 [] [.slice none 0 0, .slice none 0 0] w4 vv ((m.nodes.take (k + 1)).filter (keptN m q)) R f) := by rw [HFn.out Hr.out]; exact hKp4
          clear hKp4
          go_wp2
          go_roundw
          case rel => exact ⟨k + 1, vv, R, f, by omega, by go_num, HK4.out⟩
          case measure => simp [intOf]; omega
        · obtain ⟨va, vc, rfl⟩ := own_shape hKp4.gr.own
          have HK4 : Hid (Kp 4 NodeV 58 w3.heap.size U1 [] [.slice none 0 0, .slice none 0 0] w4 (.slice va L.length vc) L R f) := hKp4
          have y0 : w4.cell? ⟨w3.heap.size, 0, none⟩ = some (.slice va L.length vc) := hKp4.box.cell 0 (by simp)
          have r0 : w4.cell? ⟨wr.heap.size, 0, none⟩ = some (.int .i64 d.id) := X4.cell 0 (by simp)
          have r1 : w4.cell? ⟨wr.heap.size, 1, none⟩ = some (.slice ra d.tags.length rc) := X4.cell 1 (by simp)
          have r2 : w4.cell? ⟨wr.heap.size, 2, none⟩ = some (.int .i64 d.x) := X4.cell 2 (by simp)
          have r3 : w4.cell? ⟨wr.heap.size, 3, none⟩ = some (.int .i64 d.y) := X4.cell 3 (by simp)
          have HOl : Hid (U1.heap.size ≤ w4.heap.size) := hKp4.far.size
          have hKl4 : w3.heap.size < w4.heap.size := hKp4.box.lt
          have hKU : w3.heap.size < U1.heap.size := hKU1
          clear hKp4 X4
          go_wp2
          go_region_law (first
            | (go_simp; go_at_call 36; refine (nodeTold_any _ _ _ _ _ _ d.tags (f' k) w4 _ ((Bel.refl w4).drew) (tt4.bel tagE ((Bel.refl w4).drew)) rfl hul).mono ?_; rintro e w5 ⟨a5, c5, b5, rfl, T5, F5, hb5⟩; refine (fun hb45 : Bel w4 w5 => ?_) (bel_step (Bel.refl w4).drew hb5); have y5 : w5.cell? ⟨w3.heap.size, 0, none⟩ = some (.slice va L.length vc) := bel_cellM hb45 hKl4 y0; have hKl5 : w3.heap.size < w5.heap.size := bel_lt hb45 hKl4; go_wp2_with fail)
            | (refine step_append_lies _ rfl _ _ _ rfl U1.heap.size 58 i0 (.agg #[.int .i64 0, .int .i64 0, .int .i64 0, .slice none 0 0]) 4 48 Tryz.underlying32 hi0 hz00 hz01 hz02 rfl (by decide) (.slice va L.length vc) L.length (recs R L.length) (by rfl) (own_bel HK4.out.gr.own (bel_alloc hb45 _)) ⟨w5.heap.size, 0, none⟩ 1 1 [.int .i64 d.id, .int .i64 d.x, .int .i64 d.y, .slice a5 d.tags.length c5] (by rfl) (by rfl) (World.news_of_block (cs := #[.int .i64 d.id, .int .i64 d.x, .int .i64 d.y, .slice a5 d.tags.length c5]) (t := 58) (fr := (0, 0)) (heap_alloc_new w5 _)) (by simp [Value.oneCell']) (by omega) (by unfold maxLen; omega) (by omega) (by have := HOl.out; have := hb45.out.size; simp; omega) (w5.heap.size + 1) (by simp) ?_; intro g cap w6 hown6 hgrow hat _; have M6 := HK4.out.mid hKU (bel_alloc hb45 _) hgrow; have y6 : w6.cell? ⟨w3.heap.size, 0, none⟩ = some (.slice va L.length vc) := M6.cell 0 (by simp); have z6 := M6.free 0))
          all_goals
            obtain ⟨R', f2, KP'⟩ := Kp.step nodeV HK4.out hKU hb45 (bel_alloc (Bel.refl w5) _) (d := d) (bs := b5) (show NodeV w5 [.int .i64 d.id, .int .i64 d.x, .int .i64 d.y, .slice a5 d.tags.length c5] d b5 from ⟨id0, ix, iy, hml, a5, c5, rfl, T5⟩) F5 hown6 hgrow (hat_of (by simpa using hat))
            have HKP : Hid (Kp 4 NodeV 58 w3.heap.size U1 [] [.slice none 0 0, .slice none 0 0] (w6.setCell ⟨w3.heap.size, 0, none⟩ (.slice (some ⟨g, 0, none⟩) (L.length + 1) cap)) (.slice (some ⟨g, 0, none⟩) (L.length + 1) cap) ((m.nodes.take (k + 1)).filter (keptN m q)) R' f2) := by rw [HFy.out Hr.out]; exact KP'
            clear KP' M6 hown6 hgrow hat F5 T5 hb5 y0 y5
            go_wp2
            go_roundw
            case rel => exact ⟨k + 1, _, R', f2, by omega, by go_num, HKP.out⟩
            case measure => simp [intOf]; omega
      · have e : n0 = k := by omega
        subst e
        obtain ⟨v0, rfl⟩ : ∃ v, v = vv := ⟨_, rfl⟩
        obtain ⟨R0, rfl⟩ : ∃ v, v = R := ⟨_, rfl⟩
        obtain ⟨f0, rfl⟩ : ∃ v, v = f := ⟨_, rfl⟩
        obtain ⟨U2, rfl⟩ : ∃ U, U = wr := ⟨_, rfl⟩
        have hU2 : Bel w3 U2 := hBr
        have hKU2 : w3.heap.size < U2.heap.size := hKp.box.lt
        have hU12 := hKp.far.size
        have HG0 : Hid (Gr 4 NodeV 58 U1.heap.size U2 v0 (m.nodes.filter (keptN m q)) R0 f0) := by have := hKp.gr; rw [← H0.out, List.take_length] at this; exact this
        have XK : Blk U2 w3.heap.size [v0, .slice none 0 0, .slice none 0 0] := hKp.box
        have x1 : U2.cell? ⟨w1.heap.size, 1, none⟩ = some (.slice d1 n1 k1) := (Yc.bel hBr).cell 1 (by simp)
        clear hKp hBr x0
        go_wp2
        go_loopw [13, 54] (fun _ i wr => ∃ (k : Nat) (v : Value) (R : Nat → List Value) (f : Nat → List Nat), k ≤ n1 ∧ i = .int .i64 k ∧ Kp 3 WayV 62 w3.heap.size U2 [v0] [.slice none 0 0] wr v ((m.ways.take k).filter (keptW m q)) R f) (fun _ i _ => n1 - (intOf i).toNat)
        case atStart => exact ⟨0, _, _, _, Nat.zero_le _, rfl, Kp.start 3 WayV 62 (pre := [v0]) (post := [.slice none 0 0]) XK⟩
        case round =>
          clear XK
          obtain ⟨k, vv, R, f, hk, rfl, hKp⟩ := hrel
          have hBr : Bel w3 wr := bel_grow hU2 hKp.far (fun j e => by injection e with e; omega)
          by_cases hlt : k < n1
          · have hkl : k < m.ways.length := by rw [H1.out]; exact hlt
            obtain ⟨b, off, f', rfl, hb, hx⟩ := HR.out hkl
            obtain ⟨id0, e0, ra2, rc2, ra, rc, g1, g2, _, hml2, hml, e2, tt2, e1, tt⟩ := hx k hkl
            obtain ⟨d, Hd⟩ : ∃ d, Hid (d = m.ways[k]) := ⟨_, (rfl : m.ways[k] = _)⟩
            have hul := HU1.out k hkl
            have HFy : Hid (keptW m q d = true → (m.ways.take (k + 1)).filter (keptW m q) = (m.ways.take k).filter (keptW m q) ++ [d]) := fun e => by rw [Hd.out] at e ⊢; exact filt_yes hkl e
            have HFn : Hid (keptW m q d = false → (m.ways.take (k + 1)).filter (keptW m q) = (m.ways.take k).filter (keptW m q)) := fun e => by rw [Hd.out] at e; exact filt_no hkl e
            rw [← Hd.out] at e0 e1 e2 id0 hml hml2 tt tt2 hul
            have e0 := bel_cellM hBr hb e0
            have e1 := bel_cellM hBr hb e1
            have e2 := bel_cellM hBr hb e2
            have hlt' : (k : Int) < (n1 : Int) := by omega
            obtain ⟨Q, HQW⟩ : ∃ Q, Hid (Q = wr.alloc (.cells #[.int .i64 d.id, .slice ra d.tags.length rc, .slice ra2 d.nodes.length rc2] 95)) := ⟨_, (rfl : wr.alloc (.cells #[.int .i64 d.id, .slice ra d.tags.length rc, .slice ra2 d.nodes.length rc2] 95) = _)⟩
            have hBQ : Bel wr Q := by rw [HQW.out]; exact bel_alloc (Bel.refl _) _
            have XQ : Blk Q wr.heap.size [.int .i64 d.id, .slice ra d.tags.length rc, .slice ra2 d.nodes.length rc2] := by rw [HQW.out]; exact Blk.new wr [.int .i64 d.id, .slice ra d.tags.length rc, .slice ra2 d.nodes.length rc2] _
            have hln := filt_len (keptW m q) m.ways k
            obtain ⟨L, HLq⟩ : ∃ L, Hid ((m.ways.take k).filter (keptW m q) = L) := ⟨_, (rfl : (m.ways.take k).filter (keptW m q) = _)⟩
            rw [HLq.out] at hKp hln HFy HFn
            clear hx
            go_wp2_with fail
            rw [← HQW.out]
            refine (has_any SW cw _ d.id _ ((hSW3.bel hBr).bel hBQ) id0).mono ?_
            rintro e w4 ⟨rfl, hb4⟩
            have h4 := bel_step hBQ hb4
            have hKp4 := hKp.bel wayV h4
            have X4 := XQ.bel hb4
            have tt4 := (tt.bel tagE hBr).bel tagE h4
            have tt24 := (tt2.bel intE hBr).bel intE h4
            obtain ⟨r, Hr⟩ : ∃ r, Hid (bP (wSetTo m q m.ways.length d.id) = r) := ⟨_, (rfl : bP (wSetTo m q m.ways.length d.id) = _)⟩
            rw [Hr.out]
            clear hKp XQ
            cases r
            · have HK4 : Hid (Kp 3 WayV 62 w3.heap.size U2 [v0] [.slice none 0 0] w4 vv ((m.ways.take (k + 1)).filter (keptW m q)) R f) := by rw [HFn.out Hr.out]; exact hKp4
              clear hKp4
              go_wp2
              go_roundw
              case rel => exact ⟨k + 1, vv, R, f, by omega, by go_num, HK4.out⟩
              case measure => simp [intOf]; omega
            · obtain ⟨va, vc, rfl⟩ := own_shape hKp4.gr.own
              have HK4 : Hid (Kp 3 WayV 62 w3.heap.size U2 [v0] [.slice none 0 0] w4 (.slice va L.length vc) L R f) := hKp4
              have y0 : w4.cell? ⟨w3.heap.size, 1, none⟩ = some (.slice va L.length vc) := hKp4.box.cell 1 (by simp)
              have r0 : w4.cell? ⟨wr.heap.size, 0, none⟩ = some (.int .i64 d.id) := X4.cell 0 (by simp)
              have r1 : w4.cell? ⟨wr.heap.size, 1, none⟩ = some (.slice ra d.tags.length rc) := X4.cell 1 (by simp)
              have r2 : w4.cell? ⟨wr.heap.size, 2, none⟩ = some (.slice ra2 d.nodes.length rc2) := X4.cell 2 (by simp)
              have HOl : Hid (U2.heap.size ≤ w4.heap.size) := hKp4.far.size
              have hKl4 : w3.heap.size < w4.heap.size := hKp4.box.lt
              have hKU : w3.heap.size < U2.heap.size := hKU2
              clear hKp4 X4
              go_wp2
              go_region_law (first
                | (go_simp; go_at_call 37; refine (wayTold_any _ _ _ _ d.tags g2 _ _ _ d.nodes g1 w4 _ ((Bel.refl w4).drew) (tt4.bel tagE ((Bel.refl w4).drew)) rfl hul.2 (tt24.bel intE ((Bel.refl w4).drew)) rfl hul.1).mono ?_; rintro e w5 ⟨a3, c3, b3, a5, c5, b5, rfl, T3, T5, F5, hb5⟩; refine (fun hb45 : Bel w4 w5 => ?_) (bel_step (Bel.refl w4).drew hb5); have y5 : w5.cell? ⟨w3.heap.size, 1, none⟩ = some (.slice va L.length vc) := bel_cellM hb45 hKl4 y0; have hKl5 : w3.heap.size < w5.heap.size := bel_lt hb45 hKl4; go_wp2_with fail)
                | (refine step_append_lies _ rfl _ _ _ rfl U2.heap.size 62 i1 (.agg #[.int .i64 0, .slice none 0 0, .slice none 0 0]) 3 56 Tryz.underlying33 hi1 hz10 hz11 hz12 rfl (by decide) (.slice va L.length vc) L.length (recs R L.length) (by rfl) (own_bel HK4.out.gr.own (bel_alloc hb45 _)) ⟨w5.heap.size, 0, none⟩ 1 1 [.int .i64 d.id, .slice a3 d.nodes.length c3, .slice a5 d.tags.length c5] (by rfl) (by rfl) (World.news_of_block (cs := #[.int .i64 d.id, .slice a3 d.nodes.length c3, .slice a5 d.tags.length c5]) (t := 62) (fr := (0, 0)) (heap_alloc_new w5 _)) (by simp [Value.oneCell']) (by omega) (by unfold maxLen; omega) (by omega) (by have := HOl.out; have := hb45.out.size; simp; omega) (w5.heap.size + 1) (by simp) ?_; intro g cap w6 hown6 hgrow hat _; have M6 := HK4.out.mid hKU (bel_alloc hb45 _) hgrow; have y6 : w6.cell? ⟨w3.heap.size, 1, none⟩ = some (.slice va L.length vc) := M6.cell 1 (by simp); have z6 := M6.free 1))
              all_goals
                obtain ⟨R', f2, KP'⟩ := Kp.step wayV HK4.out hKU hb45 (bel_alloc (Bel.refl w5) _) (d := d) (bs := (b3 ++ b5)) (show WayV w5 [.int .i64 d.id, .slice a3 d.nodes.length c3, .slice a5 d.tags.length c5] d (b3 ++ b5) from ⟨id0, hml2, hml, a3, c3, a5, c5, b3, b5, rfl, rfl, T3, T5⟩) F5 hown6 hgrow (hat_of (by simpa using hat))
                have HKP : Hid (Kp 3 WayV 62 w3.heap.size U2 [v0] [.slice none 0 0] (w6.setCell ⟨w3.heap.size, 1, none⟩ (.slice (some ⟨g, 0, none⟩) (L.length + 1) cap)) (.slice (some ⟨g, 0, none⟩) (L.length + 1) cap) ((m.ways.take (k + 1)).filter (keptW m q)) R' f2) := by rw [HFy.out Hr.out]; exact KP'
                clear KP' M6 hown6 hgrow hat F5 T5 hb5 y0 y5
                go_wp2
                go_roundw
                case rel => exact ⟨k + 1, _, R', f2, by omega, by go_num, HKP.out⟩
                case measure => simp [intOf]; omega
          · have e : n1 = k := by omega
            subst e
            obtain ⟨v1, rfl⟩ : ∃ v, v = vv := ⟨_, rfl⟩
            obtain ⟨R1, rfl⟩ : ∃ v, v = R := ⟨_, rfl⟩
            obtain ⟨f1, rfl⟩ : ∃ v, v = f := ⟨_, rfl⟩
            obtain ⟨U3, rfl⟩ : ∃ U, U = wr := ⟨_, rfl⟩
            have hU3 : Bel w3 U3 := hBr
            have hKU3 : w3.heap.size < U3.heap.size := hKp.box.lt
            have HE23 : Hid (U2.grownBy U3 (some w3.heap.size)) := hKp.far
            have HG1 : Hid (Gr 3 WayV 62 U2.heap.size U3 v1 (m.ways.filter (keptW m q)) R1 f1) := by have := hKp.gr; rw [← H1.out, List.take_length] at this; exact this
            have XK : Blk U3 w3.heap.size [v0, v1, .slice none 0 0] := hKp.box
            have x2 : U3.cell? ⟨w1.heap.size, 2, none⟩ = some (.slice d2 n2 k2) := (Yc.bel hBr).cell 2 (by simp)
            clear hKp hBr x1
            go_wp2
            go_loopw [15, 74] (fun _ i wr => ∃ (k : Nat) (v : Value) (R : Nat → List Value) (f : Nat → List Nat), k ≤ n2 ∧ i = .int .i64 k ∧ Kp 3 AreaV 68 w3.heap.size U3 [v0, v1] [] wr v ((m.areas.take k).filter (keptA m q)) R f) (fun _ i _ => n2 - (intOf i).toNat)
            case atStart => exact ⟨0, _, _, _, Nat.zero_le _, rfl, Kp.start 3 AreaV 68 (pre := [v0, v1]) (post := []) XK⟩
            case round =>
              clear XK
              obtain ⟨k, vv, R, f, hk, rfl, hKp⟩ := hrel
              have hBr : Bel w3 wr := bel_grow hU3 hKp.far (fun j e => by injection e with e; omega)
              by_cases hlt : k < n2
              · have hkl : k < m.areas.length := by rw [H2.out]; exact hlt
                obtain ⟨b, off, f', rfl, hb, hx⟩ := HA.out hkl
                obtain ⟨id0, e0, ra2, rc2, ra, rc, g1, g2, _, hml2, hml, e2, tt2, e1, tt⟩ := hx k hkl
                obtain ⟨d, Hd⟩ : ∃ d, Hid (d = m.areas[k]) := ⟨_, (rfl : m.areas[k] = _)⟩
                have hul := HU2.out k hkl
                have HFy : Hid (keptA m q d = true → (m.areas.take (k + 1)).filter (keptA m q) = (m.areas.take k).filter (keptA m q) ++ [d]) := fun e => by rw [Hd.out] at e ⊢; exact filt_yes hkl e
                have HFn : Hid (keptA m q d = false → (m.areas.take (k + 1)).filter (keptA m q) = (m.areas.take k).filter (keptA m q)) := fun e => by rw [Hd.out] at e; exact filt_no hkl e
                rw [← Hd.out] at e0 e1 e2 id0 hml hml2 tt tt2 hul
                have e0 := bel_cellM hBr hb e0
                have e1 := bel_cellM hBr hb e1
                have e2 := bel_cellM hBr hb e2
                have hlt' : (k : Int) < (n2 : Int) := by omega
                obtain ⟨Q, HQW⟩ : ∃ Q, Hid (Q = wr.alloc (.cells #[.int .i64 d.id, .slice ra d.tags.length rc, .slice ra2 d.parts.length rc2] 98)) := ⟨_, (rfl : wr.alloc (.cells #[.int .i64 d.id, .slice ra d.tags.length rc, .slice ra2 d.parts.length rc2] 98) = _)⟩
                have hBQ : Bel wr Q := by rw [HQW.out]; exact bel_alloc (Bel.refl _) _
                have XQ : Blk Q wr.heap.size [.int .i64 d.id, .slice ra d.tags.length rc, .slice ra2 d.parts.length rc2] := by rw [HQW.out]; exact Blk.new wr [.int .i64 d.id, .slice ra d.tags.length rc, .slice ra2 d.parts.length rc2] _
                have hln := filt_len (keptA m q) m.areas k
                obtain ⟨L, HLq⟩ : ∃ L, Hid ((m.areas.take k).filter (keptA m q) = L) := ⟨_, (rfl : (m.areas.take k).filter (keptA m q) = _)⟩
                rw [HLq.out] at hKp hln HFy HFn
                clear hx
                go_wp2_with fail
                rw [← HQW.out]
                refine (within_any SW cw _ _ _ _ _ _ _ _ d.parts g1 _ ((hSW3.bel hBr).bel hBQ) ((tt2.bel partE hBr).bel partE hBQ) rfl hul.1).mono ?_
                rintro e w4 ⟨rfl, hb4⟩
                have h4 := bel_step hBQ hb4
                have hKp4 := hKp.bel areaV h4
                have X4 := XQ.bel hb4
                have tt4 := (tt.bel tagE hBr).bel tagE h4
                have tt24 := (tt2.bel partE hBr).bel partE h4
                obtain ⟨r, Hr⟩ : ∃ r, Hid (bP (∀ p ∈ d.parts, wSetTo m q m.ways.length p.way) = r) := ⟨_, (rfl : bP (∀ p ∈ d.parts, wSetTo m q m.ways.length p.way) = _)⟩
                rw [Hr.out]
                clear hKp XQ
                cases r
                · have HK4 : Hid (Kp 3 AreaV 68 w3.heap.size U3 [v0, v1] [] w4 vv ((m.areas.take (k + 1)).filter (keptA m q)) R f) := by rw [HFn.out Hr.out]; exact hKp4
                  clear hKp4
                  go_wp2
                  go_roundw
                  case rel => exact ⟨k + 1, vv, R, f, by omega, by go_num, HK4.out⟩
                  case measure => simp [intOf]; omega
                · obtain ⟨va, vc, rfl⟩ := own_shape hKp4.gr.own
                  have HK4 : Hid (Kp 3 AreaV 68 w3.heap.size U3 [v0, v1] [] w4 (.slice va L.length vc) L R f) := hKp4
                  have y0 : w4.cell? ⟨w3.heap.size, 2, none⟩ = some (.slice va L.length vc) := hKp4.box.cell 2 (by simp)
                  have r0 : w4.cell? ⟨wr.heap.size, 0, none⟩ = some (.int .i64 d.id) := X4.cell 0 (by simp)
                  have r1 : w4.cell? ⟨wr.heap.size, 1, none⟩ = some (.slice ra d.tags.length rc) := X4.cell 1 (by simp)
                  have r2 : w4.cell? ⟨wr.heap.size, 2, none⟩ = some (.slice ra2 d.parts.length rc2) := X4.cell 2 (by simp)
                  have HOl : Hid (U3.heap.size ≤ w4.heap.size) := hKp4.far.size
                  have hKl4 : w3.heap.size < w4.heap.size := hKp4.box.lt
                  have hKU : w3.heap.size < U3.heap.size := hKU3
                  clear hKp4 X4
                  go_wp2
                  go_region_law (first
                    | (go_simp; go_at_call 39; refine (areaTold_any _ _ _ _ d.tags g2 _ _ _ d.parts g1 w4 _ ((Bel.refl w4).drew) (tt4.bel tagE ((Bel.refl w4).drew)) rfl hul.2 (tt24.bel partE ((Bel.refl w4).drew)) rfl hul.1).mono ?_; rintro e w5 ⟨a3, c3, b3, a5, c5, b5, rfl, T3, T5, F5, hb5⟩; refine (fun hb45 : Bel w4 w5 => ?_) (bel_step (Bel.refl w4).drew hb5); have y5 : w5.cell? ⟨w3.heap.size, 2, none⟩ = some (.slice va L.length vc) := bel_cellM hb45 hKl4 y0; have hKl5 : w3.heap.size < w5.heap.size := bel_lt hb45 hKl4; go_wp2_with fail)
                    | (refine step_append_lies _ rfl _ _ _ rfl U3.heap.size 68 i2 (.agg #[.int .i64 0, .slice none 0 0, .slice none 0 0]) 3 56 Tryz.underlying34 hi2 hz20 hz21 hz22 rfl (by decide) (.slice va L.length vc) L.length (recs R L.length) (by rfl) (own_bel HK4.out.gr.own (bel_alloc hb45 _)) ⟨w5.heap.size, 0, none⟩ 1 1 [.int .i64 d.id, .slice a3 d.parts.length c3, .slice a5 d.tags.length c5] (by rfl) (by rfl) (World.news_of_block (cs := #[.int .i64 d.id, .slice a3 d.parts.length c3, .slice a5 d.tags.length c5]) (t := 68) (fr := (0, 0)) (heap_alloc_new w5 _)) (by simp [Value.oneCell']) (by omega) (by unfold maxLen; omega) (by omega) (by have := HOl.out; have := hb45.out.size; simp; omega) (w5.heap.size + 1) (by simp) ?_; intro g cap w6 hown6 hgrow hat _; have M6 := HK4.out.mid hKU (bel_alloc hb45 _) hgrow; have y6 : w6.cell? ⟨w3.heap.size, 2, none⟩ = some (.slice va L.length vc) := M6.cell 2 (by simp); have z6 := M6.free 2))
                  all_goals
                    obtain ⟨R', f2, KP'⟩ := Kp.step areaV HK4.out hKU hb45 (bel_alloc (Bel.refl w5) _) (d := d) (bs := (b3 ++ b5)) (show AreaV w5 [.int .i64 d.id, .slice a3 d.parts.length c3, .slice a5 d.tags.length c5] d (b3 ++ b5) from ⟨id0, hml2, hml, a3, c3, a5, c5, b3, b5, rfl, rfl, T3, T5⟩) F5 hown6 hgrow (hat_of (by simpa using hat))
                    have HKP : Hid (Kp 3 AreaV 68 w3.heap.size U3 [v0, v1] [] (w6.setCell ⟨w3.heap.size, 2, none⟩ (.slice (some ⟨g, 0, none⟩) (L.length + 1) cap)) (.slice (some ⟨g, 0, none⟩) (L.length + 1) cap) ((m.areas.take (k + 1)).filter (keptA m q)) R' f2) := by rw [HFy.out Hr.out]; exact KP'
                    clear KP' M6 hown6 hgrow hat F5 T5 hb5 y0 y5
                    go_wp2
                    go_roundw
                    case rel => exact ⟨k + 1, _, R', f2, by omega, by go_num, HKP.out⟩
                    case measure => simp [intOf]; omega
              · have e : n2 = k := by omega
                subst e
                obtain ⟨bs', MV, FR, LO⟩ := map_out (w := w) (m := ⟨m.nodes.filter (keptN m q), m.ways.filter (keptW m q), m.areas.filter (keptA m q)⟩) (by have := hw3.out.size; omega) hKU1 HG0.out hU12 HG1.out HE23.out (by have := hKp.gr; rw [← H2.out, List.take_length] at this; exact this) hKp.far
                have hbx := hKp.box
                have z0 : wr.cell? ⟨w3.heap.size, 0, none⟩ = some v0 := hbx.cell 0 (by simp)
                have z1 : wr.cell? ⟨w3.heap.size, 1, none⟩ = some v1 := hbx.cell 1 (by simp)
                have z2 : wr.cell? ⟨w3.heap.size, 2, none⟩ = some vv := hbx.cell 2 (by simp)
                have XRr := XR3.bel hBr
                have r0 : wr.cell? ⟨w.heap.size + 1 + 1, 0, none⟩ = some (.slice none 0 0) := XRr.cell 0 (by simp)
                have r1 : wr.cell? ⟨w.heap.size + 1 + 1, 1, none⟩ = some (.slice none 0 0) := XRr.cell 1 (by simp)
                have r2 : wr.cell? ⟨w.heap.size + 1 + 1, 2, none⟩ = some (.slice none 0 0) := XRr.cell 2 (by simp)
                have y0 := XRr.free 0
                have y1 := XRr.free 1
                have y2 := XRr.free 2
                have hNo : w.heap.size + 1 + 1 ∉ bs' := fun h => by have := LO _ h; have := XR3.lt; omega
                obtain ⟨F, HFW⟩ : ∃ F, Hid (F = setRow wr (w.heap.size + 1 + 1) 0 [v0, v1, vv]) := ⟨_, (rfl : setRow wr (w.heap.size + 1 + 1) 0 [v0, v1, vv] = _)⟩
                have hAl : Alike wr F bs' := by rw [HFW.out]; exact setRow_far _ (fun x hx => (FR.new x hx).2) hNo
                have HMV : Hid (MapV F (.agg #[v0, v1, vv]) (cropQ m q) bs') := by rw [HQ.out]; exact MV.alike hAl
                have HFR : Hid (Fresh w F bs') := FR.alike hAl
                have hB : Hid (Bel w F) := by rw [HFW.out]; exact setRow_bel (bel_step hw3 hBr) (by omega) _ _
                obtain ⟨u0, u1, hv0⟩ := own_shape HG0.out.own
                obtain ⟨u2, u3, hv1⟩ := own_shape HG1.out.own
                obtain ⟨u4, u5, hv2⟩ := own_shape hKp.gr.own
                clear hKp hbx MV FR LO hAl XRr x2
                subst hv0
                subst hv1
                subst hv2
                go_wp2
                exact bodyPost_ret (v := .agg #[.slice u0 (m.nodes.filter (keptN m q)).length u1, .slice u2 (m.ways.filter (keptW m q)).length u3, .slice u4 ((m.areas.take n2).filter (keptA m q)).length u5]) (by simp [results, Tryz.results9, go_sem, r0, r1, r2]) rfl ⟨_, bs', rfl, by rw [HFW.out] at HMV; exact HMV.out, by rw [HFW.out] at HFR; exact HFR.out, by rw [HFW.out] at hB; exact hB.out⟩
  · have HQ : Hid (cropQ m q = ⟨[], [], []⟩) := (by unfold cropQ; rw [hm]; rfl : cropQ m q = ⟨[], [], []⟩)
    have hB1 := bel_step hBW hb
    have XR1 := XR.bel hb
    have r0 : w1.cell? ⟨w.heap.size + 1 + 1, 0, none⟩ = some (.slice none 0 0) := XR1.cell 0 (by simp)
    have r1 : w1.cell? ⟨w.heap.size + 1 + 1, 1, none⟩ = some (.slice none 0 0) := XR1.cell 1 (by simp)
    have r2 : w1.cell? ⟨w.heap.size + 1 + 1, 2, none⟩ = some (.slice none 0 0) := XR1.cell 2 (by simp)
    have y0 := XR1.free 0
    have y1 := XR1.free 1
    have y2 := XR1.free 2
    have hlt := XR1.lt
    obtain ⟨F, HFW⟩ : ∃ F, Hid (F = (setRow w1 (w.heap.size + 1 + 1) 0 [.slice none 0 0, .slice none 0 0, .slice none 0 0]).alloc (.cells #[.slice none 0 0, .slice none 0 0, .slice none 0 0, .map none, .map none] 81)) := ⟨_, (rfl : (setRow w1 (w.heap.size + 1 + 1) 0 [.slice none 0 0, .slice none 0 0, .slice none 0 0]).alloc (.cells #[.slice none 0 0, .slice none 0 0, .slice none 0 0, .map none, .map none] 81) = _)⟩
    have hB : Hid (Bel w F) := by rw [HFW.out]; exact bel_alloc (setRow_bel hB1 (by omega) _ _) _
    clear hV' hm hb XR1 XR XB
    go_wp2
    exact bodyPost_ret (v := .agg #[.slice none 0 0, .slice none 0 0, .slice none 0 0]) (by simp [results, Tryz.results9, go_sem, r0, r1, r2, hlt]) rfl ⟨_, [], rfl, by rw [HQ.out]; exact ⟨none, 0, none, 0, none, 0, [], [], [], rfl, rfl, Sl.nil, Sl.nil, Sl.nil⟩, Fresh.nil _ _, by rw [HFW.out] at hB; exact hB.out⟩
end Go.Proofs.YtmmapkpieimibaaGreat
