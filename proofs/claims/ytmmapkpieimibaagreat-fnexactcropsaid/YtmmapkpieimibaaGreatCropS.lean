/-
  A map cropped, in the document's model: the contract.
-/
import Derived.Test.YtmmapkpieimibaaGreatCropL
import Derived.Test.YtmmapkpieimibaaGreatCropI
import Derived.Test.YtmmapkpieimibaaGreatCopyS
import Derived.Test.YtmmapkpieimibaaGreatSpecM
import Derived.Test.YtmmapkpieimibaaGreatNodeAt
namespace Go.Proofs.YtmmapkpieimibaaGreat
open Go.RowKit Go.Maps

/-- Three rows of the call's own: the ways' first. -/
theorem map_out2 {w U3 U4 E : World} {K lo : Nat} {m : MapD} {v0 v1 v2 : Value} {R0 R1 R2 : Nat → List Value} {f0 f1 f2 : Nat → List Nat} (hw : w.heap.size ≤ lo) (hK : K < lo) (hl : lo ≤ U3.heap.size)
    (g1 : Gr 3 WayV 62 lo U3 v1 m.ways R1 f1) (g0 : Gr 4 NodeV 58 U3.heap.size U4 v0 m.nodes R0 f0) (e34 : U3.grownBy U4 (some K)) (g2 : Gr 3 AreaV 68 U4.heap.size E v2 m.areas R2 f2) (e4 : U4.grownBy E (some K)) :
    ∃ bs, MapV E (.agg #[v0, v1, v2]) m bs ∧ Fresh w E bs ∧ ∀ x ∈ bs, lo ≤ x := by
  obtain ⟨a0, c0, b0, rfl, s0, m0⟩ := g0.out nodeV
  obtain ⟨a1, c1, b1, rfl, s1, m1⟩ := g1.out wayV
  obtain ⟨a2, c2, b2, rfl, s2, m2⟩ := g2.out areaV
  have e3E := e34.trans e4
  have A0 : Alike U4 E b0 := grown_alike e4 (fun x hx => (m0.new x hx).2) fun hx => by have := (m0.new K hx).1; omega
  have A1 : Alike U3 E b1 := grown_alike e3E (fun x hx => (m1.new x hx).2) fun hx => by have := (m1.new K hx).1; omega
  have z34 := e34.size
  have z4 := e4.size
  refine ⟨b0 ++ (b1 ++ b2), ⟨a0, c0, a1, c1, a2, c2, b0, b1, b2, rfl, rfl, s0.alike nodeE A0, s1.alike wayE A1, s2⟩, ⟨?_, ?_, ?_⟩, ?_⟩
  · refine List.nodup_append.2 ⟨m0.nd, List.nodup_append.2 ⟨m1.nd, m2.nd, fun a ha b hb e => ?_⟩, fun a ha b hb e => ?_⟩
    · subst e
      have := (m1.new a ha).2
      have := (m2.new a hb).1
      omega
    · subst e
      have h0 := m0.new a ha
      rcases List.mem_append.1 hb with hb | hb
      · have := (m1.new a hb).2; omega
      · have := (m2.new a hb).1; omega
  · intro x hx
    rcases List.mem_append.1 hx with hx | hx
    · have := (m0.new x hx).1; exact ⟨by omega, (A0 x hx).1⟩
    · rcases List.mem_append.1 hx with hx | hx
      · have := (m1.new x hx).1; exact ⟨by omega, (A1 x hx).1⟩
      · have := m2.new x hx; exact ⟨by omega, this.2⟩
  · intro x hx j
    rcases List.mem_append.1 hx with hx | hx
    · rw [(A0 x hx).2.2 j]; exact m0.free x hx j
    · rcases List.mem_append.1 hx with hx | hx
      · rw [(A1 x hx).2.2 j]; exact m1.free x hx j
      · exact m2.free x hx j
  · intro x hx
    rcases List.mem_append.1 hx with hx | hx
    · have := (m0.new x hx).1; omega
    · rcases List.mem_append.1 hx with hx | hx
      · exact (m1.new x hx).1
      · have := (m2.new x hx).1; omega
/-- All but the row of marks as it was; of the row one mark may be turned. -/
structure Ud (V : World) (B n j0 : Nat) (p : Nat → Bool) (w : World) : Prop where
  g : V.grownBy w (some B)
  r : ∃ c : Bool, w.rowIs B 4 n (fun j => .bool (if j = j0 then c else p j))
theorem Ud.drew {V : World} {B n j0 : Nat} {p : Nat → Bool} {a : World} (h : Ud V B n j0 p a) : Ud V B n j0 p a.drew := ⟨⟨h.g.os, h.g.tape, h.g.output, h.g.size, h.g.block⟩, h.r.imp fun _ k => k.drew⟩
theorem Ud.bel {V : World} {B n j0 : Nat} {p : Nat → Bool} {a b : World} (h : Ud V B n j0 p a) (k : Bel a b) : Ud V B n j0 p b :=
  ⟨grown_step h.g k, h.r.imp fun _ r => r.of_block (k.out.block B r.lt)⟩
theorem Ud.set {V : World} {B n j0 : Nat} {p : Nat → Bool} {a : World} (h : Ud V B n j0 p a) (c : Bool) : Ud V B n j0 p (a.setCell ⟨B, j0, none⟩ (.bool c)) :=
  ⟨grown_set h.g _ _, c, by
    obtain ⟨c0, r⟩ := h.r
    exact (r.set j0 (.bool c)).congr fun i _ => by by_cases e : i = j0 <;> simp [e]⟩
theorem Ud.start {B n j0 : Nat} {p : Nat → Bool} {a : World} (r : a.rowIs B 4 n (fun j => .bool (p j))) : Ud a B n j0 p a :=
  ⟨World.grownBy.refl _ _, p j0, r.congr fun i _ => by by_cases e : i = j0 <;> simp [e]⟩
theorem any_succ {m : MapD} {q : BoxD} {ns : List Int} {t : Nat} (ht : t < ns.length) : ((rowTo m.nodes ns (t + 1)).any fun p => ptB q p.x p.y) = (((rowTo m.nodes ns t).any fun p => ptB q p.x p.y) || ptB q (ptI m.nodes ns[t]).x (ptI m.nodes ns[t]).y) := by
  rw [rowTo_succ ht, List.any_append]
  simp

set_option maxRecDepth 100000 in
set_option maxHeartbeats 32000000 in
theorem specCrop_any (v : Value) (m : MapD) (bs : List Nat) (q : BoxD) (w : World) (hV : MapV w v m bs) (hL : MapL m) :
    Calls Tryz.prog 6 #[v, .agg #[.int .i64 q.a, .int .i64 q.b, .int .i64 q.c, .int .i64 q.d]] w fun e w' => ∃ v' bs', e = .returned v' ∧ MapV w' v' (cropQ m q) bs' ∧ Fresh w w' bs' ∧ Bel w w' := by
  obtain ⟨i0, hi0, hz00, hz01, hz02⟩ := info_parts infoKNode
  obtain ⟨i1, hi1, hz10, hz11, hz12⟩ := info_parts infoKWay
  obtain ⟨i2, hi2, hz20, hz21, hz22⟩ := info_parts infoKArea
  obtain ⟨a0, c0, a1, c1, a2, c2, bb0, bb1, bb2, hv, hbs, t0, t1, t2⟩ := hV.out
  have HL : Hid (MapL m) := hL
  have HU0 : Hid (∀ i (h : i < m.nodes.length), m.nodes[i].tags.length ≤ 1048576) := hL.u0
  have HU1 : Hid (∀ i (h : i < m.ways.length), m.ways[i].nodes.length ≤ 1048576 ∧ m.ways[i].tags.length ≤ 1048576) := hL.u1
  have HU2 : Hid (∀ i (h : i < m.areas.length), m.areas[i].parts.length ≤ 1048576 ∧ m.areas[i].tags.length ≤ 1048576) := hL.u2
  obtain ⟨n0, hn0⟩ : ∃ n, m.nodes.length = n := ⟨_, rfl⟩
  obtain ⟨n1, hn1⟩ : ∃ n, m.ways.length = n := ⟨_, rfl⟩
  obtain ⟨n2, hn2⟩ : ∃ n, m.areas.length = n := ⟨_, rfl⟩
  have H0 : Hid (m.nodes.length = n0) := hn0
  have H1 : Hid (m.ways.length = n1) := hn1
  have H2 : Hid (m.areas.length = n2) := hn2
  rw [hn0, hn1, hn2] at hv
  subst hv
  obtain ⟨W0, HW0⟩ : ∃ W, Hid (W = (w.alloc (.cells #[.slice a0 n0 c0, .slice a1 n1 c1, .slice a2 n2 c2] 36)).alloc (.cells #[.int .i64 q.a, .int .i64 q.b, .int .i64 q.c, .int .i64 q.d] 41)) := ⟨_, (rfl : (w.alloc (.cells #[.slice a0 n0 c0, .slice a1 n1 c1, .slice a2 n2 c2] 36)).alloc (.cells #[.int .i64 q.a, .int .i64 q.b, .int .i64 q.c, .int .i64 q.d] 41) = _)⟩
  have hBW0 : Bel w W0 := by rw [HW0.out]; exact bel_alloc (bel_alloc (Bel.refl _) _) _
  have hs0 : W0.heap.size = w.heap.size + 1 + 1 := by rw [HW0.out]; simp
  have X0 : Blk W0 w.heap.size [.slice a0 n0 c0, .slice a1 n1 c1, .slice a2 n2 c2] := by rw [HW0.out]; exact (Blk.new w [.slice a0 n0 c0, .slice a1 n1 c1, .slice a2 n2 c2] _).bel (bel_alloc (Bel.refl _) _)
  have XB : Blk W0 (w.heap.size + 1) [.int .i64 q.a, .int .i64 q.b, .int .i64 q.c, .int .i64 q.d] := by rw [HW0.out]; exact Blk.new1 w _ [.int .i64 q.a, .int .i64 q.b, .int .i64 q.c, .int .i64 q.d] _
  obtain ⟨W, HW⟩ : ∃ W, Hid (W = (W0.alloc (.cells #[.slice none 0 0, .slice none 0 0, .slice none 0 0] 36)).alloc (.cells #[.slice none 0 0, .slice none 0 0, .slice none 0 0] 36)) := ⟨_, (rfl : (W0.alloc (.cells #[.slice none 0 0, .slice none 0 0, .slice none 0 0] 36)).alloc (.cells #[.slice none 0 0, .slice none 0 0, .slice none 0 0] 36) = _)⟩
  have hBW : Bel W0 W := by rw [HW.out]; exact bel_alloc (bel_alloc (Bel.refl _) _) _
  have hsW : W.heap.size = w.heap.size + 1 + 1 + 1 + 1 := by rw [HW.out]; simp [hs0]
  have XR : Blk W (w.heap.size + 1 + 1) [.slice none 0 0, .slice none 0 0, .slice none 0 0] := by rw [HW.out, ← hs0]; exact (Blk.new W0 [.slice none 0 0, .slice none 0 0, .slice none 0 0] _).bel (bel_alloc (Bel.refl _) _)
  have XK : Blk W (w.heap.size + 1 + 1 + 1) [.slice none 0 0, .slice none 0 0, .slice none 0 0] := by rw [HW.out, ← hs0]; exact Blk.new1 W0 _ [.slice none 0 0, .slice none 0 0, .slice none 0 0] _
  have HV : Hid (MapV W0 (.agg #[.slice a0 n0 c0, .slice a1 n1 c1, .slice a2 n2 c2]) m bs) := hV.bel hBW0
  obtain ⟨AN, CN, fN, _, hN⟩ := name_nodes (t0.bel nodeE hBW0)
  have HN : Hid _ := hN
  obtain ⟨A, C, A', C', f1, f2, _, hX⟩ := name_ways (t1.bel wayE hBW0)
  have HX : Hid _ := hX
  obtain ⟨E, D, E', D', g1, g2, _, hY⟩ := name_areas (t2.bel areaE hBW0)
  have HYA : Hid _ := hY
  clear hN hX hY hV hL hbs t0 t1 t2 hn0 hn1 hn2
  go_enter Tryz.func6, Tryz.ntmps6
  go_wp2_with fail
  rw [← HW0.out, ← HW.out]
  refine (specMapOk_any _ m bs _ (HV.out.bel hBW) HL.out).mono ?_
  rintro e w1 ⟨rfl, hb1⟩
  have h01 : Bel W0 w1 := bel_step hBW hb1
  have hw1 : Bel w w1 := bel_step hBW0 h01
  have XR1 := XR.bel hb1
  have XK1 := XK.bel hb1
  have hKl : w.heap.size + 1 + 1 + 1 < w1.heap.size := XK1.lt
  have k0 : w1.cell? ⟨w.heap.size + 1 + 1 + 1, 0, none⟩ = some (.slice none 0 0) := XK1.cell 0 (by simp)
  have k1 : w1.cell? ⟨w.heap.size + 1 + 1 + 1, 1, none⟩ = some (.slice none 0 0) := XK1.cell 1 (by simp)
  have k2 : w1.cell? ⟨w.heap.size + 1 + 1 + 1, 2, none⟩ = some (.slice none 0 0) := XK1.cell 2 (by simp)
  clear XR XK hb1 HW hBW hsW
  by_cases hm : mapB m = true
  · have hok := bP_out hm
    have HOK : Hid (MapOkP m) := hok
    have HQ : Hid (cropQ m q = ⟨m.nodes.filter (keptN m q), m.ways.filter (keptW m q), m.areas.filter (keptA m q)⟩) := (by unfold cropQ; rw [if_pos hm] : cropQ m q = ⟨m.nodes.filter (keptN m q), m.ways.filter (keptW m q), m.areas.filter (keptA m q)⟩)
    have hl0 : Hid (m.nodes.length ≤ 5000) := hok.n1
    have hle0 : n0 ≤ 5000 := by rw [← H0.out]; exact hok.n1
    have hle1 : n1 ≤ 1000 := by rw [← H1.out]; exact hok.n2
    have hle2 : n2 ≤ 300 := by rw [← H2.out]; exact hok.n3
    have HA : Hid (AscP m.nodes.length (nId m.nodes) (nTg m.nodes)) := hok.an
    have HY : Hid (∀ i (h : i < m.ways.length), m.ways[i].nodes.length ≤ 2000 ∧ ∀ j (h' : j < m.ways[i].nodes.length), HasI m.nodes.length (nId m.nodes) m.ways[i].nodes[j]) := fun i h => ⟨(hok.wy i h).2.1, fun j h' => ((hok.wy i h).2.2 j h').1⟩
    rw [hm]
    clear hm hok
    have hmk := fun w' => run_make_row' (P := Tryz.prog) 55 4 (.bool false) 1 Tryz.underlying55 infoBl rfl .i64 .i64 n0 (by omega) (by omega) w'
    have x10 : w1.cell? ⟨w.heap.size, 0, none⟩ = some (.slice a0 n0 c0) := (X0.bel h01).cell 0 (by simp)
    have R0 : (w1.alloc (.cells (madeCells #[.bool false] n0) 4)).rowIs w1.heap.size 4 n0 (fun j => .bool (rowN0 m q 0 j)) :=
      (World.rowIs_made w1 (.bool false) n0 4).congr fun j _ => by unfold rowN0; rw [if_neg (Nat.not_lt_zero _)]
    have hBa : Bel w1 (w1.alloc (.cells (madeCells #[.bool false] n0) 4)) := bel_alloc (Bel.refl _) _
    go_wp2
    go_loopw [7] (fun i wr => ∃ k : Nat, k ≤ n0 ∧ i = .int .i64 k ∧ wr.rowIs w1.heap.size 4 n0 (fun j => .bool (rowN0 m q k j)) ∧ Bel w1 wr) (fun i _ => n0 - (intOf i).toNat)
    case atStart => exact ⟨0, Nat.zero_le _, rfl, R0, hBa⟩
    case round =>
      clear R0 hBa hmk x10 k0 k1 k2
      obtain ⟨k, hk, rfl, hr, hBr⟩ := hrel
      have h0r := bel_step h01 hBr
      have o0 : wr.cell? ⟨w.heap.size, 0, none⟩ = some (.slice a0 n0 c0) := (X0.bel h0r).cell 0 (by simp)
      by_cases hlt : k < n0
      · have hkl : k < m.nodes.length := by rw [H0.out]; exact hlt
        obtain ⟨b, off, rfl, hb, _, _, _, _, ex, ey, _, d3, _⟩ := HN.out k hkl
        obtain ⟨d, Hd⟩ : ∃ d, Hid (d = m.nodes[k]) := ⟨_, (rfl : m.nodes[k] = _)⟩
        have htl := HU0.out k hkl
        rw [← Hd.out] at ex ey d3 htl
        have hlt' : (k : Int) < (n0 : Int) := by omega
        obtain ⟨Pk, HP⟩ : ∃ P : Nat → Bool, Hid (P = fun j => rowN0 m q k j) := ⟨_, (rfl : (fun j => rowN0 m q k j) = _)⟩
        have g0 : Uc w1 w1.heap.size n0 k Pk wr := Uc.start hBr (by rw [HP.out]; exact hr)
        have u0 : wr.cell? ⟨w1.heap.size, k, none⟩ = some (.bool (rowN0 m q k k)) := hr.cell hlt
        have z0 := hr.frozen k
        have HSt : Hid (∀ r cb i, bP (nIn q d) = r → (if i = k then Value.bool r else .bool (if i = k then cb else Pk i)) = .bool (rowN0 m q (k + 1) i)) := fun r cb i h => by rw [HP.out]; exact rowN0_step hkl Hd.out h cb
        have HRw : Hid (wr.rowIs w1.heap.size 4 n0 (fun j => .bool (Pk j))) := by rw [HP.out]; exact hr
        by_cases ht : d.tags.length = 0
        · rw [ht] at d3
          have HNI : Hid (bP (nIn q d) = false) := bP_false fun h => h.1 ht
          have hR : ∀ w', Uc w1 w1.heap.size n0 k Pk w' → w'.cell? ⟨w.heap.size, 0, none⟩ = some (.slice (some ⟨b, off, none⟩) n0 c0) ∧ w'.cell? ⟨b, off + k * 4 + 3, none⟩ = some (.slice (AN k) 0 (CN k)) :=
            fun w' h => ⟨(X0.bel (bel_step h01 h.b)).cell 0 (by simp), bel_cellM (bel_step h01 h.b) hb d3⟩
          clear hr ht
          go_wp2
          refine wp_region_noPanic ?_
          refine wp_region_held_drew (S := fun w' => Uc w1 w1.heap.size n0 k Pk w') (by kernel_rfl) (Uc.drew g0) (fun hHeld => ?_)
          refine wpAnyH_take (i := 0) (oi := { dst := some 33, op := Go.Op.move (Go.Operand.tmp 6), type := 55, pos := "l02_data.go:205", after := #[], guard := none }) (v := ?vab0) rfl (by kernel_rfl) (by kernel_rfl) (by kernel_rfl) (fun _ _ _ h => h) (Or.inl ⟨by rfl, ?hab0⟩) hHeld ?rab0
          case hab0 => (intro w hSw; (try dsimp only at hSw); go_simp; try with_reducible rfl)
          try simp only [Act.put, List.setIfInBounds_toArray, List.set_cons_zero, List.set_cons_succ]
          refine wpAnyH_take (i := 1) (oi := { dst := some 34, op := Go.Op.move (Go.Operand.tmp 7), type := 3, pos := "l02_data.go:205", after := #[], guard := none }) (v := ?vab1) rfl (by kernel_rfl) (by kernel_rfl) (by kernel_rfl) (fun _ _ _ h => h) (Or.inl ⟨by rfl, ?hab1⟩) hHeld ?rab1
          case hab1 => (intro w hSw; (try dsimp only at hSw); go_simp; try with_reducible rfl)
          try simp only [Act.put, List.setIfInBounds_toArray, List.set_cons_zero, List.set_cons_succ]
          refine wpAnyH_take (i := 2) (oi := { dst := some 35, op := Go.Op.fieldAddr 36 (Go.Operand.tmp 2) 0, type := 0, pos := "l02_data.go:205", after := #[], guard := none }) (v := ?vab2) rfl (by kernel_rfl) (by kernel_rfl) (by kernel_rfl) (fun _ _ _ h => h) (Or.inl ⟨by rfl, ?hab2⟩) hHeld ?rab2
          case hab2 => (intro w hSw; (try dsimp only at hSw); go_simp; try with_reducible rfl)
          try simp only [Act.put, List.setIfInBounds_toArray, List.set_cons_zero, List.set_cons_succ]
          refine wpAnyH_take (i := 3) (oi := { dst := some 36, op := Go.Op.load 32 (Go.Operand.tmp 35), type := 32, pos := "l02_data.go:205", after := #[{ on := 2, ground := Go.Ground.data }], guard := none }) (v := ?vab3) rfl (by kernel_rfl) (by kernel_rfl) (by kernel_rfl) (fun _ _ _ h => h) (Or.inl ⟨by rfl, ?hab3⟩) hHeld ?rab3
          case hab3 => (intro w hSw; (try dsimp only at hSw); go_simp; try with_reducible rfl)
          try simp only [Act.put, List.setIfInBounds_toArray, List.set_cons_zero, List.set_cons_succ]
          refine wpAnyH_take (i := 4) (oi := { dst := some 37, op := Go.Op.move (Go.Operand.tmp 7), type := 3, pos := "l02_data.go:205", after := #[], guard := none }) (v := ?vab4) rfl (by kernel_rfl) (by kernel_rfl) (by kernel_rfl) (fun _ _ _ h => h) (Or.inl ⟨by rfl, ?hab4⟩) hHeld ?rab4
          case hab4 => (intro w hSw; (try dsimp only at hSw); go_simp; try with_reducible rfl)
          try simp only [Act.put, List.setIfInBounds_toArray, List.set_cons_zero, List.set_cons_succ]
          refine wpAnyH_take (i := 5) (oi := { dst := some 38, op := Go.Op.indexAddr 32 (Go.Operand.tmp 36) (Go.Operand.tmp 37), type := 0, pos := "l02_data.go:205", after := #[{ on := 3, ground := Go.Ground.data }, { on := 4, ground := Go.Ground.data }], guard := none }) (v := ?vab5) rfl (by kernel_rfl) (by kernel_rfl) (by kernel_rfl) (fun _ _ _ h => h) (Or.inl ⟨by rfl, ?hab5⟩) hHeld ?rab5
          case hab5 => (intro w hSw; (try dsimp only at hSw); go_simp; try with_reducible rfl)
          try simp only [Act.put, List.setIfInBounds_toArray, List.set_cons_zero, List.set_cons_succ]
          refine wpAnyH_take (i := 6) (oi := { dst := some 39, op := Go.Op.fieldAddr 58 (Go.Operand.tmp 38) 2, type := 0, pos := "l02_data.go:205", after := #[{ on := 5, ground := Go.Ground.data }], guard := none }) (v := ?vab6) rfl (by kernel_rfl) (by kernel_rfl) (by kernel_rfl) (fun _ _ _ h => h) (Or.inl ⟨by rfl, ?hab6⟩) hHeld ?rab6
          case hab6 => (intro w hSw; (try dsimp only at hSw); go_simp; try with_reducible rfl)
          try simp only [Act.put, List.setIfInBounds_toArray, List.set_cons_zero, List.set_cons_succ]
          refine wpAnyH_take (i := 7) (oi := { dst := some 40, op := Go.Op.load 56 (Go.Operand.tmp 39), type := 56, pos := "l02_data.go:205", after := #[{ on := 6, ground := Go.Ground.data }], guard := none }) (v := ?vab7) rfl (by kernel_rfl) (by kernel_rfl) (by kernel_rfl) (fun _ _ _ h => h) (Or.inl ⟨by rfl, ?hab7⟩) hHeld ?rab7
          case hab7 => (intro w hSw; (try dsimp only at hSw); go_simp; try with_reducible rfl)
          try simp only [Act.put, List.setIfInBounds_toArray, List.set_cons_zero, List.set_cons_succ]
          refine wpAnyH_take (i := 8) (oi := { dst := some 41, op := Go.Op.call { callee := Go.Callee.builtin Go.Builtin.len, args := #[Go.Operand.tmp 40], argTypes := #[56] }, type := 3, pos := "l02_data.go:205", after := #[{ on := 7, ground := Go.Ground.data }], guard := none }) (v := ?vab8) rfl (by kernel_rfl) (by kernel_rfl) (by kernel_rfl) (fun _ _ _ h => h) (Or.inl ⟨by rfl, ?hab8⟩) hHeld ?rab8
          case hab8 => (intro w hSw; (try dsimp only at hSw); go_simp; try with_reducible rfl)
          try simp only [Act.put, List.setIfInBounds_toArray, List.set_cons_zero, List.set_cons_succ]
          refine wpAnyH_take (i := 9) (oi := { dst := some 42, op := Go.Op.binOp Go.BinOp.gtr 3 (Go.Operand.tmp 41) (Go.Operand.const (Go.Value.int Go.IntKind.i64 0)) 3, type := 4, pos := "l02_data.go:205", after := #[{ on := 8, ground := Go.Ground.data }], guard := none }) (v := ?vab9) rfl (by kernel_rfl) (by kernel_rfl) (by kernel_rfl) (fun _ _ _ h => h) (Or.inl ⟨by rfl, ?hab9⟩) hHeld ?rab9
          case hab9 => (intro w hSw; (try dsimp only at hSw); go_simp; try with_reducible rfl)
          try simp only [Act.put, List.setIfInBounds_toArray, List.set_cons_zero, List.set_cons_succ]
          refine wpAnyH_take (i := 10) (oi := { dst := some 43, op := Go.Op.move (Go.Operand.tmp 42), type := 4, pos := "l02_data.go:205", after := #[{ on := 9, ground := Go.Ground.data }], guard := none }) (v := ?vab10) rfl (by kernel_rfl) (by kernel_rfl) (by kernel_rfl) (fun _ _ _ h => h) (Or.inl ⟨by rfl, ?hab10⟩) hHeld ?rab10
          case hab10 => (intro w hSw; (try dsimp only at hSw); go_simp; try with_reducible rfl)
          try simp only [Act.put, List.setIfInBounds_toArray, List.set_cons_zero, List.set_cons_succ]
          refine wpAnyH_take (i := 11) (oi := { dst := some 44, op := Go.Op.load 41 (Go.Operand.tmp 3), type := 41, pos := "l02_data.go:205", after := #[{ on := 10, ground := Go.Ground.guard }], guard := some (10, true) }) (v := undef) rfl (by kernel_rfl) (by kernel_rfl) (by kernel_rfl) (fun _ _ _ h => h) (Or.inr ⟨by rfl, rfl⟩) hHeld ?_
          try simp only [Act.put, List.setIfInBounds_toArray, List.set_cons_zero, List.set_cons_succ]
          refine wpAnyH_take (i := 12) (oi := { dst := some 45, op := Go.Op.fieldAddr 36 (Go.Operand.tmp 2) 0, type := 0, pos := "l02_data.go:205", after := #[{ on := 10, ground := Go.Ground.guard }], guard := some (10, true) }) (v := undef) rfl (by kernel_rfl) (by kernel_rfl) (by kernel_rfl) (fun _ _ _ h => h) (Or.inr ⟨by rfl, rfl⟩) hHeld ?_
          try simp only [Act.put, List.setIfInBounds_toArray, List.set_cons_zero, List.set_cons_succ]
          refine wpAnyH_take (i := 13) (oi := { dst := some 46, op := Go.Op.load 32 (Go.Operand.tmp 45), type := 32, pos := "l02_data.go:205", after := #[{ on := 12, ground := Go.Ground.data }, { on := 10, ground := Go.Ground.guard }], guard := some (10, true) }) (v := undef) rfl (by kernel_rfl) (by kernel_rfl) (by kernel_rfl) (fun _ _ _ h => h) (Or.inr ⟨by rfl, rfl⟩) hHeld ?_
          try simp only [Act.put, List.setIfInBounds_toArray, List.set_cons_zero, List.set_cons_succ]
          refine wpAnyH_take (i := 14) (oi := { dst := some 47, op := Go.Op.move (Go.Operand.tmp 7), type := 3, pos := "l02_data.go:205", after := #[{ on := 10, ground := Go.Ground.guard }], guard := some (10, true) }) (v := undef) rfl (by kernel_rfl) (by kernel_rfl) (by kernel_rfl) (fun _ _ _ h => h) (Or.inr ⟨by rfl, rfl⟩) hHeld ?_
          try simp only [Act.put, List.setIfInBounds_toArray, List.set_cons_zero, List.set_cons_succ]
          refine wpAnyH_take (i := 15) (oi := { dst := some 48, op := Go.Op.indexAddr 32 (Go.Operand.tmp 46) (Go.Operand.tmp 47), type := 0, pos := "l02_data.go:205", after := #[{ on := 13, ground := Go.Ground.data }, { on := 14, ground := Go.Ground.data }, { on := 10, ground := Go.Ground.guard }], guard := some (10, true) }) (v := undef) rfl (by kernel_rfl) (by kernel_rfl) (by kernel_rfl) (fun _ _ _ h => h) (Or.inr ⟨by rfl, rfl⟩) hHeld ?_
          try simp only [Act.put, List.setIfInBounds_toArray, List.set_cons_zero, List.set_cons_succ]
          refine wpAnyH_take (i := 16) (oi := { dst := some 49, op := Go.Op.fieldAddr 58 (Go.Operand.tmp 48) 1, type := 0, pos := "l02_data.go:205", after := #[{ on := 15, ground := Go.Ground.data }, { on := 10, ground := Go.Ground.guard }], guard := some (10, true) }) (v := undef) rfl (by kernel_rfl) (by kernel_rfl) (by kernel_rfl) (fun _ _ _ h => h) (Or.inr ⟨by rfl, rfl⟩) hHeld ?_
          try simp only [Act.put, List.setIfInBounds_toArray, List.set_cons_zero, List.set_cons_succ]
          refine wpAnyH_take (i := 17) (oi := { dst := some 50, op := Go.Op.load 39 (Go.Operand.tmp 49), type := 39, pos := "l02_data.go:205", after := #[{ on := 16, ground := Go.Ground.data }, { on := 10, ground := Go.Ground.guard }], guard := some (10, true) }) (v := undef) rfl (by kernel_rfl) (by kernel_rfl) (by kernel_rfl) (fun _ _ _ h => h) (Or.inr ⟨by rfl, rfl⟩) hHeld ?_
          try simp only [Act.put, List.setIfInBounds_toArray, List.set_cons_zero, List.set_cons_succ]
          refine wpAnyH_take (i := 18) (oi := { dst := some 51, op := Go.Op.call { callee := Go.Callee.value (Go.Operand.func 22), args := #[Go.Operand.tmp 44, Go.Operand.tmp 50], argTypes := #[41, 39] }, type := 4, pos := "l02_data.go:205", after := #[{ on := 11, ground := Go.Ground.data }, { on := 17, ground := Go.Ground.data }, { on := 10, ground := Go.Ground.chain }, { on := 10, ground := Go.Ground.guard }], guard := some (10, true) }) (v := undef) rfl (by kernel_rfl) (by kernel_rfl) (by kernel_rfl) (fun _ _ _ h => h) (Or.inr ⟨by rfl, rfl⟩) hHeld ?_
          try simp only [Act.put, List.setIfInBounds_toArray, List.set_cons_zero, List.set_cons_succ]
          refine wpAnyH_take (i := 19) (oi := { dst := some 52, op := Go.Op.pick (Go.Operand.tmp 43) (Go.Operand.tmp 51) (Go.Operand.const (Go.Value.bool false)), type := 4, pos := "l02_data.go:205", after := #[{ on := 10, ground := Go.Ground.data }, { on := 18, ground := Go.Ground.data }], guard := none }) (v := ?vab19) rfl (by kernel_rfl) (by kernel_rfl) (by kernel_rfl) (fun _ _ _ h => h) (Or.inl ⟨by rfl, ?hab19⟩) hHeld ?rab19
          case hab19 => (intro w hSw; (try dsimp only at hSw); go_simp; try with_reducible rfl)
          try simp only [Act.put, List.setIfInBounds_toArray, List.set_cons_zero, List.set_cons_succ]
          refine wpAnyH_take (i := 20) (oi := { dst := some 53, op := Go.Op.indexAddr 55 (Go.Operand.tmp 33) (Go.Operand.tmp 34), type := 0, pos := "l02_data.go:205", after := #[{ on := 0, ground := Go.Ground.data }, { on := 1, ground := Go.Ground.data }, { on := 0, ground := Go.Ground.phase }, { on := 1, ground := Go.Ground.phase }, { on := 2, ground := Go.Ground.phase }, { on := 3, ground := Go.Ground.phase }, { on := 4, ground := Go.Ground.phase }, { on := 5, ground := Go.Ground.phase }, { on := 6, ground := Go.Ground.phase }, { on := 7, ground := Go.Ground.phase }, { on := 8, ground := Go.Ground.phase }, { on := 9, ground := Go.Ground.phase }, { on := 10, ground := Go.Ground.phase }, { on := 11, ground := Go.Ground.phase }, { on := 12, ground := Go.Ground.phase }, { on := 13, ground := Go.Ground.phase }, { on := 14, ground := Go.Ground.phase }, { on := 15, ground := Go.Ground.phase }, { on := 16, ground := Go.Ground.phase }, { on := 17, ground := Go.Ground.phase }, { on := 18, ground := Go.Ground.phase }, { on := 19, ground := Go.Ground.phase }], guard := none }) (v := ?vab20) rfl (by kernel_rfl) (by kernel_rfl) (by kernel_rfl) (fun _ _ _ h => h) (Or.inl ⟨by rfl, ?hab20⟩) hHeld ?rab20
          case hab20 => (intro w hSw; (try dsimp only at hSw); go_simp; try with_reducible rfl)
          try simp only [Act.put, List.setIfInBounds_toArray, List.set_cons_zero, List.set_cons_succ]
          refine wpAnyH_ready (rs := [21]) (by kernel_rfl) (by simp) ?_
          refine AllReadyH.cons (o := { dst := none, op := Go.Op.store 4 (Go.Operand.tmp 53) (Go.Operand.tmp 52), type := 0, pos := "l02_data.go:205", after := #[{ on := 20, ground := Go.Ground.data }, { on := 19, ground := Go.Ground.data }, { on := 18, ground := Go.Ground.chain }, { on := 0, ground := Go.Ground.phase }, { on := 1, ground := Go.Ground.phase }, { on := 2, ground := Go.Ground.phase }, { on := 3, ground := Go.Ground.phase }, { on := 4, ground := Go.Ground.phase }, { on := 5, ground := Go.Ground.phase }, { on := 6, ground := Go.Ground.phase }, { on := 7, ground := Go.Ground.phase }, { on := 8, ground := Go.Ground.phase }, { on := 9, ground := Go.Ground.phase }, { on := 10, ground := Go.Ground.phase }, { on := 11, ground := Go.Ground.phase }, { on := 12, ground := Go.Ground.phase }, { on := 13, ground := Go.Ground.phase }, { on := 14, ground := Go.Ground.phase }, { on := 15, ground := Go.Ground.phase }, { on := 16, ground := Go.Ground.phase }, { on := 17, ground := Go.Ground.phase }, { on := 18, ground := Go.Ground.phase }, { on := 19, ground := Go.Ground.phase }], guard := none }) rfl (fun K hK => ?_) AllReadyH.nil
          go_simp
          refine hK.out _ _ (Uc.set hHeld (Nat.le_refl _) false) (fun hHeld' => ?_)
          clear hK K hHeld
          have hHeld := hHeld'
          clear hHeld'
          try simp only [Act.put, List.setIfInBounds_toArray, List.set_cons_zero, List.set_cons_succ]
          refine wpAnyH_done (by kernel_rfl) ?_ _
          refine NoPanic.normal ?_
          have HR1 : Hid ((wr.drew.setCell ⟨w1.heap.size, k, none⟩ (.bool false)).rowIs w1.heap.size 4 n0 (fun j => .bool (rowN0 m q (k + 1) j))) := (HRw.out.drew.set k (.bool false)).congr fun i _ => by rw [← HSt.out false (Pk i) i HNI.out]; by_cases e : i = k <;> simp [e]
          have hB1 := hHeld.b
          clear hHeld hR u0 z0 g0
          go_wp2
          go_roundw
          case rel => exact ⟨k + 1, by omega, by go_num, HR1.out, hB1⟩
          case measure => simp [intOf]; omega
        · obtain ⟨r, Hr⟩ : ∃ r, Hid (ptB q d.x d.y = r) := ⟨_, (rfl : ptB q d.x d.y = _)⟩
          have HNI : Hid (bP (nIn q d) = r) := by
            cases r
            · exact bP_false fun h => by have := h.2; rw [Hr.out] at this; cases this
            · exact bP_true ⟨ht, Hr.out⟩
          have hgt : (0 : Int) < (d.tags.length : Int) := by omega
          have hgn : 0 < d.tags.length := by omega
          have hR : ∀ w', Uc w1 w1.heap.size n0 k Pk w' → w'.cell? ⟨w.heap.size, 0, none⟩ = some (.slice (some ⟨b, off, none⟩) n0 c0) ∧ w'.cell? ⟨b, off + k * 4 + 3, none⟩ = some (.slice (AN k) d.tags.length (CN k)) ∧ w'.cell? ⟨b, off + k * 4 + 1, none⟩ = some (.int .i64 d.x) ∧ w'.cell? ⟨b, off + k * 4 + 2, none⟩ = some (.int .i64 d.y) ∧ w'.cell? ⟨w.heap.size + 1, 0, none⟩ = some (.int .i64 q.a) ∧ w'.cell? ⟨w.heap.size + 1, 1, none⟩ = some (.int .i64 q.b) ∧ w'.cell? ⟨w.heap.size + 1, 2, none⟩ = some (.int .i64 q.c) ∧ w'.cell? ⟨w.heap.size + 1, 3, none⟩ = some (.int .i64 q.d) ∧ w'.frozen? ⟨w1.heap.size, k, none⟩ = false :=
            fun w' h => ⟨(X0.bel (bel_step h01 h.b)).cell 0 (by simp), bel_cellM (bel_step h01 h.b) hb d3, bel_cellM (bel_step h01 h.b) hb ex, bel_cellM (bel_step h01 h.b) hb ey, (XB.bel (bel_step h01 h.b)).cell 0 (by simp), (XB.bel (bel_step h01 h.b)).cell 1 (by simp), (XB.bel (bel_step h01 h.b)).cell 2 (by simp), (XB.bel (bel_step h01 h.b)).cell 3 (by simp), by obtain ⟨_, r⟩ := h.r; exact r.frozen _⟩
          clear hr u0 z0
          go_wp2
          go_region_held3 (fun w' => Uc w1 w1.heap.size n0 k Pk w') (with_reducible (repeat (first | assumption | exact g0 | refine Uc.drew ?_ | refine Uc.set ?_ (Nat.le_refl _) _ | refine Uc.bel (by assumption) (by assumption))))
            (first
              | (go_at_call 22; refine (l2In_any q _ _ _).mono ?_; rintro e w6 ⟨rfl, hb6⟩; rw [Hr.out]; obtain ⟨cb, hcb⟩ := (Uc.bel (W := w1) (B := w1.heap.size) (n := n0) (j0 := k) (p := Pk) (by assumption) hb6).r; have v0 : w6.cell? ⟨w1.heap.size, k, none⟩ = some (.bool (if k = k then cb else Pk k)) := hcb.cell hlt))
          have hF : Uc w1 w1.heap.size n0 k Pk (w6.setCell ⟨w1.heap.size, k, none⟩ (.bool r)) := by assumption
          have HR1 : Hid ((w6.setCell ⟨w1.heap.size, k, none⟩ (.bool r)).rowIs w1.heap.size 4 n0 (fun j => .bool (rowN0 m q (k + 1) j))) := (hcb.set k (.bool r)).congr fun i _ => HSt.out r cb i HNI.out
          have hB1 := hF.b
          clear hF v0 hcb hb6 hR g0
          go_wp2
          go_roundw
          case rel => exact ⟨k + 1, by omega, by go_num, HR1.out, hB1⟩
          case measure => simp [intOf]; omega
      · have e : n0 = k := by omega
        subst e
        have hr2 : wr.rowIs w1.heap.size 4 n0 (fun j => .bool (rowP m q 0 j)) := hr.congr fun j hj => by rw [rowN0_fin m q hj]
        have hK2 : Kq 3 WayV 62 (w.heap.size + 1 + 1 + 1) w1 (w1.heap.size + 1) [.slice none 0 0] [.slice none 0 0] wr (.slice none 0 0) ((m.ways.take 0).filter (keptW m q)) (fun _ => List.replicate 3 (.bool false)) (fun _ => []) :=
          Kq.start 3 WayV 62 (pre := [.slice none 0 0]) (post := [.slice none 0 0]) (XK1.bel hBr) (grown_of_bel hBr _) (Nat.succ_le_of_lt hr.lt)
        have XRr := XR1.bel hBr
        clear hr
        go_wp2
        go_loopw [8, 9, 10, 11, 12] (fun i _ _ _ _ wr => ∃ (k : Nat) (v : Value) (R : Nat → List Value) (f : Nat → List Nat), k ≤ n1 ∧ i = .int .i64 k ∧ Kq 3 WayV 62 (w.heap.size + 1 + 1 + 1) w1 (w1.heap.size + 1) [.slice none 0 0] [.slice none 0 0] wr v ((m.ways.take k).filter (keptW m q)) R f ∧ wr.rowIs w1.heap.size 4 n0 (fun j => .bool (rowP m q k j))) (fun i _ _ _ _ _ => n1 - (intOf i).toNat)
        case atStart => exact ⟨0, _, _, _, Nat.zero_le _, rfl, hK2, hr2⟩
        case round =>
          clear hK2 hr2 hBr h0r XRr o0
          obtain ⟨k, vv, R, f, hk, rfl, hKq, hr⟩ := hrel
          have h0r : Bel W0 wr := bel_grow h01 hKq.far (fun j e => by injection e with e; omega)
          have o1 : wr.cell? ⟨w.heap.size, 1, none⟩ = some (.slice a1 n1 c1) := (X0.bel h0r).cell 1 (by simp)
          by_cases hlt : k < n1
          · have hkl : k < m.ways.length := by rw [H1.out]; exact hlt
            obtain ⟨b, off, rfl, hb, id0, d0, hml2, hml, d1, tt2, d2, tt⟩ := HX.out k hkl
            obtain ⟨d, Hd⟩ : ∃ d, Hid (d = m.ways[k]) := ⟨_, (rfl : m.ways[k] = _)⟩
            have HYk := HY.out k hkl
            have hul := HU1.out k hkl
            have HFy : Hid (keptW m q d = true → (m.ways.take (k + 1)).filter (keptW m q) = (m.ways.take k).filter (keptW m q) ++ [d]) := fun e => by rw [Hd.out] at e ⊢; exact filt_yes hkl e
            have HFn : Hid (keptW m q d = false → (m.ways.take (k + 1)).filter (keptW m q) = (m.ways.take k).filter (keptW m q)) := fun e => by rw [Hd.out] at e; exact filt_no hkl e
            have HWK : Hid (keptW m q d = wInB m q d) := by rw [Hd.out]; exact wkeep HOK.out hkl
            rw [← Hd.out] at d0 d1 d2 tt tt2 HYk id0 hml hml2 hul
            have HYK : Hid _ := HYk
            obtain ⟨n3, hn3⟩ : ∃ n, d.nodes.length = n := ⟨_, rfl⟩
            have H3 : Hid (d.nodes.length = n3) := hn3
            have hnl : n3 ≤ 2000 := by rw [← hn3]; exact HYk.1
            rw [hn3] at d1
            have HT1 : Hid (Ints W0 (A k) d.nodes (f1 k)) := tt2
            have HT2 : Hid (Tags W0 (A' k) d.tags (f2 k)) := tt
            have d0 := bel_cellM h0r hb d0
            have d1 := bel_cellM h0r hb d1
            have d2 := bel_cellM h0r hb d2
            have hlt' : (k : Int) < (n1 : Int) := by omega
            obtain ⟨Q, HQW⟩ : ∃ Q, Hid (Q = wr.alloc (.cells #[.int .i64 d.id, .slice (A k) n3 (C k), .slice (A' k) d.tags.length (C' k)] 62)) := ⟨_, (rfl : wr.alloc (.cells #[.int .i64 d.id, .slice (A k) n3 (C k), .slice (A' k) d.tags.length (C' k)] 62) = _)⟩
            have hBQ : Bel wr Q := by rw [HQW.out]; exact bel_alloc (Bel.refl _) _
            have XQ : Blk Q wr.heap.size [.int .i64 d.id, .slice (A k) n3 (C k), .slice (A' k) d.tags.length (C' k)] := by rw [HQW.out]; exact Blk.new wr [.int .i64 d.id, .slice (A k) n3 (C k), .slice (A' k) d.tags.length (C' k)] _
            have h0Q := bel_step h0r hBQ
            have hln := filt_len (keptW m q) m.ways k
            obtain ⟨L, HLq⟩ : ∃ L, Hid ((m.ways.take k).filter (keptW m q) = L) := ⟨_, (rfl : (m.ways.take k).filter (keptW m q) = _)⟩
            rw [HLq.out] at hKq hln HFy HFn
            have HKq : Hid (Kq 3 WayV 62 (w.heap.size + 1 + 1 + 1) w1 (w1.heap.size + 1) [.slice none 0 0] [.slice none 0 0] wr vv L R f) := hKq
            have HRr : Hid (wr.rowIs w1.heap.size 4 n0 (fun j => .bool (rowP m q k j))) := hr
            clear hKq hr tt tt2 hn3 HYk
            go_wp2
            rw [← HQW.out]
            obtain ⟨Z, rfl⟩ : ∃ U, U = wr := ⟨_, rfl⟩
            have hZB : Z.heap.size ≠ w1.heap.size := by have := HRr.out.lt; omega
            go_loopw [10, 11] (fun r i wq => ∃ t : Nat, t ≤ n3 ∧ r = .bool ((rowTo m.nodes d.nodes t).any fun p => ptB q p.x p.y) ∧ i = .int .i64 t ∧ Bel Q wq) (fun _ i _ => n3 - (intOf i).toNat)
            case atStart => exact ⟨0, Nat.zero_le _, rfl, rfl, Bel.refl _⟩
            case round =>
              clear o1 d0 d1 d2
              obtain ⟨t, ht, rfl, rfl, hBq⟩ := hrel
              have y1 : wr.cell? ⟨Z.heap.size, 1, none⟩ = some (.slice (A k) n3 (C k)) := (XQ.bel hBq).cell 1 (by simp)
              by_cases hlq : t < n3
              · have hql : t < d.nodes.length := by rw [H3.out]; exact hlq
                obtain ⟨b', off', f', hAk, hb', hx'⟩ := HT1.out.out hql
                obtain ⟨_, _, cx⟩ := hx' t hql
                rw [Nat.mul_one] at cx
                obtain ⟨j0, hj0, hI0⟩ := HYK.out.2 t hql
                obtain ⟨x, Hx⟩ : ∃ x, Hid (x = d.nodes[t]) := ⟨_, (rfl : d.nodes[t] = _)⟩
                have HAS : Hid (((rowTo m.nodes d.nodes (t + 1)).any fun p => ptB q p.x p.y) = (((rowTo m.nodes d.nodes t).any fun p => ptB q p.x p.y) || ptB q (ptI m.nodes d.nodes[t]).x (ptI m.nodes d.nodes[t]).y)) := any_succ hql
                rw [← Hx.out] at cx hI0 HAS
                have HP0 : Hid (posI (nId m.nodes) m.nodes.length x = (j0 : Int)) := by rw [← hI0]; exact posI_at HA.out hj0
                have HPt : Hid (ptI m.nodes x = ⟨m.nodes[j0].x, m.nodes[j0].y⟩) := ptI_at HA.out hj0 hI0
                obtain ⟨bn, offn, hbna, hbn, _, _, _, _, ex, ey, _⟩ := HN.out j0 hj0
                have HBN : Hid (a0 = some ⟨bn, offn, none⟩) := hbna
                have HAK : Hid (A k = some ⟨b', off', none⟩) := hAk
                obtain ⟨e, He⟩ : ∃ e, Hid (e = m.nodes[j0]) := ⟨_, (rfl : m.nodes[j0] = _)⟩
                rw [← He.out] at ex ey HPt
                rw [HPt.out] at HAS
                have hj1 : (j0 : Int) < (n0 : Int) := by have := H0.out; omega
                have hlq' : (t : Int) < (n3 : Int) := by omega
                have h0q := bel_step h0Q hBq
                rw [hAk] at y1
                clear hAk hbna
                obtain ⟨s, Hs⟩ : ∃ s, Hid (((rowTo m.nodes d.nodes t).any fun p => ptB q p.x p.y) = s) := ⟨_, (rfl : ((rowTo m.nodes d.nodes t).any fun p => ptB q p.x p.y) = _)⟩
                rw [Hs.out] at HAS ⊢
                have g0 : Bel wr wr := Bel.refl _
                clear hx' hI0
                cases s
                · obtain ⟨r2, Hr2⟩ : ∃ r, Hid (ptB q e.x e.y = r) := ⟨_, (rfl : ptB q e.x e.y = _)⟩
                  have hR : ∀ w', Bel wr w' → w'.cell? ⟨w.heap.size, 0, none⟩ = some (.slice (some ⟨bn, offn, none⟩) n0 c0) ∧ w'.cell? ⟨w.heap.size, 1, none⟩ = some (.slice (some ⟨b, off, none⟩) n1 c1) ∧ w'.cell? ⟨w.heap.size, 2, none⟩ = some (.slice a2 n2 c2) ∧ w'.cell? ⟨Z.heap.size, 1, none⟩ = some (.slice (some ⟨b', off', none⟩) n3 (C k)) ∧ w'.cell? ⟨b', off' + t, none⟩ = some (.int .i64 x) ∧ w'.cell? ⟨bn, offn + j0 * 4 + 1, none⟩ = some (.int .i64 e.x) ∧ w'.cell? ⟨bn, offn + j0 * 4 + 2, none⟩ = some (.int .i64 e.y) ∧ w'.cell? ⟨w.heap.size + 1, 0, none⟩ = some (.int .i64 q.a) ∧ w'.cell? ⟨w.heap.size + 1, 1, none⟩ = some (.int .i64 q.b) ∧ w'.cell? ⟨w.heap.size + 1, 2, none⟩ = some (.int .i64 q.c) ∧ w'.cell? ⟨w.heap.size + 1, 3, none⟩ = some (.int .i64 q.d) :=
                    fun w' h => ⟨by rw [← HBN.out]; exact (X0.bel (bel_step h0q h)).cell 0 (by simp), (X0.bel (bel_step h0q h)).cell 1 (by simp), (X0.bel (bel_step h0q h)).cell 2 (by simp), by rw [← HAK.out]; exact (XQ.bel (bel_step hBq h)).cell 1 (by simp), bel_cellM (bel_step h0q h) hb' cx, bel_cellM (bel_step h0q h) hbn ex, bel_cellM (bel_step h0q h) hbn ey, (XB.bel (bel_step h0q h)).cell 0 (by simp), (XB.bel (bel_step h0q h)).cell 1 (by simp), (XB.bel (bel_step h0q h)).cell 2 (by simp), (XB.bel (bel_step h0q h)).cell 3 (by simp)⟩
                  have hMV : ∀ w', Bel wr w' → MapV w' (.agg #[.slice (some ⟨bn, offn, none⟩) n0 c0, .slice (some ⟨b, off, none⟩) n1 c1, .slice a2 n2 c2]) m bs := fun w' h => by rw [← HBN.out]; exact HV.out.bel (bel_step h0q h)
                  clear cx ex ey
                  go_wp2
                  go_region_held3 (fun w' => Bel wr w') (with_reducible (repeat (first | assumption | exact g0 | refine Bel.drew ?_ | refine bel_then (by assumption) ?_)))
                    (first
                      | (go_at_call 23; refine (l2Node_at _ m bs _ j0 _ (hMV _ (by assumption)) hl0.out HA.out HP0.out).mono ?_; rintro e w5 ⟨rfl, hb5⟩)
                      | (go_at_call 22; refine (l2In_any q _ _ _).mono ?_; rintro e w6 ⟨rfl, hb6⟩; rw [Hr2.out]))
                  have h6 : Bel wr w6 := by assumption
                  have HRR : Hid (((rowTo m.nodes d.nodes (t + 1)).any fun p => ptB q p.x p.y) = r2) := HAS.out.trans Hr2.out
                  clear hR hMV hb5 hb6
                  go_wp2
                  go_roundw
                  case rel => exact ⟨t + 1, by omega, by rw [HRR.out], by go_num, bel_step hBq h6⟩
                  case measure => simp [intOf]; omega
                · have HRR : Hid (((rowTo m.nodes d.nodes (t + 1)).any fun p => ptB q p.x p.y) = true) := HAS.out.trans (Bool.true_or _)
                  clear cx ex ey
                  go_wp2
                  refine wp_region_noPanic ?_
                  refine wp_region_held_drew (S := fun w' => Bel wr w') (by kernel_rfl) (Bel.drew g0) (fun hHeld => ?_)
                  refine wpAnyH_take (i := 0) (oi := { dst := some 73, op := Go.Op.move (Go.Operand.tmp 10), type := 4, pos := "l02_data.go:211", after := #[], guard := none }) (v := ?vac0) rfl (by kernel_rfl) (by kernel_rfl) (by kernel_rfl) (fun _ _ _ h => h) (Or.inl ⟨by rfl, ?hac0⟩) hHeld ?rac0
                  case hac0 => (intro w hSw; (try dsimp only at hSw); go_simp; try with_reducible rfl)
                  try simp only [Act.put, List.setIfInBounds_toArray, List.set_cons_zero, List.set_cons_succ]
                  refine wpAnyH_take (i := 1) (oi := { dst := some 74, op := Go.Op.move (Go.Operand.tmp 73), type := 4, pos := "l02_data.go:211", after := #[{ on := 0, ground := Go.Ground.data }], guard := none }) (v := ?vac1) rfl (by kernel_rfl) (by kernel_rfl) (by kernel_rfl) (fun _ _ _ h => h) (Or.inl ⟨by rfl, ?hac1⟩) hHeld ?rac1
                  case hac1 => (intro w hSw; (try dsimp only at hSw); go_simp; try with_reducible rfl)
                  try simp only [Act.put, List.setIfInBounds_toArray, List.set_cons_zero, List.set_cons_succ]
                  refine wpAnyH_take (i := 2) (oi := { dst := some 75, op := Go.Op.load 41 (Go.Operand.tmp 3), type := 41, pos := "l02_data.go:211", after := #[{ on := 1, ground := Go.Ground.guard }], guard := some (1, false) }) (v := undef) rfl (by kernel_rfl) (by kernel_rfl) (by kernel_rfl) (fun _ _ _ h => h) (Or.inr ⟨by rfl, rfl⟩) hHeld ?_
                  try simp only [Act.put, List.setIfInBounds_toArray, List.set_cons_zero, List.set_cons_succ]
                  refine wpAnyH_take (i := 3) (oi := { dst := some 76, op := Go.Op.fieldAddr 36 (Go.Operand.tmp 2) 0, type := 0, pos := "l02_data.go:211", after := #[{ on := 1, ground := Go.Ground.guard }], guard := some (1, false) }) (v := undef) rfl (by kernel_rfl) (by kernel_rfl) (by kernel_rfl) (fun _ _ _ h => h) (Or.inr ⟨by rfl, rfl⟩) hHeld ?_
                  try simp only [Act.put, List.setIfInBounds_toArray, List.set_cons_zero, List.set_cons_succ]
                  refine wpAnyH_take (i := 4) (oi := { dst := some 77, op := Go.Op.load 32 (Go.Operand.tmp 76), type := 32, pos := "l02_data.go:211", after := #[{ on := 3, ground := Go.Ground.data }, { on := 1, ground := Go.Ground.guard }], guard := some (1, false) }) (v := undef) rfl (by kernel_rfl) (by kernel_rfl) (by kernel_rfl) (fun _ _ _ h => h) (Or.inr ⟨by rfl, rfl⟩) hHeld ?_
                  try simp only [Act.put, List.setIfInBounds_toArray, List.set_cons_zero, List.set_cons_succ]
                  refine wpAnyH_take (i := 5) (oi := { dst := some 78, op := Go.Op.load 36 (Go.Operand.tmp 2), type := 36, pos := "l02_data.go:211", after := #[{ on := 1, ground := Go.Ground.guard }], guard := some (1, false) }) (v := undef) rfl (by kernel_rfl) (by kernel_rfl) (by kernel_rfl) (fun _ _ _ h => h) (Or.inr ⟨by rfl, rfl⟩) hHeld ?_
                  try simp only [Act.put, List.setIfInBounds_toArray, List.set_cons_zero, List.set_cons_succ]
                  refine wpAnyH_take (i := 6) (oi := { dst := some 79, op := Go.Op.fieldAddr 62 (Go.Operand.tmp 9) 1, type := 0, pos := "l02_data.go:211", after := #[{ on := 1, ground := Go.Ground.guard }], guard := some (1, false) }) (v := undef) rfl (by kernel_rfl) (by kernel_rfl) (by kernel_rfl) (fun _ _ _ h => h) (Or.inr ⟨by rfl, rfl⟩) hHeld ?_
                  try simp only [Act.put, List.setIfInBounds_toArray, List.set_cons_zero, List.set_cons_succ]
                  refine wpAnyH_take (i := 7) (oi := { dst := some 80, op := Go.Op.load 60 (Go.Operand.tmp 79), type := 60, pos := "l02_data.go:211", after := #[{ on := 6, ground := Go.Ground.data }, { on := 1, ground := Go.Ground.guard }], guard := some (1, false) }) (v := undef) rfl (by kernel_rfl) (by kernel_rfl) (by kernel_rfl) (fun _ _ _ h => h) (Or.inr ⟨by rfl, rfl⟩) hHeld ?_
                  try simp only [Act.put, List.setIfInBounds_toArray, List.set_cons_zero, List.set_cons_succ]
                  refine wpAnyH_take (i := 8) (oi := { dst := some 81, op := Go.Op.move (Go.Operand.tmp 11), type := 3, pos := "l02_data.go:211", after := #[{ on := 1, ground := Go.Ground.guard }], guard := some (1, false) }) (v := undef) rfl (by kernel_rfl) (by kernel_rfl) (by kernel_rfl) (fun _ _ _ h => h) (Or.inr ⟨by rfl, rfl⟩) hHeld ?_
                  try simp only [Act.put, List.setIfInBounds_toArray, List.set_cons_zero, List.set_cons_succ]
                  refine wpAnyH_take (i := 9) (oi := { dst := some 82, op := Go.Op.indexAddr 60 (Go.Operand.tmp 80) (Go.Operand.tmp 81), type := 0, pos := "l02_data.go:211", after := #[{ on := 7, ground := Go.Ground.data }, { on := 8, ground := Go.Ground.data }, { on := 1, ground := Go.Ground.guard }], guard := some (1, false) }) (v := undef) rfl (by kernel_rfl) (by kernel_rfl) (by kernel_rfl) (fun _ _ _ h => h) (Or.inr ⟨by rfl, rfl⟩) hHeld ?_
                  try simp only [Act.put, List.setIfInBounds_toArray, List.set_cons_zero, List.set_cons_succ]
                  refine wpAnyH_take (i := 10) (oi := { dst := some 83, op := Go.Op.load 2 (Go.Operand.tmp 82), type := 2, pos := "l02_data.go:211", after := #[{ on := 9, ground := Go.Ground.data }, { on := 1, ground := Go.Ground.guard }], guard := some (1, false) }) (v := undef) rfl (by kernel_rfl) (by kernel_rfl) (by kernel_rfl) (fun _ _ _ h => h) (Or.inr ⟨by rfl, rfl⟩) hHeld ?_
                  try simp only [Act.put, List.setIfInBounds_toArray, List.set_cons_zero, List.set_cons_succ]
                  refine wpAnyH_take (i := 11) (oi := { dst := some 84, op := Go.Op.call { callee := Go.Callee.value (Go.Operand.func 23), args := #[Go.Operand.tmp 78, Go.Operand.tmp 83], argTypes := #[36, 2] }, type := 3, pos := "l02_data.go:211", after := #[{ on := 5, ground := Go.Ground.data }, { on := 10, ground := Go.Ground.data }, { on := 1, ground := Go.Ground.chain }, { on := 1, ground := Go.Ground.guard }], guard := some (1, false) }) (v := undef) rfl (by kernel_rfl) (by kernel_rfl) (by kernel_rfl) (fun _ _ _ h => h) (Or.inr ⟨by rfl, rfl⟩) hHeld ?_
                  try simp only [Act.put, List.setIfInBounds_toArray, List.set_cons_zero, List.set_cons_succ]
                  refine wpAnyH_take (i := 12) (oi := { dst := some 85, op := Go.Op.indexAddr 32 (Go.Operand.tmp 77) (Go.Operand.tmp 84), type := 0, pos := "l02_data.go:211", after := #[{ on := 4, ground := Go.Ground.data }, { on := 11, ground := Go.Ground.data }, { on := 1, ground := Go.Ground.guard }], guard := some (1, false) }) (v := undef) rfl (by kernel_rfl) (by kernel_rfl) (by kernel_rfl) (fun _ _ _ h => h) (Or.inr ⟨by rfl, rfl⟩) hHeld ?_
                  try simp only [Act.put, List.setIfInBounds_toArray, List.set_cons_zero, List.set_cons_succ]
                  refine wpAnyH_take (i := 13) (oi := { dst := some 86, op := Go.Op.fieldAddr 58 (Go.Operand.tmp 85) 1, type := 0, pos := "l02_data.go:211", after := #[{ on := 12, ground := Go.Ground.data }, { on := 1, ground := Go.Ground.guard }], guard := some (1, false) }) (v := undef) rfl (by kernel_rfl) (by kernel_rfl) (by kernel_rfl) (fun _ _ _ h => h) (Or.inr ⟨by rfl, rfl⟩) hHeld ?_
                  try simp only [Act.put, List.setIfInBounds_toArray, List.set_cons_zero, List.set_cons_succ]
                  refine wpAnyH_take (i := 14) (oi := { dst := some 87, op := Go.Op.load 39 (Go.Operand.tmp 86), type := 39, pos := "l02_data.go:211", after := #[{ on := 13, ground := Go.Ground.data }, { on := 1, ground := Go.Ground.guard }], guard := some (1, false) }) (v := undef) rfl (by kernel_rfl) (by kernel_rfl) (by kernel_rfl) (fun _ _ _ h => h) (Or.inr ⟨by rfl, rfl⟩) hHeld ?_
                  try simp only [Act.put, List.setIfInBounds_toArray, List.set_cons_zero, List.set_cons_succ]
                  refine wpAnyH_take (i := 15) (oi := { dst := some 88, op := Go.Op.call { callee := Go.Callee.value (Go.Operand.func 22), args := #[Go.Operand.tmp 75, Go.Operand.tmp 87], argTypes := #[41, 39] }, type := 4, pos := "l02_data.go:211", after := #[{ on := 2, ground := Go.Ground.data }, { on := 14, ground := Go.Ground.data }, { on := 11, ground := Go.Ground.chain }, { on := 1, ground := Go.Ground.guard }], guard := some (1, false) }) (v := undef) rfl (by kernel_rfl) (by kernel_rfl) (by kernel_rfl) (fun _ _ _ h => h) (Or.inr ⟨by rfl, rfl⟩) hHeld ?_
                  try simp only [Act.put, List.setIfInBounds_toArray, List.set_cons_zero, List.set_cons_succ]
                  refine wpAnyH_take (i := 16) (oi := { dst := some 89, op := Go.Op.pick (Go.Operand.tmp 74) (Go.Operand.const (Go.Value.bool true)) (Go.Operand.tmp 88), type := 4, pos := "l02_data.go:211", after := #[{ on := 1, ground := Go.Ground.data }, { on := 15, ground := Go.Ground.data }], guard := none }) (v := ?vac16) rfl (by kernel_rfl) (by kernel_rfl) (by kernel_rfl) (fun _ _ _ h => h) (Or.inl ⟨by rfl, ?hac16⟩) hHeld ?rac16
                  case hac16 => (intro w hSw; (try dsimp only at hSw); go_simp; try with_reducible rfl)
                  try simp only [Act.put, List.setIfInBounds_toArray, List.set_cons_zero, List.set_cons_succ]
                  refine wpAnyH_take (i := 17) (oi := { dst := some 10, op := Go.Op.assign (Go.Operand.tmp 89), type := 4, pos := "l02_data.go:211", after := #[{ on := 16, ground := Go.Ground.data }, { on := 15, ground := Go.Ground.chain }, { on := 0, ground := Go.Ground.phase }, { on := 1, ground := Go.Ground.phase }, { on := 2, ground := Go.Ground.phase }, { on := 3, ground := Go.Ground.phase }, { on := 4, ground := Go.Ground.phase }, { on := 5, ground := Go.Ground.phase }, { on := 6, ground := Go.Ground.phase }, { on := 7, ground := Go.Ground.phase }, { on := 8, ground := Go.Ground.phase }, { on := 9, ground := Go.Ground.phase }, { on := 10, ground := Go.Ground.phase }, { on := 11, ground := Go.Ground.phase }, { on := 12, ground := Go.Ground.phase }, { on := 13, ground := Go.Ground.phase }, { on := 14, ground := Go.Ground.phase }, { on := 15, ground := Go.Ground.phase }, { on := 16, ground := Go.Ground.phase }], guard := none }) (v := ?vac17) rfl (by kernel_rfl) (by kernel_rfl) (by kernel_rfl) (fun _ _ _ h => h) (Or.inl ⟨by rfl, ?hac17⟩) hHeld ?rac17
                  case hac17 => (intro w hSw; (try dsimp only at hSw); go_simp; try with_reducible rfl)
                  try simp only [Act.put, List.setIfInBounds_toArray, List.set_cons_zero, List.set_cons_succ]
                  refine wpAnyH_done (by kernel_rfl) ?_ _
                  refine NoPanic.normal ?_
                  go_wp2
                  go_roundw
                  case rel => exact ⟨t + 1, by omega, by rw [HRR.out], by go_num, bel_step hBq hHeld⟩
                  case measure => simp [intOf]; omega
              · have e : n3 = t := by omega
                subst e
                obtain ⟨r, Hr⟩ : ∃ r, Hid (keptW m q d = r) := ⟨_, (rfl : keptW m q d = _)⟩
                have HRI : Hid (((rowTo m.nodes d.nodes n3).any fun p => ptB q p.x p.y) = r) := by rw [← Hr.out, HWK.out, ← H3.out]; rfl
                rw [HRI.out]
                have hBx := bel_step hBQ hBq
                have hKqx := HKq.out.bel wayV hBx
                have hrx := HRr.out.of_block (hBx.out.block _ HRr.out.lt)
                have Xx := XQ.bel hBq
                have z1 : wr.cell? ⟨Z.heap.size, 1, none⟩ = some (.slice (A k) n3 (C k)) := Xx.cell 1 (by simp)
                clear y1
                cases r
                · have HKn : Hid (Kq 3 WayV 62 (w.heap.size + 1 + 1 + 1) w1 (w1.heap.size + 1) [.slice none 0 0] [.slice none 0 0] wr vv ((m.ways.take (k + 1)).filter (keptW m q)) R f) := by rw [HFn.out Hr.out]; exact hKqx
                  have HRn : Hid (wr.rowIs w1.heap.size 4 n0 (fun j => .bool (rowP m q (k + 1) j))) := hrx.congr fun j _ => by rw [rowP_no hkl Hd.out (HWK.out.symm.trans Hr.out)]
                  clear hKqx hrx
                  go_wp2
                  obtain ⟨Y, rfl⟩ : ∃ U, U = wr := ⟨_, rfl⟩
                  go_loopw [12] (fun i wq => i = .int .i64 0 ∧ wq = Y) (fun _ _ => 0)
                  case atStart => exact ⟨rfl, rfl⟩
                  case round =>
                    obtain ⟨rfl, rfl⟩ := hrel
                    by_cases hz : (0 : Int) < (n3 : Int)
                    · go_wp2
                      go_roundw
                      case rel => exact ⟨k + 1, vv, R, f, by omega, by go_num, HKn.out, HRn.out⟩
                      case measure => simp [intOf]; omega
                    · go_wp2
                      go_roundw
                      case rel => exact ⟨k + 1, vv, R, f, by omega, by go_num, HKn.out, HRn.out⟩
                      case measure => simp [intOf]; omega
                · have hrq : wr.rowIs w1.heap.size 4 n0 (fun j => .bool (rowQ m q k d.nodes 0 j)) := hrx.congr fun j _ => by rw [rowQ_zero]
                  clear hrx
                  go_wp2
                  obtain ⟨Y, rfl⟩ : ∃ U, U = wr := ⟨_, rfl⟩
                  go_loopw [12] (fun i wq => ∃ t : Nat, t ≤ n3 ∧ i = .int .i64 t ∧ Kq 3 WayV 62 (w.heap.size + 1 + 1 + 1) w1 (w1.heap.size + 1) [.slice none 0 0] [.slice none 0 0] wq vv L R f ∧ wq.rowIs w1.heap.size 4 n0 (fun j => .bool (rowQ m q k d.nodes t j)) ∧ Blk wq Z.heap.size [.int .i64 d.id, .slice (A k) n3 (C k), .slice (A' k) d.tags.length (C' k)]) (fun i _ => n3 - (intOf i).toNat)
                  case atStart => exact ⟨0, Nat.zero_le _, rfl, hKqx, hrq, Xx⟩
                  case round =>
                    clear hKqx hrq Xx z1 hBx hBq
                    obtain ⟨t, ht, rfl, hKt, hrt, Xt⟩ := hrel
                    have h0t : Bel W0 wr := bel_grow h01 hKt.far (fun j e => by injection e with e; omega)
                    have s1 : wr.cell? ⟨Z.heap.size, 1, none⟩ = some (.slice (A k) n3 (C k)) := Xt.cell 1 (by simp)
                    by_cases hlq : t < n3
                    · have hql : t < d.nodes.length := by rw [H3.out]; exact hlq
                      obtain ⟨b', off', f', hAk, hb', hx'⟩ := HT1.out.out hql
                      obtain ⟨_, _, cx⟩ := hx' t hql
                      rw [Nat.mul_one] at cx
                      obtain ⟨j0, hj0, hI0⟩ := HYK.out.2 t hql
                      obtain ⟨x, Hx⟩ : ∃ x, Hid (x = d.nodes[t]) := ⟨_, (rfl : d.nodes[t] = _)⟩
                      rw [← Hx.out] at cx hI0
                      have HP0 : Hid (posI (nId m.nodes) m.nodes.length x = (j0 : Int)) := by rw [← hI0]; exact posI_at HA.out hj0
                      obtain ⟨Pt, HP⟩ : ∃ P : Nat → Bool, Hid (P = fun j => rowQ m q k d.nodes t j) := ⟨_, (rfl : (fun j => rowQ m q k d.nodes t j) = _)⟩
                      have hjn : j0 < n0 := by rw [← H0.out]; exact hj0
                      have hjn' : (j0 : Int) < (n0 : Int) := by omega
                      have g0 : Ud wr w1.heap.size n0 j0 Pt wr := Ud.start (by rw [HP.out]; exact hrt)
                      have HS : Hid (∀ cb i, i < n0 → (if i = j0 then Value.bool true else .bool (if i = j0 then cb else Pt i)) = .bool (rowQ m q k d.nodes (t + 1) i)) := fun cb i hi =>
                        rowQ_step HA.out (by rw [H0.out]; exact hi) hj0 hI0 hql Hx.out HP.out
                      have hBU : ∀ w', Ud wr w1.heap.size n0 j0 Pt w' → Bel W0 w' := fun w' h => bel_grow h0t h.g (fun j e => by injection e with e; have := h01.out.size; omega)
                      have HAK : Hid (A k = some ⟨b', off', none⟩) := hAk
                      rw [hAk] at s1
                      clear hAk
                      have hZl := Xt.lt
                      have hZne : Z.heap.size ≠ w1.heap.size := hZB
                      have hR : ∀ w', Ud wr w1.heap.size n0 j0 Pt w' → w'.cell? ⟨w.heap.size, 0, none⟩ = some (.slice a0 n0 c0) ∧ w'.cell? ⟨w.heap.size, 1, none⟩ = some (.slice (some ⟨b, off, none⟩) n1 c1) ∧ w'.cell? ⟨w.heap.size, 2, none⟩ = some (.slice a2 n2 c2) ∧ w'.cell? ⟨Z.heap.size, 1, none⟩ = some (.slice (some ⟨b', off', none⟩) n3 (C k)) ∧ w'.cell? ⟨b', off' + t, none⟩ = some (.int .i64 x) ∧ w'.frozen? ⟨w1.heap.size, j0, none⟩ = false :=
                        fun w' h => ⟨(X0.bel (hBU w' h)).cell 0 (by simp), (X0.bel (hBU w' h)).cell 1 (by simp), (X0.bel (hBU w' h)).cell 2 (by simp), by rw [← HAK.out]; exact (Xt.grown h.g hZne).cell 1 (by simp), bel_cellM (hBU w' h) hb' cx, by obtain ⟨_, r⟩ := h.r; exact r.frozen _⟩
                      have hMV : ∀ w', Ud wr w1.heap.size n0 j0 Pt w' → MapV w' (.agg #[.slice a0 n0 c0, .slice (some ⟨b, off, none⟩) n1 c1, .slice a2 n2 c2]) m bs := fun w' h => HV.out.bel (hBU w' h)
                      have hlq' : (t : Int) < (n3 : Int) := by omega
                      have HKt : Hid (Kq 3 WayV 62 (w.heap.size + 1 + 1 + 1) w1 (w1.heap.size + 1) [.slice none 0 0] [.slice none 0 0] wr vv L R f) := hKt
                      have HXt : Hid (Blk wr Z.heap.size [.int .i64 d.id, .slice (A k) n3 (C k), .slice (A' k) d.tags.length (C' k)]) := Xt
                      clear hx' hrt hI0 cx hKt Xt
                      go_wp2
                      go_region_held3 (fun w' => Ud wr w1.heap.size n0 j0 Pt w') (with_reducible (repeat (first | assumption | exact g0 | refine Ud.drew ?_ | refine Ud.set ?_ _ | refine Ud.bel (by assumption) (by assumption))))
                        (first
                          | (go_at_call 23; refine (l2Node_at _ m bs _ j0 _ (hMV _ (by assumption)) hl0.out HA.out HP0.out).mono ?_; rintro e w6 ⟨rfl, hb6⟩; refine (fun hk6 : Bel wr w6 => ?_) (bel_step (by with_reducible (repeat (first | exact Bel.refl _ | refine Bel.drew ?_))) hb6); obtain ⟨cb, hcb⟩ := (Ud.bel (V := wr) (B := w1.heap.size) (n := n0) (j0 := j0) (p := Pt) (by assumption) hb6).r; have v0 : w6.cell? ⟨w1.heap.size, j0, none⟩ = some (.bool (if j0 = j0 then cb else Pt j0)) := hcb.cell hjn))
                      have HR7 : Hid ((w6.setCell ⟨w1.heap.size, j0, none⟩ (.bool true)).rowIs w1.heap.size 4 n0 (fun j => .bool (rowQ m q k d.nodes (t + 1) j))) := (hcb.set j0 (.bool true)).congr fun i hi => HS.out cb i hi
                      have HK7 : Hid (Kq 3 WayV 62 (w.heap.size + 1 + 1 + 1) w1 (w1.heap.size + 1) [.slice none 0 0] [.slice none 0 0] (w6.setCell ⟨w1.heap.size, j0, none⟩ (.bool true)) vv L R f) := (HKt.out.bel wayV hk6).mark wayV (Nat.le_refl _) (Nat.lt_succ_self _) hKl j0 _
                      have HX7 : Hid (Blk (w6.setCell ⟨w1.heap.size, j0, none⟩ (.bool true)) Z.heap.size [.int .i64 d.id, .slice (A k) n3 (C k), .slice (A' k) d.tags.length (C' k)]) := (HXt.out.bel hk6).far hZne.symm
                      clear v0 hcb hb6 hk6 hR hMV g0 s1 HKt HXt hBU
                      go_wp2
                      go_roundw
                      case rel => exact ⟨t + 1, by omega, by go_num, HK7.out, HR7.out, HX7.out⟩
                      case measure => simp [intOf]; omega
                    · have e : n3 = t := by omega
                      subst e
                      have HRn : Hid (wr.rowIs w1.heap.size 4 n0 (fun j => .bool (rowP m q (k + 1) j))) := hrt.congr fun j _ => by rw [rowP_yes hkl Hd.out H3.out (HWK.out.symm.trans Hr.out)]
                      obtain ⟨va, vc, rfl⟩ := own_shape hKt.gr.own
                      obtain ⟨w4, rfl⟩ : ∃ U, U = wr := ⟨_, rfl⟩
                      have HK4 : Hid (Kq 3 WayV 62 (w.heap.size + 1 + 1 + 1) w1 (w1.heap.size + 1) [.slice none 0 0] [.slice none 0 0] w4 (.slice va L.length vc) L R f) := hKt
                      have y0 : w4.cell? ⟨w.heap.size + 1 + 1 + 1, 1, none⟩ = some (.slice va L.length vc) := hKt.box.cell 1 (by simp)
                      have r0 : w4.cell? ⟨Z.heap.size, 0, none⟩ = some (.int .i64 d.id) := Xt.cell 0 (by simp)
                      have r1 : w4.cell? ⟨Z.heap.size, 1, none⟩ = some (.slice (A k) n3 (C k)) := Xt.cell 1 (by simp)
                      have r2 : w4.cell? ⟨Z.heap.size, 2, none⟩ = some (.slice (A' k) d.tags.length (C' k)) := Xt.cell 2 (by simp)
                      have HOl : Hid (w1.heap.size + 1 ≤ w4.heap.size) := hKt.le
                      have hKl4 : w.heap.size + 1 + 1 + 1 < w4.heap.size := hKt.box.lt
                      have tt4 := HT2.out.bel tagE h0t
                      have tt24 := HT1.out.bel intE h0t
                      clear hKt hrt s1 Xt
                      go_wp2
                      go_region_law (first
                        | (go_simp; go_at_call 24; refine (l2CopyWay_any _ _ _ _ d.tags (f2 k) _ _ _ d.nodes (f1 k) w4 _ ((Bel.refl w4).drew) (tt4.bel tagE ((Bel.refl w4).drew)) rfl hul.2 (tt24.bel intE ((Bel.refl w4).drew)) H3.out (by omega)).mono ?_; rintro e w5 ⟨a3, c3, b3, a5, c5, b5, rfl, T3, T5, F5, hb5⟩; refine (fun hb45 : Bel w4 w5 => ?_) (bel_step (Bel.refl w4).drew hb5); have y5 : w5.cell? ⟨w.heap.size + 1 + 1 + 1, 1, none⟩ = some (.slice va L.length vc) := bel_cellM hb45 hKl4 y0; have hKl5 : w.heap.size + 1 + 1 + 1 < w5.heap.size := bel_lt hb45 hKl4; go_wp2_with fail)
                        | (refine step_append_lies _ rfl _ _ _ rfl (w1.heap.size + 1) 62 i1 (.agg #[.int .i64 0, .slice none 0 0, .slice none 0 0]) 3 56 Tryz.underlying33 hi1 hz10 hz11 hz12 rfl (by decide) (.slice va L.length vc) L.length (recs R L.length) (by rfl) (own_bel HK4.out.gr.own (bel_alloc hb45 _)) ⟨w5.heap.size, 0, none⟩ 1 1 [.int .i64 d.id, .slice a3 n3 c3, .slice a5 d.tags.length c5] (by rfl) (by rfl) (World.news_of_block (cs := #[.int .i64 d.id, .slice a3 n3 c3, .slice a5 d.tags.length c5]) (t := 62) (fr := (0, 0)) (heap_alloc_new w5 _)) (by simp [Value.oneCell']) (by omega) (by unfold maxLen; omega) (by omega) (by have := HOl.out; have := hb45.out.size; simp; omega) (w5.heap.size + 1) (by simp) ?_; intro g cap w6 hown6 hgrow hat _; have M6 := HK4.out.mid (Nat.lt_succ_of_lt hKl) (bel_alloc hb45 _) hgrow; have y6 : w6.cell? ⟨w.heap.size + 1 + 1 + 1, 1, none⟩ = some (.slice va L.length vc) := M6.cell 1 (by simp); have z6 := M6.free 1))
                      all_goals
                        obtain ⟨R', f3, KP'⟩ := Kq.step wayV HK4.out hKl (Nat.le_succ _) hb45 (bel_alloc (Bel.refl w5) _) (d := d) (bs := b3 ++ b5) (show WayV w5 [.int .i64 d.id, .slice a3 n3 c3, .slice a5 d.tags.length c5] d (b3 ++ b5) from ⟨id0, hml2, hml, a3, c3, a5, c5, b3, b5, rfl, by rw [H3.out], T3, T5⟩) F5 hown6 hgrow (hat_of (by simpa using hat))
                        have HKP : Hid (Kq 3 WayV 62 (w.heap.size + 1 + 1 + 1) w1 (w1.heap.size + 1) [.slice none 0 0] [.slice none 0 0] (w6.setCell ⟨w.heap.size + 1 + 1 + 1, 1, none⟩ (.slice (some ⟨g, 0, none⟩) (L.length + 1) cap)) (.slice (some ⟨g, 0, none⟩) (L.length + 1) cap) ((m.ways.take (k + 1)).filter (keptW m q)) R' f3) := by rw [HFy.out Hr.out]; exact KP'
                        have HRF : Hid ((w6.setCell ⟨w.heap.size + 1 + 1 + 1, 1, none⟩ (.slice (some ⟨g, 0, none⟩) (L.length + 1) cap)).rowIs w1.heap.size 4 n0 (fun j => .bool (rowP m q (k + 1) j))) :=
                          (((HRn.out.of_block (hb45.out.block _ HRn.out.lt)).alloc _).of_block (hgrow.block _ ((HRn.out.of_block (hb45.out.block _ HRn.out.lt)).alloc _).lt (fun e => by have := (HK4.out.gr.own.lt _ e.symm).1; omega))).setOther (by show w1.heap.size ≠ w.heap.size + 1 + 1 + 1; omega) _
                        clear KP' M6 hown6 hgrow hat F5 T5 hb5 y0 y5
                        go_wp2
                        go_roundw
                        case rel => exact ⟨k + 1, _, R', f3, by omega, by go_num, HKP.out, HRF.out⟩
                        case measure => simp [intOf]; omega
          · have e : n1 = k := by omega
            subst e
            obtain ⟨v1, rfl⟩ : ∃ v, v = vv := ⟨_, rfl⟩
            obtain ⟨R1, rfl⟩ : ∃ v, v = R := ⟨_, rfl⟩
            obtain ⟨fr1, rfl⟩ : ∃ v, v = f := ⟨_, rfl⟩
            obtain ⟨U3, rfl⟩ : ∃ U, U = wr := ⟨_, rfl⟩
            have HG1 : Hid (Gr 3 WayV 62 (w1.heap.size + 1) U3 v1 (m.ways.filter (keptW m q)) R1 fr1) := by have := hKq.gr; rw [← H1.out, List.take_length] at this; exact this
            have hlo3 : w1.heap.size + 1 ≤ U3.heap.size := hKq.le
            have XK3 : Blk U3 (w.heap.size + 1 + 1 + 1) [.slice none 0 0, v1, .slice none 0 0] := hKq.box
            have h03 : Bel W0 U3 := h0r
            have HF1 : Hid (w1.grownBy U3 (some (w.heap.size + 1 + 1 + 1))) := hKq.far
            have HR3 : Hid (U3.rowIs w1.heap.size 4 n0 (fun j => .bool (rowP m q m.ways.length j))) := by rw [H1.out]; exact hr
            have hKU3 : w.heap.size + 1 + 1 + 1 < U3.heap.size := hKq.box.lt
            have x0 : U3.cell? ⟨w.heap.size, 0, none⟩ = some (.slice a0 n0 c0) := (X0.bel h0r).cell 0 (by simp)
            obtain ⟨p1, p2, hv1⟩ := own_shape hKq.gr.own
            have Hv1 : Hid _ := hv1
            clear hv1
            clear hKq hr h0r
            go_wp2
            go_loopw [13] (fun i wr => ∃ (k : Nat) (v : Value) (R : Nat → List Value) (f : Nat → List Nat), k ≤ n0 ∧ i = .int .i64 k ∧ Kp 4 NodeV 58 (w.heap.size + 1 + 1 + 1) U3 [] [v1, .slice none 0 0] wr v ((m.nodes.take k).filter (keptN m q)) R f) (fun i _ => n0 - (intOf i).toNat)
            case atStart => exact ⟨0, _, _, _, Nat.zero_le _, rfl, Kp.start 4 NodeV 58 (pre := []) (post := [v1, .slice none 0 0]) XK3⟩
            case round =>
              clear XK3 x0 o1
              obtain ⟨k, vv, R, f, hk, rfl, hKp⟩ := hrel
              have h0r : Bel W0 wr := bel_grow h03 hKp.far (fun j e => by injection e with e; omega)
              have o0 : wr.cell? ⟨w.heap.size, 0, none⟩ = some (.slice a0 n0 c0) := (X0.bel h0r).cell 0 (by simp)
              by_cases hlt : k < n0
              · have hkl : k < m.nodes.length := by rw [H0.out]; exact hlt
                have hrr := HR3.out.of_block (hKp.far.block _ HR3.out.lt (fun e => by injection e with e; omega))
                have u0 : wr.cell? ⟨w1.heap.size, k, none⟩ = some (.bool (keptN m q m.nodes[k])) := by have := hrr.cell hlt; rw [row_fin HOK.out hkl] at this; exact this
                obtain ⟨b, off, rfl, hb, id0, ix, iy, d0, ex, ey, hml, d3, tt⟩ := HN.out k hkl
                obtain ⟨d, Hd⟩ : ∃ d, Hid (d = m.nodes[k]) := ⟨_, (rfl : m.nodes[k] = _)⟩
                have hul := HU0.out k hkl
                have HFy : Hid (keptN m q d = true → (m.nodes.take (k + 1)).filter (keptN m q) = (m.nodes.take k).filter (keptN m q) ++ [d]) := fun e => by rw [Hd.out] at e ⊢; exact filt_yes hkl e
                have HFn : Hid (keptN m q d = false → (m.nodes.take (k + 1)).filter (keptN m q) = (m.nodes.take k).filter (keptN m q)) := fun e => by rw [Hd.out] at e; exact filt_no hkl e
                rw [← Hd.out] at u0 d0 ex ey d3 id0 ix iy hml tt hul
                have d0 := bel_cellM h0r hb d0
                have ex := bel_cellM h0r hb ex
                have ey := bel_cellM h0r hb ey
                have d3 := bel_cellM h0r hb d3
                have hlt' : (k : Int) < (n0 : Int) := by omega
                have hln := filt_len (keptN m q) m.nodes k
                obtain ⟨L, HLq⟩ : ∃ L, Hid ((m.nodes.take k).filter (keptN m q) = L) := ⟨_, (rfl : (m.nodes.take k).filter (keptN m q) = _)⟩
                rw [HLq.out] at hKp hln HFy HFn
                obtain ⟨r, Hr⟩ : ∃ r, Hid (keptN m q d = r) := ⟨_, (rfl : keptN m q d = _)⟩
                rw [Hr.out] at u0
                cases r
                · have HK4 : Hid (Kp 4 NodeV 58 (w.heap.size + 1 + 1 + 1) U3 [] [v1, .slice none 0 0] wr vv ((m.nodes.take (k + 1)).filter (keptN m q)) R f) := by rw [HFn.out Hr.out]; exact hKp
                  clear hKp hrr
                  go_wp2
                  go_roundw
                  case rel => exact ⟨k + 1, vv, R, f, by omega, by go_num, HK4.out⟩
                  case measure => simp [intOf]; omega
                · obtain ⟨va, vc, rfl⟩ := own_shape hKp.gr.own
                  obtain ⟨w4, rfl⟩ : ∃ U, U = wr := ⟨_, rfl⟩
                  have HK4 : Hid (Kp 4 NodeV 58 (w.heap.size + 1 + 1 + 1) U3 [] [v1, .slice none 0 0] w4 (.slice va L.length vc) L R f) := hKp
                  have y0 : w4.cell? ⟨w.heap.size + 1 + 1 + 1, 0, none⟩ = some (.slice va L.length vc) := hKp.box.cell 0 (by simp)
                  have HOl : Hid (U3.heap.size ≤ w4.heap.size) := hKp.far.size
                  have hKl4 : w.heap.size + 1 + 1 + 1 < w4.heap.size := hKp.box.lt
                  have tt4 := tt.bel tagE h0r
                  have hRl : ∀ w', Bel w4 w' → w'.cell? ⟨w.heap.size, 0, none⟩ = some (.slice (some ⟨b, off, none⟩) n0 c0) ∧ w'.cell? ⟨b, off + k * 4, none⟩ = some (.int .i64 d.id) ∧ w'.cell? ⟨b, off + k * 4 + 1, none⟩ = some (.int .i64 d.x) ∧ w'.cell? ⟨b, off + k * 4 + 2, none⟩ = some (.int .i64 d.y) ∧ w'.cell? ⟨b, off + k * 4 + 3, none⟩ = some (.slice (AN k) d.tags.length (CN k)) :=
                    fun w' h => ⟨(X0.bel (bel_step h0r h)).cell 0 (by simp), bel_cellM h (bel_lt h0r hb) d0, bel_cellM h (bel_lt h0r hb) ex, bel_cellM h (bel_lt h0r hb) ey, bel_cellM h (bel_lt h0r hb) d3⟩
                  clear hKp hrr tt
                  go_wp2
                  go_region_law (first
                    | (go_simp; go_at_call 25; refine (l2CopyNode_any _ _ _ _ _ _ d.tags (fN k) w4 _ ((Bel.refl w4).drew) (tt4.bel tagE ((Bel.refl w4).drew)) rfl hul).mono ?_; rintro e w5 ⟨a5, c5, b5, rfl, T5, F5, hb5⟩; refine (fun hb45 : Bel w4 w5 => ?_) (bel_step (Bel.refl w4).drew hb5); have y5 : w5.cell? ⟨w.heap.size + 1 + 1 + 1, 0, none⟩ = some (.slice va L.length vc) := bel_cellM hb45 hKl4 y0; have hKl5 : w.heap.size + 1 + 1 + 1 < w5.heap.size := bel_lt hb45 hKl4; go_wp2_with fail)
                    | (refine step_append_lies _ rfl _ _ _ rfl U3.heap.size 58 i0 (.agg #[.int .i64 0, .int .i64 0, .int .i64 0, .slice none 0 0]) 4 48 Tryz.underlying32 hi0 hz00 hz01 hz02 rfl (by decide) (.slice va L.length vc) L.length (recs R L.length) (by rfl) (own_bel HK4.out.gr.own (bel_alloc hb45 _)) ⟨w5.heap.size, 0, none⟩ 1 1 [.int .i64 d.id, .int .i64 d.x, .int .i64 d.y, .slice a5 d.tags.length c5] (by rfl) (by rfl) (World.news_of_block (cs := #[.int .i64 d.id, .int .i64 d.x, .int .i64 d.y, .slice a5 d.tags.length c5]) (t := 58) (fr := (0, 0)) (heap_alloc_new w5 _)) (by simp [Value.oneCell']) (by omega) (by unfold maxLen; omega) (by omega) (by have := HOl.out; have := hb45.out.size; simp; omega) (w5.heap.size + 1) (by simp) ?_; intro g cap w6 hown6 hgrow hat _; have M6 := HK4.out.mid hKU3 (bel_alloc hb45 _) hgrow; have y6 : w6.cell? ⟨w.heap.size + 1 + 1 + 1, 0, none⟩ = some (.slice va L.length vc) := M6.cell 0 (by simp); have z6 := M6.free 0))
                  all_goals
                    obtain ⟨R', f3, KP'⟩ := Kp.step nodeV HK4.out hKU3 hb45 (bel_alloc (Bel.refl w5) _) (d := d) (bs := b5) (show NodeV w5 [.int .i64 d.id, .int .i64 d.x, .int .i64 d.y, .slice a5 d.tags.length c5] d b5 from ⟨id0, ix, iy, hml, a5, c5, rfl, T5⟩) F5 hown6 hgrow (hat_of (by simpa using hat))
                    have HKP : Hid (Kp 4 NodeV 58 (w.heap.size + 1 + 1 + 1) U3 [] [v1, .slice none 0 0] (w6.setCell ⟨w.heap.size + 1 + 1 + 1, 0, none⟩ (.slice (some ⟨g, 0, none⟩) (L.length + 1) cap)) (.slice (some ⟨g, 0, none⟩) (L.length + 1) cap) ((m.nodes.take (k + 1)).filter (keptN m q)) R' f3) := by rw [HFy.out Hr.out]; exact KP'
                    clear KP' M6 hown6 hgrow hat F5 T5 hb5 y0 y5
                    go_wp2
                    go_roundw
                    case rel => exact ⟨k + 1, _, R', f3, by omega, by go_num, HKP.out⟩
                    case measure => simp [intOf]; omega
              · have e : n0 = k := by omega
                subst e
                obtain ⟨v0, rfl⟩ : ∃ v, v = vv := ⟨_, rfl⟩
                obtain ⟨R0, rfl⟩ : ∃ v, v = R := ⟨_, rfl⟩
                obtain ⟨fr0, rfl⟩ : ∃ v, v = f := ⟨_, rfl⟩
                obtain ⟨U4, rfl⟩ : ∃ U, U = wr := ⟨_, rfl⟩
                have HG0 : Hid (Gr 4 NodeV 58 U3.heap.size U4 v0 (m.nodes.filter (keptN m q)) R0 fr0) := by have := hKp.gr; rw [← H0.out, List.take_length] at this; exact this
                have HE34 : Hid (U3.grownBy U4 (some (w.heap.size + 1 + 1 + 1))) := hKp.far
                have XK4 : Blk U4 (w.heap.size + 1 + 1 + 1) [v0, v1, .slice none 0 0] := hKp.box
                have h04 : Bel W0 U4 := h0r
                have hKU4 : w.heap.size + 1 + 1 + 1 < U4.heap.size := hKp.box.lt
                have x2 : U4.cell? ⟨w.heap.size, 2, none⟩ = some (.slice a2 n2 c2) := (X0.bel h0r).cell 2 (by simp)
                obtain ⟨p3, p4, hv0⟩ := own_shape hKp.gr.own
                have Hv0 : Hid _ := hv0
                clear hv0
                obtain ⟨aw, cw, bw, hvw, HSW0, HMW0⟩ := HG1.out.out wayV
                have Hvw : Hid _ := hvw
                clear hvw
                have HSW : Hid (Ways U4 aw (m.ways.filter (keptW m q)) bw) := HSW0.alike wayE (grown_alike hKp.far (fun x hx => (HMW0.new x hx).2) fun hx => by have := (HMW0.new _ hx).1; omega)
                have HMW : Hid (Mine (w1.heap.size + 1) U3 bw) := HMW0
                clear hKp HSW0 HMW0 h0r
                go_wp2
                go_loopw [14, 15, 16] (fun i _ _ wr => ∃ (k : Nat) (v : Value) (R : Nat → List Value) (f : Nat → List Nat), k ≤ n2 ∧ i = .int .i64 k ∧ Kp 3 AreaV 68 (w.heap.size + 1 + 1 + 1) U4 [v0, v1] [] wr v ((m.areas.take k).filter (keptA m q)) R f) (fun i _ _ _ => n2 - (intOf i).toNat)
                case atStart => exact ⟨0, _, _, _, Nat.zero_le _, rfl, Kp.start 3 AreaV 68 (pre := [v0, v1]) (post := []) XK4⟩
                case round =>
                  clear XK4 x2 o0
                  obtain ⟨k, vv, R, f, hk, rfl, hKp⟩ := hrel
                  have h0r : Bel W0 wr := bel_grow h04 hKp.far (fun j e => by injection e with e; omega)
                  have o2 : wr.cell? ⟨w.heap.size, 2, none⟩ = some (.slice a2 n2 c2) := (X0.bel h0r).cell 2 (by simp)
                  by_cases hlt : k < n2
                  · have hkl : k < m.areas.length := by rw [H2.out]; exact hlt
                    obtain ⟨b, off, rfl, hb, id0, d0, hml2, hml, d1, tt2, d2, tt⟩ := HYA.out k hkl
                    obtain ⟨d, Hd⟩ : ∃ d, Hid (d = m.areas[k]) := ⟨_, (rfl : m.areas[k] = _)⟩
                    have hul := HU2.out k hkl
                    have HFy : Hid (keptA m q d = true → (m.areas.take (k + 1)).filter (keptA m q) = (m.areas.take k).filter (keptA m q) ++ [d]) := fun e => by rw [Hd.out] at e ⊢; exact filt_yes hkl e
                    have HFn : Hid (keptA m q d = false → (m.areas.take (k + 1)).filter (keptA m q) = (m.areas.take k).filter (keptA m q)) := fun e => by rw [Hd.out] at e; exact filt_no hkl e
                    rw [← Hd.out] at d0 d1 d2 tt tt2 id0 hml hml2 hul
                    obtain ⟨n3, hn3⟩ : ∃ n, d.parts.length = n := ⟨_, rfl⟩
                    have H3 : Hid (d.parts.length = n3) := hn3
                    have hnl : n3 ≤ 1048576 := by rw [← hn3]; exact hul.1
                    rw [hn3] at d1
                    have HT1 : Hid (Parts W0 (E k) d.parts (g1 k)) := tt2
                    have HT2 : Hid (Tags W0 (E' k) d.tags (g2 k)) := tt
                    have hlt' : (k : Int) < (n2 : Int) := by omega
                    have hln := filt_len (keptA m q) m.areas k
                    obtain ⟨L, HLq⟩ : ∃ L, Hid ((m.areas.take k).filter (keptA m q) = L) := ⟨_, (rfl : (m.areas.take k).filter (keptA m q) = _)⟩
                    rw [HLq.out] at hKp hln HFy HFn
                    obtain ⟨Z, rfl⟩ : ∃ U, U = wr := ⟨_, rfl⟩
                    have HKp : Hid (Kp 3 AreaV 68 (w.heap.size + 1 + 1 + 1) U4 [v0, v1] [] Z vv L R f) := hKp
                    have d1r := bel_cellM h0r hb d1
                    have hbZ := bel_lt h0r hb
                    obtain ⟨q1, q2, hvv⟩ := own_shape hKp.gr.own
                    have Hvv : Hid _ := hvv
                    clear hvv
                    have XZ := hKp.box
                    have HWZ : Hid (Ways Z aw (m.ways.filter (keptW m q)) bw) := HSW.out.alike wayE (grown_alike hKp.far (fun x hx => HSW.out.lt wayE x hx) fun hx => by have := (HMW.out.new _ hx).1; omega)
                    obtain ⟨lw, hlw⟩ : ∃ l, (m.ways.filter (keptW m q)).length = l := ⟨_, rfl⟩
                    have Hlw : Hid ((m.ways.filter (keptW m q)).length = lw) := hlw
                    have hlw1 : lw ≤ 1000 := by rw [← hlw]; exact Nat.le_trans (List.length_filter_le _ _) HOK.out.n2
                    rw [hlw] at Hvw
                    clear hKp tt tt2 hn3 hlw
                    go_wp2
                    go_loopw [15, 16] (fun r i wq => ∃ t : Nat, t ≤ n3 ∧ r = .bool (bP (∀ p ∈ d.parts.take t, wSetTo m q m.ways.length p.way)) ∧ i = .int .i64 t ∧ Bel Z wq) (fun _ i _ => n3 - (intOf i).toNat)
                    case atStart => exact ⟨0, Nat.zero_le _, by rw [bP_true (by simp)], rfl, Bel.refl _⟩
                    case round =>
                      obtain ⟨t, ht, rfl, rfl, hBq⟩ := hrel
                      have h0q := bel_step h0r hBq
                      have p2' : wr.cell? ⟨w.heap.size, 2, none⟩ = some (.slice (some ⟨b, off, none⟩) n2 c2) := (X0.bel h0q).cell 2 (by simp)
                      have d1q := bel_cellM hBq hbZ d1r
                      by_cases hlq : t < n3
                      · have hql : t < d.parts.length := by rw [H3.out]; exact hlq
                        obtain ⟨b', off', f', hAk, hb', hx'⟩ := HT1.out.out hql
                        obtain ⟨_, _, cx, _⟩ := hx' t hql
                        obtain ⟨x, Hx⟩ : ∃ x, Hid (x = d.parts[t].way) := ⟨_, (rfl : d.parts[t].way = _)⟩
                        have HTS : Hid ((∀ p ∈ d.parts.take (t + 1), wSetTo m q m.ways.length p.way) ↔ ((∀ p ∈ d.parts.take t, wSetTo m q m.ways.length p.way) ∧ wSetTo m q m.ways.length x)) := by
                          rw [List.take_succ_eq_append_getElem hql, Hx.out]
                          exact ⟨fun h => ⟨fun p hp => h p (List.mem_append.2 (.inl hp)), h _ (List.mem_append.2 (.inr (List.mem_singleton.2 rfl)))⟩, fun h p hp => (List.mem_append.1 hp).elim (h.1 p) (fun hp => by rw [List.mem_singleton.1 hp]; exact h.2)⟩
                        rw [← Hx.out] at cx
                        have hlq' : (t : Int) < (n3 : Int) := by omega
                        have HAK : Hid (E k = some ⟨b', off', none⟩) := hAk
                        rw [hAk] at d1q
                        clear hAk
                        obtain ⟨s, Hs⟩ : ∃ s, Hid (bP (∀ p ∈ d.parts.take t, wSetTo m q m.ways.length p.way) = s) := ⟨_, (rfl : bP (∀ p ∈ d.parts.take t, wSetTo m q m.ways.length p.way) = _)⟩
                        rw [Hs.out]
                        have g0 : Bel wr wr := Bel.refl _
                        clear hx'
                        cases s
                        · have HRR : Hid (bP (∀ p ∈ d.parts.take (t + 1), wSetTo m q m.ways.length p.way) = false) := bP_false fun h => bP_not Hs.out (HTS.out.1 h).1
                          clear cx
                          go_wp2
                          refine wp_region_noPanic ?_
                          refine wp_region_held_drew (S := fun w' => Bel wr w') (by kernel_rfl) (Bel.drew g0) (fun hHeld => ?_)
                          refine wpAnyH_take (i := 0) (oi := { dst := some 157, op := Go.Op.move (Go.Operand.tmp 15), type := 4, pos := "l02_data.go:228", after := #[], guard := none }) (v := ?vad0) rfl (by kernel_rfl) (by kernel_rfl) (by kernel_rfl) (fun _ _ _ h => h) (Or.inl ⟨by rfl, ?had0⟩) hHeld ?rad0
                          case had0 => (intro w hSw; (try dsimp only at hSw); go_simp; try with_reducible rfl)
                          try simp only [Act.put, List.setIfInBounds_toArray, List.set_cons_zero, List.set_cons_succ]
                          refine wpAnyH_take (i := 1) (oi := { dst := some 158, op := Go.Op.move (Go.Operand.tmp 157), type := 4, pos := "l02_data.go:228", after := #[{ on := 0, ground := Go.Ground.data }], guard := none }) (v := ?vad1) rfl (by kernel_rfl) (by kernel_rfl) (by kernel_rfl) (fun _ _ _ h => h) (Or.inl ⟨by rfl, ?had1⟩) hHeld ?rad1
                          case had1 => (intro w hSw; (try dsimp only at hSw); go_simp; try with_reducible rfl)
                          try simp only [Act.put, List.setIfInBounds_toArray, List.set_cons_zero, List.set_cons_succ]
                          refine wpAnyH_take (i := 2) (oi := { dst := some 159, op := Go.Op.load 36 (Go.Operand.tmp 5), type := 36, pos := "l02_data.go:228", after := #[{ on := 1, ground := Go.Ground.guard }], guard := some (1, true) }) (v := undef) rfl (by kernel_rfl) (by kernel_rfl) (by kernel_rfl) (fun _ _ _ h => h) (Or.inr ⟨by rfl, rfl⟩) hHeld ?_
                          try simp only [Act.put, List.setIfInBounds_toArray, List.set_cons_zero, List.set_cons_succ]
                          refine wpAnyH_take (i := 3) (oi := { dst := some 160, op := Go.Op.fieldAddr 36 (Go.Operand.tmp 2) 2, type := 0, pos := "l02_data.go:228", after := #[{ on := 1, ground := Go.Ground.guard }], guard := some (1, true) }) (v := undef) rfl (by kernel_rfl) (by kernel_rfl) (by kernel_rfl) (fun _ _ _ h => h) (Or.inr ⟨by rfl, rfl⟩) hHeld ?_
                          try simp only [Act.put, List.setIfInBounds_toArray, List.set_cons_zero, List.set_cons_succ]
                          refine wpAnyH_take (i := 4) (oi := { dst := some 161, op := Go.Op.load 34 (Go.Operand.tmp 160), type := 34, pos := "l02_data.go:228", after := #[{ on := 3, ground := Go.Ground.data }, { on := 1, ground := Go.Ground.guard }], guard := some (1, true) }) (v := undef) rfl (by kernel_rfl) (by kernel_rfl) (by kernel_rfl) (fun _ _ _ h => h) (Or.inr ⟨by rfl, rfl⟩) hHeld ?_
                          try simp only [Act.put, List.setIfInBounds_toArray, List.set_cons_zero, List.set_cons_succ]
                          refine wpAnyH_take (i := 5) (oi := { dst := some 162, op := Go.Op.move (Go.Operand.tmp 14), type := 3, pos := "l02_data.go:228", after := #[{ on := 1, ground := Go.Ground.guard }], guard := some (1, true) }) (v := undef) rfl (by kernel_rfl) (by kernel_rfl) (by kernel_rfl) (fun _ _ _ h => h) (Or.inr ⟨by rfl, rfl⟩) hHeld ?_
                          try simp only [Act.put, List.setIfInBounds_toArray, List.set_cons_zero, List.set_cons_succ]
                          refine wpAnyH_take (i := 6) (oi := { dst := some 163, op := Go.Op.indexAddr 34 (Go.Operand.tmp 161) (Go.Operand.tmp 162), type := 0, pos := "l02_data.go:228", after := #[{ on := 4, ground := Go.Ground.data }, { on := 5, ground := Go.Ground.data }, { on := 1, ground := Go.Ground.guard }], guard := some (1, true) }) (v := undef) rfl (by kernel_rfl) (by kernel_rfl) (by kernel_rfl) (fun _ _ _ h => h) (Or.inr ⟨by rfl, rfl⟩) hHeld ?_
                          try simp only [Act.put, List.setIfInBounds_toArray, List.set_cons_zero, List.set_cons_succ]
                          refine wpAnyH_take (i := 7) (oi := { dst := some 164, op := Go.Op.fieldAddr 68 (Go.Operand.tmp 163) 1, type := 0, pos := "l02_data.go:228", after := #[{ on := 6, ground := Go.Ground.data }, { on := 1, ground := Go.Ground.guard }], guard := some (1, true) }) (v := undef) rfl (by kernel_rfl) (by kernel_rfl) (by kernel_rfl) (fun _ _ _ h => h) (Or.inr ⟨by rfl, rfl⟩) hHeld ?_
                          try simp only [Act.put, List.setIfInBounds_toArray, List.set_cons_zero, List.set_cons_succ]
                          refine wpAnyH_take (i := 8) (oi := { dst := some 165, op := Go.Op.load 66 (Go.Operand.tmp 164), type := 66, pos := "l02_data.go:228", after := #[{ on := 7, ground := Go.Ground.data }, { on := 1, ground := Go.Ground.guard }], guard := some (1, true) }) (v := undef) rfl (by kernel_rfl) (by kernel_rfl) (by kernel_rfl) (fun _ _ _ h => h) (Or.inr ⟨by rfl, rfl⟩) hHeld ?_
                          try simp only [Act.put, List.setIfInBounds_toArray, List.set_cons_zero, List.set_cons_succ]
                          refine wpAnyH_take (i := 9) (oi := { dst := some 166, op := Go.Op.move (Go.Operand.tmp 16), type := 3, pos := "l02_data.go:228", after := #[{ on := 1, ground := Go.Ground.guard }], guard := some (1, true) }) (v := undef) rfl (by kernel_rfl) (by kernel_rfl) (by kernel_rfl) (fun _ _ _ h => h) (Or.inr ⟨by rfl, rfl⟩) hHeld ?_
                          try simp only [Act.put, List.setIfInBounds_toArray, List.set_cons_zero, List.set_cons_succ]
                          refine wpAnyH_take (i := 10) (oi := { dst := some 167, op := Go.Op.indexAddr 66 (Go.Operand.tmp 165) (Go.Operand.tmp 166), type := 0, pos := "l02_data.go:228", after := #[{ on := 8, ground := Go.Ground.data }, { on := 9, ground := Go.Ground.data }, { on := 1, ground := Go.Ground.guard }], guard := some (1, true) }) (v := undef) rfl (by kernel_rfl) (by kernel_rfl) (by kernel_rfl) (fun _ _ _ h => h) (Or.inr ⟨by rfl, rfl⟩) hHeld ?_
                          try simp only [Act.put, List.setIfInBounds_toArray, List.set_cons_zero, List.set_cons_succ]
                          refine wpAnyH_take (i := 11) (oi := { dst := some 168, op := Go.Op.fieldAddr 70 (Go.Operand.tmp 167) 0, type := 0, pos := "l02_data.go:228", after := #[{ on := 10, ground := Go.Ground.data }, { on := 1, ground := Go.Ground.guard }], guard := some (1, true) }) (v := undef) rfl (by kernel_rfl) (by kernel_rfl) (by kernel_rfl) (fun _ _ _ h => h) (Or.inr ⟨by rfl, rfl⟩) hHeld ?_
                          try simp only [Act.put, List.setIfInBounds_toArray, List.set_cons_zero, List.set_cons_succ]
                          refine wpAnyH_take (i := 12) (oi := { dst := some 169, op := Go.Op.load 2 (Go.Operand.tmp 168), type := 2, pos := "l02_data.go:228", after := #[{ on := 11, ground := Go.Ground.data }, { on := 1, ground := Go.Ground.guard }], guard := some (1, true) }) (v := undef) rfl (by kernel_rfl) (by kernel_rfl) (by kernel_rfl) (fun _ _ _ h => h) (Or.inr ⟨by rfl, rfl⟩) hHeld ?_
                          try simp only [Act.put, List.setIfInBounds_toArray, List.set_cons_zero, List.set_cons_succ]
                          refine wpAnyH_take (i := 13) (oi := { dst := some 170, op := Go.Op.call { callee := Go.Callee.value (Go.Operand.func 26), args := #[Go.Operand.tmp 159, Go.Operand.tmp 169], argTypes := #[36, 2] }, type := 3, pos := "l02_data.go:228", after := #[{ on := 2, ground := Go.Ground.data }, { on := 12, ground := Go.Ground.data }, { on := 1, ground := Go.Ground.chain }, { on := 1, ground := Go.Ground.guard }], guard := some (1, true) }) (v := undef) rfl (by kernel_rfl) (by kernel_rfl) (by kernel_rfl) (fun _ _ _ h => h) (Or.inr ⟨by rfl, rfl⟩) hHeld ?_
                          try simp only [Act.put, List.setIfInBounds_toArray, List.set_cons_zero, List.set_cons_succ]
                          refine wpAnyH_take (i := 14) (oi := { dst := some 171, op := Go.Op.binOp Go.BinOp.geq 3 (Go.Operand.tmp 170) (Go.Operand.const (Go.Value.int Go.IntKind.i64 0)) 3, type := 4, pos := "l02_data.go:228", after := #[{ on := 13, ground := Go.Ground.data }, { on := 1, ground := Go.Ground.guard }], guard := some (1, true) }) (v := undef) rfl (by kernel_rfl) (by kernel_rfl) (by kernel_rfl) (fun _ _ _ h => h) (Or.inr ⟨by rfl, rfl⟩) hHeld ?_
                          try simp only [Act.put, List.setIfInBounds_toArray, List.set_cons_zero, List.set_cons_succ]
                          refine wpAnyH_take (i := 15) (oi := { dst := some 172, op := Go.Op.pick (Go.Operand.tmp 158) (Go.Operand.tmp 171) (Go.Operand.const (Go.Value.bool false)), type := 4, pos := "l02_data.go:228", after := #[{ on := 1, ground := Go.Ground.data }, { on := 14, ground := Go.Ground.data }], guard := none }) (v := ?vad15) rfl (by kernel_rfl) (by kernel_rfl) (by kernel_rfl) (fun _ _ _ h => h) (Or.inl ⟨by rfl, ?had15⟩) hHeld ?rad15
                          case had15 => (intro w hSw; (try dsimp only at hSw); go_simp; try with_reducible rfl)
                          try simp only [Act.put, List.setIfInBounds_toArray, List.set_cons_zero, List.set_cons_succ]
                          refine wpAnyH_take (i := 16) (oi := { dst := some 15, op := Go.Op.assign (Go.Operand.tmp 172), type := 4, pos := "l02_data.go:228", after := #[{ on := 15, ground := Go.Ground.data }, { on := 13, ground := Go.Ground.chain }, { on := 0, ground := Go.Ground.phase }, { on := 1, ground := Go.Ground.phase }, { on := 2, ground := Go.Ground.phase }, { on := 3, ground := Go.Ground.phase }, { on := 4, ground := Go.Ground.phase }, { on := 5, ground := Go.Ground.phase }, { on := 6, ground := Go.Ground.phase }, { on := 7, ground := Go.Ground.phase }, { on := 8, ground := Go.Ground.phase }, { on := 9, ground := Go.Ground.phase }, { on := 10, ground := Go.Ground.phase }, { on := 11, ground := Go.Ground.phase }, { on := 12, ground := Go.Ground.phase }, { on := 13, ground := Go.Ground.phase }, { on := 14, ground := Go.Ground.phase }, { on := 15, ground := Go.Ground.phase }], guard := none }) (v := ?vad16) rfl (by kernel_rfl) (by kernel_rfl) (by kernel_rfl) (fun _ _ _ h => h) (Or.inl ⟨by rfl, ?had16⟩) hHeld ?rad16
                          case had16 => (intro w hSw; (try dsimp only at hSw); go_simp; try with_reducible rfl)
                          try simp only [Act.put, List.setIfInBounds_toArray, List.set_cons_zero, List.set_cons_succ]
                          refine wpAnyH_done (by kernel_rfl) ?_ _
                          refine NoPanic.normal ?_
                          go_wp2
                          go_roundw
                          case rel => exact ⟨t + 1, by omega, by rw [HRR.out], by go_num, bel_step hBq hHeld⟩
                          case measure => simp [intOf]; omega
                        · obtain ⟨r2, Hr2⟩ : ∃ r, Hid (bP (∃ e ∈ m.ways.filter (keptW m q), e.id = x) = r) := ⟨_, (rfl : bP (∃ e ∈ m.ways.filter (keptW m q), e.id = x) = _)⟩
                          have HRR : Hid (bP (∀ p ∈ d.parts.take (t + 1), wSetTo m q m.ways.length p.way) = r2) := by
                            rw [← Hr2.out]
                            exact congrArg bP (propext (HTS.out.trans ⟨fun h => (area_fin HOK.out x).1 h.2, fun h => ⟨bP_out Hs.out, (area_fin HOK.out x).2 h⟩⟩))
                          have hR : ∀ w', Bel wr w' → w'.cell? ⟨w.heap.size, 2, none⟩ = some (.slice (some ⟨b, off, none⟩) n2 c2) ∧ w'.cell? ⟨b, off + k * 3 + 1, none⟩ = some (.slice (some ⟨b', off', none⟩) n3 (D k)) ∧ w'.cell? ⟨b', off' + t * 2, none⟩ = some (.int .i64 x) ∧ w'.cell? ⟨w.heap.size + 1 + 1 + 1, 0, none⟩ = some v0 ∧ w'.cell? ⟨w.heap.size + 1 + 1 + 1, 1, none⟩ = some (.slice aw lw cw) ∧ w'.cell? ⟨w.heap.size + 1 + 1 + 1, 2, none⟩ = some vv :=
                            fun w' h => ⟨(X0.bel (bel_step h0q h)).cell 2 (by simp), bel_cellM h (bel_lt h0q hb) d1q, bel_cellM (bel_step h0q h) hb' cx, ((XZ.bel hBq).bel h).cell 0 (by simp), by rw [← Hvw.out]; exact ((XZ.bel hBq).bel h).cell 1 (by simp), ((XZ.bel hBq).bel h).cell 2 (by simp)⟩
                          have hWw : ∀ w', Bel wr w' → Ways w' aw (m.ways.filter (keptW m q)) bw := fun w' h => (HWZ.out.bel wayE hBq).bel wayE h
                          clear cx
                          go_wp2
                          go_region_held3 (fun w' => Bel wr w') (with_reducible (repeat (first | assumption | exact g0 | refine Bel.drew ?_ | refine bel_then (by assumption) ?_)))
                            (first
                              | (go_at_call 26; refine (l2WayHas_any v0 vv ⟨_, _, _, Hv0.out⟩ ⟨_, _, _, Hvv.out⟩ _ _ _ (m.ways.filter (keptW m q)) bw x r2 _ (hWw _ (by assumption)) Hlw.out (by omega) Hr2.out).mono ?_; rintro e w6 ⟨z, rfl, hz, hb6⟩))
                          have h6 : Bel wr w6 := by assumption
                          have hzz : (decide (0 ≤ z)) = r2 := hz
                          clear hR hWw hb6
                          go_wp2
                          go_roundw
                          case rel => exact ⟨t + 1, by omega, by rw [HRR.out, ← hzz], by go_num, bel_step hBq h6⟩
                          case measure => simp [intOf]; omega
                      · have e : n3 = t := by omega
                        subst e
                        obtain ⟨r, Hr⟩ : ∃ r, Hid (keptA m q d = r) := ⟨_, (rfl : keptA m q d = _)⟩
                        have HRI : Hid (bP (∀ p ∈ d.parts.take n3, wSetTo m q m.ways.length p.way) = r) := by rw [← Hr.out, ← H3.out, List.take_length]; rfl
                        rw [HRI.out]
                        have hKpx := HKp.out.bel areaV hBq
                        cases r
                        · have HK4 : Hid (Kp 3 AreaV 68 (w.heap.size + 1 + 1 + 1) U4 [v0, v1] [] wr vv ((m.areas.take (k + 1)).filter (keptA m q)) R f) := by rw [HFn.out Hr.out]; exact hKpx
                          clear hKpx
                          go_wp2
                          go_roundw
                          case rel => exact ⟨k + 1, vv, R, f, by omega, by go_num, HK4.out⟩
                          case measure => simp [intOf]; omega
                        · obtain ⟨va, vc, rfl⟩ := own_shape hKpx.gr.own
                          obtain ⟨w4, rfl⟩ : ∃ U, U = wr := ⟨_, rfl⟩
                          have HK4 : Hid (Kp 3 AreaV 68 (w.heap.size + 1 + 1 + 1) U4 [v0, v1] [] w4 (.slice va L.length vc) L R f) := hKpx
                          have y0 : w4.cell? ⟨w.heap.size + 1 + 1 + 1, 2, none⟩ = some (.slice va L.length vc) := hKpx.box.cell 2 (by simp)
                          have HOl : Hid (U4.heap.size ≤ w4.heap.size) := hKpx.far.size
                          have hKl4 : w.heap.size + 1 + 1 + 1 < w4.heap.size := hKpx.box.lt
                          have tt4 := HT2.out.bel tagE h0q
                          have tt24 := HT1.out.bel partE h0q
                          have hb4 := bel_lt h0q hb
                          have e0 := bel_cellM h0q hb d0
                          have e2 := bel_cellM h0q hb d2
                          have hRl : ∀ w', Bel w4 w' → w'.cell? ⟨w.heap.size, 2, none⟩ = some (.slice (some ⟨b, off, none⟩) n2 c2) ∧ w'.cell? ⟨b, off + k * 3, none⟩ = some (.int .i64 d.id) ∧ w'.cell? ⟨b, off + k * 3 + 1, none⟩ = some (.slice (E k) n3 (D k)) ∧ w'.cell? ⟨b, off + k * 3 + 2, none⟩ = some (.slice (E' k) d.tags.length (D' k)) :=
                            fun w' h => ⟨(X0.bel (bel_step h0q h)).cell 2 (by simp), bel_cellM h hb4 e0, bel_cellM h hb4 d1q, bel_cellM h hb4 e2⟩
                          clear hKpx
                          go_wp2
                          go_region_law (first
                            | (go_simp; go_at_call 27; refine (l2CopyArea_any _ _ _ _ d.tags (g2 k) _ _ _ d.parts (g1 k) w4 _ ((Bel.refl w4).drew) (tt4.bel tagE ((Bel.refl w4).drew)) rfl hul.2 (tt24.bel partE ((Bel.refl w4).drew)) H3.out (by omega)).mono ?_; rintro e w5 ⟨a3, c3, b3, a5, c5, b5, rfl, T3, T5, F5, hb5⟩; refine (fun hb45 : Bel w4 w5 => ?_) (bel_step (Bel.refl w4).drew hb5); have y5 : w5.cell? ⟨w.heap.size + 1 + 1 + 1, 2, none⟩ = some (.slice va L.length vc) := bel_cellM hb45 hKl4 y0; have hKl5 : w.heap.size + 1 + 1 + 1 < w5.heap.size := bel_lt hb45 hKl4; go_wp2_with fail)
                            | (refine step_append_lies _ rfl _ _ _ rfl U4.heap.size 68 i2 (.agg #[.int .i64 0, .slice none 0 0, .slice none 0 0]) 3 56 Tryz.underlying34 hi2 hz20 hz21 hz22 rfl (by decide) (.slice va L.length vc) L.length (recs R L.length) (by rfl) (own_bel HK4.out.gr.own (bel_alloc hb45 _)) ⟨w5.heap.size, 0, none⟩ 1 1 [.int .i64 d.id, .slice a3 n3 c3, .slice a5 d.tags.length c5] (by rfl) (by rfl) (World.news_of_block (cs := #[.int .i64 d.id, .slice a3 n3 c3, .slice a5 d.tags.length c5]) (t := 68) (fr := (0, 0)) (heap_alloc_new w5 _)) (by simp [Value.oneCell']) (by omega) (by unfold maxLen; omega) (by omega) (by have := HOl.out; have := hb45.out.size; simp; omega) (w5.heap.size + 1) (by simp) ?_; intro g cap w6 hown6 hgrow hat _; have M6 := HK4.out.mid hKU4 (bel_alloc hb45 _) hgrow; have y6 : w6.cell? ⟨w.heap.size + 1 + 1 + 1, 2, none⟩ = some (.slice va L.length vc) := M6.cell 2 (by simp); have z6 := M6.free 2))
                          all_goals
                            obtain ⟨R', f3, KP'⟩ := Kp.step areaV HK4.out hKU4 hb45 (bel_alloc (Bel.refl w5) _) (d := d) (bs := (b3 ++ b5)) (show AreaV w5 [.int .i64 d.id, .slice a3 n3 c3, .slice a5 d.tags.length c5] d (b3 ++ b5) from ⟨id0, hml2, hml, a3, c3, a5, c5, b3, b5, rfl, by rw [H3.out], T3, T5⟩) F5 hown6 hgrow (hat_of (by simpa using hat))
                            have HKP : Hid (Kp 3 AreaV 68 (w.heap.size + 1 + 1 + 1) U4 [v0, v1] [] (w6.setCell ⟨w.heap.size + 1 + 1 + 1, 2, none⟩ (.slice (some ⟨g, 0, none⟩) (L.length + 1) cap)) (.slice (some ⟨g, 0, none⟩) (L.length + 1) cap) ((m.areas.take (k + 1)).filter (keptA m q)) R' f3) := by rw [HFy.out Hr.out]; exact KP'
                            clear KP' M6 hown6 hgrow hat F5 T5 hb5 y0 y5
                            go_wp2
                            go_roundw
                            case rel => exact ⟨k + 1, _, R', f3, by omega, by go_num, HKP.out⟩
                            case measure => simp [intOf]; omega
                  · have e : n2 = k := by omega
                    subst e
                    obtain ⟨bs', MV, FR, LO⟩ := map_out2 (w := w) (K := (w.heap.size + 1 + 1 + 1)) (lo := w1.heap.size + 1) (m := ⟨m.nodes.filter (keptN m q), m.ways.filter (keptW m q), m.areas.filter (keptA m q)⟩) (by have := hw1.out.size; omega) (Nat.lt_succ_of_lt hKl) hlo3 HG1.out HG0.out HE34.out (by have := hKp.gr; rw [← H2.out, List.take_length] at this; exact this) hKp.far
                    have hbx := hKp.box
                    have z0 : wr.cell? ⟨w.heap.size + 1 + 1 + 1, 0, none⟩ = some v0 := hbx.cell 0 (by simp)
                    have z1 : wr.cell? ⟨w.heap.size + 1 + 1 + 1, 1, none⟩ = some v1 := hbx.cell 1 (by simp)
                    have z2 : wr.cell? ⟨w.heap.size + 1 + 1 + 1, 2, none⟩ = some vv := hbx.cell 2 (by simp)
                    have XRr := ((XR1.grown HF1.out (by omega)).grown HE34.out (by omega)).grown hKp.far (by omega)
                    have r0 : wr.cell? ⟨w.heap.size + 1 + 1, 0, none⟩ = some (.slice none 0 0) := XRr.cell 0 (by simp)
                    have r1 : wr.cell? ⟨w.heap.size + 1 + 1, 1, none⟩ = some (.slice none 0 0) := XRr.cell 1 (by simp)
                    have r2 : wr.cell? ⟨w.heap.size + 1 + 1, 2, none⟩ = some (.slice none 0 0) := XRr.cell 2 (by simp)
                    have y0 := XRr.free 0
                    have y1 := XRr.free 1
                    have y2 := XRr.free 2
                    have hNo : w.heap.size + 1 + 1 ∉ bs' := fun h => by have := LO _ h; have := XR1.lt; omega
                    obtain ⟨F, HFW⟩ : ∃ F, Hid (F = setRow wr (w.heap.size + 1 + 1) 0 [v0, v1, vv]) := ⟨_, (rfl : setRow wr (w.heap.size + 1 + 1) 0 [v0, v1, vv] = _)⟩
                    have hAl : Alike wr F bs' := by rw [HFW.out]; exact setRow_far _ (fun x hx => (FR.new x hx).2) hNo
                    have HMV : Hid (MapV F (.agg #[v0, v1, vv]) (cropQ m q) bs') := by rw [HQ.out]; exact MV.alike hAl
                    have HFR : Hid (Fresh w F bs') := FR.alike hAl
                    have hB : Hid (Bel w F) := by rw [HFW.out]; exact setRow_bel (bel_step hBW0 h0r) (by omega) _ _
                    obtain ⟨u4, u5, hv2⟩ := own_shape hKp.gr.own
                    have hv0 := Hv0.out
                    have hv1 := Hv1.out
                    clear hKp hbx MV FR LO hAl XRr Hvw HSW HMW Hv0 Hv1
                    subst hv0
                    subst hv1
                    subst hv2
                    go_wp2
                    exact bodyPost_ret (v := .agg #[.slice p3 ((m.nodes.take n0).filter (keptN m q)).length p4, .slice p1 ((m.ways.take n1).filter (keptW m q)).length p2, .slice u4 ((m.areas.take n2).filter (keptA m q)).length u5]) (by simp [results, Tryz.results6, go_sem, r0, r1, r2]) rfl ⟨_, bs', rfl, by rw [HFW.out] at HMV; exact HMV.out, by rw [HFW.out] at HFR; exact HFR.out, by rw [HFW.out] at hB; exact hB.out⟩
  · have hm : mapB m = false := by simpa using hm
    have HQ : Hid (cropQ m q = ⟨[], [], []⟩) := (by unfold cropQ; rw [hm]; rfl : cropQ m q = ⟨[], [], []⟩)
    rw [hm]
    have r0 : w1.cell? ⟨w.heap.size + 1 + 1, 0, none⟩ = some (.slice none 0 0) := XR1.cell 0 (by simp)
    have r1 : w1.cell? ⟨w.heap.size + 1 + 1, 1, none⟩ = some (.slice none 0 0) := XR1.cell 1 (by simp)
    have r2 : w1.cell? ⟨w.heap.size + 1 + 1, 2, none⟩ = some (.slice none 0 0) := XR1.cell 2 (by simp)
    have y0 := XR1.free 0
    have y1 := XR1.free 1
    have y2 := XR1.free 2
    obtain ⟨F, HFW⟩ : ∃ F, Hid (F = setRow w1 (w.heap.size + 1 + 1) 0 [.slice none 0 0, .slice none 0 0, .slice none 0 0]) := ⟨_, (rfl : setRow w1 (w.heap.size + 1 + 1) 0 [.slice none 0 0, .slice none 0 0, .slice none 0 0] = _)⟩
    have hB : Hid (Bel w F) := by rw [HFW.out]; exact setRow_bel hw1 (by omega) _ _
    clear hm
    go_wp2
    exact bodyPost_ret (v := .agg #[.slice none 0 0, .slice none 0 0, .slice none 0 0]) (by simp [results, Tryz.results6, go_sem, r0, r1, r2]) rfl ⟨_, [], rfl, by rw [HQ.out]; exact ⟨none, 0, none, 0, none, 0, [], [], [], rfl, rfl, Sl.nil, Sl.nil, Sl.nil⟩, Fresh.nil _ _, by rw [HFW.out] at hB; exact hB.out⟩
  end Go.Proofs.YtmmapkpieimibaaGreat

